/-
  BlockBounds: the last blocks that are hashed, and what is asked of them.
-/
import Derived.Test.YtpfjkjogljilnaaDoorSha
namespace Go.Proofs.YtpfjkjogljilnaaDoor
open Go.RowKit

def blkI (i : Nat) : List UInt8 := [0, 0, 0, 0, 0, 0, 0, 0, 0, 0, 0, 0, 0, 0, 0, 0, 0, 0, 0, 0, 0, 0, 0, UInt8.ofNat i, 0, 0, 0, 0, 0, 0, 0, 128, 0, 0, 0, 0, 0, 0, 0, 0, 0, 0, 0, 0, 0, 0, 0, 0, 0, 0, 0, 0, 0, 0, 0, 0, 0, 0, 0, 0, 0, 0, 2, 248]
def S1 : S8 := ⟨0xe0e81060, 0x4c70c0b9, 0x4546caf4, 0x9fb61e8e, 0xb046ebf2, 0x9a193954, 0xa3a4457d, 0x10506b42⟩
/-- The first word of a hash. -/
def fwI (i : Nat) : Nat := (press S1 (blkI i)).a.toNat
def allB : List Nat → Nat → Bool
  | [], _ => true
  | x :: r, i => (fwI i == x) && allB r (i + 1)
theorem allB_app {a b : List Nat} {i j : Nat} (hj : i + a.length = j) (ha : allB a i = true) (hb : allB b j = true) : allB (a ++ b) i = true := by
  subst hj
  induction a generalizing i with
  | nil => simpa using hb
  | cons x r ih =>
    simp only [allB, Bool.and_eq_true] at ha
    simp only [List.cons_append, allB, Bool.and_eq_true]
    exact ⟨ha.1, ih ha.2 (by rw [show i + 1 + r.length = i + (x :: r).length by simp; omega]; exact hb)⟩
theorem allB_get {l : List Nat} {i : Nat} (h : allB l i = true) : ∀ j (hj : j < l.length), fwI (i + j) = l[j] := by
  induction l generalizing i with
  | nil => intro j hj; cases hj
  | cons x r ih =>
    simp only [allB, Bool.and_eq_true] at h
    intro j hj
    cases j with
    | zero => exact (beq_iff_eq.1 h.1)
    | succ j =>
      have := ih h.2 j (by simpa using hj)
      rw [show i + (j + 1) = i + 1 + j by omega, this]
      rfl
end Go.Proofs.YtpfjkjogljilnaaDoor
