/-
  The sizes that a number may have, as the document's reader asks them. · The document's reader: what each call does. · The document's reader: numbers, blobs, hashes, and whether all was read. · The document's reader: hashes. · plexusref01's reader over an argument's bytes.
-/
import Derived.Test.YtpfjkjogljilnaaDoorRe2
namespace Go.Proofs.YtpfjkjogljilnaaDoor
open Go.RowKit
end Go.Proofs.YtpfjkjogljilnaaDoor
namespace Go.Proofs.YtpfjkjogljilnaaDoor
open Go.RowKit

end Go.Proofs.YtpfjkjogljilnaaDoor
namespace Go.Proofs.YtpfjkjogljilnaaDoor
open Go.RowKit

theorem ofLe_drop (p : List UInt8) (j : Nat) (h : j < p.length) : ofLe (p.drop j) = p[j].toNat + 256 * ofLe (p.drop (j + 1)) := by
  rw [List.drop_eq_getElem_cons h]; rfl

/-- Was all read? -/
def doneB (st : Option (List UInt8)) : Bool := decide (st = some [])
end Go.Proofs.YtpfjkjogljilnaaDoor
namespace Go.Proofs.YtpfjkjogljilnaaDoor
open Go.RowKit

/-- A hash of which the first k bytes are p's. -/
def hcopy (p : List UInt8) (k : Nat) : List UInt8 := p.take k ++ zero32.drop k
theorem hcopy_len (p : List UInt8) (k : Nat) (h : k ≤ p.length) (h2 : p.length ≤ 32) : (hcopy p k).length = 32 := by
  simp [hcopy, zero32]; omega
theorem hcopy_set (p : List UInt8) (k : Nat) (h : k < p.length) (h2 : p.length ≤ 32) : (By (hcopy p k)).toArray.setIfInBounds k (.int .u8 (p[k].toNat : Int)) = (By (hcopy p (k + 1))).toArray := by
  simp only [List.setIfInBounds_toArray]
  congr 1
  have hz : zero32.drop k = 0 :: zero32.drop (k + 1) := by
    have hk : k < zero32.length := by simp [zero32]; omega
    have e0 : zero32[k] = 0 := by
      unfold zero32
      exact List.getElem_replicate _
    rw [List.drop_eq_getElem_cons hk, e0]
  have e : (By (p.take k)).length = k := by simp [By]; omega
  rw [hcopy, hcopy, By_append, hz, List.take_succ_eq_append_getElem h, By_append, By_append]
  rw [List.set_append_right _ _ (by omega), e, Nat.sub_self]
  simp [By]
theorem hcopy_over (p : List UInt8) (h2 : p.length ≤ 32) : hcopy p p.length = over zero32 p 32 := by
  unfold hcopy over
  have : Nat.min p.length 32 = p.length := Nat.min_eq_left h2
  rw [this, List.take_length, List.take_of_length_le h2]
theorem hcopy_some (p : List UInt8) (k : Nat) (h : k < p.length) (h2 : p.length ≤ 32) : ∃ q : Int, (By (hcopy p k)).toArray[k]? = some (.int .u8 q) := by
  have hl := hcopy_len p k (by omega) h2
  exact ⟨((hcopy p k)[k]'(by omega)).toNat, by simp [By, show k < (hcopy p k).length by omega]⟩

theorem Blk.second' (w : World) (o : Obj) (t : TypeId) (cs : Array Value) : Blk ((w.alloc o).alloc (.cells cs t)) (w.heap.size + 1) t cs := Blk.second w o t cs
theorem Blk.first' (w : World) (o : Obj) (t : TypeId) (cs : Array Value) : Blk ((w.alloc (.cells cs t)).alloc o) w.heap.size t cs := Blk.first w o t cs
theorem below_two' (w : World) (o o' : Obj) : Below w.heap.size w ((w.alloc o).alloc o') := ((Below.refl _ _).alloc (Nat.le_refl _) _).alloc (by simp) _

end Go.Proofs.YtpfjkjogljilnaaDoor
namespace Go.Proofs.YtpfjkjogljilnaaDoor
open Go.RowKit

/-- Where the argument's bytes lie. -/
def tdOf (bs : List UInt8) (A : Option Addr) : Option Nat := if bs = [] then none else A.map (·.block)
theorem tdOf_lt {w : World} {A : Option Addr} {bs : List UInt8} (hs : Sees w w.heap.size A bs) : ∀ k, tdOf bs A = some k → k < w.heap.size := by
  intro k hk
  unfold tdOf at hk
  split at hk
  · cases hk
  · rename_i h0
    rcases hs with h | ⟨b, off, rfl, hlt, _⟩
    · exact absurd h h0
    · simp at hk; subst hk; exact hlt
theorem nil_own (w : World) (base size : Nat) (e : TypeId) : w.ownsRow base e size (.slice none 0 0) 0 [] := ⟨by simp, .inl ⟨rfl, rfl⟩⟩
end Go.Proofs.YtpfjkjogljilnaaDoor
