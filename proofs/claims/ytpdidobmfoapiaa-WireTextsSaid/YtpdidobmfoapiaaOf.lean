/-
  OfHex of the program: the bytes of a text.
-/
import Derived.Test.YtpdidobmfoapiaaHex2
import Derived.Laws.RangeAny
namespace Go.Proofs.Ytpdidobmfoapiaa
open Go.RowKit

/-- What place i of a text is worth. -/
def dAt (S : ByteArray) (i : Nat) : Nat := dig (if h : i < S.size then (S[i]'h).toNat else 0)
theorem dAt_eq (S : ByteArray) (i : Nat) (h : i < S.size) : dAt S i = dig (S[i]'h).toNat := by simp [dAt, h]
/-- A text of bytes. -/
def goodB (S : ByteArray) : Bool := decide (S.size % 2 = 0 ∧ ∀ i, i < S.size → dAt S i < 16)
theorem goodB_iff (S : ByteArray) : goodB S = true ↔ S.size % 2 = 0 ∧ ∀ i, i < S.size → dAt S i < 16 := by simp [goodB]
theorem goodB_odd {S : ByteArray} (h : S.size % 2 ≠ 0) : goodB S = false := by
  rw [Bool.eq_false_iff]
  intro e
  exact h ((goodB_iff S).1 e).1
theorem goodB_bad {S : ByteArray} {i : Nat} (hi : i < S.size) (h : ¬ dAt S i < 16) : goodB S = false := by
  rw [Bool.eq_false_iff]
  intro e
  exact h (((goodB_iff S).1 e).2 i hi)
/-- The first k bytes of a text. -/
def bytesTo (S : ByteArray) (k : Nat) : List UInt8 := (List.range k).map fun i => UInt8.ofNat (16 * dAt S (2 * i) + dAt S (2 * i + 1))
theorem bytesTo_length (S : ByteArray) (k : Nat) : (bytesTo S k).length = k := by simp [bytesTo]
theorem bytesTo_succ (S : ByteArray) (k : Nat) : bytesTo S (k + 1) = bytesTo S k ++ [UInt8.ofNat (16 * dAt S (2 * k) + dAt S (2 * k + 1))] := by
  simp [bytesTo, List.range_succ]
def outB (S : ByteArray) : List UInt8 := if goodB S then bytesTo S (S.size / 2) else []

/-- What OfHex answers. -/
def OfPost (w : World) (S : ByteArray) (e : Ending) (w' : World) : Prop :=
  ∃ A c, e = .returned (.tuple #[.slice A (outB S).length c, .int .i64 (if goodB S then 0 else 4)]) ∧ Sees w' w'.heap.size A (outB S) ∧ Below w.heap.size w w'
theorem OfPost.bad {w w' : World} {S : ByteArray} (h : goodB S = false) (hb : Below w.heap.size w w') : OfPost w S (.returned (.tuple #[.slice none 0 0, .int .i64 4])) w' := by
  refine ⟨none, 0, ?_, ?_, hb⟩
  · simp [outB, h]
  · simp [outB, h, Sees]

section
variable {P : Program} {w : World}
/-- A string's walk goes on one rune, wherever its state lies. -/
theorem run_next_at (g : Nat) (s : ByteArray) (pos : Nat) (hg : w.heap[g]? = some (.stringIter s pos)) (h : pos < s.size) :
    ∃ w', (∀ ty, (Instr.next (.pointer (some ⟨g, 0, none⟩)) true ty).run P w = .ok (.tuple #[.bool true, .int .i64 pos, .int .i32 (Utf8.decode s pos).1]) w') ∧
      w'.heap[g]? = some (.stringIter s (pos + (Utf8.decode s pos).2)) ∧ Keeps (· = g) w w' ∧ w'.heap.size = w.heap.size := by
  have hlt : g < w.heap.size := by
    rcases Nat.lt_or_ge g w.heap.size with hlt | hge
    · exact hlt
    · rw [Array.getElem?_eq_none hge] at hg; cases hg
  refine ⟨{ w with heap := w.heap.setIfInBounds g (.stringIter s (pos + (Utf8.decode s pos).2)) }, fun ty => ?_, ?_, ⟨rfl, rfl, rfl, by simp, fun k _ hk => ?_⟩, by simp⟩
  · simp only [Instr.next, getObj, setObj, Sem.run_bind, Sem.run, hg, Result.andThen, h, if_true]
    simp [goInt]
  · simp [hlt]
  · have : g ≠ k := fun e => hk e.symm
    simp [this]
theorem run_next_stop (g : Nat) (s : ByteArray) (pos : Nat) (hg : w.heap[g]? = some (.stringIter s pos)) (h : ¬ pos < s.size) (ty : TypeId) :
    (Instr.next (.pointer (some ⟨g, 0, none⟩)) true ty).run P w = .ok (.tuple #[.bool false]) w := by
  simp [Instr.next, getObj, Sem.run, hg, h]
/-- A row of the call's own is no string's walk. -/
theorem own_iter {w' : World} {base : Nat} {e : TypeId} {size n : Nat} {v : Value} {xs : List Value} {g : Nat} {s : ByteArray} {pos : Nat} (h : w.ownsRow base e size v n xs) (hg : w.heap[g]? = some (.stringIter s pos))
    (hk : Keeps (· = g) w w') : w'.ownsRow base e size v n xs ∧ v.ownBlock ≠ some g := by
  rcases h.2 with ⟨rfl, h0⟩ | ⟨g', cap, cur, rfl, hb, hh, r⟩
  · exact ⟨⟨h.1, .inl ⟨rfl, h0⟩⟩, by simp [Value.ownBlock]⟩
  · have hne : g' ≠ g := by
      intro e
      subst e
      rw [hg] at hh
      cases hh
    have hlt : g' < w.heap.size := by
      rcases Nat.lt_or_ge g' w.heap.size with hlt | hge
      · exact hlt
      · rw [Array.getElem?_eq_none hge] at hh; cases hh
    exact ⟨⟨h.1, .inr ⟨g', cap, cur, rfl, hb, (hk.block g' hlt hne).trans hh, r⟩⟩, by simp [Value.ownBlock, hne]⟩
end

theorem or_16 (a b : Nat) (ha : a < 16) (hb : b < 16) : bits .or .u8 ((16 * a : Nat) : Int) (b : Int) = ((16 * a + b : Nat) : Int) :=
  (by decide +kernel : ∀ a : Nat, a < 16 → ∀ b : Nat, b < 16 → bits .or .u8 ((16 * a : Nat) : Int) (b : Int) = ((16 * a + b : Nat) : Int)) a ha b hb

end Go.Proofs.Ytpdidobmfoapiaa
