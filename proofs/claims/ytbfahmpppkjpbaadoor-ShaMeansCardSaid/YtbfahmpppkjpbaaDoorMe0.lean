/-
  ShaMeans: what is hashed under a name tells the name and the bytes.
-/
import Derived.Test.YtbfahmpppkjpbaaDoorTxt
namespace Go.Proofs.YtbfahmpppkjpbaaDoor
open Go.RowKit

theorem tagB_inj (S T : ByteArray) (m n : List UInt8) (hS : S.size ≤ 200) (hT : T.size ≤ 200) : tagB (cutN S) m = tagB (cutN T) n ↔ S = T ∧ m = n := by
  rw [cutN_short S (by omega), cutN_short T (by omega)]
  constructor
  · intro h
    simp only [tagB, List.cons_append, List.cons.injEq] at h
    obtain ⟨h1, h2⟩ := h
    have hz : S.size = T.size := by
      have := congrArg UInt8.toNat h1
      simp only [UInt8.toNat_ofNat'] at this
      omega
    have := List.append_inj h2 (by rw [nmL_length, nmL_length, hz])
    refine ⟨?_, this.2⟩
    have hd : S.data.toList = T.data.toList := this.1
    cases S; cases T
    simp only [ByteArray.mk.injEq]
    exact Array.toList_inj.1 hd
  · rintro ⟨rfl, rfl⟩
    rfl

/-- Where the parts are cut. -/
theorem cut_parts (m n : List UInt8) (a b : Nat) (h : a ≤ b) : [m.take a, [], (m.drop a).take (b - a), m.drop b, n].flatten = [m, n].flatten := by
  simp only [List.flatten_cons, List.flatten_nil, List.append_nil, List.nil_append]
  have e1 : (m.drop a).take (b - a) ++ m.drop b = m.drop a := by
    have := List.take_append_drop (b - a) (m.drop a)
    rw [List.drop_drop, show a + (b - a) = b by omega] at this
    exact this
  rw [← List.append_assoc (List.take (b - a) _), e1, ← List.append_assoc, List.take_append_drop]
end Go.Proofs.YtbfahmpppkjpbaaDoor
