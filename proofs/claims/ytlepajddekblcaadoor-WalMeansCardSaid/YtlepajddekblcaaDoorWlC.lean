/-
  wal: rows that come in, opened, each with its cap.
-/
import Derived.Test.YtlepajddekblcaaDoorSOpen
import Derived.Test.YtlepajddekblcaaDoorWlB
namespace Go.Proofs.YtlepajddekblcaaDoor
open Go.ChangeShapes Go.WideShapes Go.ChangeAt Go.RowKit Go.Deep
section
variable {H : Type} {enc : TypeId × Value → H} {w : World} {base : Nat} {held : Bool}
theorem read_rowsW {fuel : Nat} {cs : List Value} {x : DataW H × List MemPlace} (h : DataW.trod enc Tryd.prog w base (fun _ => true) held fuel 25 cs = some x) :
    ∃ (A : Option Addr) (c : Nat) (V : List RowM), cs = [.slice A V.length c] ∧ ArgW w A c V := by
  rcases open_slice Tryd.underlying25 h with ⟨hcs, _⟩ | ⟨a, len, cap, m, n, D, Pl, hcs, hb, hl, hm, hmm, hq, hi⟩
  · exact ⟨none, 0, [], hcs, ⟨⟨.inl rfl, fun r hr => by cases hr⟩, Nat.le_refl _, Nat.zero_le _, fun r hr => by cases hr⟩⟩
  · simp only [if_true] at hmm
    subst hmm
    rw [Tryd.cellsSl] at hi
    have hp : ∀ i, i < len → ∃ r : RowM, w.cell? (a.add (i * 1)) = some r.v ∧ (r.l.length ≤ r.c ∧ r.c ≤ maxLen) ∧ Sees w w.heap.size r.A r.l := by
      intro i him
      obtain ⟨cs', hc, ht⟩ := hi i (by omega)
      obtain ⟨Ai, ci, p, rfl, hs, hpl, hpc, hcm⟩ := read_bytes ht
      obtain ⟨_, hcl, hat⟩ := World.cells?_some hc
      refine ⟨⟨Ai, ci, p⟩, ?_, ⟨hpc, hcm⟩, hs⟩
      have := hat 0 (by omega)
      rw [addr_zero] at this
      exact this
    obtain ⟨F, hF⟩ : ∃ F : Nat → RowM, ∀ i, i < len → w.cell? (a.add (i * 1)) = some (F i).v ∧ ((F i).l.length ≤ (F i).c ∧ (F i).c ≤ maxLen) ∧ Sees w w.heap.size (F i).A (F i).l :=
      ⟨fun i => if h : i < len then Classical.choose (hp i h) else noRow, fun i h => by simp only [h, dif_pos]; exact Classical.choose_spec (hp i h)⟩
    have hmem : ∀ r ∈ (List.range len).map F, ∃ i, i < len ∧ F i = r := fun r hr => by
      obtain ⟨i, hi2, h2⟩ := List.mem_map.1 hr
      exact ⟨i, List.mem_range.1 hi2, h2⟩
    refine ⟨some a, m, (List.range len).map F, by simpa using hcs, ⟨⟨?_, fun r hr => ?_⟩, ?_, ?_, fun r hr => ?_⟩⟩
    · by_cases h0 : len = 0
      · left; subst h0; rfl
      · right
        obtain ⟨hc0, _⟩ := hF 0 (by omega)
        obtain ⟨b, off, spot⟩ := a
        have hsp : spot = none := by
          cases spot with
          | none => rfl
          | some s =>
            exfalso
            simp only [Addr.add, World.cell?] at hc0
            split at hc0 <;> simp at hc0
        subst hsp
        have hbl : b < w.heap.size := by
          have := World.block_lt_of_cell? _ _ hc0
          rw [Addr.add_lit] at this
          exact this
        refine ⟨b, off, rfl, hbl, fun i hi => ?_⟩
        have hi2 : i < len := by simpa [rowsC] using hi
        obtain ⟨h1, _⟩ := hF i hi2
        rw [Addr.add_lit, Nat.mul_one] at h1
        have e : (rowsC ((List.range len).map F))[i]'hi = (F i).v := by simp [rowsC]
        rw [e]
        exact h1
    · obtain ⟨i, hi2, rfl⟩ := hmem r hr
      exact (hF i hi2).2.2
    · simp; omega
    · omega
    · obtain ⟨i, hi2, rfl⟩ := hmem r hr
      exact (hF i hi2).2.1
end
end Go.Proofs.YtlepajddekblcaaDoor
