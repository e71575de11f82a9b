/-
  tree: a row of numbers that comes in, opened.
-/
import Derived.Test.YtefgnemcjgibaaaRows
import Derived.Test.YtefgnemcjgibaaaTeI
import Derived.ProofKit
import Derived.OpenShut
import Derived.Deep.Slices
namespace Go.Proofs.Ytefgnemcjgibaaa
open Go.ChangeShapes Go.WideShapes Go.ChangeAt Go.RowKit Go.Deep

theorem Try.cellsIntT : Try.prog.cellsOf 3 = 1 := by kernel_rfl
section
variable {H : Type} {enc : TypeId × Value → H} {w : World} {base : Nat} {held : Bool}
/-- A slice of numbers that was read. -/
theorem read_numsT {fuel : Nat} {cs : List Value} {x : DataW H × List MemPlace} (h : DataW.trod enc Try.prog w base (fun _ => true) held fuel 22 cs = some x) :
    ∃ (A : Option Addr) (c : Nat) (l : List Int), cs = [.slice A l.length c] ∧ SeesV w w.heap.size A (l.map (Value.int .i64)) ∧ (∀ z ∈ l, -9223372036854775808 ≤ z ∧ z ≤ 9223372036854775807) ∧ l.length ≤ c ∧ c ≤ maxLen := by
  rcases open_ints Try.underlying22 Try.underlying3 Try.cellsIntT h with ⟨hcs, _⟩ | ⟨a, len, cap, zs, hcs, _, hl, hm, hz, _, hcell, hwf⟩
  · exact ⟨none, 0, [], hcs, .inl rfl, by intro z hz; exact absurd hz List.not_mem_nil, by simp, by simp [maxLen]⟩
  · simp only [if_true] at hz
    have hlen : (zs.take len).length = len := by simp; omega
    refine ⟨some a, cap, zs.take len, by rw [hlen]; exact hcs, ?_, fun z hz1 => ?_, by omega, hm⟩
    · by_cases h0 : len = 0
      · left
        rw [h0]; rfl
      · right
        have hc0 := hcell 0 (by omega)
        obtain ⟨b, off, spot⟩ := a
        have hsp : spot = none := by
          cases spot with
          | none => rfl
          | some s =>
            exfalso
            simp only [Addr.add, World.cell?] at hc0
            split at hc0 <;> simp at hc0
        subst hsp
        refine ⟨b, off, rfl, ?_, fun i hi => ?_⟩
        · have := World.block_lt_of_cell? _ _ hc0
          rwa [Addr.add_lit] at this
        · have hi' : i < len := by rw [List.length_map, hlen] at hi; exact hi
          have := hcell i (by omega)
          rw [Addr.add_lit] at this
          rw [this]
          have hi2 : i < zs.length := by omega
          simp [List.getD, hi2]
    · have := bounds_i64 (hwf z (List.mem_of_mem_take hz1))
      omega
end
end Go.Proofs.Ytefgnemcjgibaaa
