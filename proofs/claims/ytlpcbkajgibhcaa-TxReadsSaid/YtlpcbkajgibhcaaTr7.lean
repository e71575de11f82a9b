/-
  What comes in, opened: bytes.
-/
import Derived.Test.YtlpcbkajgibhcaaRows
import Derived.Test.YtlpcbkajgibhcaaTr6
import Derived.ProofKit
import Derived.OpenShut
import Derived.LaidMore
import Derived.Stop.Joined
import Derived.Deep.Slices
namespace Go.Proofs.Ytlpcbkajgibhcaa
open Go.ChangeShapes Go.WideShapes Go.ChangeAt Go.RowKit Go.Deep

theorem Try.cellsU8 : Try.prog.cellsOf 5 = 1 := by kernel_rfl

/-- Numbers that are bytes, as bytes. -/
def toB (zs : List Int) : List UInt8 := zs.map fun z => UInt8.ofNat z.toNat
theorem toB_cast {z : Int} (h : (Lit.int .u8 z).wf = true) : ((UInt8.ofNat z.toNat).toNat : Int) = z := by
  have := bounds_u8 h
  rw [UInt8.toNat_ofNat']
  omega
theorem By_toB {zs : List Int} (h : ∀ z ∈ zs, (Lit.int .u8 z).wf = true) : By (toB zs) = zs.map (Value.int .u8) := by
  simp only [By, toB, List.map_map]
  refine List.map_congr_left fun z hz => ?_
  simp only [Function.comp]
  rw [toB_cast (h z hz)]

section
variable {H : Type} {enc : TypeId × Value → H} {w : World} {base : Nat} {held : Bool}
/-- A slice of bytes that was read. -/
theorem read_bytes {fuel : Nat} {cs : List Value} {x : DataW H × List MemPlace} (h : DataW.trod enc Try.prog w base (fun _ => true) held fuel 22 cs = some x) :
    ∃ (A : Option Addr) (c : Nat) (l : List UInt8), cs = [.slice A l.length c] ∧ Sees w w.heap.size A l ∧ l.length ≤ maxLen ∧ l.length ≤ c ∧ c ≤ maxLen := by
  rcases open_ints Try.underlying22 Try.underlying5 Try.cellsU8 h with ⟨hcs, _⟩ | ⟨a, len, cap, zs, hcs, _, hl, hm, hz, _, hcell, hwf⟩
  · exact ⟨none, 0, [], hcs, .inl rfl, by simp [maxLen], by simp, by simp [maxLen]⟩
  · simp only [if_true] at hz
    have hlen : (toB (zs.take len)).length = len := by simp [toB]; omega
    refine ⟨some a, cap, toB (zs.take len), by rw [hlen]; exact hcs, ?_, by omega, by omega, hm⟩
    by_cases h0 : len = 0
    · left
      exact List.eq_nil_of_length_eq_zero (by omega)
    · right
      have hc0 := hcell 0 (by omega)
      obtain ⟨b, off, spot⟩ := a
      have hsp : spot = none := by
        cases spot with
        | none => rfl
        | some s =>
          exfalso
          simp only [Addr.add, World.cell?] at hc0
          split at hc0 <;> simp at hc0
      subst hsp
      refine ⟨b, off, rfl, ?_, fun i hi => ?_⟩
      · have := World.block_lt_of_cell? _ _ hc0
        rwa [Addr.add_lit] at this
      · have hi' : i < len := by omega
        have := hcell i (by omega)
        rw [Addr.add_lit] at this
        rw [this]
        have hi2 : i < zs.length := by omega
        have e : (toB (zs.take len))[i] = UInt8.ofNat (zs[i]).toNat := by simp [toB]
        rw [e, toB_cast (hwf _ (List.getElem_mem hi2))]
        simp [List.getD, hi2]


theorem take_drop_one {cs : List Value} {i : Nat} (h : i < cs.length) : (cs.drop i).take 1 = [cs[i]] := by
  rw [List.drop_eq_getElem_cons h]; rfl

theorem addr_zero (ad : Addr) : ad.add 0 = ad := by
  obtain ⟨b, o, s⟩ := ad
  cases s <;> simp [Addr.add]
end
end Go.Proofs.Ytlpcbkajgibhcaa
