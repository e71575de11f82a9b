/-
  dag: what comes in, opened: a hash, a row of hashes.
-/
import Derived.Test.YtndkjmmmneianaaDoorRows
import Derived.Test.YtndkjmmmneianaaDoorDg7
import Derived.ProofKit
import Derived.OpenShut
import Derived.LaidMore
import Derived.Deep.Slices
namespace Go.Proofs.YtndkjmmmneianaaDoor
open Go.ChangeShapes Go.WideShapes Go.ChangeAt Go.RowKit Go.Deep

theorem Tryd.cellsU8D : Tryd.prog.cellsOf 5 = 1 := by kernel_rfl
theorem Tryd.cellsHashD : Tryd.prog.cellsOf 23 = 32 := by kernel_rfl
def intAtD : Value → Int
  | .int _ n => n
  | _ => 0
theorem toB_castD {z : Int} (h : (Lit.int .u8 z).wf = true) : ((UInt8.ofNat z.toNat).toNat : Int) = z := by
  have := bounds_u8 h
  rw [UInt8.toNat_ofNat']
  omega
theorem take_drop_oneD {cs : List Value} {i : Nat} (h : i < cs.length) : (cs.drop i).take 1 = [cs[i]] := by
  rw [List.drop_eq_getElem_cons h]; rfl
theorem agg_of_cellsH {v : Value} {l : List Value} (h : v.cells.toList = l) (hl : l.length ≠ 1) : v = .agg l.toArray := by
  subst h
  cases v <;> simp_all [Value.cells]
theorem agg_of_hash {v : Value} {x : Hh} (h : v.cells.toList = hC x) : v = .agg (hC x).toArray := agg_of_cellsH h (by rw [hC_len]; decide)
section
variable {H : Type} {enc : TypeId × Value → H} {w : World} {base : Nat} {held : Bool}
/-- A hash that was read. -/
theorem read_hashD {fuel : Nat} {cs : List Value} {x : DataW H × List MemPlace} (h : DataW.trod enc Tryd.prog w base (fun _ => true) held fuel 23 cs = some x) :
    ∃ l : Hh, cs = hC l := by
  obtain ⟨xs, m, _, _, hlen, hxl, hf⟩ := DataW.trod_array Tryd.underlying23 h
  rw [Tryd.cellsHashD] at hlen
  have hz : ∀ i (hi : i < cs.length), ∃ z : Int, cs[i] = .int .u8 z ∧ (Lit.int .u8 z).wf = true := by
    intro i hi
    have h1 := hf i (by omega)
    rw [Tryd.cellsU8D, Nat.mul_one, take_drop_oneD hi, List.getElem?_eq_getElem (by omega)] at h1
    obtain ⟨n, e, _, hw⟩ := DataW.trod_int Tryd.underlying5 h1
    exact ⟨n, by simpa using e, hw⟩
  refine ⟨⟨cs.map fun v => UInt8.ofNat (intAtD v).toNat, by simp [hlen]⟩, ?_⟩
  apply List.ext_getElem
  · simp [hC, By]
  · intro i h1 h2
    obtain ⟨z, hz1, hz2⟩ := hz i h1
    simp only [hC, By, List.getElem_map, hz1, intAtD]
    rw [toB_castD hz2]
/-- A slice of hashes that was read. -/
theorem read_hashesD {fuel : Nat} {cs : List Value} {x : DataW H × List MemPlace} (h : DataW.trod enc Tryd.prog w base (fun _ => true) held fuel 34 cs = some x) :
    ∃ (A : Option Addr) (c : Nat) (L : List Hh), cs = [.slice A L.length c] ∧ SeesV w w.heap.size A (hsC L) ∧ L.length ≤ maxLen ∧ L.length ≤ c := by
  rcases open_slice Tryd.underlying34 h with ⟨hcs, _⟩ | ⟨a, len, cap, m, n, D, Pl, hcs, hb, hl, hm, hmm, _, hi⟩
  · exact ⟨none, 0, [], hcs, .inl rfl, by simp [maxLen], by simp⟩
  · simp only [if_true] at hmm
    subst hmm
    rw [Tryd.cellsHashD] at hi
    have hp : ∀ i, i < len → ∃ p : Hh, ∀ j, j < 32 → w.cell? ((a.add (i * 32)).add j) = (hC p)[j]? := by
      intro i him
      obtain ⟨cs', hc, ht⟩ := hi i (by omega)
      obtain ⟨p, rfl⟩ := read_hashD ht
      obtain ⟨_, _, hat⟩ := World.cells?_some hc
      exact ⟨p, hat⟩
    obtain ⟨F, hF⟩ := choose_lt hp
    refine ⟨some a, m, (List.range len).map F, by simpa using hcs, ?_, by simp; omega, by simpa using hl⟩
    by_cases h0 : len = 0
    · left; subst h0; rfl
    · right
      have hc0 := hF 0 (by omega) 0 (by omega)
      obtain ⟨b, off, spot⟩ := a
      have hsp : spot = none := by
        cases spot with
        | none => rfl
        | some s =>
          exfalso
          rw [List.getElem?_eq_getElem (by rw [hC_len]; omega)] at hc0
          simp only [Addr.add, World.cell?] at hc0
          split at hc0 <;> simp at hc0
      subst hsp
      simp only [Addr.add_lit] at hc0 hF
      have hbl : b < w.heap.size := by
        rw [List.getElem?_eq_getElem (by rw [hC_len]; omega)] at hc0
        exact World.block_lt_of_cell? _ _ hc0
      refine ⟨b, off, rfl, hbl, fun j hj => ?_⟩
      have hjl : j < len * 32 := by rw [hsC_len] at hj; simpa using hj
      have h2 := hsC_get ((List.range len).map F) (j / 32) (j % 32) (by simp; omega) (Nat.mod_lt _ (by omega))
      rw [show j / 32 * 32 + j % 32 = j by omega, List.getElem?_eq_getElem hj] at h2
      have h3 := hF (j / 32) (by omega) (j % 32) (Nat.mod_lt _ (by omega))
      rw [show off + j / 32 * 32 + j % 32 = off + j by omega] at h3
      rw [h3, h2]
      simp only [List.getElem_map, List.getElem_range]
end
end Go.Proofs.YtndkjmmmneianaaDoor
