/-
  dag: steps that come in, opened; the table that is laid.
-/
import Derived.Test.YtndkjmmmneianaaDoorRows
import Derived.Test.YtndkjmmmneianaaDoorDgR
import Derived.Test.YtndkjmmmneianaaDoorDgS
import Derived.Test.YtndkjmmmneianaaDoorDgX
import Derived.ProofKit
import Derived.OpenShut
import Derived.LaidMore
import Derived.Deep.Slices
import Derived.Deep.DeepLaidRun
import Derived.ChangeMaps5
import Derived.SevenTiedAt
import Derived.LaidByTextLater
namespace Go.Proofs.YtndkjmmmneianaaDoor
open Go.ChangeShapes Go.WideShapes Go.ChangeAt Go.RowKit Go.Deep Go.Shelf

theorem Tryd.cellsStepD : Tryd.prog.cellsOf 52 = 33 := by kernel_rfl
theorem Tryd.cellsSlD : Tryd.prog.cellsOf 34 = 1 := by kernel_rfl
section
variable {H : Type} {enc : TypeId × Value → H} {w : World} {base : Nat} {held : Bool}

set_option maxRecDepth 10000 in
theorem read_stepD {fuel : Nat} {cs : List Value} {x : DataW H × List MemPlace} (h : DataW.trod enc Tryd.prog w base (fun _ => true) held fuel 52 cs = some x) :
    ∃ p : RNd, cs = rnC p ∧ SeesV w w.heap.size p.A (hsC p.ps) := by
  obtain ⟨xs, n, _, _, hlen, hxl, hf⟩ := DataW.trod_struct Tryd.underlying52 h
  rw [Tryd.cellsStepD] at hlen
  have g0 : DataW.trod enc Tryd.prog w base (fun _ => true) held n 23 ((cs.drop 0).take (Tryd.prog.cellsOf 23)) = xs[0]? := hf 0 _ rfl
  have g1 : DataW.trod enc Tryd.prog w base (fun _ => true) held n 34 ((cs.drop (0 + Tryd.prog.cellsOf 23)).take (Tryd.prog.cellsOf 34)) = xs[1]? := hf 1 _ rfl
  have hx : xs.length = 2 := hxl
  rw [Tryd.cellsHashD] at g0 g1
  rw [Tryd.cellsSlD] at g1
  rw [List.getElem?_eq_getElem (by omega)] at g0 g1
  obtain ⟨y, hy⟩ := read_hashD g0
  obtain ⟨A, c, L, hL, hs, _, _⟩ := read_hashesD g1
  refine ⟨⟨y, L, A, c⟩, ?_, hs⟩
  have e1 : cs = cs.take 32 ++ cs.drop 32 := (List.take_append_drop 32 cs).symm
  rw [List.drop_zero] at hy
  rw [Nat.zero_add] at hL
  have e2 : (cs.drop 32).take 1 = cs.drop 32 := List.take_of_length_le (by rw [List.length_drop]; omega)
  rw [e2] at hL
  rw [e1, hy, hL]
  rfl
/-- Steps that were read. -/
theorem read_stepsD {fuel : Nat} {cs : List Value} {x : DataW H × List MemPlace} (h : DataW.trod enc Tryd.prog w base (fun _ => true) held fuel 24 cs = some x) :
    ∃ (A : Option Addr) (c : Nat) (L : List RNd), cs = [.slice A L.length c] ∧ SeesV w w.heap.size A (rnsC L) ∧ (∀ p ∈ L, SeesV w w.heap.size p.A (hsC p.ps)) ∧ L.length ≤ maxLen ∧ L.length ≤ c := by
  rcases open_slice Tryd.underlying24 h with ⟨hcs, _⟩ | ⟨a, len, cap, m, n, D, Pl, hcs, hb, hl, hm, hmm, _, hi⟩
  · exact ⟨none, 0, [], hcs, .inl rfl, by intro q hq; exact absurd hq List.not_mem_nil, by simp [maxLen], by simp⟩
  · simp only [if_true] at hmm
    subst hmm
    rw [Tryd.cellsStepD] at hi
    have hp : ∀ i, i < len → ∃ p : RNd, SeesV w w.heap.size p.A (hsC p.ps) ∧ ∀ j, j < 33 → w.cell? ((a.add (i * 33)).add j) = (rnC p)[j]? := by
      intro i him
      obtain ⟨cs', hc, ht⟩ := hi i (by omega)
      obtain ⟨p, rfl, hok⟩ := read_stepD ht
      obtain ⟨_, _, hat⟩ := World.cells?_some hc
      exact ⟨p, hok, hat⟩
    obtain ⟨F, hF⟩ : ∃ F : Nat → RNd, ∀ i, i < len → SeesV w w.heap.size (F i).A (hsC (F i).ps) ∧ ∀ j, j < 33 → w.cell? ((a.add (i * 33)).add j) = (rnC (F i))[j]? :=
      ⟨fun i => if h : i < len then Classical.choose (hp i h) else ⟨zH, [], none, 0⟩, fun i h => by simp only [h, dif_pos]; exact Classical.choose_spec (hp i h)⟩
    have hin : ∀ p ∈ (List.range len).map F, SeesV w w.heap.size p.A (hsC p.ps) := by
      intro p hp
      obtain ⟨i, hi, rfl⟩ := List.mem_map.1 hp
      exact (hF i (List.mem_range.1 hi)).1
    refine ⟨some a, m, (List.range len).map F, by simpa using hcs, ?_, hin, by simp; omega, by simpa using hl⟩
    by_cases h0 : len = 0
    · left; subst h0; rfl
    · right
      have hc0 := (hF 0 (by omega)).2 0 (by omega)
      obtain ⟨b, off, spot⟩ := a
      have hsp : spot = none := by
        cases spot with
        | none => rfl
        | some s =>
          exfalso
          rw [List.getElem?_eq_getElem (by rw [rnC_len]; omega)] at hc0
          simp only [Addr.add, World.cell?] at hc0
          split at hc0 <;> simp at hc0
      subst hsp
      simp only [Addr.add_lit] at hc0 hF
      have hbl : b < w.heap.size := by
        rw [List.getElem?_eq_getElem (by rw [rnC_len]; omega)] at hc0
        exact World.block_lt_of_cell? _ _ hc0
      refine ⟨b, off, rfl, hbl, fun j hj => ?_⟩
      have hjl : j < len * 33 := by rw [rnsC_len] at hj; simpa using hj
      have h2 := rnsC_get ((List.range len).map F) (j / 33) (j % 33) (by simp; omega) (Nat.mod_lt _ (by omega))
      rw [show j / 33 * 33 + j % 33 = j by omega, List.getElem?_eq_getElem hj] at h2
      have h3 := (hF (j / 33) (by omega)).2 (j % 33) (Nat.mod_lt _ (by omega))
      rw [show off + j / 33 * 33 + j % 33 = off + j by omega] at h3
      rw [h3, h2]
      simp only [List.getElem_map, List.getElem_range]
theorem laid_tabD {n : Nat} {t : TypeId} (ht : Tryd.prog.underlying t = some (.array n 5)) (hc : Tryd.prog.cellsOf t = n) {fuel : Nat} {cs : List Value} {p : List MemPlace} (L : List Nat) (hL : L.length = n)
    (h : DataW.trod enc Tryd.prog w base (fun _ => true) held fuel t cs = some (.agg (L.map fun x => .lit (.int .u8 (Int.ofNat x))), p)) : ∀ i, i < n → cs[i]? = some (.int .u8 ((L.getD i 0 : Nat) : Int)) := by
  obtain ⟨xs, m, _, hx, hlen, hxl, hf⟩ := DataW.trod_array ht h
  rw [hc] at hlen
  intro i hi
  have h1 := hf i (by omega)
  rw [Tryd.cellsU8D, Nat.mul_one, take_drop_oneD (by omega), List.getElem?_eq_getElem (by omega)] at h1
  obtain ⟨k, e, hk, _⟩ := DataW.trod_int Tryd.underlying5 h1
  simp only [Prod.mk.injEq, DataW.agg.injEq] at hx
  have h2 := congrArg (fun l => l[i]?) hx.1
  simp only [List.getElem?_map, List.getElem?_eq_getElem (show i < L.length by omega), List.getElem?_eq_getElem (show i < xs.length by omega), Option.map_some, Option.some.injEq] at h2
  rw [hk] at h2
  simp only [DataW.lit.injEq, Lit.int.injEq, true_and] at h2
  rw [List.getElem?_eq_getElem (by omega)]
  have e' : cs[i] = .int .u8 k := by simpa using e
  rw [e', ← h2]
  simp [show i < L.length by omega]
end
abbrev laid1D : List (String × DataW Unit) := [("math/bits.deBruijn64tab", Rows.laid_math_bits_deBruijn64tab)]
theorem gTabD : Tryd.prog.globalNamed "math/bits.deBruijn64tab" = some 0 := by kernel_rfl
theorem tTabD : (Tryd.prog.globals[0]?).map (·.type) = some 104 := by kernel_rfl
theorem cTabD : Tryd.prog.cellsOf 104 = 64 := by kernel_rfl
theorem dTabD : (Rows.laid_math_bits_deBruijn64tab : DataW Unit) = .agg (Lib.deBruijn64tab.map fun x => .lit (.int .u8 (Int.ofNat x))) := by kernel_rfl
/-- What the condition gives: the table. -/
theorem of_laid {W : World} (h : laidMetH Tryd.prog laid1D W) : TabAt 0 Lib.deBruijn64tab W := by
  rw [MakeChecks.laidMetH_plain _ _ _ (by kernel_rfl)] at h
  obtain ⟨ps, ⟨g0, t0, cs0, f0, p0, q0, hg0, ht0, hv0, hd0, _, _⟩, _, _⟩ := h
  obtain rfl := Option.some.inj (gTabD.symm.trans hg0)
  obtain rfl := Option.some.inj (tTabD.symm.trans ht0)
  rw [dTabD] at hd0
  have h0 := laid_tabD Tryd.underlying104 cTabD Lib.deBruijn64tab rfl hd0
  intro i hi
  have := World.var?_cell hg0 hv0 i
  rw [this]
  simpa using h0 i hi
/-- The door's own heap meets the condition. -/
theorem door_met (os : Os) (args : Array Value) : laidMetH Tryd.prog laid1D ((World.doorLaid Tryd.prog 2000 os).forCall (fun _ _ => 0) ⟨#[], args, []⟩).memory :=
  laidMetH_of_parts3 (fuel := 8) (laidMet_of_run' 8 (by kernel_rfl) (by kernel_rfl)) (by kernel_rfl) (by kernel_rfl)
end Go.Proofs.YtndkjmmmneianaaDoor
