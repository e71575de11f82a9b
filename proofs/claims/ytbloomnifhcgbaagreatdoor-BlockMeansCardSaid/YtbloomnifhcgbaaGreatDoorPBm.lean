/-
  BlockMeans holds: for every two blocks and every slice of bytes the call returns true, and the arguments read as they did. The two tables of the program are as the program text lays them.
-/
import Derived.Test.YtbloomnifhcgbaaGreatDoorRows
import Derived.Test.YtbloomnifhcgbaaGreatDoorCards
import Derived.Test.YtbloomnifhcgbaaGreatDoorTie
import Derived.Test.YtbloomnifhcgbaaGreatDoorPBmQ0
import Derived.Test.YtbloomnifhcgbaaGreatDoorPBmQ2
import Derived.Test.YtbloomnifhcgbaaGreatDoorSOpen
import Derived.ChangeMaps5
import Derived.SevenTiedAt
namespace Go.Proofs.YtbloomnifhcgbaaGreatDoor.blockMeans
open Go.ChangeShapes Go.WideShapes Go.ChangeAt Go.RowKit
open Go.ChangeMaps (open_string)

theorem own : ownKnob Tryz.prog.godebug = none := by kernel_rfl
theorem laidOut : laidOutB Tryz.prog = true := by kernel_rfl

set_option maxRecDepth 100000 in
theorem lifted (os : Os) (started : os.Started) (H : Type) (enc : TypeId × Value → H) :
    ReturnsInHanded {} Tryz.checked os 4 .any (fun w args => (Rows.blockMeansSpec.pre enc Tryz.prog Tryz.f4 [] false w args ∧ laidMetH Tryz.prog laid2 w) ∧ sizedMet enc Tryz.prog Tryz.f4 (OpenSpec.ofChange Rows.blockMeansSpec) false w args)
      (Rows.blockMeansSpec.post enc Tryz.prog Tryz.f4 false true false false) := by
  refine returnsInHanded_of_change_and (C := Tryz.checked) (X := fun w _ => laidMetH Tryz.prog laid2 w) (fun _ _ _ hh h => h.of_heap hh) own started (by kernel_rfl) Tryz.func4
    (ChangeSpec.witness_shaped (enc := enc) (C := Tryz.checked) (os := os) (X := fun w _ => laidMetH Tryz.prog laid2 w) false (World.doorLaid Tryz.prog 2000 os) #[.agg (bkC noBk).toArray, .agg (bkC noBk).toArray, .slice none 0 0] 8 rfl (World.shaped_of_RefB (by kernel_rfl) (by kernel_rfl)) (by kernel_rfl) (by kernel_rfl) (by kernel_rfl) (door_met os _)) ?_
  intro W base args ds gs before hval0 hW _ hWt hL _
  have hval : ∀ (j : Nat) t v, Tryz.f4.params[j]? = some t → args[j]? = some v → Value.okWide Tryz.prog W .any base t v := hval0
  have hW' := hW
  obtain ⟨p, q, hA0, hV, rfl, hfz, hnd⟩ := hW
  have hA : DataW.TrodAll enc Tryz.prog W 0 (fun _ => true) true Tryz.f4.params.toList args.toList ds p := hA0
  rw [Tryz.params4] at hA hval
  obtain ⟨v0, v1, v2, d0, d1, d2, p0, p1, p2, rfl, rfl, rfl, h0, h1, h2⟩ := trodAll_three hA
  obtain ⟨rfl, rfl⟩ := trodVars_none hV
  clear hA0 hA
  simp only [List.append_nil] at hW'
  have h0k := h0
  have h1k := h1
  have h2k := h2
  obtain ⟨a0, len, cap, rfl⟩ := okWide_slice Tryz.underlying22 (hval 2 22 v2 rfl rfl)
  clear hval0 hval
  have hw0 : Wok 32 d0 := fun n hn => by
    have h : decide (n ≤ reachBytes) = true := List.all_eq_true.1 hWt n (DataW.weights_mem_each (j := 0) (t := 32) (by kernel_rfl) rfl n hn)
    have h2 := of_decide_eq_true h
    unfold reachBytes at h2
    omega
  have hw1 : Wok 32 d1 := fun n hn => by
    have h : decide (n ≤ reachBytes) = true := List.all_eq_true.1 hWt n (DataW.weights_mem_each (j := 1) (t := 32) (by kernel_rfl) rfl n hn)
    have h2 := of_decide_eq_true h
    unfold reachBytes at h2
    omega
  obtain ⟨fuel0, hf0⟩ := h0
  obtain ⟨L0, hch0, hl0⟩ := read_blk hf0 hw0
  obtain rfl := agg_of_blk hch0 hl0.h.f
  obtain ⟨fuel1, hf1⟩ := h1
  obtain ⟨L1, hch1, hl1⟩ := read_blk hf1 hw1
  obtain rfl := agg_of_blk hch1 hl1.h.f
  obtain ⟨fuel2, hf2⟩ := h2
  obtain ⟨A, c, bs, hcs, hs, _, hc, hcm⟩ := read_bytes hf2
  simp only [Value.cells] at hcs
  have e : Value.slice a0 len cap = .slice A bs.length c := by simpa using hcs
  injection e with e1 e2 e3
  subst e1 e2 e3
  have hlt0 : ∀ x ∈ p0, x.block < W.heap.size := fun x hx => hW'.lt x (by simp [hx])
  have hlt1 : ∀ x ∈ p1, x.block < W.heap.size := fun x hx => hW'.lt x (by simp [hx])
  have hlt2 : ∀ x ∈ p2, x.block < W.heap.size := fun x hx => hW'.lt x (by simp [hx])
  have hT := of_laid hL
  refine (bmeans_any W hT L0 L1 a0 cap bs hl0 hl1 hs).mono fun e W' ⟨he, hg⟩ => ?_
  subst he
  exact ⟨_, rfl, _, [], _, [], _, [], hW', trodAll_cons_mk (shut_bool Tryz.underlying4 _) trodAll_mk0,
    trodAll_mk3 (Below.trod laidOut (by kernel_rfl) (of_decide_eq_true (by kernel_rfl)) h0k hg hlt0) (Below.trod laidOut (by kernel_rfl) (of_decide_eq_true (by kernel_rfl)) h1k hg hlt1) (Below.trod laidOut (by kernel_rfl) (of_decide_eq_true (by kernel_rfl)) h2k hg hlt2), rfl, World.keptBut_mono (fun x hx => ⟨hx, by simpa using hx⟩) (hg.frame (· ∈ p0 ++ p1 ++ p2)), fun h => by cases h⟩

theorem over : Rows.BlockMeansSaid :=
  OpenClaim.holds_of_wide 4 Tryz.f4 rfl rfl rfl rfl rfl rfl rfl ⟨rfl, rfl, rfl, rfl, rfl⟩ rfl rfl rfl rfl rfl (by kernel_rfl) Tryz.func4 (by kernel_rfl)
    (of_decide_eq_true (by kernel_rfl)) (by unfold Func.isWrapper; first | (rw [if_pos (by decide +kernel)]; kernel_rfl) | (rw [if_neg (by decide +kernel)]; exact ⟨rfl, rfl⟩))
    (fun os started H enc _ => lifted os started H enc)

theorem proved : Rows.BlockMeansCardSaid :=
  Claim7.holds_tied_plain_at .later [] [.data, .data] true Rows.blockMeansCard.stood.harness false
    over (fun _ h => by cases h) (by kernel_rfl) (fun _ h => by cases h) blockMeans_row_tie rfl ⟨rfl, rfl⟩ (by kernel_rfl) rfl
    (fun f fn hf hfn => by
      obtain rfl : f = 4 := Option.some.inj ((show Tryz.prog.funcNamed "plexus/plexuslaw06.BlockMeans" = some 4 by kernel_rfl).symm.trans hf) |>.symm
      obtain rfl : fn = Tryz.f4 := (Option.some.inj (Tryz.func4.symm.trans hfn)).symm
      exact ⟨by kernel_rfl, fun j t ht => by
        rw [Tryz.params4] at ht
        have hm : t ∈ [32, 32, 22] := by simpa using Array.mem_of_getElem? ht
        have hall : ([32, 32, 22].all fun u => !Tryz.prog.wantsStandIn u) = true := by kernel_rfl
        exact (show Tryz.prog.wantsStandIn t = false by simpa using List.all_eq_true.1 hall t hm)⟩)
    (by kernel_rfl)
end Go.Proofs.YtbloomnifhcgbaaGreatDoor.blockMeans
