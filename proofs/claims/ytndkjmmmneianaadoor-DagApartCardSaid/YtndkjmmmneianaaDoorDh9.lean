/-
  dag: DagPlays' walk.
-/
import Derived.Test.YtndkjmmmneianaaDoorDh8
namespace Go.Proofs.YtndkjmmmneianaaDoor
open Go.RowKit Go.Shelf

set_option maxRecDepth 100000 in
set_option maxHeartbeats 8000000 in
theorem dagPlays_any (w : World) (hT : TabAt 0 Lib.deBruijn64tab w) (root : Hh) (SA : Option Addr) (l : List RNd) (c : Nat) (hS : SeesV w w.heap.size SA (rnsC l)) (hE : ∀ x ∈ l, SeesV w w.heap.size x.A (hsC x.ps)) (hl : l.length ≤ 9223372036854775807) (other : Hh) :
    Calls Tryd.prog 3 #[.agg (hC root).toArray, .slice SA l.length c, .agg (hC other).toArray] w fun e w' => e = .returned (.bool true) ∧ Below w.heap.size w w' := by
  obtain ⟨wb, hwb⟩ : ∃ x, (w.alloc (.cells (hC root).toArray 23)).alloc (.cells (hC other).toArray 23) = x := ⟨_, rfl⟩
  have V0 : Hid (Below w.heap.size w wb) := by rw [← hwb]; exact nxAlloc (nxAlloc (nxRefl w) _) _
  have B0 : Hid (Blk wb w.heap.size 23 (hC root).toArray) := by rw [← hwb]; exact Blk.alloc (heap_alloc_new w _) _
  have B1 : Hid (Blk wb (w.heap.size + 1) 23 (hC other).toArray) := by rw [← hwb]; exact blkNew (by simp) rfl
  have HWb := Lib.hid hwb
  have h0w : 0 < w.heap.size := World.block_lt_of_cell? _ _ (hT 0 (by decide))
  have HT0 : Hid (TabAt 0 Lib.deBruijn64tab wb) := tab_below hT V0.out h0w
  have H0w : Hid (0 < wb.heap.size) := Nat.lt_of_lt_of_le h0w V0.out.size
  have hfw := few_any wb SA l c 30 ((hS.below V0.out).more V0.out.size) hl (by omega)
  obtain ⟨pr, hpr⟩ : ∃ x, w.heap.size = x := ⟨_, rfl⟩
  obtain ⟨po, hpo⟩ : ∃ x, pr + 1 = x := ⟨_, rfl⟩
  rw [hpr] at B0
  rw [hpr, hpo] at B1
  have HPr := Lib.hid hpr
  have HPo := Lib.hid hpo
  clear hwb h0w hT hpr hpo
  cases hf : fewB l 30 with
  | false =>
    rw [hf] at hfw
    have HF := Lib.hid hfw
    clear hfw hf hS hE hl
    go_enter Tryd.func3, Tryd.ntmps3
    go_wp2_with (first
      | (go_at_call 8; rw [HWb.out]; refine HF.out.mono ?_; rintro e w1 ⟨rfl, hw1⟩; obtain rfl := hw1.symm)
      | (go_at_call 9; refine (known_any _).mono ?_; rintro e w4 ⟨rfl, hb4⟩; have K4 : Hid (Below w.heap.size w w4) := nxTo V0.out hb4; clear hb4))
    go_ret
    exact ⟨rfl, K4.out⟩
  | true =>
    obtain ⟨hl30, hp8⟩ := few_le hf
    rw [hf] at hfw
    have HF := Lib.hid hfw
    have hbg := begin_any wb root SA l c ((hS.below V0.out).more V0.out.size) (fun x hx => ((hE x hx).below V0.out).more V0.out.size) (by omega) hp8
    have hgl : (runG root l).length ≤ 31 := by have := runG_len root l; omega
    obtain ⟨G, hG⟩ : ∃ G, runG root l = G := ⟨_, rfl⟩
    rw [hG] at hgl hbg
    have HBg := Lib.hid hbg
    have HG : Hid (G.length ≤ 1000) := by show _ ≤ _; omega
    clear hfw hf hbg hG hp8 hl30 hl hS hE hgl
    go_enter Tryd.func3, Tryd.ntmps3
    go_wp2_with (first
      | (go_at_call 8; rw [HWb.out, HPr.out, HPo.out]; refine HF.out.mono ?_; rintro e w1 ⟨rfl, hw1⟩; obtain rfl := hw1.symm)
      | ((with_reducible show wpList _ _ _ (⟨some 15, _, _, _, _, _⟩ :: _) _ _); refine wpList_load_mid rfl 23 (.tmp 3) rfl pr 0 rfl (hC root) _ (kb_range B0.out) Tryd.underlying23 rfl (hszL root) ?_)
      | (go_at_call 10; refine HBg.out.mono ?_; rintro e w2 ⟨m, r, rfl, ht2, hb2⟩; have HT2 := Lib.hid ht2; have V2 : Hid (Below wb.heap.size wb w2) := hb2; have BO2 : Hid (Blk w2 po 23 (hC other).toArray) := B1.out.below hb2 B1.out.lt; clear ht2 hb2 HBg HF)
      | (go_at_call 11; refine (same_any w2 _ m G r HT2.out HG.out (tab_below HT0.out V2.out H0w.out)).mono ?_; rintro e w3 ⟨rfl, hb3⟩; have V3 : Hid (Below w2.heap.size w2 w3) := hb3; have BO3 : Hid (Blk w3 po 23 (hC other).toArray) := BO2.out.below hb3 BO2.out.lt; clear hb3)
      | ((with_reducible show wpList _ _ _ (⟨some 30, _, _, _, _, _⟩ :: _) _ _); refine wpList_unguard (by rfl) ?_; refine wpList_load_mid rfl 23 (.tmp 5) rfl po 0 rfl (hC other) _ (kb_range BO3.out) Tryd.underlying23 rfl (hszL other) ?_)
      | (go_at_call 12; refine (looks_any w3 _ m G r (HT2.out.later V3.out) HG.out (tab_below HT0.out (nxTo V2.out V3.out) H0w.out) other).mono ?_; rintro e w4 ⟨rfl, hb4⟩; have V4 : Hid (Below w2.heap.size w2 w4) := nxTo V3.out hb4; clear hb4)
      | (go_at_call 9; refine (known_any _).mono ?_; rintro e w5 ⟨rfl, hb5⟩; have K5 : Hid (Below w.heap.size w w5) := nxTo V0.out (nxTo V2.out (nxTo V4.out hb5)); clear hb5))
    go_ret
    exact ⟨rfl, K5.out⟩
end Go.Proofs.YtndkjmmmneianaaDoor
