/-
  dag: DagBefore's law.
-/
import Derived.Test.YtndkjmmmneianaaDoorPGnQ4
import Derived.Deep.CutRange
namespace Go.Proofs.YtndkjmmmneianaaDoor
open Go.RowKit Go.Shelf

theorem bef_in {G : Gr} (o : OkG G) (y x : Hh) : befB G y x = decide (y ∈ pastG G [x]) := by
  rw [Bool.eq_iff_iff, decide_eq_true_eq]
  constructor
  · intro h
    unfold befB at h
    cases hy : placeG G y with
    | none => rw [hy] at h; cases h
    | some a =>
      cases hx : placeG G x with
      | none => rw [hy, hx] at h; cases h
      | some n =>
        rw [hy, hx] at h
        have hA := @of_decide_eq_true _ (Classical.propDecidable _) h
        exact mem_ansG.2 ⟨a, (placeG_some hy).1, ⟨x, by simp, n, hx, hA⟩, (placeG_some hy).2⟩
  · intro h
    obtain ⟨a, ha, ⟨z, hz, n, hn, hA⟩, hid⟩ := mem_ansG.1 h
    rw [List.mem_singleton] at hz
    subst hz
    unfold befB
    rw [← hid, placeG_id o ha, hn]
    exact @decide_eq_true _ (Classical.propDecidable _) hA
theorem past_le (G : Gr) (ids : List Hh) : (pastG G ids).length ≤ G.length := by
  unfold pastG ansG
  refine Nat.le_trans (risH_le _) ?_
  rw [List.length_map]
  refine Nat.le_trans (List.length_filter_le _ _) ?_
  simp
theorem past_nil (G : Gr) : pastG G [] = [] := by
  have : ∀ x, ¬ x ∈ pastG G [] := fun x hx => by
    obtain ⟨a, ha, ⟨z, hz, _⟩, _⟩ := mem_ansG.1 hx
    exact absurd hz List.not_mem_nil
  exact List.eq_nil_iff_forall_not_mem.2 this
/-- The graph's first hashes. -/
def gidsG (G : Gr) (i : Nat) : List Hh := (List.range i).map (idG G)
theorem gids_len (G : Gr) (i : Nat) : (gidsG G i).length = i := by simp [gidsG]
theorem gids_succ (G : Gr) (i : Nat) : gidsG G (i + 1) = gidsG G i ++ [idG G i] := by unfold gidsG; rw [List.range_succ, List.map_append]; rfl
set_option maxRecDepth 100000 in
set_option maxHeartbeats 8000000 in
theorem dagBefore_any (w : World) (hT : TabAt 0 Lib.deBruijn64tab w) (root : Hh) (SA : Option Addr) (l : List RNd) (c : Nat) (hS : SeesV w w.heap.size SA (rnsC l)) (hE : ∀ x ∈ l, SeesV w w.heap.size x.A (hsC x.ps)) (hl : l.length ≤ 9223372036854775807) (IA : Option Addr) (ids : List Hh) (ci : Nat) (hI : SeesV w w.heap.size IA (hsC ids)) (hil : ids.length ≤ 9223372036854775807) :
    Calls Tryd.prog 4 #[.agg (hC root).toArray, .slice SA l.length c, .slice IA ids.length ci] w fun e w' => e = .returned (.bool true) ∧ Below w.heap.size w w' := by
  have B0 : Hid (Blk (w.alloc (.cells (hC root).toArray 23)) w.heap.size 23 (hC root).toArray) := heap_alloc_new w _
  have V0 : Hid (Below w.heap.size w (w.alloc (.cells (hC root).toArray 23))) := nxAlloc (nxRefl w) _
  have h0w : 0 < w.heap.size := World.block_lt_of_cell? _ _ (hT 0 (by decide))
  have H0w := Lib.hid h0w
  have HT0 := Lib.hid hT
  have HS0 := Lib.hid hS
  have HE0 := Lib.hid hE
  have HI0 := Lib.hid hI
  have hfw := few_any (w.alloc (.cells (hC root).toArray 23)) SA l c 30 ((hS.below V0.out).more V0.out.size) hl (by omega)
  clear hT hS hE hI h0w hl
  obtain ⟨i0, hi0, hz0, hs0, hy0⟩ := info_parts Tryd.dinfoH
  cases hf : fewB l 30 with
  | false =>
    rw [hf] at hfw
    have HF := Lib.hid hfw
    clear hfw hf
    go_enter Tryd.func4, Tryd.ntmps4
    go_wp2_with (first
      | (go_at_call 8; refine HF.out.mono ?_; rintro e w1 ⟨rfl, hw1⟩; obtain rfl := hw1.symm)
      | (go_at_call 9; refine (known_any _).mono ?_; rintro e w4 ⟨rfl, hb4⟩; have K4 : Hid (Below w.heap.size w w4) := nxTo V0.out hb4; clear hb4))
    go_ret
    exact ⟨rfl, K4.out⟩
  | true =>
    by_cases hi10 : 10 < ids.length
    · rw [hf] at hfw
      have HF := Lib.hid hfw
      have h10 : (10 : Int) < (ids.length : Int) := by omega
      clear hfw hf hi10
      go_enter Tryd.func4, Tryd.ntmps4
      go_wp2_with (first
        | (go_at_call 8; refine HF.out.mono ?_; rintro e w1 ⟨rfl, hw1⟩; obtain rfl := hw1.symm)
        | (go_at_call 9; refine (known_any _).mono ?_; rintro e w4 ⟨rfl, hb4⟩; have K4 : Hid (Below w.heap.size w w4) := nxTo V0.out hb4; clear hb4))
      go_ret
      exact ⟨rfl, K4.out⟩
    have hil10 : ids.length ≤ 10 := by omega
    have h10 : ¬ (10 : Int) < (ids.length : Int) := by omega
    obtain ⟨hl30, hp8⟩ := few_le hf
    rw [hf] at hfw
    have HF := Lib.hid hfw
    have hbg := begin_any (w.alloc (.cells (hC root).toArray 23)) root SA l c ((HS0.out.below V0.out).more V0.out.size) (fun x hx => ((HE0.out x hx).below V0.out).more V0.out.size) (by omega) hp8
    have HBg := Lib.hid hbg
    have hgl : (runG root l).length ≤ 31 := by have := runG_len root l; omega
    obtain ⟨G, hG⟩ : ∃ G, runG root l = G := ⟨_, rfl⟩
    rw [hG] at hgl HBg
    clear hfw hf hbg hG hp8 hl30 hi10 hil
    obtain ⟨w0, hw0⟩ : ∃ n, (w.alloc (.cells (hC root).toArray 23)).heap.size = n := ⟨_, rfl⟩
    rw [hw0] at HBg
    go_enter Tryd.func4, Tryd.ntmps4
    go_wp2_with (first
      | (go_at_call 8; refine HF.out.mono ?_; rintro e w1 ⟨rfl, hw1⟩; obtain rfl := hw1.symm)
      | ((with_reducible show wpList _ _ _ (⟨some 25, _, _, _, _, _⟩ :: _) _ _); refine wpList_load_mid rfl 23 (.tmp 3) rfl w.heap.size 0 rfl (hC root) _ (kb_range B0.out) Tryd.underlying23 rfl (hszL root) ?_)
      | (go_at_call 10; refine HBg.out.mono ?_; rintro e w2 ⟨m, r, rfl, ht2, hb2⟩; have HT2 := Lib.hid ht2; have V2 : Hid (Below w.heap.size w w2) := nxTo V0.out (by rw [hw0]; exact hb2); have N2 : Hid (w2.ownsRow w2.heap.size 23 32 (.slice none 0 0) 0 []) := (⟨by simp, .inl ⟨rfl, rfl⟩⟩ : w2.ownsRow w2.heap.size 23 32 (.slice none 0 0) 0 []); have S2 : Hid (SeesV w2 w2.heap.size IA (hsC ids)) := (HI0.out.below V2.out).more V2.out.size; clear ht2 hb2)
      | ((with_reducible show wpList _ _ _ (⟨some 34, _, _, _, _, _⟩ :: _) _ _); refine wpList_append_seesV rfl _ (.tmp 33) 34 rfl w2.heap.size 23 i0 _ 32 32 Tryd.underlying34 hi0 hz0 hs0 hy0 rfl (by decide) (.slice none 0 0) 0 [] rfl N2.out w2.heap.size IA ids.length ci (hsC ids) rfl (by rw [hsC_len]) S2.out (hsC_one _) (by omega) (by omega) (by omega) ?_; intro v3 w3 ho3 hg3 ha3; obtain ⟨A3, c3, rfl⟩ := own_form ho3; rw [Nat.zero_add, List.nil_append] at ho3; rw [Nat.zero_add]; have O3 := Lib.hid ho3; have V3 : Hid (Below w2.heap.size w2 w3) := (nxRefl w2).grown hg3 (Nat.le_refl _) (fun j hj => by cases hj); clear ho3 hg3 ha3))
    clear hw0 HBg HF h10 N2
    have HTwo : Hid (∀ W, Below w2.heap.size w2 W → Two W w0 m G r) := fun W hW => HT2.out.later hW
    have HTab : Hid (∀ W, Below w2.heap.size w2 W → TabAt 0 Lib.deBruijn64tab W) := fun W hW => tab_below (tab_below HT0.out V2.out H0w.out) hW (Nat.lt_of_lt_of_le H0w.out V2.out.size)
    have HG := Lib.hid hgl
    have HOk : Hid (OkG G) := HT2.out.i.ok
    go_loopw [10, 11] (fun av iv wr => ∃ (i : Nat) (A1 : Option Addr) (c1 : Nat), i ≤ G.length ∧ av = .slice A1 (ids.length + i) c1 ∧ iv = .int .i64 i ∧ Hid (wr.ownsRow w2.heap.size 23 32 (.slice A1 (ids.length + i) c1) (ids.length + i) (hsC (ids ++ gidsG G i))) ∧ Hid (Below w2.heap.size w2 wr)) (fun _ iv _ => G.length - (intOf iv).toNat)
    case atStart => exact ⟨0, A3, c3, by omega, rfl, rfl, (by show World.ownsRow _ _ _ _ _ _ _; simpa [gidsG] using O3.out), V3.out⟩
    case round =>
      clear O3 V3
      obtain ⟨i, A1, c1, hi, rfl, rfl, HO, HK⟩ := hrel
      have HTr : Hid (Two wr w0 m G r) := HTwo.out _ HK.out
      have hrl := HTr.out.rel.len
      have hcr : wr.cell? ⟨r.q, 0, none⟩ = some (.slice r.A G.length r.c) := by rw [← hrl]; exact HTr.out.d.b.cell 0
      by_cases hlt : i < G.length
      · have hlr : i < r.l.length := by rw [hrl]; exact hlt
        obtain ⟨b1, f1, hA1, hb1, hr1⟩ := sees_node HTr.out.d.s hlr
        rw [hA1] at hcr
        have r1 := node_id (hr1 i hlr)
        rw [(HTr.out.rel.at_ hlr).1] at r1
        have hsc := gids_succ G i
        obtain ⟨h, hh⟩ : ∃ x, idG G i = x := ⟨_, rfl⟩
        rw [hh] at r1 hsc
        have HR1 := Lib.hid r1
        have HSc := Lib.hid hsc
        have hin : (i : Int) < (G.length : Int) := by omega
        clear hr1 r1 hb1 hA1 hrl hlr hh hsc
        go_wp2_with (first
          | ((with_reducible show wpList _ _ _ (⟨some 52, _, _, _, _, _⟩ :: _) _ _); refine wpList_load_mid rfl 23 (.tmp 51) rfl b1 (f1 + i * 33) rfl (hC h) _ HR1.out Tryd.underlying23 rfl (hszL h) ?_)
          | ((with_reducible show wpList _ _ _ (⟨some 53, _, _, _, _, _⟩ :: _) _ _); refine wpList_build1 rfl 34 23 (.tmp 52) rfl (hC h) _ 32 32 Tryd.underlying34 Tryd.dinfoH (by decide) (by decide) (hC_len h) rfl ?_; have J5 : Hid (Below wr.heap.size wr (wr.alloc (.cells (hC h).toArray 23))) := nxAlloc (nxRefl _) _; have V5 : Hid (Below w2.heap.size w2 (wr.alloc (.cells (hC h).toArray 23))) := nxTo HK.out J5.out; have P1 := Lib.hid (own_below HO.out J5.out (fun g hg => (own_lt HO.out g hg).2)))
          | ((with_reducible show wpList _ _ _ (⟨some 54, _, _, _, _, _⟩ :: _) _ _); refine wpList_append_seesV rfl (.tmp 44) (.tmp 53) 34 rfl w2.heap.size 23 i0 _ 32 32 Tryd.underlying34 hi0 hz0 hs0 hy0 rfl (by decide) (.slice A1 (ids.length + i) c1) (ids.length + i) (hsC (ids ++ gidsG G i)) rfl P1.out _ (some ⟨wr.heap.size, 0, none⟩) 1 1 (hC h) rfl (by rw [hC_len]) (SeesV.blk (heap_alloc_new wr _)) (hC_one h) (by omega) (by omega) V5.out.size ?_; intro v7 w7 ho7 hg7 ha7; obtain ⟨A7, c7, rfl⟩ := own_form ho7; have O7 := Lib.hid ho7; have V7 : Hid (Below w2.heap.size w2 w7) := V5.out.grown hg7 V5.out.size (fun j hj => (own_lt P1.out j hj).1); clear ho7 hg7 ha7))
        go_roundw
        case rel =>
          have e1 : hsC (ids ++ gidsG G (i + 1)) = hsC (ids ++ gidsG G i) ++ hC h := by rw [HSc.out, ← List.append_assoc, hsC_append]; simp [hsC]
          exact ⟨i + 1, A7, c7, by omega, by rw [Nat.add_assoc], by go_num, (by show World.ownsRow _ _ _ _ _ _ _; rw [e1, ← Nat.add_assoc]; exact O7.out), V7.out⟩
        case measure => simp [intOf] <;> omega
      obtain rfl : i = G.length := by omega
      obtain ⟨Al, hAl⟩ : ∃ L, ids ++ gidsG G G.length = L := ⟨_, rfl⟩
      have hall : Al.length = ids.length + G.length := by rw [← hAl, List.length_append, gids_len]
      rw [hAl] at HO
      obtain ⟨nl, hnl⟩ : ∃ n, ids.length + G.length = n := ⟨_, rfl⟩
      rw [hnl] at hall HO
      rw [hnl]
      have hn41 : nl ≤ 41 := by omega
      have HS6 : Hid (SeesV wr wr.heap.size A1 (hsC Al)) := SeesV.own HO.out
      have HAl := Lib.hid hall
      clear hAl hall hnl HO hlt hi hrl
      go_wp2
      clear hcr HTr
      obtain ⟨w6, hw6⟩ : ∃ x, wr = x := ⟨_, rfl⟩
      rw [hw6] at HS6 HK
      rw [hw6]
      clear hw6
      go_loopw [12] (fun iv wr => ∃ i : Nat, i ≤ nl ∧ iv = .int .i64 i ∧ Hid (Below w6.heap.size w6 wr)) (fun iv _ => nl - (intOf iv).toNat)
      case atStart => exact ⟨0, by omega, rfl, nxRefl w6⟩
      case round =>
        obtain ⟨i, hi, rfl, HK6⟩ := hrel
        by_cases hlt : i < nl
        · have hia : i < Al.length := by rw [HAl.out]; exact hlt
          obtain ⟨ba, fa, hA1, hba, hra⟩ := sees_hash HS6.out hia
          obtain ⟨x, hx⟩ : ∃ x, Al[i] = x := ⟨_, rfl⟩
          have hrx := hra i hia
          rw [hx] at hrx
          have HRx : Hid (∀ W, Below w6.heap.size w6 W → W.rangeAt ba (fa + i * 32) (hC x)) := fun W hW => rngK hrx hW hba
          have HRa : Hid (∀ W, Below w6.heap.size w6 W → ∀ k (hk : k < Al.length), W.rangeAt ba (fa + k * 32) (hC Al[k])) := fun W hW k hk => rngK (hra k hk) hW hba
          have HBa : Hid (ba < w6.heap.size) := hba
          have K2r : Hid (Below w2.heap.size w2 wr) := nxTo HK.out HK6.out
          have hin : (i : Int) < (nl : Int) := by omega
          obtain ⟨P, hP⟩ : ∃ P, pastG G [x] = P := ⟨_, rfl⟩
          have hpl : P.length ≤ 31 := by rw [← hP]; exact Nat.le_trans (past_le _ _) HG.out
          have HPe := Lib.hid hP
          have HPl := Lib.hid hpl
          have HA1 := Lib.hid hA1
          rw [hA1]
          clear hra hrx hx hba hA1 hP hpl hia
          go_wp2_with (first
            | ((with_reducible show wpList _ _ _ (⟨some 65, _, _, _, _, _⟩ :: _) _ _); refine wpList_load_mid rfl 23 (.tmp 64) rfl ba (fa + i * 32) rfl (hC x) _ (HRx.out _ HK6.out) Tryd.underlying23 rfl (hszL x) ?_)
            | ((with_reducible show wpList _ _ _ (⟨some 66, _, _, _, _, _⟩ :: _) _ _); refine wpList_build1 rfl 34 23 (.tmp 65) rfl (hC x) _ 32 32 Tryd.underlying34 Tryd.dinfoH (by decide) (by decide) (hC_len x) rfl ?_; have J5 : Hid (Below wr.heap.size wr (wr.alloc (.cells (hC x).toArray 23))) := nxAlloc (nxRefl _) _; have V5 : Hid (Below w2.heap.size w2 (wr.alloc (.cells (hC x).toArray 23))) := nxTo K2r.out J5.out; have B5 : Hid (Blk (wr.alloc (.cells (hC x).toArray 23)) wr.heap.size 23 (hC x).toArray) := heap_alloc_new wr _)
            | (go_at_call 13; refine (rpast_any _ w0 r G (HTwo.out _ V5.out).d (HTwo.out _ V5.out).rel HOk.out (some ⟨wr.heap.size, 0, none⟩) [x] 1 (by rw [hsC_1]; exact SeesV.blk B5.out) (by simp) (by have := HG.out; omega)).mono ?_; unfold ListPost; rw [HPe.out]; rintro e w7 ⟨A7, c7, rfl, ho7, hb7⟩; have S7 : Hid (SeesV w7 w7.heap.size A7 (hsC P)) := SeesV.own ho7; have K7 : Hid (Below w2.heap.size w2 w7) := nxTo V5.out hb7; have J7 : Hid (Below w6.heap.size w6 w7) := nxTo (nxTo HK6.out J5.out) hb7; clear ho7 hb7))
          clear J5 V5 B5 K2r
          go_loopw [14] (fun iv wr => ∃ k : Nat, k ≤ nl ∧ iv = .int .i64 k ∧ Hid (Below w7.heap.size w7 wr)) (fun iv _ => nl - (intOf iv).toNat)
          case atStart => exact ⟨0, by omega, rfl, nxRefl w7⟩
          case round =>
            obtain ⟨k, hk, rfl, HK7⟩ := hrel
            by_cases hltk : k < nl
            · have hka : k < Al.length := by rw [HAl.out]; exact hltk
              have J6 : Hid (Below w6.heap.size w6 wr.drew) := nxDrT (nxTo J7.out HK7.out)
              have ry := HRa.out wr.drew J6.out k hka
              obtain ⟨y, hy⟩ : ∃ y, Al[k] = y := ⟨_, rfl⟩
              rw [hy] at ry
              have RYd : Hid (wr.drew.rangeAt ba (fa + k * 32) (hC y)) := ry
              have RXd : Hid (wr.drew.rangeAt ba (fa + i * 32) (hC x)) := HRx.out _ J6.out
              have HLd : Hid (ba < wr.drew.heap.size) := Nat.lt_of_lt_of_le HBa.out J6.out.size
              have Kr : Hid (Below w2.heap.size w2 wr.drew) := nxDrT (nxTo K7.out HK7.out)
              have Sd : Hid (SeesV wr.drew wr.drew.heap.size A7 (hsC P)) := (S7.out.below HK7.out).more HK7.out.size
              have Jr : Hid (Below w7.heap.size w7 wr.drew) := nxDrT HK7.out
              have hbi := bef_in HOk.out y x
              rw [HPe.out] at hbi
              have hkn : (k : Int) < (nl : Int) := by omega
              obtain ⟨z, hz⟩ : ∃ z, befB G y x = z := ⟨_, rfl⟩
              have HB := Lib.hid hz
              have HI : Hid (decide (y ∈ P) = z) := hbi.symm.trans hz
              clear ry hy hbi hz hka J6
              go_wp2
              refine wp_region_held_drew (S := fun W => W.rangeAt ba (fa + k * 32) (hC y) ∧ W.rangeAt ba (fa + i * 32) (hC x)) (by kernel_rfl) ⟨RYd.out, RXd.out⟩ (fun hHeld => ?_)
              generalize wr.drew = wd at *
              cases z with
              | true =>
                refine wpAnyH_take (i := 0) (oi := ⟨_, _, _, _, _, _⟩) (v := ?_) rfl (by kernel_rfl) (by kernel_rfl) (by kernel_rfl) (fun _ _ _ h => h) (Or.inl ⟨by rfl, ?_⟩) (by assumption) ?_
                rotate_left 1
                · intro W hSw
                  try dsimp only at hSw
                  obtain ⟨hs1, hs2⟩ := hSw
                  go_simp
                  try with_reducible rfl
                try simp only [Act.put, List.setIfInBounds_toArray, List.set_cons_zero, List.set_cons_succ]
                refine wpAnyH_take (i := 1) (oi := ⟨_, _, _, _, _, _⟩) (v := ?_) rfl (by kernel_rfl) (by kernel_rfl) (by kernel_rfl) (fun _ _ _ h => h) (Or.inl ⟨by rfl, ?_⟩) (by assumption) ?_
                rotate_left 1
                · intro W hSw
                  try dsimp only at hSw
                  obtain ⟨hs1, hs2⟩ := hSw
                  go_simp
                  try with_reducible rfl
                try simp only [Act.put, List.setIfInBounds_toArray, List.set_cons_zero, List.set_cons_succ]
                refine wpAnyH_take (i := 2) (oi := ⟨_, _, _, _, _, _⟩) (v := ?_) rfl (by kernel_rfl) (by kernel_rfl) (by kernel_rfl) (fun _ _ _ h => h) (Or.inl ⟨by rfl, ?_⟩) (by assumption) ?_
                rotate_left 1
                · intro W hSw
                  try dsimp only at hSw
                  obtain ⟨hs1, hs2⟩ := hSw
                  go_simp
                  try with_reducible rfl
                try simp only [Act.put, List.setIfInBounds_toArray, List.set_cons_zero, List.set_cons_succ]
                refine wpAnyH_take (i := 3) (oi := ⟨_, _, _, _, _, _⟩) (v := ?_) rfl (by kernel_rfl) (by kernel_rfl) (by kernel_rfl) (fun _ _ _ h => h) (Or.inl ⟨by rfl, ?_⟩) (by assumption) ?_
                rotate_left 1
                · intro W hSw
                  try dsimp only at hSw
                  obtain ⟨hs1, hs2⟩ := hSw
                  go_simp
                  try with_reducible rfl
                try simp only [Act.put, List.setIfInBounds_toArray, List.set_cons_zero, List.set_cons_succ]
                refine wpAnyH_take (i := 4) (oi := ⟨_, _, _, _, _, _⟩) (v := .agg (hC y).toArray) rfl (by kernel_rfl) (by kernel_rfl) (by kernel_rfl) (fun _ _ _ h => h) (yieldsIf_load_mid (by rfl) 23 (.tmp 77) rfl ba (fa + k * 32) rfl (hC y) _ (fun W hS => hS.1) Tryd.underlying23 rfl (hszL y)) (by assumption) ?_
                try simp only [Act.put, List.setIfInBounds_toArray, List.set_cons_zero, List.set_cons_succ]
                refine wpAnyH_take (i := 5) (oi := ⟨_, _, _, _, _, _⟩) (v := ?_) rfl (by kernel_rfl) (by kernel_rfl) (by kernel_rfl) (fun _ _ _ h => h) (Or.inl ⟨by rfl, ?_⟩) (by assumption) ?_
                rotate_left 1
                · intro W hSw
                  try dsimp only at hSw
                  obtain ⟨hs1, hs2⟩ := hSw
                  go_simp
                  try with_reducible rfl
                try simp only [Act.put, List.setIfInBounds_toArray, List.set_cons_zero, List.set_cons_succ]
                refine wpAnyH_take (i := 6) (oi := ⟨_, _, _, _, _, _⟩) (v := ?_) rfl (by kernel_rfl) (by kernel_rfl) (by kernel_rfl) (fun _ _ _ h => h) (Or.inl ⟨by rfl, ?_⟩) (by assumption) ?_
                rotate_left 1
                · intro W hSw
                  try dsimp only at hSw
                  obtain ⟨hs1, hs2⟩ := hSw
                  go_simp
                  try with_reducible rfl
                try simp only [Act.put, List.setIfInBounds_toArray, List.set_cons_zero, List.set_cons_succ]
                refine wpAnyH_take (i := 7) (oi := ⟨_, _, _, _, _, _⟩) (v := ?_) rfl (by kernel_rfl) (by kernel_rfl) (by kernel_rfl) (fun _ _ _ h => h) (Or.inl ⟨by rfl, ?_⟩) (by assumption) ?_
                rotate_left 1
                · intro W hSw
                  try dsimp only at hSw
                  obtain ⟨hs1, hs2⟩ := hSw
                  go_simp
                  try with_reducible rfl
                try simp only [Act.put, List.setIfInBounds_toArray, List.set_cons_zero, List.set_cons_succ]
                refine wpAnyH_take (i := 8) (oi := ⟨_, _, _, _, _, _⟩) (v := .agg (hC x).toArray) rfl (by kernel_rfl) (by kernel_rfl) (by kernel_rfl) (fun _ _ _ h => h) (yieldsIf_load_mid (by rfl) 23 (.tmp 81) rfl ba (fa + i * 32) rfl (hC x) _ (fun W hS => hS.2) Tryd.underlying23 rfl (hszL x)) (by assumption) ?_
                try simp only [Act.put, List.setIfInBounds_toArray, List.set_cons_zero, List.set_cons_succ]
                refine wpAnyH_take (i := 10) (oi := ⟨_, _, _, _, _, _⟩) (v := ?_) rfl (by kernel_rfl) (by kernel_rfl) (by kernel_rfl) (fun _ _ _ h => h) (Or.inl ⟨by rfl, ?_⟩) (by assumption) ?_
                rotate_left 1
                · intro W hSw
                  try dsimp only at hSw
                  obtain ⟨hs1, hs2⟩ := hSw
                  go_simp
                  try with_reducible rfl
                try simp only [Act.put, List.setIfInBounds_toArray, List.set_cons_zero, List.set_cons_succ]
                refine wpAnyH_take (i := 11) (oi := ⟨_, _, _, _, _, _⟩) (v := ?_) rfl (by kernel_rfl) (by kernel_rfl) (by kernel_rfl) (fun _ _ _ h => h) (Or.inl ⟨by rfl, ?_⟩) (by assumption) ?_
                rotate_left 1
                · intro W hSw
                  try dsimp only at hSw
                  obtain ⟨hs1, hs2⟩ := hSw
                  go_simp
                  try with_reducible rfl
                try simp only [Act.put, List.setIfInBounds_toArray, List.set_cons_zero, List.set_cons_succ]
                refine wpAnyH_take (i := 12) (oi := ⟨_, _, _, _, _, _⟩) (v := ?_) rfl (by kernel_rfl) (by kernel_rfl) (by kernel_rfl) (fun _ _ _ h => h) (Or.inl ⟨by rfl, ?_⟩) (by assumption) ?_
                rotate_left 1
                · intro W hSw
                  try dsimp only at hSw
                  obtain ⟨hs1, hs2⟩ := hSw
                  go_simp
                  try with_reducible rfl
                try simp only [Act.put, List.setIfInBounds_toArray, List.set_cons_zero, List.set_cons_succ]
                refine wpAnyH_take (i := 13) (oi := ⟨_, _, _, _, _, _⟩) (v := ?_) rfl (by kernel_rfl) (by kernel_rfl) (by kernel_rfl) (fun _ _ _ h => h) (Or.inl ⟨by rfl, ?_⟩) (by assumption) ?_
                rotate_left 1
                · intro W hSw
                  try dsimp only at hSw
                  obtain ⟨hs1, hs2⟩ := hSw
                  go_simp
                  try with_reducible rfl
                try simp only [Act.put, List.setIfInBounds_toArray, List.set_cons_zero, List.set_cons_succ]
                refine wpAnyH_take (i := 14) (oi := ⟨_, _, _, _, _, _⟩) (v := .agg (hC y).toArray) rfl (by kernel_rfl) (by kernel_rfl) (by kernel_rfl) (fun _ _ _ h => h) (yieldsIf_load_mid (by rfl) 23 (.tmp 87) rfl ba (fa + k * 32) rfl (hC y) _ (fun W hS => hS.1) Tryd.underlying23 rfl (hszL y)) (by assumption) ?_
                try simp only [Act.put, List.setIfInBounds_toArray, List.set_cons_zero, List.set_cons_succ]
                refine wpAnyH_ready (rs := [9]) (by kernel_rfl) (by simp) ?_
                refine AllReadyH.cons rfl (fun K hK => ?_) AllReadyH.nil
                go_simp
                go_at_call 14
                refine (before_any _ w0 m G (HTwo.out _ Kr.out).g (HTwo.out _ Kr.out).i y x).mono ?_
                rw [HB.out]
                rintro e wa ⟨rfl, hbn⟩
                have Ka : Hid (Below w2.heap.size w2 wa) := nxTo Kr.out hbn
                have Ja : Hid (Below wd.heap.size wd wa) := Lib.hid hbn
                have Sa : Hid (SeesV wa wa.heap.size A7 (hsC P)) := (Sd.out.below hbn).more hbn.size
                clear hbn
                refine hK.out _ _ ⟨rngK RYd.out Ja.out HLd.out, rngK RXd.out Ja.out HLd.out⟩ (fun hSn => ?_)
                clear hK K
                try simp only [Act.put, List.setIfInBounds_toArray, List.set_cons_zero, List.set_cons_succ]
                refine wpAnyH_ready (rs := [15]) (by kernel_rfl) (by simp) ?_
                refine AllReadyH.cons rfl (fun K hK => ?_) AllReadyH.nil
                go_simp
                go_at_call 15
                refine (rin_any wa A7 P c7 y Sa.out (by have := HPl.out; omega)).mono ?_
                rw [HI.out]
                rintro e wb ⟨rfl, hbn⟩
                have Kb : Hid (Below w2.heap.size w2 wb) := nxTo Ka.out hbn
                have Jb : Hid (Below wd.heap.size wd wb) := nxTo Ja.out hbn
                clear hbn
                refine hK.out _ _ ⟨rngK RYd.out Jb.out HLd.out, rngK RXd.out Jb.out HLd.out⟩ (fun hSn => ?_)
                clear hK K
                try simp only [Act.put, List.setIfInBounds_toArray, List.set_cons_zero, List.set_cons_succ]
                refine wpAnyH_take (i := 16) (oi := ⟨_, _, _, _, _, _⟩) (v := .bool false) rfl (by kernel_rfl) (by kernel_rfl) (by kernel_rfl) (fun _ _ _ h => h) (Or.inl ⟨by rfl, ?_⟩) (by assumption) ?_
                · intro W hSw
                  try dsimp only at hSw
                  go_simp
                  try rfl
                try simp only [Act.put, List.setIfInBounds_toArray, List.set_cons_zero, List.set_cons_succ]
                refine wpAnyH_done (by kernel_rfl) ?_ _
                go_wp2
                go_roundw
                case rel => exact ⟨k + 1, by omega, by go_num, nxTo Jr.out Jb.out⟩
                case measure => simp [intOf] <;> omega
              | false =>
                refine wpAnyH_take (i := 0) (oi := ⟨_, _, _, _, _, _⟩) (v := ?_) rfl (by kernel_rfl) (by kernel_rfl) (by kernel_rfl) (fun _ _ _ h => h) (Or.inl ⟨by rfl, ?_⟩) (by assumption) ?_
                rotate_left 1
                · intro W hSw
                  try dsimp only at hSw
                  obtain ⟨hs1, hs2⟩ := hSw
                  go_simp
                  try with_reducible rfl
                try simp only [Act.put, List.setIfInBounds_toArray, List.set_cons_zero, List.set_cons_succ]
                refine wpAnyH_take (i := 1) (oi := ⟨_, _, _, _, _, _⟩) (v := ?_) rfl (by kernel_rfl) (by kernel_rfl) (by kernel_rfl) (fun _ _ _ h => h) (Or.inl ⟨by rfl, ?_⟩) (by assumption) ?_
                rotate_left 1
                · intro W hSw
                  try dsimp only at hSw
                  obtain ⟨hs1, hs2⟩ := hSw
                  go_simp
                  try with_reducible rfl
                try simp only [Act.put, List.setIfInBounds_toArray, List.set_cons_zero, List.set_cons_succ]
                refine wpAnyH_take (i := 2) (oi := ⟨_, _, _, _, _, _⟩) (v := ?_) rfl (by kernel_rfl) (by kernel_rfl) (by kernel_rfl) (fun _ _ _ h => h) (Or.inl ⟨by rfl, ?_⟩) (by assumption) ?_
                rotate_left 1
                · intro W hSw
                  try dsimp only at hSw
                  obtain ⟨hs1, hs2⟩ := hSw
                  go_simp
                  try with_reducible rfl
                try simp only [Act.put, List.setIfInBounds_toArray, List.set_cons_zero, List.set_cons_succ]
                refine wpAnyH_take (i := 3) (oi := ⟨_, _, _, _, _, _⟩) (v := ?_) rfl (by kernel_rfl) (by kernel_rfl) (by kernel_rfl) (fun _ _ _ h => h) (Or.inl ⟨by rfl, ?_⟩) (by assumption) ?_
                rotate_left 1
                · intro W hSw
                  try dsimp only at hSw
                  obtain ⟨hs1, hs2⟩ := hSw
                  go_simp
                  try with_reducible rfl
                try simp only [Act.put, List.setIfInBounds_toArray, List.set_cons_zero, List.set_cons_succ]
                refine wpAnyH_take (i := 4) (oi := ⟨_, _, _, _, _, _⟩) (v := .agg (hC y).toArray) rfl (by kernel_rfl) (by kernel_rfl) (by kernel_rfl) (fun _ _ _ h => h) (yieldsIf_load_mid (by rfl) 23 (.tmp 77) rfl ba (fa + k * 32) rfl (hC y) _ (fun W hS => hS.1) Tryd.underlying23 rfl (hszL y)) (by assumption) ?_
                try simp only [Act.put, List.setIfInBounds_toArray, List.set_cons_zero, List.set_cons_succ]
                refine wpAnyH_take (i := 5) (oi := ⟨_, _, _, _, _, _⟩) (v := ?_) rfl (by kernel_rfl) (by kernel_rfl) (by kernel_rfl) (fun _ _ _ h => h) (Or.inl ⟨by rfl, ?_⟩) (by assumption) ?_
                rotate_left 1
                · intro W hSw
                  try dsimp only at hSw
                  obtain ⟨hs1, hs2⟩ := hSw
                  go_simp
                  try with_reducible rfl
                try simp only [Act.put, List.setIfInBounds_toArray, List.set_cons_zero, List.set_cons_succ]
                refine wpAnyH_take (i := 6) (oi := ⟨_, _, _, _, _, _⟩) (v := ?_) rfl (by kernel_rfl) (by kernel_rfl) (by kernel_rfl) (fun _ _ _ h => h) (Or.inl ⟨by rfl, ?_⟩) (by assumption) ?_
                rotate_left 1
                · intro W hSw
                  try dsimp only at hSw
                  obtain ⟨hs1, hs2⟩ := hSw
                  go_simp
                  try with_reducible rfl
                try simp only [Act.put, List.setIfInBounds_toArray, List.set_cons_zero, List.set_cons_succ]
                refine wpAnyH_take (i := 7) (oi := ⟨_, _, _, _, _, _⟩) (v := ?_) rfl (by kernel_rfl) (by kernel_rfl) (by kernel_rfl) (fun _ _ _ h => h) (Or.inl ⟨by rfl, ?_⟩) (by assumption) ?_
                rotate_left 1
                · intro W hSw
                  try dsimp only at hSw
                  obtain ⟨hs1, hs2⟩ := hSw
                  go_simp
                  try with_reducible rfl
                try simp only [Act.put, List.setIfInBounds_toArray, List.set_cons_zero, List.set_cons_succ]
                refine wpAnyH_take (i := 8) (oi := ⟨_, _, _, _, _, _⟩) (v := .agg (hC x).toArray) rfl (by kernel_rfl) (by kernel_rfl) (by kernel_rfl) (fun _ _ _ h => h) (yieldsIf_load_mid (by rfl) 23 (.tmp 81) rfl ba (fa + i * 32) rfl (hC x) _ (fun W hS => hS.2) Tryd.underlying23 rfl (hszL x)) (by assumption) ?_
                try simp only [Act.put, List.setIfInBounds_toArray, List.set_cons_zero, List.set_cons_succ]
                refine wpAnyH_take (i := 10) (oi := ⟨_, _, _, _, _, _⟩) (v := ?_) rfl (by kernel_rfl) (by kernel_rfl) (by kernel_rfl) (fun _ _ _ h => h) (Or.inl ⟨by rfl, ?_⟩) (by assumption) ?_
                rotate_left 1
                · intro W hSw
                  try dsimp only at hSw
                  obtain ⟨hs1, hs2⟩ := hSw
                  go_simp
                  try with_reducible rfl
                try simp only [Act.put, List.setIfInBounds_toArray, List.set_cons_zero, List.set_cons_succ]
                refine wpAnyH_take (i := 11) (oi := ⟨_, _, _, _, _, _⟩) (v := ?_) rfl (by kernel_rfl) (by kernel_rfl) (by kernel_rfl) (fun _ _ _ h => h) (Or.inl ⟨by rfl, ?_⟩) (by assumption) ?_
                rotate_left 1
                · intro W hSw
                  try dsimp only at hSw
                  obtain ⟨hs1, hs2⟩ := hSw
                  go_simp
                  try with_reducible rfl
                try simp only [Act.put, List.setIfInBounds_toArray, List.set_cons_zero, List.set_cons_succ]
                refine wpAnyH_take (i := 12) (oi := ⟨_, _, _, _, _, _⟩) (v := ?_) rfl (by kernel_rfl) (by kernel_rfl) (by kernel_rfl) (fun _ _ _ h => h) (Or.inl ⟨by rfl, ?_⟩) (by assumption) ?_
                rotate_left 1
                · intro W hSw
                  try dsimp only at hSw
                  obtain ⟨hs1, hs2⟩ := hSw
                  go_simp
                  try with_reducible rfl
                try simp only [Act.put, List.setIfInBounds_toArray, List.set_cons_zero, List.set_cons_succ]
                refine wpAnyH_take (i := 13) (oi := ⟨_, _, _, _, _, _⟩) (v := ?_) rfl (by kernel_rfl) (by kernel_rfl) (by kernel_rfl) (fun _ _ _ h => h) (Or.inl ⟨by rfl, ?_⟩) (by assumption) ?_
                rotate_left 1
                · intro W hSw
                  try dsimp only at hSw
                  obtain ⟨hs1, hs2⟩ := hSw
                  go_simp
                  try with_reducible rfl
                try simp only [Act.put, List.setIfInBounds_toArray, List.set_cons_zero, List.set_cons_succ]
                refine wpAnyH_take (i := 14) (oi := ⟨_, _, _, _, _, _⟩) (v := .agg (hC y).toArray) rfl (by kernel_rfl) (by kernel_rfl) (by kernel_rfl) (fun _ _ _ h => h) (yieldsIf_load_mid (by rfl) 23 (.tmp 87) rfl ba (fa + k * 32) rfl (hC y) _ (fun W hS => hS.1) Tryd.underlying23 rfl (hszL y)) (by assumption) ?_
                try simp only [Act.put, List.setIfInBounds_toArray, List.set_cons_zero, List.set_cons_succ]
                refine wpAnyH_ready (rs := [9]) (by kernel_rfl) (by simp) ?_
                refine AllReadyH.cons rfl (fun K hK => ?_) AllReadyH.nil
                go_simp
                go_at_call 14
                refine (before_any _ w0 m G (HTwo.out _ Kr.out).g (HTwo.out _ Kr.out).i y x).mono ?_
                rw [HB.out]
                rintro e wa ⟨rfl, hbn⟩
                have Ka : Hid (Below w2.heap.size w2 wa) := nxTo Kr.out hbn
                have Ja : Hid (Below wd.heap.size wd wa) := Lib.hid hbn
                have Sa : Hid (SeesV wa wa.heap.size A7 (hsC P)) := (Sd.out.below hbn).more hbn.size
                clear hbn
                refine hK.out _ _ ⟨rngK RYd.out Ja.out HLd.out, rngK RXd.out Ja.out HLd.out⟩ (fun hSn => ?_)
                clear hK K
                try simp only [Act.put, List.setIfInBounds_toArray, List.set_cons_zero, List.set_cons_succ]
                refine wpAnyH_ready (rs := [15]) (by kernel_rfl) (by simp) ?_
                refine AllReadyH.cons rfl (fun K hK => ?_) AllReadyH.nil
                go_simp
                go_at_call 15
                refine (rin_any wa A7 P c7 y Sa.out (by have := HPl.out; omega)).mono ?_
                rw [HI.out]
                rintro e wb ⟨rfl, hbn⟩
                have Kb : Hid (Below w2.heap.size w2 wb) := nxTo Ka.out hbn
                have Jb : Hid (Below wd.heap.size wd wb) := nxTo Ja.out hbn
                clear hbn
                refine hK.out _ _ ⟨rngK RYd.out Jb.out HLd.out, rngK RXd.out Jb.out HLd.out⟩ (fun hSn => ?_)
                clear hK K
                try simp only [Act.put, List.setIfInBounds_toArray, List.set_cons_zero, List.set_cons_succ]
                refine wpAnyH_take (i := 16) (oi := ⟨_, _, _, _, _, _⟩) (v := .bool false) rfl (by kernel_rfl) (by kernel_rfl) (by kernel_rfl) (fun _ _ _ h => h) (Or.inl ⟨by rfl, ?_⟩) (by assumption) ?_
                · intro W hSw
                  try dsimp only at hSw
                  go_simp
                  try rfl
                try simp only [Act.put, List.setIfInBounds_toArray, List.set_cons_zero, List.set_cons_succ]
                refine wpAnyH_done (by kernel_rfl) ?_ _
                go_wp2
                go_roundw
                case rel => exact ⟨k + 1, by omega, by go_num, nxTo Jr.out Jb.out⟩
                case measure => simp [intOf] <;> omega
            · obtain rfl : k = nl := by omega
              go_wp2
              go_roundw
              case rel => exact ⟨i + 1, by omega, by go_num, nxTo J7.out HK7.out⟩
              case measure => simp [intOf] <;> omega
        · obtain rfl : i = nl := by omega
          have K2r : Hid (Below w2.heap.size w2 wr) := nxTo HK.out HK6.out
          have HSr : Hid (∀ W, Below w2.heap.size w2 W → SeesV W W.heap.size IA (hsC ids)) := fun W hW => (S2.out.below hW).more hW.size
          obtain ⟨P, hP⟩ : ∃ P, pastG G ids = P := ⟨_, rfl⟩
          have hpl : P.length ≤ 31 := by rw [← hP]; exact Nat.le_trans (past_le _ _) HG.out
          have HPe := Lib.hid hP
          have HPl := Lib.hid hpl
          have HPn : Hid (pastG G [] = []) := past_nil G
          clear hP hpl hlt
          go_wp2_with (first
            | (go_at_call 17; (with_reducible show Calls _ _ #[_, .slice IA ids.length ci] _ _); refine (past_any wr w0 m G (HTwo.out _ K2r.out).g (HTwo.out _ K2r.out).i IA ids ci (HSr.out _ K2r.out) (by omega) (HTab.out _ K2r.out)).mono ?_; unfold ListPost; rw [HPe.out]; rintro e w8 ⟨A8, c8, rfl, ho8, hb8⟩; have S8 : Hid (SeesV w8 w8.heap.size A8 (hsC P)) := SeesV.own ho8; have K8 : Hid (Below w2.heap.size w2 w8) := nxTo K2r.out hb8; clear ho8 hb8)
            | (go_at_call 13; refine (rpast_any w8 w0 r G (HTwo.out _ K8.out).d (HTwo.out _ K8.out).rel HOk.out IA ids ci (HSr.out _ K8.out) (by omega) (by have := HG.out; omega)).mono ?_; unfold ListPost; rw [HPe.out]; rintro e w9 ⟨A9, c9, rfl, ho9, hb9⟩; have S9 : Hid (SeesV w9 w9.heap.size A9 (hsC P)) := SeesV.own ho9; have T9 : Hid (SeesV w9 w9.heap.size A8 (hsC P)) := (S8.out.below hb9).more hb9.size; have K9 : Hid (Below w2.heap.size w2 w9) := nxTo K8.out hb9; clear ho9 hb9)
            | (go_at_call 16; refine (requal_any w9 A8 A9 P P c8 c9 T9.out S9.out (by have := HPl.out; omega)).mono ?_; rw [show decide (P = P) = true from decide_eq_true rfl]; rintro e w10 ⟨rfl, hb10⟩; have K10 : Hid (Below w2.heap.size w2 w10) := nxTo K9.out hb10; clear hb10)
            | (go_at_call 17; (with_reducible show Calls _ _ #[_, .slice none 0 0] _ _); refine (past_any w10 w0 m G (HTwo.out _ K10.out).g (HTwo.out _ K10.out).i none [] 0 (.inl rfl) (by simp) (HTab.out _ K10.out)).mono ?_; unfold ListPost; rw [HPn.out]; rintro e w11 ⟨A11, c11, rfl, ho11, hb11⟩; have K11 : Hid (Below w2.heap.size w2 w11) := nxTo K10.out hb11; clear ho11 hb11)
            | (go_at_call 9; refine (known_any _).mono ?_; rintro e w12 ⟨rfl, hb12⟩; have K12 : Hid (Below w2.heap.size w2 w12) := nxTo K11.out hb12; clear hb12))
          go_ret
          exact ⟨rfl, nxTo V2.out K12.out⟩
end Go.Proofs.YtndkjmmmneianaaDoor
