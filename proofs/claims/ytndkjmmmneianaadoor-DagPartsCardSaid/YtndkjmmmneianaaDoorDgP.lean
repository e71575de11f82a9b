/-
  dag: DagParts' law.
-/
import Derived.Test.YtndkjmmmneianaaDoorDgZ
import Derived.Deep.CutRange
namespace Go.Proofs.YtndkjmmmneianaaDoor
open Go.RowKit Go.Shelf

theorem own_one {w : World} {g base : Nat} {h : Hh} (hb : Blk w g 23 (hC h).toArray) (hg : base ≤ g) : w.ownsRow base 23 32 (.slice (some ⟨g, 0, none⟩) 1 1) 1 (hC h) :=
  ⟨by rw [hC_len], .inr ⟨g, 1, (hC h).toArray, rfl, hg, hb, Nat.le_refl _, by decide, by rw [List.size_toArray, hC_len], by rw [List.take_of_length_le (by rw [hC_len]; exact Nat.le_refl _)]⟩⟩
theorem bef_self {G : Gr} (o : OkG G) (h : Hh) : befB G h h = false := by
  unfold befB
  cases hp : placeG G h with
  | none => rfl
  | some n => exact @decide_eq_false _ (Classical.propDecidable _) (fun k => absurd (k.lt o) (Nat.lt_irrefl _))
theorem past_pl {G : Gr} (o : OkG G) {x h : Hh} (k : x ∈ pastG G [h]) : ∃ a n, placeG G x = some a ∧ placeG G h = some n ∧ Anc G a n := by
  unfold pastG at k
  obtain ⟨a, ha, ⟨z, hz, n, hn, hA⟩, hx⟩ := mem_ansG.1 k
  rw [List.mem_singleton] at hz
  subst hz
  exact ⟨a, n, by rw [← hx]; exact placeG_id o ha, hn, hA⟩
theorem bef_yes {G : Gr} {x h : Hh} {a n : Nat} (hx : placeG G x = some a) (hh : placeG G h = some n) (k : Anc G a n) : befB G x h = true := by
  unfold befB
  rw [hx, hh]
  exact @decide_eq_true _ (Classical.propDecidable _) k
theorem bef_no {G : Gr} (o : OkG G) {x h : Hh} {a n : Nat} (hx : placeG G x = some a) (hh : placeG G h = some n) (k : Anc G a n) : befB G h x = false := by
  unfold befB
  rw [hx, hh]
  exact @decide_eq_false _ (Classical.propDecidable _) (fun e => by have := e.lt o; have := k.lt o; omega)
theorem past_len (G : Gr) (ids : List Hh) : (pastG G ids).length ≤ G.length := by
  unfold pastG ansG
  refine Nat.le_trans (risH_le _) ?_
  rw [List.length_map]
  refine Nat.le_trans (List.length_filter_le _ _) ?_
  simp
theorem past_bef {G : Gr} (o : OkG G) {x h : Hh} (k : x ∈ pastG G [h]) : befB G x h = true ∧ befB G h x = false := by
  obtain ⟨a, n, h1, h2, h3⟩ := past_pl o k
  exact ⟨bef_yes h1 h2 h3, bef_no o h1 h2 h3⟩
theorem past_bef2 {G : Gr} (o : OkG G) {x y h : Hh} (k : x ∈ pastG G [h]) (k2 : y ∈ pastG G [x]) : befB G y h = true := by
  obtain ⟨a, n, h1, h2, h3⟩ := past_pl o k
  obtain ⟨b, c, g1, g2, g3⟩ := past_pl o k2
  rw [h1] at g2
  cases g2
  exact bef_yes g1 h2 (g3.trans h3)
set_option maxRecDepth 100000 in
set_option maxHeartbeats 8000000 in
theorem dagParts_any (w : World) (hT : TabAt 0 Lib.deBruijn64tab w) (root : Hh) (SA : Option Addr) (l : List RNd) (c : Nat) (hS : SeesV w w.heap.size SA (rnsC l)) (hE : ∀ x ∈ l, SeesV w w.heap.size x.A (hsC x.ps)) (hl : l.length ≤ 9223372036854775807) :
    Calls Tryd.prog 5 #[.agg (hC root).toArray, .slice SA l.length c] w fun e w' => e = .returned (.bool true) ∧ Below w.heap.size w w' := by
  have e0 : (#[.int .u8 0, .int .u8 0, .int .u8 0, .int .u8 0, .int .u8 0, .int .u8 0, .int .u8 0, .int .u8 0, .int .u8 0, .int .u8 0, .int .u8 0, .int .u8 0, .int .u8 0, .int .u8 0, .int .u8 0, .int .u8 0, .int .u8 0, .int .u8 0, .int .u8 0, .int .u8 0, .int .u8 0, .int .u8 0, .int .u8 0, .int .u8 0, .int .u8 0, .int .u8 0, .int .u8 0, .int .u8 0, .int .u8 0, .int .u8 0, .int .u8 0, .int .u8 0] : Array Value) = (hC zH).toArray := rfl
  have B0 : Hid (Blk (w.alloc (.cells (hC root).toArray 23)) w.heap.size 23 (hC root).toArray) := heap_alloc_new w _
  have V0 : Hid (Below w.heap.size w (w.alloc (.cells (hC root).toArray 23))) := nxAlloc (nxRefl w) _
  have h0w : 0 < w.heap.size := World.block_lt_of_cell? _ _ (hT 0 (by decide))
  have H0w := Lib.hid h0w
  have HT0 := Lib.hid hT
  have HS0 := Lib.hid hS
  have HE0 := Lib.hid hE
  have hfw := few_any (w.alloc (.cells (hC root).toArray 23)) SA l c 30 ((hS.below V0.out).more V0.out.size) hl (by omega)
  clear hT hS hE h0w hl
  obtain ⟨i0, hi0, hz0, hs0, hy0⟩ := info_parts Tryd.dinfoH
  cases hf : fewB l 30 with
  | false =>
    rw [hf] at hfw
    have HF := Lib.hid hfw
    clear hfw hf
    go_enter Tryd.func5, Tryd.ntmps5
    go_wp2_with (first
      | (go_at_call 8; refine HF.out.mono ?_; rintro e w1 ⟨rfl, hw1⟩; obtain rfl := hw1.symm)
      | (go_at_call 9; refine (known_any _).mono ?_; rintro e w4 ⟨rfl, hb4⟩; have K4 : Hid (Below w.heap.size w w4) := nxTo V0.out hb4; clear hb4))
    go_ret
    exact ⟨rfl, K4.out⟩
  | true =>
    obtain ⟨hl30, hp8⟩ := few_le hf
    rw [hf] at hfw
    have HF := Lib.hid hfw
    have hbg := begin_any (w.alloc (.cells (hC root).toArray 23)) root SA l c ((HS0.out.below V0.out).more V0.out.size) (fun x hx => ((HE0.out x hx).below V0.out).more V0.out.size) (by omega) hp8
    have HBg := Lib.hid hbg
    have hgl : (runG root l).length ≤ 31 := by have := runG_len root l; omega
    obtain ⟨G, hG⟩ : ∃ G, runG root l = G := ⟨_, rfl⟩
    rw [hG] at hgl HBg
    have HGl := Lib.hid hgl
    clear hfw hf hbg hG hp8 hl30 hgl
    obtain ⟨w0, hw0⟩ : ∃ n, (w.alloc (.cells (hC root).toArray 23)).heap.size = n := ⟨_, rfl⟩
    rw [hw0] at HBg
    have HW0 : Hid (w.heap.size ≤ w0) := by show _ ≤ _; rw [← hw0]; exact V0.out.size
    have hb0 := HBg.out
    rw [← hw0] at hb0
    go_enter Tryd.func5, Tryd.ntmps5
    go_wp2_with (first
      | (go_at_call 8; refine HF.out.mono ?_; rintro e w1 ⟨rfl, hw1⟩; obtain rfl := hw1.symm)
      | ((with_reducible show wpList _ _ _ (⟨some 20, _, _, _, _, _⟩ :: _) _ _); refine wpList_load_mid rfl 23 (.tmp 2) rfl w.heap.size 0 rfl (hC root) _ (kb_range B0.out) Tryd.underlying23 rfl (hszL root) ?_)
      | (go_at_call 10; refine HBg.out.mono ?_; rintro e w2 ⟨m, r, rfl, ht2, hb2⟩; have HT2 := Lib.hid ht2; have V2 : Hid (Below w.heap.size w w2) := nxTo V0.out (by rw [hw0]; exact hb2); clear ht2 hb2))
    clear hb0 hw0 HBg HF
    go_loopw [8] (fun iv wr => ∃ i : Nat, i ≤ G.length ∧ iv = .int .i64 i ∧ Hid (Below w2.heap.size w2 wr)) (fun iv _ => G.length - (intOf iv).toNat)
    case atStart => exact ⟨0, by omega, rfl, nxRefl w2⟩
    case round =>
      obtain ⟨i, hi, rfl, HK⟩ := hrel
      have HTr : Hid (Two wr w0 m G r) := HT2.out.later HK.out
      have hrl := HTr.out.rel.len
      have hcr : wr.cell? ⟨r.q, 0, none⟩ = some (.slice r.A G.length r.c) := by rw [← hrl]; exact HTr.out.d.b.cell 0
      by_cases hlt : i < G.length
      · have hlr : i < r.l.length := by rw [hrl]; exact hlt
        obtain ⟨b1, f1, hA1, hb1, hr1⟩ := sees_node HTr.out.d.s hlr
        rw [hA1] at hcr
        have r1 := node_id (hr1 i hlr)
        rw [(HTr.out.rel.at_ hlr).1] at r1
        have hparts := parts_all HTr.out.i.ok hlt
        obtain ⟨h, hh⟩ : ∃ x, idG G i = x := ⟨_, rfl⟩
        rw [hh] at r1 hparts
        obtain ⟨P, hP⟩ : ∃ P, pastG G [h] = P := ⟨_, rfl⟩
        obtain ⟨F, hF⟩ : ∃ P, futG G h = P := ⟨_, rfl⟩
        obtain ⟨An, hAn⟩ : ∃ P, antG G h = P := ⟨_, rfl⟩
        rw [hP, hF, hAn] at hparts
        have HPe := Lib.hid hP
        have HFe : Hid (srtH (((List.range G.length).filter (futB G (placeG G h).isSome (plE G h))).map (idG G)) = F) := hF
        have HAe : Hid (srtH (((List.range G.length).filter (antB G (placeG G h).isSome (plE G h))).map (idG G)) = An) := hAn
        have HPt := Lib.hid hparts
        have HR1 := Lib.hid r1
        have hgl9 := HGl.out
        have hpl : 1 + (P.length + (F.length + An.length)) = G.length := by have := hparts.2; simp only [List.length_cons, List.length_append] at this; omega
        have hin : (i : Int) < (G.length : Int) := by omega
        clear hr1 r1 hparts hP hF hAn hb1 hA1 hrl hlr hh
        go_wp2_with (first
          | ((with_reducible show wpList _ _ _ (⟨some 44, _, _, _, _, _⟩ :: _) _ _); refine wpList_load_mid rfl 23 (.tmp 43) rfl b1 (f1 + i * 33) rfl (hC h) _ HR1.out Tryd.underlying23 rfl (hszL h) ?_)
          | ((with_reducible show wpList _ _ _ (⟨none, .store 23 (.tmp 9) _, _, _, _, _⟩ :: _) _ _); refine wpList_store_all rfl 23 (.tmp 9) (.tmp 44) rfl wr.heap.size 23 (hC zH).toArray (hC h).toArray rfl rfl (blkNew rfl rfl) (by rw [List.size_toArray, List.size_toArray, hC_len, hC_len]) (hszB h) (hC_one h) ?_; intro w5 h5 h6 h7; have X5 := Lib.hid h5; have K5 : Hid (Below wr.heap.size wr w5) := (nxAlloc (nxRefl wr) _).trans (h6.below (nxAlloc (nxRefl wr) (.cells (hC zH).toArray 23)).size (fun j hj e => by omega)); clear h5 h6 h7))
        obtain ⟨p9, hp9⟩ : ∃ p, wr.heap.size = p := ⟨_, rfl⟩
        have X9 : Hid (Blk w5 p9 23 (hC h).toArray) := by rw [← hp9]; exact X5.out
        have KW : Hid (Below w2.heap.size w2 w5) := nxTo HK.out K5.out
        rw [hp9]
        clear hp9 X5 K5 hcr HR1
        simp only [Act.put]
        go_cut [10] from 45 to 126 (fun a wx => ∃ A10 c10, a = .slice A10 (1 + P.length + F.length + An.length) c10 ∧ Hid (SeesV wx wx.heap.size A10 (hC h ++ hsC P ++ hsC F ++ hsC An)) ∧ Hid (Below w2.heap.size w2 wx) ∧ Hid (Below w5.heap.size w5 wx))
        case first =>
          have RR : Hid (w5.drew.rangeAt p9 0 (hC h)) := kb_range X9.out
          have HLw : Hid (p9 < w5.drew.heap.size) := X9.out.lt
          replace KW : Hid (Below w2.heap.size w2 w5.drew) := nxDrT KW.out
          have KW5 : Hid (Below w5.heap.size w5 w5.drew) := nxDrT (nxRefl w5)
          have HT : Hid (Two w5.drew w0 m G r) := HT2.out.later KW.out
          have HTd : Hid (TabAt 0 Lib.deBruijn64tab w5.drew) := tab_below (tab_below HT0.out V2.out H0w.out) KW.out (Nat.lt_of_lt_of_le H0w.out V2.out.size)
          have H0d : Hid (0 < w5.drew.heap.size) := Nat.lt_of_lt_of_le H0w.out (Nat.le_trans V2.out.size KW.out.size)
          refine wp_region_K (fun W => W.rangeAt p9 0 (hC h)) 15 (by kernel_rfl) RR.out (fun hSn => ?_)
          generalize w5.drew = wd at *
          have KD : Hid (Below wd.heap.size wd wd) := nxRefl wd
          refine wpAnyK_chain (i := 0) [15] (oi := ⟨_, _, _, _, _, _⟩) (v := .agg (hC h).toArray) rfl (by kernel_rfl) (by kernel_rfl) (by kernel_rfl) rfl (by kernel_rfl) (by kernel_rfl) (by kernel_rfl) (fun _ _ _ h => h) (yieldsIf_load_mid (by rfl) 23 (.tmp 9) rfl p9 0 rfl (hC h) _ (fun W h => h) Tryd.underlying23 rfl (hszL h)) hSn ?_
          replace hSn := (KT.set (i := 0) (by decide)).2 hSn
          try simp only [Act.put, List.setIfInBounds_toArray, List.set_cons_zero, List.set_cons_succ]
          refine wpAnyK_pure (i := 2) (oi := ⟨_, _, _, _, _, _⟩) (v := ?_) rfl (by kernel_rfl) (by kernel_rfl) (by kernel_rfl) rfl (fun _ _ _ h => h) (Or.inl ⟨by rfl, ?_⟩) hSn ?_
          rotate_left 1
          · intro W hSw
            go_simp
            try with_reducible rfl
          replace hSn := (KT.set (i := 2) (by decide)).2 hSn
          try simp only [Act.put, List.setIfInBounds_toArray, List.set_cons_zero, List.set_cons_succ]
          refine wpAnyK_chain (i := 3) [15] (oi := ⟨_, _, _, _, _, _⟩) (v := .agg (hC h).toArray) rfl (by kernel_rfl) (by kernel_rfl) (by kernel_rfl) rfl (by kernel_rfl) (by kernel_rfl) (by kernel_rfl) (fun _ _ _ h => h) (yieldsIf_load_mid (by rfl) 23 (.tmp 9) rfl p9 0 rfl (hC h) _ (fun W h => h) Tryd.underlying23 rfl (hszL h)) hSn ?_
          replace hSn := (KT.set (i := 3) (by decide)).2 hSn
          try simp only [Act.put, List.setIfInBounds_toArray, List.set_cons_zero, List.set_cons_succ]
          refine wpAnyK_pure (i := 7) (oi := ⟨_, _, _, _, _, _⟩) (v := ?_) rfl (by kernel_rfl) (by kernel_rfl) (by kernel_rfl) rfl (fun _ _ _ h => h) (Or.inl ⟨by rfl, ?_⟩) hSn ?_
          rotate_left 1
          · intro W hSw
            go_simp
            try with_reducible rfl
          replace hSn := (KT.set (i := 7) (by decide)).2 hSn
          try simp only [Act.put, List.setIfInBounds_toArray, List.set_cons_zero, List.set_cons_succ]
          refine wpAnyK_chain (i := 8) [15] (oi := ⟨_, _, _, _, _, _⟩) (v := .agg (hC h).toArray) rfl (by kernel_rfl) (by kernel_rfl) (by kernel_rfl) rfl (by kernel_rfl) (by kernel_rfl) (by kernel_rfl) (fun _ _ _ h => h) (yieldsIf_load_mid (by rfl) 23 (.tmp 9) rfl p9 0 rfl (hC h) _ (fun W h => h) Tryd.underlying23 rfl (hszL h)) hSn ?_
          replace hSn := (KT.set (i := 8) (by decide)).2 hSn
          try simp only [Act.put, List.setIfInBounds_toArray, List.set_cons_zero, List.set_cons_succ]
          refine wpAnyK_pure (i := 11) (oi := ⟨_, _, _, _, _, _⟩) (v := ?_) rfl (by kernel_rfl) (by kernel_rfl) (by kernel_rfl) rfl (fun _ _ _ h => h) (Or.inl ⟨by rfl, ?_⟩) hSn ?_
          rotate_left 1
          · intro W hSw
            go_simp
            try with_reducible rfl
          replace hSn := (KT.set (i := 11) (by decide)).2 hSn
          try simp only [Act.put, List.setIfInBounds_toArray, List.set_cons_zero, List.set_cons_succ]
          refine wpAnyK_chain (i := 12) [15] (oi := ⟨_, _, _, _, _, _⟩) (v := .agg (hC h).toArray) rfl (by kernel_rfl) (by kernel_rfl) (by kernel_rfl) rfl (by kernel_rfl) (by kernel_rfl) (by kernel_rfl) (fun _ _ _ h => h) (yieldsIf_load_mid (by rfl) 23 (.tmp 9) rfl p9 0 rfl (hC h) _ (fun W h => h) Tryd.underlying23 rfl (hszL h)) hSn ?_
          replace hSn := (KT.set (i := 12) (by decide)).2 hSn
          try simp only [Act.put, List.setIfInBounds_toArray, List.set_cons_zero, List.set_cons_succ]
          clear hSn
          refine wpAnyK_ready (rs := [1, 4]) (by kernel_rfl) (by simp) ?_
          refine (AllReadyK.cons rfl (fun K hK => ?_) (AllReadyK.cons rfl (fun K hK => ?_) AllReadyK.nil))
          · skip
            refine step_build1 (o := ⟨some 46, _, _, _, _, _⟩) rfl 34 23 (.tmp 45) rfl (hC h) _ 32 32 Tryd.underlying34 Tryd.dinfoH (by decide) (by decide) (hC_len h) rfl ?_
            have J1 : Hid (Below wd.heap.size wd (wd.alloc (.cells (hC h).toArray 23))) := nxAlloc (nxRefl _) _
            have K1 : Hid (Below wd.heap.size wd (wd.alloc (.cells (hC h).toArray 23))) := J1.out
            have O1 : Hid ((wd.alloc (.cells (hC h).toArray 23)).ownsRow wd.heap.size 23 32 (.slice (some ⟨wd.heap.size, 0, none⟩) 1 1) 1 (hC h)) := own_one (by first | exact heap_alloc_new _ _ | exact blkNew (by simp) rfl) (by have := KD.out.size; (try simp only [World.size_alloc] at this); omega)
            refine hK.out _ _ (fun _ => (rngK RR.out K1.out HLw.out)) (fun hSn => ?_)
            clear hK K
            try simp only [Act.put, List.setIfInBounds_toArray, List.set_cons_zero, List.set_cons_succ]
            clear hSn
            refine wpAnyK_ready (rs := [4]) (by kernel_rfl) (by simp) ?_
            refine (AllReadyK.cons rfl (fun K hK => ?_) AllReadyK.nil)
            refine step_build1 (o := ⟨some 49, _, _, _, _, _⟩) rfl 34 23 (.tmp 48) rfl (hC h) _ 32 32 Tryd.underlying34 Tryd.dinfoH (by decide) (by decide) (hC_len h) rfl ?_
            have J1_4 : Hid (Below (wd.alloc (.cells (hC h).toArray 23)).heap.size (wd.alloc (.cells (hC h).toArray 23)) ((wd.alloc (.cells (hC h).toArray 23)).alloc (.cells (hC h).toArray 23))) := nxAlloc (nxRefl _) _
            have K1_4 : Hid (Below wd.heap.size wd ((wd.alloc (.cells (hC h).toArray 23)).alloc (.cells (hC h).toArray 23))) := nxTo K1.out J1_4.out
            have O1_4 : Hid (((wd.alloc (.cells (hC h).toArray 23)).alloc (.cells (hC h).toArray 23)).ownsRow wd.heap.size 23 32 (.slice (some ⟨wd.heap.size, 0, none⟩) 1 1) 1 (hC h)) := own_below O1.out J1_4.out (fun g hg => (own_lt O1.out g hg).2)
            have B1_4 : Hid (Blk ((wd.alloc (.cells (hC h).toArray 23)).alloc (.cells (hC h).toArray 23)) (wd.heap.size + 1) 23 (hC h).toArray) := (by first | exact heap_alloc_new _ _ | exact blkNew (by simp) rfl)
            refine hK.out _ _ (fun _ => (rngK RR.out K1_4.out HLw.out)) (fun hSn => ?_)
            clear hK K
            try simp only [Act.put, List.setIfInBounds_toArray, List.set_cons_zero, List.set_cons_succ]
            clear hSn
            refine wpAnyK_ready (rs := [5]) (by kernel_rfl) (by simp) ?_
            refine (AllReadyK.cons rfl (fun K hK => ?_) AllReadyK.nil)
            go_simp
            go_at_call 17
            refine (past_any ((wd.alloc (.cells (hC h).toArray 23)).alloc (.cells (hC h).toArray 23)) w0 m G (HT.out.g.later K1_4.out) HT.out.i (some ⟨(wd.heap.size + 1), 0, none⟩) [h] 1 (by rw [hsC_1]; exact SeesV.blk B1_4.out) (by simp) (tab_below HTd.out K1_4.out H0d.out)).mono ?_
            unfold ListPost
            rw [HPe.out]
            rintro e w6 ⟨A6, c6, rfl, ho6, hb6⟩
            have S6 : Hid (SeesV w6 w6.heap.size A6 (hsC P)) := SeesV.own ho6
            have J1_4_5 : Hid (Below ((wd.alloc (.cells (hC h).toArray 23)).alloc (.cells (hC h).toArray 23)).heap.size ((wd.alloc (.cells (hC h).toArray 23)).alloc (.cells (hC h).toArray 23)) w6) := hb6
            have K1_4_5 : Hid (Below wd.heap.size wd w6) := nxTo K1_4.out J1_4_5.out
            have O1_4_5 : Hid (w6.ownsRow wd.heap.size 23 32 (.slice (some ⟨wd.heap.size, 0, none⟩) 1 1) 1 (hC h)) := own_below O1_4.out J1_4_5.out (fun g hg => (own_lt O1_4.out g hg).2)
            clear ho6 hb6
            refine hK.out _ _ (fun _ => (rngK RR.out K1_4_5.out HLw.out)) (fun hSn => ?_)
            clear hK K
            try simp only [Act.put, List.setIfInBounds_toArray, List.set_cons_zero, List.set_cons_succ]
            clear hSn
            refine wpAnyK_ready (rs := [6]) (by kernel_rfl) (by simp) ?_
            refine (AllReadyK.cons rfl (fun K hK => ?_) AllReadyK.nil)
            refine step_append_seesV (o := ⟨some 51, _, _, _, _, _⟩) rfl (.tmp 46) (.tmp 50) 34 rfl wd.heap.size 23 i0 _ 32 32 Tryd.underlying34 hi0 hz0 hs0 hy0 rfl (by decide) (.slice (some ⟨wd.heap.size, 0, none⟩) 1 1) 1 (hC h) rfl O1_4_5.out w6.heap.size A6 P.length c6 (hsC P) rfl (by rw [hsC_len]) S6.out (hsC_one _) (by omega) (by omega) K1_4_5.out.size ?_
            intro v9 w51 ho9 hg9 ha9
            obtain ⟨A51, c51, rfl⟩ := own_form ho9
            have O51 := Lib.hid ho9
            have K51' : Hid (Below wd.heap.size wd w51) := K1_4_5.out.grown hg9 K1_4_5.out.size (fun j hj => (own_lt O1_4_5.out j hj).1)
            have K1_4_5_6 : Hid (Below wd.heap.size wd w51) := K51'
            clear ho9 hg9 ha9
            refine hK.out _ _ (fun _ => (rngK RR.out K1_4_5_6.out HLw.out)) (fun hSn => ?_)
            clear hK K
            try simp only [Act.put, List.setIfInBounds_toArray, List.set_cons_zero, List.set_cons_succ]
            clear hSn
            refine wpAnyK_ready (rs := [9]) (by kernel_rfl) (by simp) ?_
            refine (AllReadyK.cons rfl (fun K hK => ?_) AllReadyK.nil)
            go_simp
            go_at_call 18
            refine (fut_any w51 w0 m G (HT.out.g.later K1_4_5_6.out) HT.out.i h).mono ?_
            unfold ListPost
            rw [HFe.out]
            rintro e w54 ⟨A54, c54, rfl, ho6, hb6⟩
            have S54 : Hid (SeesV w54 w54.heap.size A54 (hsC F)) := SeesV.own ho6
            have J1_4_5_6_9 : Hid (Below w51.heap.size w51 w54) := hb6
            have K1_4_5_6_9 : Hid (Below wd.heap.size wd w54) := nxTo K1_4_5_6.out J1_4_5_6_9.out
            have O1054 : Hid (w54.ownsRow wd.heap.size 23 32 (.slice A51 (1 + P.length) c51) (1 + P.length) (hC h ++ hsC P)) := own_below O51.out hb6 (fun g hg => (own_lt O51.out g hg).2)
            clear ho6 hb6
            refine hK.out _ _ (fun _ => (rngK RR.out K1_4_5_6_9.out HLw.out)) (fun hSn => ?_)
            clear hK K
            try simp only [Act.put, List.setIfInBounds_toArray, List.set_cons_zero, List.set_cons_succ]
            clear hSn
            refine wpAnyK_ready (rs := [10]) (by kernel_rfl) (by simp) ?_
            refine (AllReadyK.cons rfl (fun K hK => ?_) AllReadyK.nil)
            refine step_append_seesV (o := ⟨some 55, _, _, _, _, _⟩) rfl (.tmp 51) (.tmp 54) 34 rfl wd.heap.size 23 i0 _ 32 32 Tryd.underlying34 hi0 hz0 hs0 hy0 rfl (by decide) (.slice A51 (1 + P.length) c51) (1 + P.length) (hC h ++ hsC P) rfl O1054.out w54.heap.size A54 F.length c54 (hsC F) rfl (by rw [hsC_len]) S54.out (hsC_one _) (by omega) (by omega) K1_4_5_6_9.out.size ?_
            intro v9 w55 ho9 hg9 ha9
            obtain ⟨A55, c55, rfl⟩ := own_form ho9
            have O55 := Lib.hid ho9
            have K55' : Hid (Below wd.heap.size wd w55) := K1_4_5_6_9.out.grown hg9 K1_4_5_6_9.out.size (fun j hj => (own_lt O1054.out j hj).1)
            have K1_4_5_6_9_10 : Hid (Below wd.heap.size wd w55) := K55'
            clear ho9 hg9 ha9
            refine hK.out _ _ (fun _ => (rngK RR.out K1_4_5_6_9_10.out HLw.out)) (fun hSn => ?_)
            clear hK K
            try simp only [Act.put, List.setIfInBounds_toArray, List.set_cons_zero, List.set_cons_succ]
            clear hSn
            refine wpAnyK_ready (rs := [13]) (by kernel_rfl) (by simp) ?_
            refine (AllReadyK.cons rfl (fun K hK => ?_) AllReadyK.nil)
            go_simp
            go_at_call 19
            refine (anti_any w55 w0 m G (HT.out.g.later K1_4_5_6_9_10.out) HT.out.i h).mono ?_
            unfold ListPost
            rw [HAe.out]
            rintro e w58 ⟨A58, c58, rfl, ho6, hb6⟩
            have S58 : Hid (SeesV w58 w58.heap.size A58 (hsC An)) := SeesV.own ho6
            have J1_4_5_6_9_10_13 : Hid (Below w55.heap.size w55 w58) := hb6
            have K1_4_5_6_9_10_13 : Hid (Below wd.heap.size wd w58) := nxTo K1_4_5_6_9_10.out J1_4_5_6_9_10_13.out
            have O1058 : Hid (w58.ownsRow wd.heap.size 23 32 (.slice A55 (1 + P.length + F.length) c55) (1 + P.length + F.length) (hC h ++ hsC P ++ hsC F)) := own_below O55.out hb6 (fun g hg => (own_lt O55.out g hg).2)
            clear ho6 hb6
            refine hK.out _ _ (fun _ => (rngK RR.out K1_4_5_6_9_10_13.out HLw.out)) (fun hSn => ?_)
            clear hK K
            try simp only [Act.put, List.setIfInBounds_toArray, List.set_cons_zero, List.set_cons_succ]
            clear hSn
            refine wpAnyK_ready (rs := [14]) (by kernel_rfl) (by simp) ?_
            refine (AllReadyK.cons rfl (fun K hK => ?_) AllReadyK.nil)
            refine step_append_seesV (o := ⟨some 59, _, _, _, _, _⟩) rfl (.tmp 55) (.tmp 58) 34 rfl wd.heap.size 23 i0 _ 32 32 Tryd.underlying34 hi0 hz0 hs0 hy0 rfl (by decide) (.slice A55 (1 + P.length + F.length) c55) (1 + P.length + F.length) (hC h ++ hsC P ++ hsC F) rfl O1058.out w58.heap.size A58 An.length c58 (hsC An) rfl (by rw [hsC_len]) S58.out (hsC_one _) (by omega) (by omega) K1_4_5_6_9_10_13.out.size ?_
            intro v9 w59 ho9 hg9 ha9
            obtain ⟨A59, c59, rfl⟩ := own_form ho9
            have O59 := Lib.hid ho9
            have K59' : Hid (Below wd.heap.size wd w59) := K1_4_5_6_9_10_13.out.grown hg9 K1_4_5_6_9_10_13.out.size (fun j hj => (own_lt O1058.out j hj).1)
            have K1_4_5_6_9_10_13_14 : Hid (Below wd.heap.size wd w59) := K59'
            clear ho9 hg9 ha9
            refine hK.out _ _ (fun _ => (rngK RR.out K1_4_5_6_9_10_13_14.out HLw.out)) (fun hSn => ?_)
            clear hK K
            try simp only [Act.put, List.setIfInBounds_toArray, List.set_cons_zero, List.set_cons_succ]
            clear hSn
            refine wpAnyK_ready (rs := [15]) (by kernel_rfl) (by simp) ?_
            refine (AllReadyK.cons rfl (fun K hK => ?_) AllReadyK.nil)
            go_simp
            skip
            refine hK.out _ _ (fun h => absurd h (by decide +kernel)) (fun hSn => ?_)
            clear hK K
            try simp only [Act.put, List.setIfInBounds_toArray, List.set_cons_zero, List.set_cons_succ]
            refine wpAnyK_done (by kernel_rfl) ?_ _
            go_wp2_with fail
            go_meet
            have h9 := SeesV.own O59.out
            exact ⟨A59, c59, rfl, h9, KW.out.trans (K1_4_5_6_9_10_13_14.out.mono KW.out.size), KW5.out.trans (K1_4_5_6_9_10_13_14.out.mono KW5.out.size)⟩
          · skip
            refine step_build1 (o := ⟨some 49, _, _, _, _, _⟩) rfl 34 23 (.tmp 48) rfl (hC h) _ 32 32 Tryd.underlying34 Tryd.dinfoH (by decide) (by decide) (hC_len h) rfl ?_
            have J4 : Hid (Below wd.heap.size wd (wd.alloc (.cells (hC h).toArray 23))) := nxAlloc (nxRefl _) _
            have K4 : Hid (Below wd.heap.size wd (wd.alloc (.cells (hC h).toArray 23))) := J4.out
            have B4 : Hid (Blk (wd.alloc (.cells (hC h).toArray 23)) wd.heap.size 23 (hC h).toArray) := (by first | exact heap_alloc_new _ _ | exact blkNew (by simp) rfl)
            refine hK.out _ _ (fun _ => (rngK RR.out K4.out HLw.out)) (fun hSn => ?_)
            clear hK K
            try simp only [Act.put, List.setIfInBounds_toArray, List.set_cons_zero, List.set_cons_succ]
            clear hSn
            refine wpAnyK_ready (rs := [1, 5]) (by kernel_rfl) (by simp) ?_
            refine (AllReadyK.cons rfl (fun K hK => ?_) (AllReadyK.cons rfl (fun K hK => ?_) AllReadyK.nil))
            · skip
              refine step_build1 (o := ⟨some 46, _, _, _, _, _⟩) rfl 34 23 (.tmp 45) rfl (hC h) _ 32 32 Tryd.underlying34 Tryd.dinfoH (by decide) (by decide) (hC_len h) rfl ?_
              have J4_1 : Hid (Below (wd.alloc (.cells (hC h).toArray 23)).heap.size (wd.alloc (.cells (hC h).toArray 23)) ((wd.alloc (.cells (hC h).toArray 23)).alloc (.cells (hC h).toArray 23))) := nxAlloc (nxRefl _) _
              have K4_1 : Hid (Below wd.heap.size wd ((wd.alloc (.cells (hC h).toArray 23)).alloc (.cells (hC h).toArray 23))) := nxTo K4.out J4_1.out
              have O4_1 : Hid (((wd.alloc (.cells (hC h).toArray 23)).alloc (.cells (hC h).toArray 23)).ownsRow wd.heap.size 23 32 (.slice (some ⟨(wd.heap.size + 1), 0, none⟩) 1 1) 1 (hC h)) := own_one (by first | exact heap_alloc_new _ _ | exact blkNew (by simp) rfl) (by have := K4.out.size; (try simp only [World.size_alloc] at this); omega)
              have B4_1 : Hid (Blk ((wd.alloc (.cells (hC h).toArray 23)).alloc (.cells (hC h).toArray 23)) wd.heap.size 23 (hC h).toArray) := B4.out.below J4_1.out B4.out.lt
              refine hK.out _ _ (fun _ => (rngK RR.out K4_1.out HLw.out)) (fun hSn => ?_)
              clear hK K
              try simp only [Act.put, List.setIfInBounds_toArray, List.set_cons_zero, List.set_cons_succ]
              clear hSn
              refine wpAnyK_ready (rs := [5]) (by kernel_rfl) (by simp) ?_
              refine (AllReadyK.cons rfl (fun K hK => ?_) AllReadyK.nil)
              go_simp
              go_at_call 17
              refine (past_any ((wd.alloc (.cells (hC h).toArray 23)).alloc (.cells (hC h).toArray 23)) w0 m G (HT.out.g.later K4_1.out) HT.out.i (some ⟨wd.heap.size, 0, none⟩) [h] 1 (by rw [hsC_1]; exact SeesV.blk B4_1.out) (by simp) (tab_below HTd.out K4_1.out H0d.out)).mono ?_
              unfold ListPost
              rw [HPe.out]
              rintro e w6 ⟨A6, c6, rfl, ho6, hb6⟩
              have S6 : Hid (SeesV w6 w6.heap.size A6 (hsC P)) := SeesV.own ho6
              have J4_1_5 : Hid (Below ((wd.alloc (.cells (hC h).toArray 23)).alloc (.cells (hC h).toArray 23)).heap.size ((wd.alloc (.cells (hC h).toArray 23)).alloc (.cells (hC h).toArray 23)) w6) := hb6
              have K4_1_5 : Hid (Below wd.heap.size wd w6) := nxTo K4_1.out J4_1_5.out
              have O4_1_5 : Hid (w6.ownsRow wd.heap.size 23 32 (.slice (some ⟨(wd.heap.size + 1), 0, none⟩) 1 1) 1 (hC h)) := own_below O4_1.out J4_1_5.out (fun g hg => (own_lt O4_1.out g hg).2)
              clear ho6 hb6
              refine hK.out _ _ (fun _ => (rngK RR.out K4_1_5.out HLw.out)) (fun hSn => ?_)
              clear hK K
              try simp only [Act.put, List.setIfInBounds_toArray, List.set_cons_zero, List.set_cons_succ]
              clear hSn
              refine wpAnyK_ready (rs := [6]) (by kernel_rfl) (by simp) ?_
              refine (AllReadyK.cons rfl (fun K hK => ?_) AllReadyK.nil)
              refine step_append_seesV (o := ⟨some 51, _, _, _, _, _⟩) rfl (.tmp 46) (.tmp 50) 34 rfl wd.heap.size 23 i0 _ 32 32 Tryd.underlying34 hi0 hz0 hs0 hy0 rfl (by decide) (.slice (some ⟨(wd.heap.size + 1), 0, none⟩) 1 1) 1 (hC h) rfl O4_1_5.out w6.heap.size A6 P.length c6 (hsC P) rfl (by rw [hsC_len]) S6.out (hsC_one _) (by omega) (by omega) K4_1_5.out.size ?_
              intro v9 w51 ho9 hg9 ha9
              obtain ⟨A51, c51, rfl⟩ := own_form ho9
              have O51 := Lib.hid ho9
              have K51' : Hid (Below wd.heap.size wd w51) := K4_1_5.out.grown hg9 K4_1_5.out.size (fun j hj => (own_lt O4_1_5.out j hj).1)
              have K4_1_5_6 : Hid (Below wd.heap.size wd w51) := K51'
              clear ho9 hg9 ha9
              refine hK.out _ _ (fun _ => (rngK RR.out K4_1_5_6.out HLw.out)) (fun hSn => ?_)
              clear hK K
              try simp only [Act.put, List.setIfInBounds_toArray, List.set_cons_zero, List.set_cons_succ]
              clear hSn
              refine wpAnyK_ready (rs := [9]) (by kernel_rfl) (by simp) ?_
              refine (AllReadyK.cons rfl (fun K hK => ?_) AllReadyK.nil)
              go_simp
              go_at_call 18
              refine (fut_any w51 w0 m G (HT.out.g.later K4_1_5_6.out) HT.out.i h).mono ?_
              unfold ListPost
              rw [HFe.out]
              rintro e w54 ⟨A54, c54, rfl, ho6, hb6⟩
              have S54 : Hid (SeesV w54 w54.heap.size A54 (hsC F)) := SeesV.own ho6
              have J4_1_5_6_9 : Hid (Below w51.heap.size w51 w54) := hb6
              have K4_1_5_6_9 : Hid (Below wd.heap.size wd w54) := nxTo K4_1_5_6.out J4_1_5_6_9.out
              have O1054 : Hid (w54.ownsRow wd.heap.size 23 32 (.slice A51 (1 + P.length) c51) (1 + P.length) (hC h ++ hsC P)) := own_below O51.out hb6 (fun g hg => (own_lt O51.out g hg).2)
              clear ho6 hb6
              refine hK.out _ _ (fun _ => (rngK RR.out K4_1_5_6_9.out HLw.out)) (fun hSn => ?_)
              clear hK K
              try simp only [Act.put, List.setIfInBounds_toArray, List.set_cons_zero, List.set_cons_succ]
              clear hSn
              refine wpAnyK_ready (rs := [10]) (by kernel_rfl) (by simp) ?_
              refine (AllReadyK.cons rfl (fun K hK => ?_) AllReadyK.nil)
              refine step_append_seesV (o := ⟨some 55, _, _, _, _, _⟩) rfl (.tmp 51) (.tmp 54) 34 rfl wd.heap.size 23 i0 _ 32 32 Tryd.underlying34 hi0 hz0 hs0 hy0 rfl (by decide) (.slice A51 (1 + P.length) c51) (1 + P.length) (hC h ++ hsC P) rfl O1054.out w54.heap.size A54 F.length c54 (hsC F) rfl (by rw [hsC_len]) S54.out (hsC_one _) (by omega) (by omega) K4_1_5_6_9.out.size ?_
              intro v9 w55 ho9 hg9 ha9
              obtain ⟨A55, c55, rfl⟩ := own_form ho9
              have O55 := Lib.hid ho9
              have K55' : Hid (Below wd.heap.size wd w55) := K4_1_5_6_9.out.grown hg9 K4_1_5_6_9.out.size (fun j hj => (own_lt O1054.out j hj).1)
              have K4_1_5_6_9_10 : Hid (Below wd.heap.size wd w55) := K55'
              clear ho9 hg9 ha9
              refine hK.out _ _ (fun _ => (rngK RR.out K4_1_5_6_9_10.out HLw.out)) (fun hSn => ?_)
              clear hK K
              try simp only [Act.put, List.setIfInBounds_toArray, List.set_cons_zero, List.set_cons_succ]
              clear hSn
              refine wpAnyK_ready (rs := [13]) (by kernel_rfl) (by simp) ?_
              refine (AllReadyK.cons rfl (fun K hK => ?_) AllReadyK.nil)
              go_simp
              go_at_call 19
              refine (anti_any w55 w0 m G (HT.out.g.later K4_1_5_6_9_10.out) HT.out.i h).mono ?_
              unfold ListPost
              rw [HAe.out]
              rintro e w58 ⟨A58, c58, rfl, ho6, hb6⟩
              have S58 : Hid (SeesV w58 w58.heap.size A58 (hsC An)) := SeesV.own ho6
              have J4_1_5_6_9_10_13 : Hid (Below w55.heap.size w55 w58) := hb6
              have K4_1_5_6_9_10_13 : Hid (Below wd.heap.size wd w58) := nxTo K4_1_5_6_9_10.out J4_1_5_6_9_10_13.out
              have O1058 : Hid (w58.ownsRow wd.heap.size 23 32 (.slice A55 (1 + P.length + F.length) c55) (1 + P.length + F.length) (hC h ++ hsC P ++ hsC F)) := own_below O55.out hb6 (fun g hg => (own_lt O55.out g hg).2)
              clear ho6 hb6
              refine hK.out _ _ (fun _ => (rngK RR.out K4_1_5_6_9_10_13.out HLw.out)) (fun hSn => ?_)
              clear hK K
              try simp only [Act.put, List.setIfInBounds_toArray, List.set_cons_zero, List.set_cons_succ]
              clear hSn
              refine wpAnyK_ready (rs := [14]) (by kernel_rfl) (by simp) ?_
              refine (AllReadyK.cons rfl (fun K hK => ?_) AllReadyK.nil)
              refine step_append_seesV (o := ⟨some 59, _, _, _, _, _⟩) rfl (.tmp 55) (.tmp 58) 34 rfl wd.heap.size 23 i0 _ 32 32 Tryd.underlying34 hi0 hz0 hs0 hy0 rfl (by decide) (.slice A55 (1 + P.length + F.length) c55) (1 + P.length + F.length) (hC h ++ hsC P ++ hsC F) rfl O1058.out w58.heap.size A58 An.length c58 (hsC An) rfl (by rw [hsC_len]) S58.out (hsC_one _) (by omega) (by omega) K4_1_5_6_9_10_13.out.size ?_
              intro v9 w59 ho9 hg9 ha9
              obtain ⟨A59, c59, rfl⟩ := own_form ho9
              have O59 := Lib.hid ho9
              have K59' : Hid (Below wd.heap.size wd w59) := K4_1_5_6_9_10_13.out.grown hg9 K4_1_5_6_9_10_13.out.size (fun j hj => (own_lt O1058.out j hj).1)
              have K4_1_5_6_9_10_13_14 : Hid (Below wd.heap.size wd w59) := K59'
              clear ho9 hg9 ha9
              refine hK.out _ _ (fun _ => (rngK RR.out K4_1_5_6_9_10_13_14.out HLw.out)) (fun hSn => ?_)
              clear hK K
              try simp only [Act.put, List.setIfInBounds_toArray, List.set_cons_zero, List.set_cons_succ]
              clear hSn
              refine wpAnyK_ready (rs := [15]) (by kernel_rfl) (by simp) ?_
              refine (AllReadyK.cons rfl (fun K hK => ?_) AllReadyK.nil)
              go_simp
              skip
              refine hK.out _ _ (fun h => absurd h (by decide +kernel)) (fun hSn => ?_)
              clear hK K
              try simp only [Act.put, List.setIfInBounds_toArray, List.set_cons_zero, List.set_cons_succ]
              refine wpAnyK_done (by kernel_rfl) ?_ _
              go_wp2_with fail
              go_meet
              have h9 := SeesV.own O59.out
              exact ⟨A59, c59, rfl, h9, KW.out.trans (K4_1_5_6_9_10_13_14.out.mono KW.out.size), KW5.out.trans (K4_1_5_6_9_10_13_14.out.mono KW5.out.size)⟩
            · skip
              go_simp
              go_at_call 17
              refine (past_any (wd.alloc (.cells (hC h).toArray 23)) w0 m G (HT.out.g.later K4.out) HT.out.i (some ⟨wd.heap.size, 0, none⟩) [h] 1 (by rw [hsC_1]; exact SeesV.blk B4.out) (by simp) (tab_below HTd.out K4.out H0d.out)).mono ?_
              unfold ListPost
              rw [HPe.out]
              rintro e w6 ⟨A6, c6, rfl, ho6, hb6⟩
              have S6 : Hid (SeesV w6 w6.heap.size A6 (hsC P)) := SeesV.own ho6
              have J4_5 : Hid (Below (wd.alloc (.cells (hC h).toArray 23)).heap.size (wd.alloc (.cells (hC h).toArray 23)) w6) := hb6
              have K4_5 : Hid (Below wd.heap.size wd w6) := nxTo K4.out J4_5.out
              clear ho6 hb6
              refine hK.out _ _ (fun _ => (rngK RR.out K4_5.out HLw.out)) (fun hSn => ?_)
              clear hK K
              try simp only [Act.put, List.setIfInBounds_toArray, List.set_cons_zero, List.set_cons_succ]
              clear hSn
              refine wpAnyK_ready (rs := [1]) (by kernel_rfl) (by simp) ?_
              refine (AllReadyK.cons rfl (fun K hK => ?_) AllReadyK.nil)
              refine step_build1 (o := ⟨some 46, _, _, _, _, _⟩) rfl 34 23 (.tmp 45) rfl (hC h) _ 32 32 Tryd.underlying34 Tryd.dinfoH (by decide) (by decide) (hC_len h) rfl ?_
              have J4_5_1 : Hid (Below w6.heap.size w6 (w6.alloc (.cells (hC h).toArray 23))) := nxAlloc (nxRefl _) _
              have K4_5_1 : Hid (Below wd.heap.size wd (w6.alloc (.cells (hC h).toArray 23))) := nxTo K4_5.out J4_5_1.out
              have O4_5_1 : Hid ((w6.alloc (.cells (hC h).toArray 23)).ownsRow wd.heap.size 23 32 (.slice (some ⟨w6.heap.size, 0, none⟩) 1 1) 1 (hC h)) := own_one (by first | exact heap_alloc_new _ _ | exact blkNew (by simp) rfl) (by have := K4_5.out.size; (try simp only [World.size_alloc] at this); omega)
              have S6x : Hid (SeesV (w6.alloc (.cells (hC h).toArray 23)) (w6.alloc (.cells (hC h).toArray 23)).heap.size A6 (hsC P)) := (S6.out.below J4_5_1.out).more J4_5_1.out.size
              refine hK.out _ _ (fun _ => (rngK RR.out K4_5_1.out HLw.out)) (fun hSn => ?_)
              clear hK K
              try simp only [Act.put, List.setIfInBounds_toArray, List.set_cons_zero, List.set_cons_succ]
              clear hSn
              refine wpAnyK_ready (rs := [6]) (by kernel_rfl) (by simp) ?_
              refine (AllReadyK.cons rfl (fun K hK => ?_) AllReadyK.nil)
              refine step_append_seesV (o := ⟨some 51, _, _, _, _, _⟩) rfl (.tmp 46) (.tmp 50) 34 rfl wd.heap.size 23 i0 _ 32 32 Tryd.underlying34 hi0 hz0 hs0 hy0 rfl (by decide) (.slice (some ⟨w6.heap.size, 0, none⟩) 1 1) 1 (hC h) rfl O4_5_1.out (w6.alloc (.cells (hC h).toArray 23)).heap.size A6 P.length c6 (hsC P) rfl (by rw [hsC_len]) S6x.out (hsC_one _) (by omega) (by omega) K4_5_1.out.size ?_
              intro v9 w51 ho9 hg9 ha9
              obtain ⟨A51, c51, rfl⟩ := own_form ho9
              have O51 := Lib.hid ho9
              have K51' : Hid (Below wd.heap.size wd w51) := K4_5_1.out.grown hg9 K4_5_1.out.size (fun j hj => (own_lt O4_5_1.out j hj).1)
              have K4_5_1_6 : Hid (Below wd.heap.size wd w51) := K51'
              clear ho9 hg9 ha9
              refine hK.out _ _ (fun _ => (rngK RR.out K4_5_1_6.out HLw.out)) (fun hSn => ?_)
              clear hK K
              try simp only [Act.put, List.setIfInBounds_toArray, List.set_cons_zero, List.set_cons_succ]
              clear hSn
              refine wpAnyK_ready (rs := [9]) (by kernel_rfl) (by simp) ?_
              refine (AllReadyK.cons rfl (fun K hK => ?_) AllReadyK.nil)
              go_simp
              go_at_call 18
              refine (fut_any w51 w0 m G (HT.out.g.later K4_5_1_6.out) HT.out.i h).mono ?_
              unfold ListPost
              rw [HFe.out]
              rintro e w54 ⟨A54, c54, rfl, ho6, hb6⟩
              have S54 : Hid (SeesV w54 w54.heap.size A54 (hsC F)) := SeesV.own ho6
              have J4_5_1_6_9 : Hid (Below w51.heap.size w51 w54) := hb6
              have K4_5_1_6_9 : Hid (Below wd.heap.size wd w54) := nxTo K4_5_1_6.out J4_5_1_6_9.out
              have O1054 : Hid (w54.ownsRow wd.heap.size 23 32 (.slice A51 (1 + P.length) c51) (1 + P.length) (hC h ++ hsC P)) := own_below O51.out hb6 (fun g hg => (own_lt O51.out g hg).2)
              clear ho6 hb6
              refine hK.out _ _ (fun _ => (rngK RR.out K4_5_1_6_9.out HLw.out)) (fun hSn => ?_)
              clear hK K
              try simp only [Act.put, List.setIfInBounds_toArray, List.set_cons_zero, List.set_cons_succ]
              clear hSn
              refine wpAnyK_ready (rs := [10]) (by kernel_rfl) (by simp) ?_
              refine (AllReadyK.cons rfl (fun K hK => ?_) AllReadyK.nil)
              refine step_append_seesV (o := ⟨some 55, _, _, _, _, _⟩) rfl (.tmp 51) (.tmp 54) 34 rfl wd.heap.size 23 i0 _ 32 32 Tryd.underlying34 hi0 hz0 hs0 hy0 rfl (by decide) (.slice A51 (1 + P.length) c51) (1 + P.length) (hC h ++ hsC P) rfl O1054.out w54.heap.size A54 F.length c54 (hsC F) rfl (by rw [hsC_len]) S54.out (hsC_one _) (by omega) (by omega) K4_5_1_6_9.out.size ?_
              intro v9 w55 ho9 hg9 ha9
              obtain ⟨A55, c55, rfl⟩ := own_form ho9
              have O55 := Lib.hid ho9
              have K55' : Hid (Below wd.heap.size wd w55) := K4_5_1_6_9.out.grown hg9 K4_5_1_6_9.out.size (fun j hj => (own_lt O1054.out j hj).1)
              have K4_5_1_6_9_10 : Hid (Below wd.heap.size wd w55) := K55'
              clear ho9 hg9 ha9
              refine hK.out _ _ (fun _ => (rngK RR.out K4_5_1_6_9_10.out HLw.out)) (fun hSn => ?_)
              clear hK K
              try simp only [Act.put, List.setIfInBounds_toArray, List.set_cons_zero, List.set_cons_succ]
              clear hSn
              refine wpAnyK_ready (rs := [13]) (by kernel_rfl) (by simp) ?_
              refine (AllReadyK.cons rfl (fun K hK => ?_) AllReadyK.nil)
              go_simp
              go_at_call 19
              refine (anti_any w55 w0 m G (HT.out.g.later K4_5_1_6_9_10.out) HT.out.i h).mono ?_
              unfold ListPost
              rw [HAe.out]
              rintro e w58 ⟨A58, c58, rfl, ho6, hb6⟩
              have S58 : Hid (SeesV w58 w58.heap.size A58 (hsC An)) := SeesV.own ho6
              have J4_5_1_6_9_10_13 : Hid (Below w55.heap.size w55 w58) := hb6
              have K4_5_1_6_9_10_13 : Hid (Below wd.heap.size wd w58) := nxTo K4_5_1_6_9_10.out J4_5_1_6_9_10_13.out
              have O1058 : Hid (w58.ownsRow wd.heap.size 23 32 (.slice A55 (1 + P.length + F.length) c55) (1 + P.length + F.length) (hC h ++ hsC P ++ hsC F)) := own_below O55.out hb6 (fun g hg => (own_lt O55.out g hg).2)
              clear ho6 hb6
              refine hK.out _ _ (fun _ => (rngK RR.out K4_5_1_6_9_10_13.out HLw.out)) (fun hSn => ?_)
              clear hK K
              try simp only [Act.put, List.setIfInBounds_toArray, List.set_cons_zero, List.set_cons_succ]
              clear hSn
              refine wpAnyK_ready (rs := [14]) (by kernel_rfl) (by simp) ?_
              refine (AllReadyK.cons rfl (fun K hK => ?_) AllReadyK.nil)
              refine step_append_seesV (o := ⟨some 59, _, _, _, _, _⟩) rfl (.tmp 55) (.tmp 58) 34 rfl wd.heap.size 23 i0 _ 32 32 Tryd.underlying34 hi0 hz0 hs0 hy0 rfl (by decide) (.slice A55 (1 + P.length + F.length) c55) (1 + P.length + F.length) (hC h ++ hsC P ++ hsC F) rfl O1058.out w58.heap.size A58 An.length c58 (hsC An) rfl (by rw [hsC_len]) S58.out (hsC_one _) (by omega) (by omega) K4_5_1_6_9_10_13.out.size ?_
              intro v9 w59 ho9 hg9 ha9
              obtain ⟨A59, c59, rfl⟩ := own_form ho9
              have O59 := Lib.hid ho9
              have K59' : Hid (Below wd.heap.size wd w59) := K4_5_1_6_9_10_13.out.grown hg9 K4_5_1_6_9_10_13.out.size (fun j hj => (own_lt O1058.out j hj).1)
              have K4_5_1_6_9_10_13_14 : Hid (Below wd.heap.size wd w59) := K59'
              clear ho9 hg9 ha9
              refine hK.out _ _ (fun _ => (rngK RR.out K4_5_1_6_9_10_13_14.out HLw.out)) (fun hSn => ?_)
              clear hK K
              try simp only [Act.put, List.setIfInBounds_toArray, List.set_cons_zero, List.set_cons_succ]
              clear hSn
              refine wpAnyK_ready (rs := [15]) (by kernel_rfl) (by simp) ?_
              refine (AllReadyK.cons rfl (fun K hK => ?_) AllReadyK.nil)
              go_simp
              skip
              refine hK.out _ _ (fun h => absurd h (by decide +kernel)) (fun hSn => ?_)
              clear hK K
              try simp only [Act.put, List.setIfInBounds_toArray, List.set_cons_zero, List.set_cons_succ]
              refine wpAnyK_done (by kernel_rfl) ?_ _
              go_wp2_with fail
              go_meet
              have h9 := SeesV.own O59.out
              exact ⟨A59, c59, rfl, h9, KW.out.trans (K4_5_1_6_9_10_13_14.out.mono KW.out.size), KW5.out.trans (K4_5_1_6_9_10_13_14.out.mono KW5.out.size)⟩
        case rest =>
          obtain ⟨A10, c10, rfl, HA10, HKc, HK5c⟩ := hcut
          have HTc : Hid (Two wc w0 m G r) := HT2.out.later HKc.out
          have HTwo : Hid (∀ W, Below w2.heap.size w2 W → Two W w0 m G r) := fun W hW => HT2.out.later hW
          have HTab : Hid (∀ W, Below w2.heap.size w2 W → TabAt 0 Lib.deBruijn64tab W) := fun W hW => tab_below (tab_below HT0.out V2.out H0w.out) hW (Nat.lt_of_lt_of_le H0w.out V2.out.size)
          have X9c : Hid (Blk wc p9 23 (hC h).toArray) := X9.out.below HK5c.out X9.out.lt
          have hilen : 0 < m.ids.length := by rw [HTc.out.i.ilen]; exact HTc.out.i.ne
          have hlen := len_any wc w0 m HTc.out.g hilen
          rw [HTc.out.i.ilen] at hlen
          have HLen := Lib.hid hlen
          have hn10 : 1 + P.length + F.length + An.length = G.length := by omega
          have hall : hC h ++ hsC P ++ hsC F ++ hsC An = hsC (h :: (P ++ (F ++ An))) := by simp [hsC]
          have hcl : (h :: (P ++ (F ++ An))).length = G.length := HPt.out.2
          have hso := rsorted_any wc A10 (h :: (P ++ (F ++ An))) c10 (by rw [← hall]; exact HA10.out) (by rw [hcl]; omega)
          unfold SortPost at hso
          rw [risH_nodup HPt.out.1, hcl] at hso
          have HSo := Lib.hid hso
          rw [hn10]
          clear hilen hlen hn10 hall hcl hso
          go_wp2_with (first
            | (go_at_call 20; refine HLen.out.mono ?_; rintro e w1 ⟨rfl, hw1⟩; obtain rfl := hw1.symm)
            | (go_at_call 21; refine HSo.out.mono ?_; rintro e w7 ⟨A7, c7, rfl, ho7, hb7⟩; have K7 : Hid (Below w2.heap.size w2 w7) := nxTo HKc.out hb7; have X7 : Hid (Blk w7 p9 23 (hC h).toArray) := X9c.out.below hb7 X9c.out.lt; have HT7 : Hid (Two w7 w0 m G r) := HTc.out.later hb7; clear ho7 hb7)
            | ((with_reducible show wpList _ _ _ (⟨some 75, _, _, _, _, _⟩ :: _) _ _); refine wpList_unguard (by rfl) ?_; refine wpList_load_mid rfl 23 (.tmp 9) rfl p9 0 rfl (hC h) _ (kb_range X7.out) Tryd.underlying23 rfl (hszL h) ?_)
            | ((with_reducible show wpList _ _ _ (⟨some 76, _, _, _, _, _⟩ :: _) _ _); refine wpList_unguard (by rfl) ?_; refine wpList_load_mid rfl 23 (.tmp 9) rfl p9 0 rfl (hC h) _ (kb_range X7.out) Tryd.underlying23 rfl (hszL h) ?_)
            | (go_at_call 14; refine (before_any w7 w0 m G HT7.out.g HT7.out.i h h).mono ?_; rw [bef_self HT7.out.i.ok h]; rintro e w8 ⟨rfl, hb8⟩; have K8 : Hid (Below w2.heap.size w2 w8) := nxTo K7.out hb8; have X8 : Hid (Blk w8 p9 23 (hC h).toArray) := X7.out.below hb8 X7.out.lt; have HT8 : Hid (Two w8 w0 m G r) := HT7.out.later hb8; clear hb8)
            | ((with_reducible show wpList _ _ _ (⟨some 80, _, _, _, _, _⟩ :: _) _ _); refine wpList_load_mid rfl 23 (.tmp 9) rfl p9 0 rfl (hC h) _ (kb_range X8.out) Tryd.underlying23 rfl (hszL h) ?_)
            | ((with_reducible show wpList _ _ _ (⟨some 81, _, _, _, _, _⟩ :: _) _ _); refine wpList_build1 rfl 34 23 (.tmp 80) rfl (hC h) _ 32 32 Tryd.underlying34 Tryd.dinfoH (by decide) (by decide) (hC_len h) rfl ?_; have J9 : Hid (Below w8.heap.size w8 (w8.alloc (.cells (hC h).toArray 23))) := nxAlloc (nxRefl w8) _; have K9 : Hid (Below w2.heap.size w2 (w8.alloc (.cells (hC h).toArray 23))) := nxTo K8.out J9.out; have B9 : Hid (Blk (w8.alloc (.cells (hC h).toArray 23)) w8.heap.size 23 (hC h).toArray) := heap_alloc_new w8 _)
            | (go_at_call 17; refine (past_any _ w0 m G (HTwo.out _ K9.out).g (HTwo.out _ K9.out).i (some ⟨w8.heap.size, 0, none⟩) [h] 1 (by rw [hsC_1]; exact SeesV.blk B9.out) (by simp) (HTab.out _ K9.out)).mono ?_; unfold ListPost; rw [HPe.out]; rintro e w11 ⟨A11, c11, rfl, ho11, hb11⟩; have S11 : Hid (SeesV w11 w11.heap.size A11 (hsC P)) := SeesV.own ho11; have K11 : Hid (Below w2.heap.size w2 w11) := nxTo K9.out hb11; have X11 : Hid (Blk w11 p9 23 (hC h).toArray) := (X8.out.below J9.out X8.out.lt).below hb11 (Nat.lt_of_lt_of_le X8.out.lt J9.out.size); clear ho11 hb11))
          have HPl : Hid (P.length ≤ 31) := by show _ ≤ _; omega
          clear HA10 HKc HK5c HTc X9c HLen HSo K7 X7 HT7 K8 X8 HT8 J9 K9 B9 HPt hpl
          go_loopw [12] (fun iv wr => ∃ k : Nat, k ≤ P.length ∧ iv = .int .i64 k ∧ Hid (Below w11.heap.size w11 wr)) (fun iv _ => P.length - (intOf iv).toNat)
          case atStart => exact ⟨0, by omega, rfl, nxRefl w11⟩
          case round =>
            obtain ⟨k, hk, rfl, HKx⟩ := hrel
            have hpl9 := HPl.out
            by_cases hltk : k < P.length
            · have hsx := (S11.out.below HKx.out).more HKx.out.size
              obtain ⟨b2, f2, hA2, hb2, hr2⟩ := sees_hash hsx hltk
              subst hA2
              have r2 := hr2 k hltk
              obtain ⟨x, hx⟩ : ∃ x, P[k] = x := ⟨_, rfl⟩
              rw [hx] at r2
              have hxm : x ∈ pastG G [h] := by rw [HPe.out, ← hx]; exact List.getElem_mem hltk
              have HXm := Lib.hid hxm
              have HB1 : Hid (befB G h x = false) := (past_bef HT2.out.i.ok hxm).2
              have HB2 : Hid (befB G x h = true) := (past_bef HT2.out.i.ok hxm).1
              have RXr : Hid (wr.drew.rangeAt b2 (f2 + k * 32) (hC x)) := r2
              have Kr : Hid (Below w11.heap.size w11 wr.drew) := nxDrT HKx.out
              have Xr : Hid (Blk wr.drew p9 23 (hC h).toArray) := X11.out.below Kr.out X11.out.lt
              have Lr : Hid (b2 < wr.drew.heap.size) := hb2
              have hink : (k : Int) < (P.length : Int) := by omega
              clear hsx hr2 r2 hx hxm hb2
              go_wp2
              refine wp_region_held_drew (S := fun W => W.rangeAt p9 0 (hC h) ∧ W.rangeAt b2 (f2 + k * 32) (hC x)) (by kernel_rfl) ⟨kb_range Xr.out, RXr.out⟩ (fun hHeld => ?_)
              generalize wr.drew = wd at *
              refine wpAnyH_take (i := 0) (oi := ⟨_, _, _, _, _, _⟩) (v := ?_) rfl (by kernel_rfl) (by kernel_rfl) (by kernel_rfl) (fun _ _ _ h => h) (Or.inl ⟨by rfl, ?_⟩) (by assumption) ?_
              rotate_left 1
              · intro W hSw
                try dsimp only at hSw
                obtain ⟨hs1, hs2⟩ := hSw
                go_simp
                try with_reducible rfl
              try simp only [Act.put, List.setIfInBounds_toArray, List.set_cons_zero, List.set_cons_succ]
              refine wpAnyH_take (i := 1) (oi := ⟨_, _, _, _, _, _⟩) (v := .agg (hC h).toArray) rfl (by kernel_rfl) (by kernel_rfl) (by kernel_rfl) (fun _ _ _ h => h) (yieldsIf_load_mid (by rfl) 23 (.tmp 9) rfl p9 0 rfl (hC h) _ (fun W hS => hS.1) Tryd.underlying23 rfl (hszL h)) (by assumption) ?_
              try simp only [Act.put, List.setIfInBounds_toArray, List.set_cons_zero, List.set_cons_succ]
              refine wpAnyH_take (i := 2) (oi := ⟨_, _, _, _, _, _⟩) (v := ?_) rfl (by kernel_rfl) (by kernel_rfl) (by kernel_rfl) (fun _ _ _ h => h) (Or.inl ⟨by rfl, ?_⟩) (by assumption) ?_
              rotate_left 1
              · intro W hSw
                try dsimp only at hSw
                obtain ⟨hs1, hs2⟩ := hSw
                go_simp
                try with_reducible rfl
              try simp only [Act.put, List.setIfInBounds_toArray, List.set_cons_zero, List.set_cons_succ]
              refine wpAnyH_take (i := 3) (oi := ⟨_, _, _, _, _, _⟩) (v := ?_) rfl (by kernel_rfl) (by kernel_rfl) (by kernel_rfl) (fun _ _ _ h => h) (Or.inl ⟨by rfl, ?_⟩) (by assumption) ?_
              rotate_left 1
              · intro W hSw
                try dsimp only at hSw
                obtain ⟨hs1, hs2⟩ := hSw
                go_simp
                try with_reducible rfl
              try simp only [Act.put, List.setIfInBounds_toArray, List.set_cons_zero, List.set_cons_succ]
              refine wpAnyH_take (i := 4) (oi := ⟨_, _, _, _, _, _⟩) (v := ?_) rfl (by kernel_rfl) (by kernel_rfl) (by kernel_rfl) (fun _ _ _ h => h) (Or.inl ⟨by rfl, ?_⟩) (by assumption) ?_
              rotate_left 1
              · intro W hSw
                try dsimp only at hSw
                obtain ⟨hs1, hs2⟩ := hSw
                go_simp
                try with_reducible rfl
              try simp only [Act.put, List.setIfInBounds_toArray, List.set_cons_zero, List.set_cons_succ]
              refine wpAnyH_take (i := 5) (oi := ⟨_, _, _, _, _, _⟩) (v := .agg (hC x).toArray) rfl (by kernel_rfl) (by kernel_rfl) (by kernel_rfl) (fun _ _ _ h => h) (yieldsIf_load_mid (by rfl) 23 (.tmp 93) rfl b2 (f2 + k * 32) rfl (hC x) _ (fun W hS => hS.2) Tryd.underlying23 rfl (hszL x)) (by assumption) ?_
              try simp only [Act.put, List.setIfInBounds_toArray, List.set_cons_zero, List.set_cons_succ]
              refine wpAnyH_ready (rs := [6]) (by kernel_rfl) (by simp) ?_
              refine AllReadyH.cons rfl (fun K hK => ?_) AllReadyH.nil
              go_simp
              go_at_call 14
              refine (before_any _ w0 m G (HTwo.out _ (nxTo K11.out Kr.out)).g (HTwo.out _ (nxTo K11.out Kr.out)).i h x).mono ?_
              rw [HB1.out]
              rintro e wa ⟨rfl, hbn⟩
              have Kwa : Hid (Below w11.heap.size w11 wa) := nxTo Kr.out hbn
              have Xwa : Hid (Blk wa p9 23 (hC h).toArray) := Xr.out.below hbn Xr.out.lt
              have Rwa := Lib.hid (rngK RXr.out hbn Lr.out)
              have Lwa := Lib.hid (Nat.lt_of_lt_of_le Lr.out hbn.size)
              clear hbn
              refine hK.out _ _ ⟨kb_range Xwa.out, Rwa.out⟩ (fun hSn => ?_)
              clear hK K
              try simp only [Act.put, List.setIfInBounds_toArray, List.set_cons_zero, List.set_cons_succ]
              refine wpAnyH_take (i := 7) (oi := ⟨_, _, _, _, _, _⟩) (v := ?_) rfl (by kernel_rfl) (by kernel_rfl) (by kernel_rfl) (fun _ _ _ h => h) (Or.inl ⟨by rfl, ?_⟩) (by assumption) ?_
              rotate_left 1
              · intro W hSw
                try dsimp only at hSw
                obtain ⟨hs1, hs2⟩ := hSw
                go_simp
                try with_reducible rfl
              try simp only [Act.put, List.setIfInBounds_toArray, List.set_cons_zero, List.set_cons_succ]
              refine wpAnyH_take (i := 8) (oi := ⟨_, _, _, _, _, _⟩) (v := ?_) rfl (by kernel_rfl) (by kernel_rfl) (by kernel_rfl) (fun _ _ _ h => h) (Or.inl ⟨by rfl, ?_⟩) (by assumption) ?_
              rotate_left 1
              · intro W hSw
                try dsimp only at hSw
                obtain ⟨hs1, hs2⟩ := hSw
                go_simp
                try with_reducible rfl
              try simp only [Act.put, List.setIfInBounds_toArray, List.set_cons_zero, List.set_cons_succ]
              refine wpAnyH_take (i := 9) (oi := ⟨_, _, _, _, _, _⟩) (v := ?_) rfl (by kernel_rfl) (by kernel_rfl) (by kernel_rfl) (fun _ _ _ h => h) (Or.inl ⟨by rfl, ?_⟩) (by assumption) ?_
              rotate_left 1
              · intro W hSw
                try dsimp only at hSw
                obtain ⟨hs1, hs2⟩ := hSw
                go_simp
                try with_reducible rfl
              try simp only [Act.put, List.setIfInBounds_toArray, List.set_cons_zero, List.set_cons_succ]
              refine wpAnyH_take (i := 10) (oi := ⟨_, _, _, _, _, _⟩) (v := ?_) rfl (by kernel_rfl) (by kernel_rfl) (by kernel_rfl) (fun _ _ _ h => h) (Or.inl ⟨by rfl, ?_⟩) (by assumption) ?_
              rotate_left 1
              · intro W hSw
                try dsimp only at hSw
                obtain ⟨hs1, hs2⟩ := hSw
                go_simp
                try with_reducible rfl
              try simp only [Act.put, List.setIfInBounds_toArray, List.set_cons_zero, List.set_cons_succ]
              refine wpAnyH_take (i := 11) (oi := ⟨_, _, _, _, _, _⟩) (v := ?_) rfl (by kernel_rfl) (by kernel_rfl) (by kernel_rfl) (fun _ _ _ h => h) (Or.inl ⟨by rfl, ?_⟩) (by assumption) ?_
              rotate_left 1
              · intro W hSw
                try dsimp only at hSw
                obtain ⟨hs1, hs2⟩ := hSw
                go_simp
                try with_reducible rfl
              try simp only [Act.put, List.setIfInBounds_toArray, List.set_cons_zero, List.set_cons_succ]
              refine wpAnyH_take (i := 12) (oi := ⟨_, _, _, _, _, _⟩) (v := .agg (hC x).toArray) rfl (by kernel_rfl) (by kernel_rfl) (by kernel_rfl) (fun _ _ _ h => h) (yieldsIf_load_mid (by rfl) 23 (.tmp 100) rfl b2 (f2 + k * 32) rfl (hC x) _ (fun W hS => hS.2) Tryd.underlying23 rfl (hszL x)) (by assumption) ?_
              try simp only [Act.put, List.setIfInBounds_toArray, List.set_cons_zero, List.set_cons_succ]
              refine wpAnyH_take (i := 13) (oi := ⟨_, _, _, _, _, _⟩) (v := .agg (hC h).toArray) rfl (by kernel_rfl) (by kernel_rfl) (by kernel_rfl) (fun _ _ _ h => h) (yieldsIf_load_mid (by rfl) 23 (.tmp 9) rfl p9 0 rfl (hC h) _ (fun W hS => hS.1) Tryd.underlying23 rfl (hszL h)) (by assumption) ?_
              try simp only [Act.put, List.setIfInBounds_toArray, List.set_cons_zero, List.set_cons_succ]
              refine wpAnyH_ready (rs := [14]) (by kernel_rfl) (by simp) ?_
              refine AllReadyH.cons rfl (fun K hK => ?_) AllReadyH.nil
              go_simp
              go_at_call 14
              refine (before_any _ w0 m G (HTwo.out _ (nxTo K11.out Kwa.out)).g (HTwo.out _ (nxTo K11.out Kwa.out)).i x h).mono ?_
              rw [HB2.out]
              rintro e wb ⟨rfl, hbn⟩
              have Kwb : Hid (Below w11.heap.size w11 wb) := nxTo Kwa.out hbn
              have Xwb : Hid (Blk wb p9 23 (hC h).toArray) := Xwa.out.below hbn Xwa.out.lt
              have Rwb := Lib.hid (rngK Rwa.out hbn Lwa.out)
              have Lwb := Lib.hid (Nat.lt_of_lt_of_le Lwa.out hbn.size)
              clear hbn
              refine hK.out _ _ ⟨kb_range Xwb.out, Rwb.out⟩ (fun hSn => ?_)
              clear hK K
              try simp only [Act.put, List.setIfInBounds_toArray, List.set_cons_zero, List.set_cons_succ]
              refine wpAnyH_take (i := 15) (oi := ⟨_, _, _, _, _, _⟩) (v := ?_) rfl (by kernel_rfl) (by kernel_rfl) (by kernel_rfl) (fun _ _ _ h => h) (Or.inl ⟨by rfl, ?_⟩) (by assumption) ?_
              rotate_left 1
              · intro W hSw
                try dsimp only at hSw
                obtain ⟨hs1, hs2⟩ := hSw
                go_simp
                try with_reducible rfl
              try simp only [Act.put, List.setIfInBounds_toArray, List.set_cons_zero, List.set_cons_succ]
              refine wpAnyH_take (i := 16) (oi := ⟨_, _, _, _, _, _⟩) (v := ?_) rfl (by kernel_rfl) (by kernel_rfl) (by kernel_rfl) (fun _ _ _ h => h) (Or.inl ⟨by rfl, ?_⟩) (by assumption) ?_
              rotate_left 1
              · intro W hSw
                try dsimp only at hSw
                obtain ⟨hs1, hs2⟩ := hSw
                go_simp
                try with_reducible rfl
              try simp only [Act.put, List.setIfInBounds_toArray, List.set_cons_zero, List.set_cons_succ]
              refine wpAnyH_done (by kernel_rfl) ?_ _
              have Kb2 : Hid (Below w2.heap.size w2 wb) := nxTo K11.out Kwb.out
              obtain ⟨Q, hQ⟩ : ∃ Q, pastG G [x] = Q := ⟨_, rfl⟩
              have HQe := Lib.hid hQ
              have hQl : Q.length ≤ 31 := by rw [← hQ]; exact Nat.le_trans (past_len _ _) hgl9
              have HQl := Lib.hid hQl
              clear hQ hQl
              go_wp2_with (first
                | ((with_reducible show wpList _ _ _ (⟨some 110, _, _, _, _, _⟩ :: _) _ _); refine wpList_load_mid rfl 23 (.tmp 109) rfl b2 (f2 + k * 32) rfl (hC x) _ Rwb.out Tryd.underlying23 rfl (hszL x) ?_)
                | ((with_reducible show wpList _ _ _ (⟨some 111, _, _, _, _, _⟩ :: _) _ _); refine wpList_build1 rfl 34 23 (.tmp 110) rfl (hC x) _ 32 32 Tryd.underlying34 Tryd.dinfoH (by decide) (by decide) (hC_len x) rfl ?_; have J9 : Hid (Below wb.heap.size wb (wb.alloc (.cells (hC x).toArray 23))) := nxAlloc (nxRefl wb) _; have K9 : Hid (Below w2.heap.size w2 (wb.alloc (.cells (hC x).toArray 23))) := nxTo Kb2.out J9.out; have B9 : Hid (Blk (wb.alloc (.cells (hC x).toArray 23)) wb.heap.size 23 (hC x).toArray) := heap_alloc_new wb _)
                | (go_at_call 17; refine (past_any _ w0 m G (HTwo.out _ K9.out).g (HTwo.out _ K9.out).i (some ⟨wb.heap.size, 0, none⟩) [x] 1 (by rw [hsC_1]; exact SeesV.blk B9.out) (by simp) (HTab.out _ K9.out)).mono ?_; unfold ListPost; rw [HQe.out]; rintro e w13 ⟨A13, c13, rfl, ho13, hb13⟩; have S13 : Hid (SeesV w13 w13.heap.size A13 (hsC Q)) := SeesV.own ho13; have K13 : Hid (Below w2.heap.size w2 w13) := nxTo K9.out hb13; have J13 : Hid (Below w11.heap.size w11 w13) := nxTo (nxTo Kwb.out J9.out) hb13; have X13 : Hid (Blk w13 p9 23 (hC h).toArray) := (Xwb.out.below J9.out Xwb.out.lt).below hb13 (Nat.lt_of_lt_of_le Xwb.out.lt J9.out.size); clear ho13 hb13))
              clear J9 K9 B9 Kb2 Rwb Rwa RXr Xr Xwa Xwb Kr Kwa Kwb Lr Lwa Lwb HB1 HB2
              go_loopw [14] (fun iv wr => ∃ j : Nat, j ≤ Q.length ∧ iv = .int .i64 j ∧ Hid (Below w13.heap.size w13 wr)) (fun iv _ => Q.length - (intOf iv).toNat)
              case atStart => exact ⟨0, by omega, rfl, nxRefl w13⟩
              case round =>
                obtain ⟨j, hj, rfl, HKy⟩ := hrel
                have hql := HQl.out
                by_cases hltj : j < Q.length
                · have hsy := (S13.out.below HKy.out).more HKy.out.size
                  obtain ⟨b3, f3, hA3, hb3, hr3⟩ := sees_hash hsy hltj
                  subst hA3
                  have r3 := hr3 j hltj
                  obtain ⟨y, hy⟩ : ∃ y, Q[j] = y := ⟨_, rfl⟩
                  rw [hy] at r3
                  have HB3 : Hid (befB G y h = true) := past_bef2 HT2.out.i.ok HXm.out (by rw [HQe.out, ← hy]; exact List.getElem_mem hltj)
                  have RYs : Hid (wr.drew.rangeAt b3 (f3 + j * 32) (hC y)) := r3
                  have Ks : Hid (Below w13.heap.size w13 wr.drew) := nxDrT HKy.out
                  have Xs : Hid (Blk wr.drew p9 23 (hC h).toArray) := X13.out.below Ks.out X13.out.lt
                  have Ls : Hid (b3 < wr.drew.heap.size) := hb3
                  have hinj : (j : Int) < (Q.length : Int) := by omega
                  clear hsy hr3 r3 hy hb3
                  go_wp2
                  refine wp_region_held_drew (S := fun W => W.rangeAt p9 0 (hC h) ∧ W.rangeAt b3 (f3 + j * 32) (hC y)) (by kernel_rfl) ⟨kb_range Xs.out, RYs.out⟩ (fun hHeld => ?_)
                  generalize wr.drew = we at *
                  refine wpAnyH_take (i := 0) (oi := ⟨_, _, _, _, _, _⟩) (v := ?_) rfl (by kernel_rfl) (by kernel_rfl) (by kernel_rfl) (fun _ _ _ h => h) (Or.inl ⟨by rfl, ?_⟩) (by assumption) ?_
                  rotate_left 1
                  · intro W hSw
                    try dsimp only at hSw
                    obtain ⟨hs1, hs2⟩ := hSw
                    go_simp
                    try with_reducible rfl
                  try simp only [Act.put, List.setIfInBounds_toArray, List.set_cons_zero, List.set_cons_succ]
                  refine wpAnyH_take (i := 1) (oi := ⟨_, _, _, _, _, _⟩) (v := ?_) rfl (by kernel_rfl) (by kernel_rfl) (by kernel_rfl) (fun _ _ _ h => h) (Or.inl ⟨by rfl, ?_⟩) (by assumption) ?_
                  rotate_left 1
                  · intro W hSw
                    try dsimp only at hSw
                    obtain ⟨hs1, hs2⟩ := hSw
                    go_simp
                    try with_reducible rfl
                  try simp only [Act.put, List.setIfInBounds_toArray, List.set_cons_zero, List.set_cons_succ]
                  refine wpAnyH_take (i := 2) (oi := ⟨_, _, _, _, _, _⟩) (v := ?_) rfl (by kernel_rfl) (by kernel_rfl) (by kernel_rfl) (fun _ _ _ h => h) (Or.inl ⟨by rfl, ?_⟩) (by assumption) ?_
                  rotate_left 1
                  · intro W hSw
                    try dsimp only at hSw
                    obtain ⟨hs1, hs2⟩ := hSw
                    go_simp
                    try with_reducible rfl
                  try simp only [Act.put, List.setIfInBounds_toArray, List.set_cons_zero, List.set_cons_succ]
                  refine wpAnyH_take (i := 3) (oi := ⟨_, _, _, _, _, _⟩) (v := ?_) rfl (by kernel_rfl) (by kernel_rfl) (by kernel_rfl) (fun _ _ _ h => h) (Or.inl ⟨by rfl, ?_⟩) (by assumption) ?_
                  rotate_left 1
                  · intro W hSw
                    try dsimp only at hSw
                    obtain ⟨hs1, hs2⟩ := hSw
                    go_simp
                    try with_reducible rfl
                  try simp only [Act.put, List.setIfInBounds_toArray, List.set_cons_zero, List.set_cons_succ]
                  refine wpAnyH_take (i := 4) (oi := ⟨_, _, _, _, _, _⟩) (v := .agg (hC y).toArray) rfl (by kernel_rfl) (by kernel_rfl) (by kernel_rfl) (fun _ _ _ h => h) (yieldsIf_load_mid (by rfl) 23 (.tmp 122) rfl b3 (f3 + j * 32) rfl (hC y) _ (fun W hS => hS.2) Tryd.underlying23 rfl (hszL y)) (by assumption) ?_
                  try simp only [Act.put, List.setIfInBounds_toArray, List.set_cons_zero, List.set_cons_succ]
                  refine wpAnyH_take (i := 5) (oi := ⟨_, _, _, _, _, _⟩) (v := .agg (hC h).toArray) rfl (by kernel_rfl) (by kernel_rfl) (by kernel_rfl) (fun _ _ _ h => h) (yieldsIf_load_mid (by rfl) 23 (.tmp 9) rfl p9 0 rfl (hC h) _ (fun W hS => hS.1) Tryd.underlying23 rfl (hszL h)) (by assumption) ?_
                  try simp only [Act.put, List.setIfInBounds_toArray, List.set_cons_zero, List.set_cons_succ]
                  refine wpAnyH_ready (rs := [6]) (by kernel_rfl) (by simp) ?_
                  refine AllReadyH.cons rfl (fun K hK => ?_) AllReadyH.nil
                  go_simp
                  go_at_call 14
                  refine (before_any _ w0 m G (HTwo.out _ (nxTo K13.out Ks.out)).g (HTwo.out _ (nxTo K13.out Ks.out)).i y h).mono ?_
                  rw [HB3.out]
                  rintro e wc2 ⟨rfl, hbn⟩
                  have Kwc2 : Hid (Below w13.heap.size w13 wc2) := nxTo Ks.out hbn
                  have Xwc2 : Hid (Blk wc2 p9 23 (hC h).toArray) := Xs.out.below hbn Xs.out.lt
                  have Rwc2 := Lib.hid (rngK RYs.out hbn Ls.out)
                  have Lwc2 := Lib.hid (Nat.lt_of_lt_of_le Ls.out hbn.size)
                  clear hbn
                  refine hK.out _ _ ⟨kb_range Xwc2.out, Rwc2.out⟩ (fun hSn => ?_)
                  clear hK K
                  try simp only [Act.put, List.setIfInBounds_toArray, List.set_cons_zero, List.set_cons_succ]
                  refine wpAnyH_take (i := 7) (oi := ⟨_, _, _, _, _, _⟩) (v := ?_) rfl (by kernel_rfl) (by kernel_rfl) (by kernel_rfl) (fun _ _ _ h => h) (Or.inl ⟨by rfl, ?_⟩) (by assumption) ?_
                  rotate_left 1
                  · intro W hSw
                    try dsimp only at hSw
                    obtain ⟨hs1, hs2⟩ := hSw
                    go_simp
                    try with_reducible rfl
                  try simp only [Act.put, List.setIfInBounds_toArray, List.set_cons_zero, List.set_cons_succ]
                  refine wpAnyH_done (by kernel_rfl) ?_ _
                  go_wp2
                  go_roundw
                  case rel => exact ⟨j + 1, by omega, by go_num, Kwc2⟩
                  case measure => simp [intOf] <;> omega
                · obtain rfl : j = Q.length := by omega
                  go_wp2
                  go_roundw
                  case rel => exact ⟨k + 1, by omega, by go_num, nxTo J13.out HKy.out⟩
                  case measure => simp [intOf] <;> omega
            · obtain rfl : k = P.length := by omega
              go_wp2
              go_roundw
              case rel =>
                exact ⟨i + 1, by omega, by go_num, nxTo K11.out HKx.out⟩
              case measure => simp [intOf] <;> omega
      · obtain rfl : i = G.length := by omega
        go_wp2_with (first
          | (go_at_call 9; refine (known_any _).mono ?_; rintro e w4 ⟨rfl, hb4⟩; have K4 : Hid (Below w.heap.size w w4) := nxTo (nxTo V2.out HK.out) hb4; clear hb4))
        go_ret
        exact ⟨rfl, K4.out⟩
end Go.Proofs.YtndkjmmmneianaaDoor
