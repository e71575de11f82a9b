/-
  BlockHeaders, the walk.
-/
import Derived.Test.YtchpmmnoflibfaaDoorBk5
import Derived.Test.YtchpmmnoflibfaaDoorBk7
namespace Go.Proofs.YtchpmmnoflibfaaDoor
open Go.RowKit

set_option maxHeartbeats 8000000 in
set_option maxRecDepth 100000 in
theorem headers_any (w : World) (hTb : Tabs w) (h : HdR) (k : HdOk w h) (A : Option Addr) (c : Nat) (bs : List UInt8) (hS : Sees w w.heap.size A bs) (hbc : bs.length ≤ c) (hcm : c ≤ maxLen) :
    Calls Tryd.prog 3 #[.agg (hdC h).toArray, .slice A bs.length c] w fun e w' => e = .returned (.bool true) ∧ Below w.heap.size w w' := by
  have hb0 : Below w.heap.size w (w.alloc (.cells (hdC h).toArray 27)) := nxAl (nxRf w) _
  have Hb0 := Lib.hid hb0
  have HB0 : Hid (Blk (w.alloc (.cells (hdC h).toArray 27)) w.heap.size 27 (hdC h).toArray) := heap_alloc_new w _
  have HR := Lib.hid (blkR (vs := hdC h) HB0.out)
  have HK := Lib.hid (k.later hb0)
  have HZ := Lib.hid (hdSz k.f)
  have Hlt : Hid (w.heap.size < (w.alloc (.cells (hdC h).toArray 27)).heap.size) := by show _ < _; simp
  have HTb := Lib.hid (hTb.later hb0)
  have c0 : (w.alloc (.cells (hdC h).toArray 27)).cell? ⟨w.heap.size, 0, none⟩ = some (.slice h.A h.p.ps.length h.c) := (HdRow.of HR.out k.f).ps
  have HSb := Lib.hid hS
  have HBC := Lib.hid hbc
  have HCM := Lib.hid hcm
  clear hb0 k hTb hS hbc hcm
  by_cases h6 : h.p.ps.length ≤ 600
  rotate_left 1
  · have hg : (600 : Int) < (h.p.ps.length : Int) := by omega
    clear h6
    go_enter Tryd.func3, Tryd.ntmps3
    go_wp2_with (go_at_call 6; refine (known6_any (w.alloc (.cells (hdC h).toArray 27))).mono ?_; rintro e w3 ⟨rfl, hb3⟩; have V3 := Lib.hid (nxTr Hb0.out hb3); clear hb3)
    go_ret
    exact ⟨rfl, V3.out⟩
  have hg : ¬ (600 : Int) < (h.p.ps.length : Int) := by omega
  by_cases h2 : bs.length ≤ 20000
  rotate_left 1
  · have hg2 : (20000 : Int) < (bs.length : Int) := by omega
    clear h6 h2
    go_enter Tryd.func3, Tryd.ntmps3
    go_wp2_with (go_at_call 6; refine (known6_any (w.alloc (.cells (hdC h).toArray 27))).mono ?_; rintro e w3 ⟨rfl, hb3⟩; have V3 := Lib.hid (nxTr Hb0.out hb3); clear hb3)
    go_ret
    exact ⟨rfl, V3.out⟩
  have hg2 : ¬ (20000 : Int) < (bs.length : Int) := by omega
  have HBL : Hid (bs.length ≤ 1099511627776) := by show _ ≤ _; omega
  have HI := Lib.hid (idH_len h.p)
  obtain ⟨x, hx⟩ : ∃ x, idH h.p = x := ⟨_, rfl⟩
  have HX := Lib.hid hx
  rw [hx] at HI
  have hnq := neq_hash x HI.out
  obtain ⟨P, hP⟩ : ∃ P, ofHV bs = P := ⟨_, rfl⟩
  have HP := Lib.hid hP
  obtain ⟨ob, hob⟩ : ∃ ob, ofHB bs = ob := ⟨_, rfl⟩
  have HOb := Lib.hid hob
  obtain ⟨mz, hmz⟩ : ∃ z, mayH h.p = z := ⟨_, rfl⟩
  have HMz := Lib.hid hmz
  have hmd : mayH h.p = decide (h.p.ps.length ≤ 255) := rfl
  have hmd2 := hmz.symm.trans hmd
  clear h6 h2 hx hP hob hmz hmd
  cases mz with
  | true =>
    have h255 : ¬ (255 : Int) < (h.p.ps.length : Int) := by have := of_decide_eq_true hmd2.symm; omega
    clear hmd2
    obtain ⟨F, hF⟩ : ∃ F, packH h.p = F := ⟨_, rfl⟩
    have HF := Lib.hid hF
    clear hF
    go_enter Tryd.func3, Tryd.ntmps3
    go_wp2_with (first
      | ((with_reducible show wpList _ _ _ (⟨some 22, _, _, _, _, _⟩ :: _) _ _); refine wpList_load_mid rfl 27 (.tmp 2) rfl w.heap.size 0 rfl (hdC h) _ HR.out Tryd.underlying27 rfl HZ.out ?_)
      | (go_at_call 7; refine (hbytes_yes (w.alloc (.cells (hdC h).toArray 27)) h HK.out HMz.out).mono ?_; unfold HBytesPost; rw [HF.out]; rintro e w3 ⟨⟨A3, c3, B0, rfl, hB0, ho3⟩, hb3⟩; have V3 : Hid (Below (w.alloc (.cells (hdC h).toArray 27)).heap.size (w.alloc (.cells (hdC h).toArray 27)) w3) := hb3; have S3 := Lib.hid (Sees.own ho3); clear hB0 ho3 hb3)
      | (go_at_call 8; refine (ofh_any w3 w.heap.size A bs c (HSb.out.below (nxTr Hb0.out V3.out)) HBL.out).mono ?_; unfold OfHPost; rw [HP.out, HOb.out]; rintro e w4 ⟨r1, rfl, hp4, hk4, hb4⟩; have P4 := Lib.hid hp4; have K4 := Lib.hid hk4; have V4 : Hid (Below (w.alloc (.cells (hdC h).toArray 27)).heap.size (w.alloc (.cells (hdC h).toArray 27)) w4) := nxTr V3.out hb4; have D4 : Hid (Below w3.heap.size w3 w4) := hb4; clear hp4 hk4 hb4)
      | ((with_reducible show wpList _ _ _ (⟨none, .store 27 (.tmp 7) _, _, _, _, _⟩ :: _) _ _); show wpList _ _ _ _ _ (w4.alloc (.cells hdZ 27)); refine wpList_store_all rfl 27 (.tmp 7) (.tmp 29) rfl w4.heap.size 27 hdZ (hdC r1).toArray rfl rfl (heap_alloc_new w4 _) (show (130 : Nat) = (hdC r1).length from (hdC_len K4.out.f).symm) (hdSz' K4.out.f) (hdC_one r1) ?_; intro w5 h5 h6 h7; have B5 := Lib.hid h5; have D5 : Hid (Below w4.heap.size w4 w5) := (nxAl (nxRf w4) _).trans (h6.below (nxAl (nxRf w4) _).size (fun k hk => by omega)); have V5 : Hid (Below (w.alloc (.cells (hdC h).toArray 27)).heap.size (w.alloc (.cells (hdC h).toArray 27)) w5) := nxTr V4.out D5.out; clear h5 h6 h7)
      | (go_at_call 9; refine (rofh_any w5 A bs c ((HSb.out.below (nxTr Hb0.out V5.out)).size) HBC.out HCM.out HBL.out).mono ?_; unfold ROfHPost; rw [HP.out, HOb.out]; rintro e w6 ⟨r2, rfl, hp6, hk6, hb6⟩; have P6 := Lib.hid hp6; have K6 := Lib.hid hk6; have D6 : Hid (Below w5.heap.size w5 w6) := hb6; have V6 : Hid (Below (w.alloc (.cells (hdC h).toArray 27)).heap.size (w.alloc (.cells (hdC h).toArray 27)) w6) := nxTr V5.out hb6; clear hp6 hk6 hb6)
      | ((with_reducible show wpList _ _ _ (⟨none, .store 27 (.tmp 9) _, _, _, _, _⟩ :: _) _ _); show wpList _ _ _ _ _ (w6.alloc (.cells hdZ 27)); refine wpList_store_all rfl 27 (.tmp 9) (.tmp 34) rfl w6.heap.size 27 hdZ (hdC r2).toArray rfl rfl (heap_alloc_new w6 _) (show (130 : Nat) = (hdC r2).length from (hdC_len K6.out.f).symm) (hdSz' K6.out.f) (hdC_one r2) ?_; intro w7 h5 h6 h7; have B7 := Lib.hid h5; have D7 : Hid (Below w6.heap.size w6 w7) := (nxAl (nxRf w6) _).trans (h6.below (nxAl (nxRf w6) _).size (fun k hk => by omega)); have V7 : Hid (Below (w.alloc (.cells (hdC h).toArray 27)).heap.size (w.alloc (.cells (hdC h).toArray 27)) w7) := nxTr V6.out D7.out; clear h5 h6 h7))
    have E5 : Hid (Below w5.heap.size w5 w7) := nxTr D6.out D7.out
    have R5 := Lib.hid (rngB (blkR (vs := hdC r1) B5.out) E5.out B5.out.lt)
    have R7 := Lib.hid (blkR (vs := hdC r2) B7.out)
    have L5 : Hid (w4.heap.size < w7.heap.size) := Nat.lt_of_lt_of_le B5.out.lt E5.out.size
    have L7 : Hid (w6.heap.size < w7.heap.size) := B7.out.lt
    have K47 := Lib.hid ((K4.out.later D5.out).later E5.out)
    have K67 := Lib.hid (K6.out.later D7.out)
    have K07 := Lib.hid (HK.out.later V7.out)
    have T7 := Lib.hid (HTb.out.later V7.out)
    have L0 : Hid (w.heap.size < w7.heap.size) := Nat.lt_of_lt_of_le Hlt.out V7.out.size
    have R0 := Lib.hid (rngB HR.out V7.out Hlt.out)
    have HSE : Hid (decide (r1.p = r2.p) = true) := decide_eq_true (P4.out.trans P6.out.symm)
    have S37 : Hid (Sees w7 w3.heap.size A3 F) := S3.out.below (nxTr D4.out (nxTr D5.out E5.out))
    have Lw3 : Hid (w3.heap.size ≤ w7.heap.size) := (nxTr D4.out (nxTr D5.out E5.out)).size
    have Z4 := Lib.hid K4.out.f
    have Z6 := Lib.hid K6.out.f
    have V70 := Lib.hid (nxTr Hb0.out V7.out)
    clear B5 B7 E5 D4 D5 D6 D7 K4 K6 V3 V4 V5 V6 P4 P6 HK HR HTb HB0 HSb V7
    generalize w4.heap.size = b5 at *
    generalize w6.heap.size = b7 at *
    generalize w3.heap.size = b3 at *
    cases ob with
      | true =>
        have V7d : Hid (Below w7.heap.size w7 w7.drew) := nxDrI (nxRf w7)
        refine wp_region_held_drew (S := fun W => W.rangeAt w.heap.size 0 (hdC h) ∧ W.rangeAt b5 0 (hdC r1) ∧ W.rangeAt b7 0 (hdC r2)) (by kernel_rfl) ⟨R0.out, R5.out, R7.out⟩ (fun hHeld => ?_)
        refine wpAnyH_take (i := 0) (oi := ⟨_, _, _, _, _, _⟩) (v := .agg (hdC h).toArray) rfl (by kernel_rfl) (by kernel_rfl) (by kernel_rfl) (fun _ _ _ h => h) (yieldsIf_load_mid (by rfl) 27 (.tmp 2) rfl (w.heap.size) (0) rfl (hdC h) _ (fun W h => h.1) Tryd.underlying27 rfl HZ.out) (by assumption) ?_
        try simp only [Act.put, List.setIfInBounds_toArray, List.set_cons_zero, List.set_cons_succ]
        refine wpAnyH_take (i := 2) (oi := ⟨_, _, _, _, _, _⟩) (v := .agg (hdC h).toArray) rfl (by kernel_rfl) (by kernel_rfl) (by kernel_rfl) (fun _ _ _ h => h) (yieldsIf_load_mid (by rfl) 27 (.tmp 2) rfl (w.heap.size) (0) rfl (hdC h) _ (fun W h => h.1) Tryd.underlying27 rfl HZ.out) (by assumption) ?_
        try simp only [Act.put, List.setIfInBounds_toArray, List.set_cons_zero, List.set_cons_succ]
        refine wpAnyH_ready (rs := [1]) (by kernel_rfl) (by simp) ?_
        refine AllReadyH.cons rfl (fun K hK => ?_) AllReadyH.nil
        go_simp
        go_at_call 10
        refine (idh_any w7.drew (T7.out.later V7d.out) h (K07.out.later V7d.out)).mono ?_
        rw [HX.out]
        rintro e w8 ⟨rfl, hb⟩
        have V8 : Hid (Below w7.heap.size w7 w8) := nxTr V7d.out hb
        clear hb
        refine hK.out _ _ ⟨rngB R0.out V8.out L0.out, rngB R5.out V8.out L5.out, rngB R7.out V8.out L7.out⟩ (fun hSn => ?_)
        clear hK K
        try simp only [Act.put, List.setIfInBounds_toArray, List.set_cons_zero, List.set_cons_succ]
        refine wpAnyH_ready (rs := [3]) (by kernel_rfl) (by simp) ?_
        refine AllReadyH.cons rfl (fun K hK => ?_) AllReadyH.nil
        go_simp
        go_at_call 11
        refine (ridh_any w8 h (K07.out.later V8.out)).mono ?_
        rw [HX.out]
        rintro e w9 ⟨rfl, hb⟩
        have V9 : Hid (Below w7.heap.size w7 w9) := nxTr V8.out hb
        clear hb
        refine hK.out _ _ ⟨rngB R0.out V9.out L0.out, rngB R5.out V9.out L5.out, rngB R7.out V9.out L7.out⟩ (fun hSn => ?_)
        clear hK K
        try simp only [Act.put, List.setIfInBounds_toArray, List.set_cons_zero, List.set_cons_succ]
        refine wpAnyH_take (i := 4) (oi := ⟨_, _, _, _, _, _⟩) (v := ?_) rfl (by kernel_rfl) (by kernel_rfl) (by kernel_rfl) (fun _ _ _ h => h) (Or.inl ⟨by rfl, ?_⟩) (by assumption) ?_
        rotate_left 1
        · intro W hSw
          try dsimp only at hSw
          go_simp
          try with_reducible rfl
        try simp only [Act.put, List.setIfInBounds_toArray, List.set_cons_zero, List.set_cons_succ]
        refine wpAnyH_take (i := 5) (oi := ⟨_, _, _, _, _, _⟩) (v := ?_) rfl (by kernel_rfl) (by kernel_rfl) (by kernel_rfl) (fun _ _ _ h => h) (Or.inl ⟨by rfl, ?_⟩) (by assumption) ?_
        rotate_left 1
        · intro W hSw
          try dsimp only at hSw
          go_simp
          try with_reducible rfl
        try simp only [Act.put, List.setIfInBounds_toArray, List.set_cons_zero, List.set_cons_succ]
        refine wpAnyH_take (i := 6) (oi := ⟨_, _, _, _, _, _⟩) (v := .agg (hdC r1).toArray) rfl (by kernel_rfl) (by kernel_rfl) (by kernel_rfl) (fun _ _ _ h => h) (yieldsIf_load_mid (by rfl) 27 (.tmp 7) rfl (b5) (0) rfl (hdC r1) _ (fun W h => h.2.1) Tryd.underlying27 rfl (hdSz Z4.out)) (by assumption) ?_
        try simp only [Act.put, List.setIfInBounds_toArray, List.set_cons_zero, List.set_cons_succ]
        refine wpAnyH_take (i := 7) (oi := ⟨_, _, _, _, _, _⟩) (v := .agg (hdC r2).toArray) rfl (by kernel_rfl) (by kernel_rfl) (by kernel_rfl) (fun _ _ _ h => h) (yieldsIf_load_mid (by rfl) 27 (.tmp 9) rfl (b7) (0) rfl (hdC r2) _ (fun W h => h.2.2) Tryd.underlying27 rfl (hdSz Z6.out)) (by assumption) ?_
        try simp only [Act.put, List.setIfInBounds_toArray, List.set_cons_zero, List.set_cons_succ]
        refine wpAnyH_ready (rs := [8]) (by kernel_rfl) (by simp) ?_
        refine AllReadyH.cons rfl (fun K hK => ?_) AllReadyH.nil
        go_simp
        go_at_call 12
        refine (sameh_any w9 r1 r2 (K47.out.later V9.out) (K67.out.later V9.out)).mono ?_
        rw [HSE.out]
        rintro e w10 ⟨rfl, hb⟩
        have V10 : Hid (Below w7.heap.size w7 w10) := nxTr V9.out hb
        clear hb
        refine hK.out _ _ ⟨rngB R0.out V10.out L0.out, rngB R5.out V10.out L5.out, rngB R7.out V10.out L7.out⟩ (fun hSn => ?_)
        clear hK K
        try simp only [Act.put, List.setIfInBounds_toArray, List.set_cons_zero, List.set_cons_succ]
        refine wpAnyH_take (i := 9) (oi := ⟨_, _, _, _, _, _⟩) (v := ?_) rfl (by kernel_rfl) (by kernel_rfl) (by kernel_rfl) (fun _ _ _ h => h) (Or.inl ⟨by rfl, ?_⟩) (by assumption) ?_
        rotate_left 1
        · intro W hSw
          try dsimp only at hSw
          go_simp
          try with_reducible rfl
        try simp only [Act.put, List.setIfInBounds_toArray, List.set_cons_zero, List.set_cons_succ]
        refine wpAnyH_take (i := 10) (oi := ⟨_, _, _, _, _, _⟩) (v := ?_) rfl (by kernel_rfl) (by kernel_rfl) (by kernel_rfl) (fun _ _ _ h => h) (Or.inl ⟨by rfl, ?_⟩) (by assumption) ?_
        rotate_left 1
        · intro W hSw
          try dsimp only at hSw
          go_simp
          try with_reducible rfl
        try simp only [Act.put, List.setIfInBounds_toArray, List.set_cons_zero, List.set_cons_succ]
        refine wpAnyH_take (i := 11) (oi := ⟨_, _, _, _, _, _⟩) (v := ?_) rfl (by kernel_rfl) (by kernel_rfl) (by kernel_rfl) (fun _ _ _ h => h) (Or.inl ⟨by rfl, ?_⟩) (by assumption) ?_
        rotate_left 1
        · intro W hSw
          try dsimp only at hSw
          go_simp
          try with_reducible rfl
        try simp only [Act.put, List.setIfInBounds_toArray, List.set_cons_zero, List.set_cons_succ]
        refine wpAnyH_take (i := 12) (oi := ⟨_, _, _, _, _, _⟩) (v := ?_) rfl (by kernel_rfl) (by kernel_rfl) (by kernel_rfl) (fun _ _ _ h => h) (Or.inl ⟨by rfl, ?_⟩) (by assumption) ?_
        rotate_left 1
        · intro W hSw
          try dsimp only at hSw
          go_simp
          try with_reducible rfl
        try simp only [Act.put, List.setIfInBounds_toArray, List.set_cons_zero, List.set_cons_succ]
        refine wpAnyH_take (i := 15) (oi := ⟨_, _, _, _, _, _⟩) (v := ?_) rfl (by kernel_rfl) (by kernel_rfl) (by kernel_rfl) (fun _ _ _ h => h) (Or.inl ⟨by rfl, ?_⟩) (by assumption) ?_
        rotate_left 1
        · intro W hSw
          try dsimp only at hSw
          go_simp
          try with_reducible rfl
        try simp only [Act.put, List.setIfInBounds_toArray, List.set_cons_zero, List.set_cons_succ]
        refine wpAnyH_ready (rs := [13]) (by kernel_rfl) (by simp) ?_
        refine AllReadyH.cons rfl (fun K hK => ?_) AllReadyH.nil
        go_simp
        go_at_call 13
        refine (num6_any _ _).mono ?_
        rintro e wn ⟨rfl, hwn⟩
        obtain rfl := hwn.symm
        refine hK.out _ _ ⟨rngB R0.out V10.out L0.out, rngB R5.out V10.out L5.out, rngB R7.out V10.out L7.out⟩ (fun hSn => ?_)
        clear hK K
        try simp only [Act.put, List.setIfInBounds_toArray, List.set_cons_zero, List.set_cons_succ]
        refine wpAnyH_take (i := 14) (oi := ⟨_, _, _, _, _, _⟩) (v := ?_) rfl (by kernel_rfl) (by kernel_rfl) (by kernel_rfl) (fun _ _ _ h => h) (Or.inl ⟨by rfl, ?_⟩) (by assumption) ?_
        rotate_left 1
        · intro W hSw
          try dsimp only at hSw
          go_simp
          try with_reducible rfl
        try simp only [Act.put, List.setIfInBounds_toArray, List.set_cons_zero, List.set_cons_succ]
        refine wpAnyH_take (i := 16) (oi := ⟨_, _, _, _, _, _⟩) (v := ?_) rfl (by kernel_rfl) (by kernel_rfl) (by kernel_rfl) (fun _ _ _ h => h) (Or.inl ⟨by rfl, ?_⟩) (by assumption) ?_
        rotate_left 1
        · intro W hSw
          try dsimp only at hSw
          go_simp
          try with_reducible rfl
        try simp only [Act.put, List.setIfInBounds_toArray, List.set_cons_zero, List.set_cons_succ]
        refine wpAnyH_take (i := 17) (oi := ⟨_, _, _, _, _, _⟩) (v := ?_) rfl (by kernel_rfl) (by kernel_rfl) (by kernel_rfl) (fun _ _ _ h => h) (Or.inl ⟨by rfl, ?_⟩) (by assumption) ?_
        rotate_left 1
        · intro W hSw
          try dsimp only at hSw
          go_simp
          try with_reducible rfl
        try simp only [Act.put, List.setIfInBounds_toArray, List.set_cons_zero, List.set_cons_succ]
        refine wpAnyH_take (i := 18) (oi := ⟨_, _, _, _, _, _⟩) (v := ?_) rfl (by kernel_rfl) (by kernel_rfl) (by kernel_rfl) (fun _ _ _ h => h) (Or.inl ⟨by rfl, ?_⟩) (by assumption) ?_
        rotate_left 1
        · intro W hSw
          try dsimp only at hSw
          go_simp
          try with_reducible rfl
        try simp only [Act.put, List.setIfInBounds_toArray, List.set_cons_zero, List.set_cons_succ]
        refine wpAnyH_take (i := 19) (oi := ⟨_, _, _, _, _, _⟩) (v := ?_) rfl (by kernel_rfl) (by kernel_rfl) (by kernel_rfl) (fun _ _ _ h => h) (Or.inl ⟨by rfl, ?_⟩) (by assumption) ?_
        rotate_left 1
        · intro W hSw
          try dsimp only at hSw
          go_simp
          try with_reducible rfl
        try simp only [Act.put, List.setIfInBounds_toArray, List.set_cons_zero, List.set_cons_succ]
        refine wpAnyH_take (i := 20) (oi := ⟨_, _, _, _, _, _⟩) (v := ?_) rfl (by kernel_rfl) (by kernel_rfl) (by kernel_rfl) (fun _ _ _ h => h) (Or.inl ⟨by rfl, ?_⟩) (by assumption) ?_
        rotate_left 1
        · intro W hSw
          try dsimp only at hSw
          go_simp
          try with_reducible rfl
        try simp only [Act.put, List.setIfInBounds_toArray, List.set_cons_zero, List.set_cons_succ]
        refine wpAnyH_take (i := 21) (oi := ⟨_, _, _, _, _, _⟩) (v := ?_) rfl (by kernel_rfl) (by kernel_rfl) (by kernel_rfl) (fun _ _ _ h => h) (Or.inl ⟨by rfl, ?_⟩) (by assumption) ?_
        rotate_left 1
        · intro W hSw
          try dsimp only at hSw
          go_simp
          try with_reducible rfl
        try simp only [Act.put, List.setIfInBounds_toArray, List.set_cons_zero, List.set_cons_succ]
        refine wpAnyH_take (i := 22) (oi := ⟨_, _, _, _, _, _⟩) (v := undef) rfl (by kernel_rfl) (by kernel_rfl) (by kernel_rfl) (fun _ _ _ h => h) (Or.inr ⟨by rfl, rfl⟩) (by assumption) ?_
        try simp only [Act.put, List.setIfInBounds_toArray, List.set_cons_zero, List.set_cons_succ]
        refine wpAnyH_take (i := 23) (oi := ⟨_, _, _, _, _, _⟩) (v := undef) rfl (by kernel_rfl) (by kernel_rfl) (by kernel_rfl) (fun _ _ _ h => h) (Or.inr ⟨by rfl, rfl⟩) (by assumption) ?_
        try simp only [Act.put, List.setIfInBounds_toArray, List.set_cons_zero, List.set_cons_succ]
        refine wpAnyH_take (i := 24) (oi := ⟨_, _, _, _, _, _⟩) (v := undef) rfl (by kernel_rfl) (by kernel_rfl) (by kernel_rfl) (fun _ _ _ h => h) (Or.inr ⟨by rfl, rfl⟩) (by assumption) ?_
        try simp only [Act.put, List.setIfInBounds_toArray, List.set_cons_zero, List.set_cons_succ]
        refine wpAnyH_take (i := 25) (oi := ⟨_, _, _, _, _, _⟩) (v := ?_) rfl (by kernel_rfl) (by kernel_rfl) (by kernel_rfl) (fun _ _ _ h => h) (Or.inl ⟨by rfl, ?_⟩) (by assumption) ?_
        rotate_left 1
        · intro W hSw
          try dsimp only at hSw
          go_simp
          try with_reducible rfl
        try simp only [Act.put, List.setIfInBounds_toArray, List.set_cons_zero, List.set_cons_succ]
        refine wpAnyH_take (i := 26) (oi := ⟨_, _, _, _, _, _⟩) (v := ?_) rfl (by kernel_rfl) (by kernel_rfl) (by kernel_rfl) (fun _ _ _ h => h) (Or.inl ⟨by rfl, ?_⟩) (by assumption) ?_
        rotate_left 1
        · intro W hSw
          try dsimp only at hSw
          go_simp
          try with_reducible rfl
        try simp only [Act.put, List.setIfInBounds_toArray, List.set_cons_zero, List.set_cons_succ]
        refine wpAnyH_done (by kernel_rfl) ?_ _
        have c10 : w10.cell? ⟨w.heap.size, 0, none⟩ = some (.slice h.A h.p.ps.length h.c) := (rngB R0.out V10.out L0.out) 0 _ rfl
        have HV10 := Lib.hid (nxTr V70.out V10.out)
        go_wp2_with fail
        clear c10 hHeld hSn
        have V10d : Hid (Below w7.heap.size w7 w10.drew) := nxDrI V10.out
        refine wp_region_held_drew (S := fun W => W.rangeAt w.heap.size 0 (hdC h) ∧ Sees W b3 A3 F) (by kernel_rfl) ⟨rngB R0.out V10d.out L0.out, S37.out.below (V10d.out.mono Lw3.out)⟩ (fun hHeld => ?_)
        refine wpAnyH_take (i := 0) (oi := ⟨_, _, _, _, _, _⟩) (v := ?_) rfl (by kernel_rfl) (by kernel_rfl) (by kernel_rfl) (fun _ _ _ h => h) (Or.inl ⟨by rfl, ?_⟩) (by assumption) ?_
        rotate_left 1
        · intro W hSw
          try dsimp only at hSw
          go_simp
          try with_reducible rfl
        try simp only [Act.put, List.setIfInBounds_toArray, List.set_cons_zero, List.set_cons_succ]
        refine wpAnyH_take (i := 2) (oi := ⟨_, _, _, _, _, _⟩) (v := .agg (hdC h).toArray) rfl (by kernel_rfl) (by kernel_rfl) (by kernel_rfl) (fun _ _ _ h => h) (yieldsIf_load_mid (by rfl) 27 (.tmp 2) rfl (w.heap.size) (0) rfl (hdC h) _ (fun W h => h.1) Tryd.underlying27 rfl HZ.out) (by assumption) ?_
        try simp only [Act.put, List.setIfInBounds_toArray, List.set_cons_zero, List.set_cons_succ]
        refine wpAnyH_take (i := 1) (oi := ⟨_, _, _, _, _, _⟩) (v := ?_) rfl (by kernel_rfl) (by kernel_rfl) (by kernel_rfl) (fun _ _ _ h => h) (Or.inl ⟨by rfl, ?_⟩) (by assumption) ?_
        rotate_left 1
        · intro W hSw
          try dsimp only at hSw
          have q := run_string_sees (P := Tryd.prog) (w := W) (c := c3) (n := F.length) Tryd.underlying28 Tryd.underlying5 Tryd.underlying9 rfl hSw.2
          go_simp
          try with_reducible rfl
        try simp only [Act.put, List.setIfInBounds_toArray, List.set_cons_zero, List.set_cons_succ]
        refine wpAnyH_ready (rs := [3]) (by kernel_rfl) (by simp) ?_
        refine AllReadyH.cons rfl (fun K hK => ?_) AllReadyH.nil
        go_simp
        go_at_call 14
        refine (rhbytes_any w10.drew h (K07.out.later V10d.out) HMz.out).mono ?_
        unfold RHBytesPost
        rw [HF.out]
        rintro e w11 ⟨⟨A9, c9, rfl, hc9, hs9⟩, hb⟩
        have V11 : Hid (Below w7.heap.size w7 w11) := nxTr V10d.out hb
        have S9 := Lib.hid hs9
        clear hc9 hs9 hb
        refine hK.out _ _ ⟨rngB R0.out V11.out L0.out, S37.out.below (V11.out.mono Lw3.out)⟩ (fun hSn => ?_)
        clear hK K
        try simp only [Act.put, List.setIfInBounds_toArray, List.set_cons_zero, List.set_cons_succ]
        refine wpAnyH_ready (rs := [4]) (by kernel_rfl) (by simp) ?_
        refine AllReadyH.cons rfl (fun K hK => ?_) AllReadyH.nil
        refine step_conv (o := ⟨some 82, _, _, _, _, _⟩) rfl (.tmp 81) 28 9 rfl (.slice A9 F.length c9) (.string (Str F)) rfl (run_string_sees Tryd.underlying28 Tryd.underlying5 Tryd.underlying9 rfl S9.out) ?_
        refine hK.out _ _ ⟨rngB R0.out V11.out L0.out, S37.out.below (V11.out.mono Lw3.out)⟩ (fun hSn => ?_)
        clear hK K
        try simp only [Act.put, List.setIfInBounds_toArray, List.set_cons_zero, List.set_cons_succ]
        refine wpAnyH_take (i := 5) (oi := ⟨_, _, _, _, _, _⟩) (v := ?_) rfl (by kernel_rfl) (by kernel_rfl) (by kernel_rfl) (fun _ _ _ h => h) (Or.inl ⟨by rfl, ?_⟩) (by assumption) ?_
        rotate_left 1
        · intro W hSw
          try dsimp only at hSw
          go_simp
          try with_reducible rfl
        try simp only [Act.put, List.setIfInBounds_toArray, List.set_cons_zero, List.set_cons_succ]
        refine wpAnyH_take (i := 6) (oi := ⟨_, _, _, _, _, _⟩) (v := ?_) rfl (by kernel_rfl) (by kernel_rfl) (by kernel_rfl) (fun _ _ _ h => h) (Or.inl ⟨by rfl, ?_⟩) (by assumption) ?_
        rotate_left 1
        · intro W hSw
          try dsimp only at hSw
          go_simp
          try with_reducible rfl
        try simp only [Act.put, List.setIfInBounds_toArray, List.set_cons_zero, List.set_cons_succ]
        refine wpAnyH_take (i := 7) (oi := ⟨_, _, _, _, _, _⟩) (v := ?_) rfl (by kernel_rfl) (by kernel_rfl) (by kernel_rfl) (fun _ _ _ h => h) (Or.inl ⟨by rfl, ?_⟩) (by assumption) ?_
        rotate_left 1
        · intro W hSw
          try dsimp only at hSw
          go_simp
          try with_reducible rfl
        try simp only [Act.put, List.setIfInBounds_toArray, List.set_cons_zero, List.set_cons_succ]
        refine wpAnyH_ready (rs := [8]) (by kernel_rfl) (by simp) ?_
        refine AllReadyH.cons rfl (fun K hK => ?_) AllReadyH.nil
        go_simp
        go_at_call 13
        refine (num6_any _ _).mono ?_
        rintro e wn ⟨rfl, hwn⟩
        obtain rfl := hwn.symm
        refine hK.out _ _ ⟨rngB R0.out V11.out L0.out, S37.out.below (V11.out.mono Lw3.out)⟩ (fun hSn => ?_)
        clear hK K
        try simp only [Act.put, List.setIfInBounds_toArray, List.set_cons_zero, List.set_cons_succ]
        refine wpAnyH_take (i := 9) (oi := ⟨_, _, _, _, _, _⟩) (v := ?_) rfl (by kernel_rfl) (by kernel_rfl) (by kernel_rfl) (fun _ _ _ h => h) (Or.inl ⟨by rfl, ?_⟩) (by assumption) ?_
        rotate_left 1
        · intro W hSw
          try dsimp only at hSw
          go_simp
          try with_reducible rfl
        try simp only [Act.put, List.setIfInBounds_toArray, List.set_cons_zero, List.set_cons_succ]
        refine wpAnyH_take (i := 10) (oi := ⟨_, _, _, _, _, _⟩) (v := ?_) rfl (by kernel_rfl) (by kernel_rfl) (by kernel_rfl) (fun _ _ _ h => h) (Or.inl ⟨by rfl, ?_⟩) (by assumption) ?_
        rotate_left 1
        · intro W hSw
          try dsimp only at hSw
          go_simp
          try with_reducible rfl
        try simp only [Act.put, List.setIfInBounds_toArray, List.set_cons_zero, List.set_cons_succ]
        refine wpAnyH_take (i := 11) (oi := ⟨_, _, _, _, _, _⟩) (v := ?_) rfl (by kernel_rfl) (by kernel_rfl) (by kernel_rfl) (fun _ _ _ h => h) (Or.inl ⟨by rfl, ?_⟩) (by assumption) ?_
        rotate_left 1
        · intro W hSw
          try dsimp only at hSw
          go_simp
          try with_reducible rfl
        try simp only [Act.put, List.setIfInBounds_toArray, List.set_cons_zero, List.set_cons_succ]
        refine wpAnyH_ready (rs := [12]) (by kernel_rfl) (by simp) ?_
        refine AllReadyH.cons rfl (fun K hK => ?_) AllReadyH.nil
        go_simp
        go_at_call 6
        refine (known6_any w11).mono ?_
        rintro e w12 ⟨rfl, hb⟩
        have V12 : Hid (Below w7.heap.size w7 w12) := nxTr V11.out hb
        clear hb
        refine hK.out _ _ ⟨rngB R0.out V12.out L0.out, S37.out.below (V12.out.mono Lw3.out)⟩ (fun hSn => ?_)
        clear hK K
        try simp only [Act.put, List.setIfInBounds_toArray, List.set_cons_zero, List.set_cons_succ]
        refine wpAnyH_take (i := 13) (oi := ⟨_, _, _, _, _, _⟩) (v := ?_) rfl (by kernel_rfl) (by kernel_rfl) (by kernel_rfl) (fun _ _ _ h => h) (Or.inl ⟨by rfl, ?_⟩) (by assumption) ?_
        rotate_left 1
        · intro W hSw
          try dsimp only at hSw
          go_simp
          try with_reducible rfl
        try simp only [Act.put, List.setIfInBounds_toArray, List.set_cons_zero, List.set_cons_succ]
        refine wpAnyH_take (i := 14) (oi := ⟨_, _, _, _, _, _⟩) (v := ?_) rfl (by kernel_rfl) (by kernel_rfl) (by kernel_rfl) (fun _ _ _ h => h) (Or.inl ⟨by rfl, ?_⟩) (by assumption) ?_
        rotate_left 1
        · intro W hSw
          try dsimp only at hSw
          go_simp
          try with_reducible rfl
        try simp only [Act.put, List.setIfInBounds_toArray, List.set_cons_zero, List.set_cons_succ]
        refine wpAnyH_done (by kernel_rfl) ?_ _
        go_wp2
        go_ret
        exact ⟨rfl, nxTr V70.out V12.out⟩
      | false =>
        have V7d : Hid (Below w7.heap.size w7 w7.drew) := nxDrI (nxRf w7)
        refine wp_region_held_drew (S := fun W => W.rangeAt w.heap.size 0 (hdC h) ∧ W.rangeAt b5 0 (hdC r1) ∧ W.rangeAt b7 0 (hdC r2)) (by kernel_rfl) ⟨R0.out, R5.out, R7.out⟩ (fun hHeld => ?_)
        refine wpAnyH_take (i := 0) (oi := ⟨_, _, _, _, _, _⟩) (v := .agg (hdC h).toArray) rfl (by kernel_rfl) (by kernel_rfl) (by kernel_rfl) (fun _ _ _ h => h) (yieldsIf_load_mid (by rfl) 27 (.tmp 2) rfl (w.heap.size) (0) rfl (hdC h) _ (fun W h => h.1) Tryd.underlying27 rfl HZ.out) (by assumption) ?_
        try simp only [Act.put, List.setIfInBounds_toArray, List.set_cons_zero, List.set_cons_succ]
        refine wpAnyH_take (i := 2) (oi := ⟨_, _, _, _, _, _⟩) (v := .agg (hdC h).toArray) rfl (by kernel_rfl) (by kernel_rfl) (by kernel_rfl) (fun _ _ _ h => h) (yieldsIf_load_mid (by rfl) 27 (.tmp 2) rfl (w.heap.size) (0) rfl (hdC h) _ (fun W h => h.1) Tryd.underlying27 rfl HZ.out) (by assumption) ?_
        try simp only [Act.put, List.setIfInBounds_toArray, List.set_cons_zero, List.set_cons_succ]
        refine wpAnyH_ready (rs := [1]) (by kernel_rfl) (by simp) ?_
        refine AllReadyH.cons rfl (fun K hK => ?_) AllReadyH.nil
        go_simp
        go_at_call 10
        refine (idh_any w7.drew (T7.out.later V7d.out) h (K07.out.later V7d.out)).mono ?_
        rw [HX.out]
        rintro e w8 ⟨rfl, hb⟩
        have V8 : Hid (Below w7.heap.size w7 w8) := nxTr V7d.out hb
        clear hb
        refine hK.out _ _ ⟨rngB R0.out V8.out L0.out, rngB R5.out V8.out L5.out, rngB R7.out V8.out L7.out⟩ (fun hSn => ?_)
        clear hK K
        try simp only [Act.put, List.setIfInBounds_toArray, List.set_cons_zero, List.set_cons_succ]
        refine wpAnyH_ready (rs := [3]) (by kernel_rfl) (by simp) ?_
        refine AllReadyH.cons rfl (fun K hK => ?_) AllReadyH.nil
        go_simp
        go_at_call 11
        refine (ridh_any w8 h (K07.out.later V8.out)).mono ?_
        rw [HX.out]
        rintro e w9 ⟨rfl, hb⟩
        have V9 : Hid (Below w7.heap.size w7 w9) := nxTr V8.out hb
        clear hb
        refine hK.out _ _ ⟨rngB R0.out V9.out L0.out, rngB R5.out V9.out L5.out, rngB R7.out V9.out L7.out⟩ (fun hSn => ?_)
        clear hK K
        try simp only [Act.put, List.setIfInBounds_toArray, List.set_cons_zero, List.set_cons_succ]
        refine wpAnyH_take (i := 4) (oi := ⟨_, _, _, _, _, _⟩) (v := ?_) rfl (by kernel_rfl) (by kernel_rfl) (by kernel_rfl) (fun _ _ _ h => h) (Or.inl ⟨by rfl, ?_⟩) (by assumption) ?_
        rotate_left 1
        · intro W hSw
          try dsimp only at hSw
          go_simp
          try with_reducible rfl
        try simp only [Act.put, List.setIfInBounds_toArray, List.set_cons_zero, List.set_cons_succ]
        refine wpAnyH_take (i := 5) (oi := ⟨_, _, _, _, _, _⟩) (v := ?_) rfl (by kernel_rfl) (by kernel_rfl) (by kernel_rfl) (fun _ _ _ h => h) (Or.inl ⟨by rfl, ?_⟩) (by assumption) ?_
        rotate_left 1
        · intro W hSw
          try dsimp only at hSw
          go_simp
          try with_reducible rfl
        try simp only [Act.put, List.setIfInBounds_toArray, List.set_cons_zero, List.set_cons_succ]
        refine wpAnyH_take (i := 6) (oi := ⟨_, _, _, _, _, _⟩) (v := .agg (hdC r1).toArray) rfl (by kernel_rfl) (by kernel_rfl) (by kernel_rfl) (fun _ _ _ h => h) (yieldsIf_load_mid (by rfl) 27 (.tmp 7) rfl (b5) (0) rfl (hdC r1) _ (fun W h => h.2.1) Tryd.underlying27 rfl (hdSz Z4.out)) (by assumption) ?_
        try simp only [Act.put, List.setIfInBounds_toArray, List.set_cons_zero, List.set_cons_succ]
        refine wpAnyH_take (i := 7) (oi := ⟨_, _, _, _, _, _⟩) (v := .agg (hdC r2).toArray) rfl (by kernel_rfl) (by kernel_rfl) (by kernel_rfl) (fun _ _ _ h => h) (yieldsIf_load_mid (by rfl) 27 (.tmp 9) rfl (b7) (0) rfl (hdC r2) _ (fun W h => h.2.2) Tryd.underlying27 rfl (hdSz Z6.out)) (by assumption) ?_
        try simp only [Act.put, List.setIfInBounds_toArray, List.set_cons_zero, List.set_cons_succ]
        refine wpAnyH_ready (rs := [8]) (by kernel_rfl) (by simp) ?_
        refine AllReadyH.cons rfl (fun K hK => ?_) AllReadyH.nil
        go_simp
        go_at_call 12
        refine (sameh_any w9 r1 r2 (K47.out.later V9.out) (K67.out.later V9.out)).mono ?_
        rw [HSE.out]
        rintro e w10 ⟨rfl, hb⟩
        have V10 : Hid (Below w7.heap.size w7 w10) := nxTr V9.out hb
        clear hb
        refine hK.out _ _ ⟨rngB R0.out V10.out L0.out, rngB R5.out V10.out L5.out, rngB R7.out V10.out L7.out⟩ (fun hSn => ?_)
        clear hK K
        try simp only [Act.put, List.setIfInBounds_toArray, List.set_cons_zero, List.set_cons_succ]
        refine wpAnyH_take (i := 9) (oi := ⟨_, _, _, _, _, _⟩) (v := ?_) rfl (by kernel_rfl) (by kernel_rfl) (by kernel_rfl) (fun _ _ _ h => h) (Or.inl ⟨by rfl, ?_⟩) (by assumption) ?_
        rotate_left 1
        · intro W hSw
          try dsimp only at hSw
          go_simp
          try with_reducible rfl
        try simp only [Act.put, List.setIfInBounds_toArray, List.set_cons_zero, List.set_cons_succ]
        refine wpAnyH_take (i := 10) (oi := ⟨_, _, _, _, _, _⟩) (v := ?_) rfl (by kernel_rfl) (by kernel_rfl) (by kernel_rfl) (fun _ _ _ h => h) (Or.inl ⟨by rfl, ?_⟩) (by assumption) ?_
        rotate_left 1
        · intro W hSw
          try dsimp only at hSw
          go_simp
          try with_reducible rfl
        try simp only [Act.put, List.setIfInBounds_toArray, List.set_cons_zero, List.set_cons_succ]
        refine wpAnyH_take (i := 11) (oi := ⟨_, _, _, _, _, _⟩) (v := ?_) rfl (by kernel_rfl) (by kernel_rfl) (by kernel_rfl) (fun _ _ _ h => h) (Or.inl ⟨by rfl, ?_⟩) (by assumption) ?_
        rotate_left 1
        · intro W hSw
          try dsimp only at hSw
          go_simp
          try with_reducible rfl
        try simp only [Act.put, List.setIfInBounds_toArray, List.set_cons_zero, List.set_cons_succ]
        refine wpAnyH_take (i := 12) (oi := ⟨_, _, _, _, _, _⟩) (v := ?_) rfl (by kernel_rfl) (by kernel_rfl) (by kernel_rfl) (fun _ _ _ h => h) (Or.inl ⟨by rfl, ?_⟩) (by assumption) ?_
        rotate_left 1
        · intro W hSw
          try dsimp only at hSw
          go_simp
          try with_reducible rfl
        try simp only [Act.put, List.setIfInBounds_toArray, List.set_cons_zero, List.set_cons_succ]
        refine wpAnyH_take (i := 15) (oi := ⟨_, _, _, _, _, _⟩) (v := ?_) rfl (by kernel_rfl) (by kernel_rfl) (by kernel_rfl) (fun _ _ _ h => h) (Or.inl ⟨by rfl, ?_⟩) (by assumption) ?_
        rotate_left 1
        · intro W hSw
          try dsimp only at hSw
          go_simp
          try with_reducible rfl
        try simp only [Act.put, List.setIfInBounds_toArray, List.set_cons_zero, List.set_cons_succ]
        refine wpAnyH_ready (rs := [13]) (by kernel_rfl) (by simp) ?_
        refine AllReadyH.cons rfl (fun K hK => ?_) AllReadyH.nil
        go_simp
        go_at_call 13
        refine (num6_any _ _).mono ?_
        rintro e wn ⟨rfl, hwn⟩
        obtain rfl := hwn.symm
        refine hK.out _ _ ⟨rngB R0.out V10.out L0.out, rngB R5.out V10.out L5.out, rngB R7.out V10.out L7.out⟩ (fun hSn => ?_)
        clear hK K
        try simp only [Act.put, List.setIfInBounds_toArray, List.set_cons_zero, List.set_cons_succ]
        refine wpAnyH_take (i := 14) (oi := ⟨_, _, _, _, _, _⟩) (v := ?_) rfl (by kernel_rfl) (by kernel_rfl) (by kernel_rfl) (fun _ _ _ h => h) (Or.inl ⟨by rfl, ?_⟩) (by assumption) ?_
        rotate_left 1
        · intro W hSw
          try dsimp only at hSw
          go_simp
          try with_reducible rfl
        try simp only [Act.put, List.setIfInBounds_toArray, List.set_cons_zero, List.set_cons_succ]
        refine wpAnyH_take (i := 16) (oi := ⟨_, _, _, _, _, _⟩) (v := ?_) rfl (by kernel_rfl) (by kernel_rfl) (by kernel_rfl) (fun _ _ _ h => h) (Or.inl ⟨by rfl, ?_⟩) (by assumption) ?_
        rotate_left 1
        · intro W hSw
          try dsimp only at hSw
          go_simp
          try with_reducible rfl
        try simp only [Act.put, List.setIfInBounds_toArray, List.set_cons_zero, List.set_cons_succ]
        refine wpAnyH_take (i := 17) (oi := ⟨_, _, _, _, _, _⟩) (v := ?_) rfl (by kernel_rfl) (by kernel_rfl) (by kernel_rfl) (fun _ _ _ h => h) (Or.inl ⟨by rfl, ?_⟩) (by assumption) ?_
        rotate_left 1
        · intro W hSw
          try dsimp only at hSw
          go_simp
          try with_reducible rfl
        try simp only [Act.put, List.setIfInBounds_toArray, List.set_cons_zero, List.set_cons_succ]
        refine wpAnyH_take (i := 18) (oi := ⟨_, _, _, _, _, _⟩) (v := ?_) rfl (by kernel_rfl) (by kernel_rfl) (by kernel_rfl) (fun _ _ _ h => h) (Or.inl ⟨by rfl, ?_⟩) (by assumption) ?_
        rotate_left 1
        · intro W hSw
          try dsimp only at hSw
          go_simp
          try with_reducible rfl
        try simp only [Act.put, List.setIfInBounds_toArray, List.set_cons_zero, List.set_cons_succ]
        refine wpAnyH_take (i := 19) (oi := ⟨_, _, _, _, _, _⟩) (v := ?_) rfl (by kernel_rfl) (by kernel_rfl) (by kernel_rfl) (fun _ _ _ h => h) (Or.inl ⟨by rfl, ?_⟩) (by assumption) ?_
        rotate_left 1
        · intro W hSw
          try dsimp only at hSw
          go_simp
          try with_reducible rfl
        try simp only [Act.put, List.setIfInBounds_toArray, List.set_cons_zero, List.set_cons_succ]
        refine wpAnyH_take (i := 20) (oi := ⟨_, _, _, _, _, _⟩) (v := ?_) rfl (by kernel_rfl) (by kernel_rfl) (by kernel_rfl) (fun _ _ _ h => h) (Or.inl ⟨by rfl, ?_⟩) (by assumption) ?_
        rotate_left 1
        · intro W hSw
          try dsimp only at hSw
          go_simp
          try with_reducible rfl
        try simp only [Act.put, List.setIfInBounds_toArray, List.set_cons_zero, List.set_cons_succ]
        refine wpAnyH_take (i := 21) (oi := ⟨_, _, _, _, _, _⟩) (v := ?_) rfl (by kernel_rfl) (by kernel_rfl) (by kernel_rfl) (fun _ _ _ h => h) (Or.inl ⟨by rfl, ?_⟩) (by assumption) ?_
        rotate_left 1
        · intro W hSw
          try dsimp only at hSw
          go_simp
          try with_reducible rfl
        try simp only [Act.put, List.setIfInBounds_toArray, List.set_cons_zero, List.set_cons_succ]
        refine wpAnyH_take (i := 22) (oi := ⟨_, _, _, _, _, _⟩) (v := ?_) rfl (by kernel_rfl) (by kernel_rfl) (by kernel_rfl) (fun _ _ _ h => h) (Or.inl ⟨by rfl, ?_⟩) (by assumption) ?_
        rotate_left 1
        · intro W hSw
          try dsimp only at hSw
          go_simp
          try with_reducible rfl
        try simp only [Act.put, List.setIfInBounds_toArray, List.set_cons_zero, List.set_cons_succ]
        refine wpAnyH_ready (rs := [23]) (by kernel_rfl) (by simp) ?_
        refine AllReadyH.cons rfl (fun K hK => ?_) AllReadyH.nil
        go_simp
        go_at_call 13
        refine (num6_any _ _).mono ?_
        rintro e wn ⟨rfl, hwn⟩
        obtain rfl := hwn.symm
        refine hK.out _ _ ⟨rngB R0.out V10.out L0.out, rngB R5.out V10.out L5.out, rngB R7.out V10.out L7.out⟩ (fun hSn => ?_)
        clear hK K
        try simp only [Act.put, List.setIfInBounds_toArray, List.set_cons_zero, List.set_cons_succ]
        refine wpAnyH_take (i := 24) (oi := ⟨_, _, _, _, _, _⟩) (v := ?_) rfl (by kernel_rfl) (by kernel_rfl) (by kernel_rfl) (fun _ _ _ h => h) (Or.inl ⟨by rfl, ?_⟩) (by assumption) ?_
        rotate_left 1
        · intro W hSw
          try dsimp only at hSw
          go_simp
          try with_reducible rfl
        try simp only [Act.put, List.setIfInBounds_toArray, List.set_cons_zero, List.set_cons_succ]
        refine wpAnyH_take (i := 25) (oi := ⟨_, _, _, _, _, _⟩) (v := ?_) rfl (by kernel_rfl) (by kernel_rfl) (by kernel_rfl) (fun _ _ _ h => h) (Or.inl ⟨by rfl, ?_⟩) (by assumption) ?_
        rotate_left 1
        · intro W hSw
          try dsimp only at hSw
          go_simp
          try with_reducible rfl
        try simp only [Act.put, List.setIfInBounds_toArray, List.set_cons_zero, List.set_cons_succ]
        refine wpAnyH_take (i := 26) (oi := ⟨_, _, _, _, _, _⟩) (v := ?_) rfl (by kernel_rfl) (by kernel_rfl) (by kernel_rfl) (fun _ _ _ h => h) (Or.inl ⟨by rfl, ?_⟩) (by assumption) ?_
        rotate_left 1
        · intro W hSw
          try dsimp only at hSw
          go_simp
          try with_reducible rfl
        try simp only [Act.put, List.setIfInBounds_toArray, List.set_cons_zero, List.set_cons_succ]
        refine wpAnyH_done (by kernel_rfl) ?_ _
        have c10 : w10.cell? ⟨w.heap.size, 0, none⟩ = some (.slice h.A h.p.ps.length h.c) := (rngB R0.out V10.out L0.out) 0 _ rfl
        have HV10 := Lib.hid (nxTr V70.out V10.out)
        go_wp2_with fail
        clear c10 hHeld hSn
        have V10d : Hid (Below w7.heap.size w7 w10.drew) := nxDrI V10.out
        refine wp_region_held_drew (S := fun W => W.rangeAt w.heap.size 0 (hdC h) ∧ Sees W b3 A3 F) (by kernel_rfl) ⟨rngB R0.out V10d.out L0.out, S37.out.below (V10d.out.mono Lw3.out)⟩ (fun hHeld => ?_)
        refine wpAnyH_take (i := 0) (oi := ⟨_, _, _, _, _, _⟩) (v := ?_) rfl (by kernel_rfl) (by kernel_rfl) (by kernel_rfl) (fun _ _ _ h => h) (Or.inl ⟨by rfl, ?_⟩) (by assumption) ?_
        rotate_left 1
        · intro W hSw
          try dsimp only at hSw
          go_simp
          try with_reducible rfl
        try simp only [Act.put, List.setIfInBounds_toArray, List.set_cons_zero, List.set_cons_succ]
        refine wpAnyH_take (i := 2) (oi := ⟨_, _, _, _, _, _⟩) (v := .agg (hdC h).toArray) rfl (by kernel_rfl) (by kernel_rfl) (by kernel_rfl) (fun _ _ _ h => h) (yieldsIf_load_mid (by rfl) 27 (.tmp 2) rfl (w.heap.size) (0) rfl (hdC h) _ (fun W h => h.1) Tryd.underlying27 rfl HZ.out) (by assumption) ?_
        try simp only [Act.put, List.setIfInBounds_toArray, List.set_cons_zero, List.set_cons_succ]
        refine wpAnyH_take (i := 1) (oi := ⟨_, _, _, _, _, _⟩) (v := ?_) rfl (by kernel_rfl) (by kernel_rfl) (by kernel_rfl) (fun _ _ _ h => h) (Or.inl ⟨by rfl, ?_⟩) (by assumption) ?_
        rotate_left 1
        · intro W hSw
          try dsimp only at hSw
          have q := run_string_sees (P := Tryd.prog) (w := W) (c := c3) (n := F.length) Tryd.underlying28 Tryd.underlying5 Tryd.underlying9 rfl hSw.2
          go_simp
          try with_reducible rfl
        try simp only [Act.put, List.setIfInBounds_toArray, List.set_cons_zero, List.set_cons_succ]
        refine wpAnyH_ready (rs := [3]) (by kernel_rfl) (by simp) ?_
        refine AllReadyH.cons rfl (fun K hK => ?_) AllReadyH.nil
        go_simp
        go_at_call 14
        refine (rhbytes_any w10.drew h (K07.out.later V10d.out) HMz.out).mono ?_
        unfold RHBytesPost
        rw [HF.out]
        rintro e w11 ⟨⟨A9, c9, rfl, hc9, hs9⟩, hb⟩
        have V11 : Hid (Below w7.heap.size w7 w11) := nxTr V10d.out hb
        have S9 := Lib.hid hs9
        clear hc9 hs9 hb
        refine hK.out _ _ ⟨rngB R0.out V11.out L0.out, S37.out.below (V11.out.mono Lw3.out)⟩ (fun hSn => ?_)
        clear hK K
        try simp only [Act.put, List.setIfInBounds_toArray, List.set_cons_zero, List.set_cons_succ]
        refine wpAnyH_ready (rs := [4]) (by kernel_rfl) (by simp) ?_
        refine AllReadyH.cons rfl (fun K hK => ?_) AllReadyH.nil
        refine step_conv (o := ⟨some 82, _, _, _, _, _⟩) rfl (.tmp 81) 28 9 rfl (.slice A9 F.length c9) (.string (Str F)) rfl (run_string_sees Tryd.underlying28 Tryd.underlying5 Tryd.underlying9 rfl S9.out) ?_
        refine hK.out _ _ ⟨rngB R0.out V11.out L0.out, S37.out.below (V11.out.mono Lw3.out)⟩ (fun hSn => ?_)
        clear hK K
        try simp only [Act.put, List.setIfInBounds_toArray, List.set_cons_zero, List.set_cons_succ]
        refine wpAnyH_take (i := 5) (oi := ⟨_, _, _, _, _, _⟩) (v := ?_) rfl (by kernel_rfl) (by kernel_rfl) (by kernel_rfl) (fun _ _ _ h => h) (Or.inl ⟨by rfl, ?_⟩) (by assumption) ?_
        rotate_left 1
        · intro W hSw
          try dsimp only at hSw
          go_simp
          try with_reducible rfl
        try simp only [Act.put, List.setIfInBounds_toArray, List.set_cons_zero, List.set_cons_succ]
        refine wpAnyH_take (i := 6) (oi := ⟨_, _, _, _, _, _⟩) (v := ?_) rfl (by kernel_rfl) (by kernel_rfl) (by kernel_rfl) (fun _ _ _ h => h) (Or.inl ⟨by rfl, ?_⟩) (by assumption) ?_
        rotate_left 1
        · intro W hSw
          try dsimp only at hSw
          go_simp
          try with_reducible rfl
        try simp only [Act.put, List.setIfInBounds_toArray, List.set_cons_zero, List.set_cons_succ]
        refine wpAnyH_take (i := 7) (oi := ⟨_, _, _, _, _, _⟩) (v := ?_) rfl (by kernel_rfl) (by kernel_rfl) (by kernel_rfl) (fun _ _ _ h => h) (Or.inl ⟨by rfl, ?_⟩) (by assumption) ?_
        rotate_left 1
        · intro W hSw
          try dsimp only at hSw
          go_simp
          try with_reducible rfl
        try simp only [Act.put, List.setIfInBounds_toArray, List.set_cons_zero, List.set_cons_succ]
        refine wpAnyH_ready (rs := [8]) (by kernel_rfl) (by simp) ?_
        refine AllReadyH.cons rfl (fun K hK => ?_) AllReadyH.nil
        go_simp
        go_at_call 13
        refine (num6_any _ _).mono ?_
        rintro e wn ⟨rfl, hwn⟩
        obtain rfl := hwn.symm
        refine hK.out _ _ ⟨rngB R0.out V11.out L0.out, S37.out.below (V11.out.mono Lw3.out)⟩ (fun hSn => ?_)
        clear hK K
        try simp only [Act.put, List.setIfInBounds_toArray, List.set_cons_zero, List.set_cons_succ]
        refine wpAnyH_take (i := 9) (oi := ⟨_, _, _, _, _, _⟩) (v := ?_) rfl (by kernel_rfl) (by kernel_rfl) (by kernel_rfl) (fun _ _ _ h => h) (Or.inl ⟨by rfl, ?_⟩) (by assumption) ?_
        rotate_left 1
        · intro W hSw
          try dsimp only at hSw
          go_simp
          try with_reducible rfl
        try simp only [Act.put, List.setIfInBounds_toArray, List.set_cons_zero, List.set_cons_succ]
        refine wpAnyH_take (i := 10) (oi := ⟨_, _, _, _, _, _⟩) (v := ?_) rfl (by kernel_rfl) (by kernel_rfl) (by kernel_rfl) (fun _ _ _ h => h) (Or.inl ⟨by rfl, ?_⟩) (by assumption) ?_
        rotate_left 1
        · intro W hSw
          try dsimp only at hSw
          go_simp
          try with_reducible rfl
        try simp only [Act.put, List.setIfInBounds_toArray, List.set_cons_zero, List.set_cons_succ]
        refine wpAnyH_take (i := 11) (oi := ⟨_, _, _, _, _, _⟩) (v := ?_) rfl (by kernel_rfl) (by kernel_rfl) (by kernel_rfl) (fun _ _ _ h => h) (Or.inl ⟨by rfl, ?_⟩) (by assumption) ?_
        rotate_left 1
        · intro W hSw
          try dsimp only at hSw
          go_simp
          try with_reducible rfl
        try simp only [Act.put, List.setIfInBounds_toArray, List.set_cons_zero, List.set_cons_succ]
        refine wpAnyH_ready (rs := [12]) (by kernel_rfl) (by simp) ?_
        refine AllReadyH.cons rfl (fun K hK => ?_) AllReadyH.nil
        go_simp
        go_at_call 6
        refine (known6_any w11).mono ?_
        rintro e w12 ⟨rfl, hb⟩
        have V12 : Hid (Below w7.heap.size w7 w12) := nxTr V11.out hb
        clear hb
        refine hK.out _ _ ⟨rngB R0.out V12.out L0.out, S37.out.below (V12.out.mono Lw3.out)⟩ (fun hSn => ?_)
        clear hK K
        try simp only [Act.put, List.setIfInBounds_toArray, List.set_cons_zero, List.set_cons_succ]
        refine wpAnyH_take (i := 13) (oi := ⟨_, _, _, _, _, _⟩) (v := ?_) rfl (by kernel_rfl) (by kernel_rfl) (by kernel_rfl) (fun _ _ _ h => h) (Or.inl ⟨by rfl, ?_⟩) (by assumption) ?_
        rotate_left 1
        · intro W hSw
          try dsimp only at hSw
          go_simp
          try with_reducible rfl
        try simp only [Act.put, List.setIfInBounds_toArray, List.set_cons_zero, List.set_cons_succ]
        refine wpAnyH_take (i := 14) (oi := ⟨_, _, _, _, _, _⟩) (v := ?_) rfl (by kernel_rfl) (by kernel_rfl) (by kernel_rfl) (fun _ _ _ h => h) (Or.inl ⟨by rfl, ?_⟩) (by assumption) ?_
        rotate_left 1
        · intro W hSw
          try dsimp only at hSw
          go_simp
          try with_reducible rfl
        try simp only [Act.put, List.setIfInBounds_toArray, List.set_cons_zero, List.set_cons_succ]
        refine wpAnyH_done (by kernel_rfl) ?_ _
        go_wp2
        go_ret
        exact ⟨rfl, nxTr V70.out V12.out⟩
  | false =>
    have h255 : (255 : Int) < (h.p.ps.length : Int) := by have := of_decide_eq_false hmd2.symm; omega
    clear hmd2
    go_enter Tryd.func3, Tryd.ntmps3
    go_wp2_with (first
      | ((with_reducible show wpList _ _ _ (⟨some 22, _, _, _, _, _⟩ :: _) _ _); refine wpList_load_mid rfl 27 (.tmp 2) rfl w.heap.size 0 rfl (hdC h) _ HR.out Tryd.underlying27 rfl HZ.out ?_)
      | (go_at_call 7; refine (hbytes_no (w.alloc (.cells (hdC h).toArray 27)) h HK.out HMz.out).mono ?_; rintro e w3 ⟨rfl, hb3⟩; have V3 : Hid (Below (w.alloc (.cells (hdC h).toArray 27)).heap.size (w.alloc (.cells (hdC h).toArray 27)) w3) := hb3; clear hb3)
      | (go_at_call 8; refine (ofh_any w3 w.heap.size A bs c (HSb.out.below (nxTr Hb0.out V3.out)) HBL.out).mono ?_; unfold OfHPost; rw [HP.out, HOb.out]; rintro e w4 ⟨r1, rfl, hp4, hk4, hb4⟩; have P4 := Lib.hid hp4; have K4 := Lib.hid hk4; have V4 : Hid (Below (w.alloc (.cells (hdC h).toArray 27)).heap.size (w.alloc (.cells (hdC h).toArray 27)) w4) := nxTr V3.out hb4; have D4 : Hid (Below w3.heap.size w3 w4) := hb4; clear hp4 hk4 hb4)
      | ((with_reducible show wpList _ _ _ (⟨none, .store 27 (.tmp 7) _, _, _, _, _⟩ :: _) _ _); show wpList _ _ _ _ _ (w4.alloc (.cells hdZ 27)); refine wpList_store_all rfl 27 (.tmp 7) (.tmp 29) rfl w4.heap.size 27 hdZ (hdC r1).toArray rfl rfl (heap_alloc_new w4 _) (show (130 : Nat) = (hdC r1).length from (hdC_len K4.out.f).symm) (hdSz' K4.out.f) (hdC_one r1) ?_; intro w5 h5 h6 h7; have B5 := Lib.hid h5; have D5 : Hid (Below w4.heap.size w4 w5) := (nxAl (nxRf w4) _).trans (h6.below (nxAl (nxRf w4) _).size (fun k hk => by omega)); have V5 : Hid (Below (w.alloc (.cells (hdC h).toArray 27)).heap.size (w.alloc (.cells (hdC h).toArray 27)) w5) := nxTr V4.out D5.out; clear h5 h6 h7)
      | (go_at_call 9; refine (rofh_any w5 A bs c ((HSb.out.below (nxTr Hb0.out V5.out)).size) HBC.out HCM.out HBL.out).mono ?_; unfold ROfHPost; rw [HP.out, HOb.out]; rintro e w6 ⟨r2, rfl, hp6, hk6, hb6⟩; have P6 := Lib.hid hp6; have K6 := Lib.hid hk6; have D6 : Hid (Below w5.heap.size w5 w6) := hb6; have V6 : Hid (Below (w.alloc (.cells (hdC h).toArray 27)).heap.size (w.alloc (.cells (hdC h).toArray 27)) w6) := nxTr V5.out hb6; clear hp6 hk6 hb6)
      | ((with_reducible show wpList _ _ _ (⟨none, .store 27 (.tmp 9) _, _, _, _, _⟩ :: _) _ _); show wpList _ _ _ _ _ (w6.alloc (.cells hdZ 27)); refine wpList_store_all rfl 27 (.tmp 9) (.tmp 34) rfl w6.heap.size 27 hdZ (hdC r2).toArray rfl rfl (heap_alloc_new w6 _) (show (130 : Nat) = (hdC r2).length from (hdC_len K6.out.f).symm) (hdSz' K6.out.f) (hdC_one r2) ?_; intro w7 h5 h6 h7; have B7 := Lib.hid h5; have D7 : Hid (Below w6.heap.size w6 w7) := (nxAl (nxRf w6) _).trans (h6.below (nxAl (nxRf w6) _).size (fun k hk => by omega)); have V7 : Hid (Below (w.alloc (.cells (hdC h).toArray 27)).heap.size (w.alloc (.cells (hdC h).toArray 27)) w7) := nxTr V6.out D7.out; clear h5 h6 h7))
    have E5 : Hid (Below w5.heap.size w5 w7) := nxTr D6.out D7.out
    have R5 := Lib.hid (rngB (blkR (vs := hdC r1) B5.out) E5.out B5.out.lt)
    have R7 := Lib.hid (blkR (vs := hdC r2) B7.out)
    have L5 : Hid (w4.heap.size < w7.heap.size) := Nat.lt_of_lt_of_le B5.out.lt E5.out.size
    have L7 : Hid (w6.heap.size < w7.heap.size) := B7.out.lt
    have K47 := Lib.hid ((K4.out.later D5.out).later E5.out)
    have K67 := Lib.hid (K6.out.later D7.out)
    have K07 := Lib.hid (HK.out.later V7.out)
    have T7 := Lib.hid (HTb.out.later V7.out)
    have L0 : Hid (w.heap.size < w7.heap.size) := Nat.lt_of_lt_of_le Hlt.out V7.out.size
    have R0 := Lib.hid (rngB HR.out V7.out Hlt.out)
    have HSE : Hid (decide (r1.p = r2.p) = true) := decide_eq_true (P4.out.trans P6.out.symm)
    have Z4 := Lib.hid K4.out.f
    have Z6 := Lib.hid K6.out.f
    have V70 := Lib.hid (nxTr Hb0.out V7.out)
    clear B5 B7 E5 D4 D5 D6 D7 K4 K6 V3 V4 V5 V6 P4 P6 HK HR HTb HB0 HSb V7
    generalize w4.heap.size = b5 at *
    generalize w6.heap.size = b7 at *
    cases ob with
      | true =>
        have V7d : Hid (Below w7.heap.size w7 w7.drew) := nxDrI (nxRf w7)
        refine wp_region_held_drew (S := fun W => W.rangeAt w.heap.size 0 (hdC h) ∧ W.rangeAt b5 0 (hdC r1) ∧ W.rangeAt b7 0 (hdC r2)) (by kernel_rfl) ⟨R0.out, R5.out, R7.out⟩ (fun hHeld => ?_)
        refine wpAnyH_take (i := 0) (oi := ⟨_, _, _, _, _, _⟩) (v := .agg (hdC h).toArray) rfl (by kernel_rfl) (by kernel_rfl) (by kernel_rfl) (fun _ _ _ h => h) (yieldsIf_load_mid (by rfl) 27 (.tmp 2) rfl (w.heap.size) (0) rfl (hdC h) _ (fun W h => h.1) Tryd.underlying27 rfl HZ.out) (by assumption) ?_
        try simp only [Act.put, List.setIfInBounds_toArray, List.set_cons_zero, List.set_cons_succ]
        refine wpAnyH_take (i := 2) (oi := ⟨_, _, _, _, _, _⟩) (v := .agg (hdC h).toArray) rfl (by kernel_rfl) (by kernel_rfl) (by kernel_rfl) (fun _ _ _ h => h) (yieldsIf_load_mid (by rfl) 27 (.tmp 2) rfl (w.heap.size) (0) rfl (hdC h) _ (fun W h => h.1) Tryd.underlying27 rfl HZ.out) (by assumption) ?_
        try simp only [Act.put, List.setIfInBounds_toArray, List.set_cons_zero, List.set_cons_succ]
        refine wpAnyH_ready (rs := [1]) (by kernel_rfl) (by simp) ?_
        refine AllReadyH.cons rfl (fun K hK => ?_) AllReadyH.nil
        go_simp
        go_at_call 10
        refine (idh_any w7.drew (T7.out.later V7d.out) h (K07.out.later V7d.out)).mono ?_
        rw [HX.out]
        rintro e w8 ⟨rfl, hb⟩
        have V8 : Hid (Below w7.heap.size w7 w8) := nxTr V7d.out hb
        clear hb
        refine hK.out _ _ ⟨rngB R0.out V8.out L0.out, rngB R5.out V8.out L5.out, rngB R7.out V8.out L7.out⟩ (fun hSn => ?_)
        clear hK K
        try simp only [Act.put, List.setIfInBounds_toArray, List.set_cons_zero, List.set_cons_succ]
        refine wpAnyH_ready (rs := [3]) (by kernel_rfl) (by simp) ?_
        refine AllReadyH.cons rfl (fun K hK => ?_) AllReadyH.nil
        go_simp
        go_at_call 11
        refine (ridh_any w8 h (K07.out.later V8.out)).mono ?_
        rw [HX.out]
        rintro e w9 ⟨rfl, hb⟩
        have V9 : Hid (Below w7.heap.size w7 w9) := nxTr V8.out hb
        clear hb
        refine hK.out _ _ ⟨rngB R0.out V9.out L0.out, rngB R5.out V9.out L5.out, rngB R7.out V9.out L7.out⟩ (fun hSn => ?_)
        clear hK K
        try simp only [Act.put, List.setIfInBounds_toArray, List.set_cons_zero, List.set_cons_succ]
        refine wpAnyH_take (i := 4) (oi := ⟨_, _, _, _, _, _⟩) (v := ?_) rfl (by kernel_rfl) (by kernel_rfl) (by kernel_rfl) (fun _ _ _ h => h) (Or.inl ⟨by rfl, ?_⟩) (by assumption) ?_
        rotate_left 1
        · intro W hSw
          try dsimp only at hSw
          go_simp
          try with_reducible rfl
        try simp only [Act.put, List.setIfInBounds_toArray, List.set_cons_zero, List.set_cons_succ]
        refine wpAnyH_take (i := 5) (oi := ⟨_, _, _, _, _, _⟩) (v := ?_) rfl (by kernel_rfl) (by kernel_rfl) (by kernel_rfl) (fun _ _ _ h => h) (Or.inl ⟨by rfl, ?_⟩) (by assumption) ?_
        rotate_left 1
        · intro W hSw
          try dsimp only at hSw
          go_simp
          try with_reducible rfl
        try simp only [Act.put, List.setIfInBounds_toArray, List.set_cons_zero, List.set_cons_succ]
        refine wpAnyH_take (i := 6) (oi := ⟨_, _, _, _, _, _⟩) (v := .agg (hdC r1).toArray) rfl (by kernel_rfl) (by kernel_rfl) (by kernel_rfl) (fun _ _ _ h => h) (yieldsIf_load_mid (by rfl) 27 (.tmp 7) rfl (b5) (0) rfl (hdC r1) _ (fun W h => h.2.1) Tryd.underlying27 rfl (hdSz Z4.out)) (by assumption) ?_
        try simp only [Act.put, List.setIfInBounds_toArray, List.set_cons_zero, List.set_cons_succ]
        refine wpAnyH_take (i := 7) (oi := ⟨_, _, _, _, _, _⟩) (v := .agg (hdC r2).toArray) rfl (by kernel_rfl) (by kernel_rfl) (by kernel_rfl) (fun _ _ _ h => h) (yieldsIf_load_mid (by rfl) 27 (.tmp 9) rfl (b7) (0) rfl (hdC r2) _ (fun W h => h.2.2) Tryd.underlying27 rfl (hdSz Z6.out)) (by assumption) ?_
        try simp only [Act.put, List.setIfInBounds_toArray, List.set_cons_zero, List.set_cons_succ]
        refine wpAnyH_ready (rs := [8]) (by kernel_rfl) (by simp) ?_
        refine AllReadyH.cons rfl (fun K hK => ?_) AllReadyH.nil
        go_simp
        go_at_call 12
        refine (sameh_any w9 r1 r2 (K47.out.later V9.out) (K67.out.later V9.out)).mono ?_
        rw [HSE.out]
        rintro e w10 ⟨rfl, hb⟩
        have V10 : Hid (Below w7.heap.size w7 w10) := nxTr V9.out hb
        clear hb
        refine hK.out _ _ ⟨rngB R0.out V10.out L0.out, rngB R5.out V10.out L5.out, rngB R7.out V10.out L7.out⟩ (fun hSn => ?_)
        clear hK K
        try simp only [Act.put, List.setIfInBounds_toArray, List.set_cons_zero, List.set_cons_succ]
        refine wpAnyH_take (i := 9) (oi := ⟨_, _, _, _, _, _⟩) (v := ?_) rfl (by kernel_rfl) (by kernel_rfl) (by kernel_rfl) (fun _ _ _ h => h) (Or.inl ⟨by rfl, ?_⟩) (by assumption) ?_
        rotate_left 1
        · intro W hSw
          try dsimp only at hSw
          go_simp
          try with_reducible rfl
        try simp only [Act.put, List.setIfInBounds_toArray, List.set_cons_zero, List.set_cons_succ]
        refine wpAnyH_take (i := 10) (oi := ⟨_, _, _, _, _, _⟩) (v := ?_) rfl (by kernel_rfl) (by kernel_rfl) (by kernel_rfl) (fun _ _ _ h => h) (Or.inl ⟨by rfl, ?_⟩) (by assumption) ?_
        rotate_left 1
        · intro W hSw
          try dsimp only at hSw
          go_simp
          try with_reducible rfl
        try simp only [Act.put, List.setIfInBounds_toArray, List.set_cons_zero, List.set_cons_succ]
        refine wpAnyH_take (i := 11) (oi := ⟨_, _, _, _, _, _⟩) (v := ?_) rfl (by kernel_rfl) (by kernel_rfl) (by kernel_rfl) (fun _ _ _ h => h) (Or.inl ⟨by rfl, ?_⟩) (by assumption) ?_
        rotate_left 1
        · intro W hSw
          try dsimp only at hSw
          go_simp
          try with_reducible rfl
        try simp only [Act.put, List.setIfInBounds_toArray, List.set_cons_zero, List.set_cons_succ]
        refine wpAnyH_take (i := 12) (oi := ⟨_, _, _, _, _, _⟩) (v := ?_) rfl (by kernel_rfl) (by kernel_rfl) (by kernel_rfl) (fun _ _ _ h => h) (Or.inl ⟨by rfl, ?_⟩) (by assumption) ?_
        rotate_left 1
        · intro W hSw
          try dsimp only at hSw
          go_simp
          try with_reducible rfl
        try simp only [Act.put, List.setIfInBounds_toArray, List.set_cons_zero, List.set_cons_succ]
        refine wpAnyH_take (i := 15) (oi := ⟨_, _, _, _, _, _⟩) (v := ?_) rfl (by kernel_rfl) (by kernel_rfl) (by kernel_rfl) (fun _ _ _ h => h) (Or.inl ⟨by rfl, ?_⟩) (by assumption) ?_
        rotate_left 1
        · intro W hSw
          try dsimp only at hSw
          go_simp
          try with_reducible rfl
        try simp only [Act.put, List.setIfInBounds_toArray, List.set_cons_zero, List.set_cons_succ]
        refine wpAnyH_ready (rs := [13]) (by kernel_rfl) (by simp) ?_
        refine AllReadyH.cons rfl (fun K hK => ?_) AllReadyH.nil
        go_simp
        go_at_call 13
        refine (num6_any _ _).mono ?_
        rintro e wn ⟨rfl, hwn⟩
        obtain rfl := hwn.symm
        refine hK.out _ _ ⟨rngB R0.out V10.out L0.out, rngB R5.out V10.out L5.out, rngB R7.out V10.out L7.out⟩ (fun hSn => ?_)
        clear hK K
        try simp only [Act.put, List.setIfInBounds_toArray, List.set_cons_zero, List.set_cons_succ]
        refine wpAnyH_take (i := 14) (oi := ⟨_, _, _, _, _, _⟩) (v := ?_) rfl (by kernel_rfl) (by kernel_rfl) (by kernel_rfl) (fun _ _ _ h => h) (Or.inl ⟨by rfl, ?_⟩) (by assumption) ?_
        rotate_left 1
        · intro W hSw
          try dsimp only at hSw
          go_simp
          try with_reducible rfl
        try simp only [Act.put, List.setIfInBounds_toArray, List.set_cons_zero, List.set_cons_succ]
        refine wpAnyH_take (i := 16) (oi := ⟨_, _, _, _, _, _⟩) (v := ?_) rfl (by kernel_rfl) (by kernel_rfl) (by kernel_rfl) (fun _ _ _ h => h) (Or.inl ⟨by rfl, ?_⟩) (by assumption) ?_
        rotate_left 1
        · intro W hSw
          try dsimp only at hSw
          go_simp
          try with_reducible rfl
        try simp only [Act.put, List.setIfInBounds_toArray, List.set_cons_zero, List.set_cons_succ]
        refine wpAnyH_take (i := 17) (oi := ⟨_, _, _, _, _, _⟩) (v := ?_) rfl (by kernel_rfl) (by kernel_rfl) (by kernel_rfl) (fun _ _ _ h => h) (Or.inl ⟨by rfl, ?_⟩) (by assumption) ?_
        rotate_left 1
        · intro W hSw
          try dsimp only at hSw
          go_simp
          try with_reducible rfl
        try simp only [Act.put, List.setIfInBounds_toArray, List.set_cons_zero, List.set_cons_succ]
        refine wpAnyH_take (i := 18) (oi := ⟨_, _, _, _, _, _⟩) (v := ?_) rfl (by kernel_rfl) (by kernel_rfl) (by kernel_rfl) (fun _ _ _ h => h) (Or.inl ⟨by rfl, ?_⟩) (by assumption) ?_
        rotate_left 1
        · intro W hSw
          try dsimp only at hSw
          go_simp
          try with_reducible rfl
        try simp only [Act.put, List.setIfInBounds_toArray, List.set_cons_zero, List.set_cons_succ]
        refine wpAnyH_take (i := 19) (oi := ⟨_, _, _, _, _, _⟩) (v := ?_) rfl (by kernel_rfl) (by kernel_rfl) (by kernel_rfl) (fun _ _ _ h => h) (Or.inl ⟨by rfl, ?_⟩) (by assumption) ?_
        rotate_left 1
        · intro W hSw
          try dsimp only at hSw
          go_simp
          try with_reducible rfl
        try simp only [Act.put, List.setIfInBounds_toArray, List.set_cons_zero, List.set_cons_succ]
        refine wpAnyH_take (i := 20) (oi := ⟨_, _, _, _, _, _⟩) (v := ?_) rfl (by kernel_rfl) (by kernel_rfl) (by kernel_rfl) (fun _ _ _ h => h) (Or.inl ⟨by rfl, ?_⟩) (by assumption) ?_
        rotate_left 1
        · intro W hSw
          try dsimp only at hSw
          go_simp
          try with_reducible rfl
        try simp only [Act.put, List.setIfInBounds_toArray, List.set_cons_zero, List.set_cons_succ]
        refine wpAnyH_take (i := 21) (oi := ⟨_, _, _, _, _, _⟩) (v := ?_) rfl (by kernel_rfl) (by kernel_rfl) (by kernel_rfl) (fun _ _ _ h => h) (Or.inl ⟨by rfl, ?_⟩) (by assumption) ?_
        rotate_left 1
        · intro W hSw
          try dsimp only at hSw
          go_simp
          try with_reducible rfl
        try simp only [Act.put, List.setIfInBounds_toArray, List.set_cons_zero, List.set_cons_succ]
        refine wpAnyH_take (i := 22) (oi := ⟨_, _, _, _, _, _⟩) (v := undef) rfl (by kernel_rfl) (by kernel_rfl) (by kernel_rfl) (fun _ _ _ h => h) (Or.inr ⟨by rfl, rfl⟩) (by assumption) ?_
        try simp only [Act.put, List.setIfInBounds_toArray, List.set_cons_zero, List.set_cons_succ]
        refine wpAnyH_take (i := 23) (oi := ⟨_, _, _, _, _, _⟩) (v := undef) rfl (by kernel_rfl) (by kernel_rfl) (by kernel_rfl) (fun _ _ _ h => h) (Or.inr ⟨by rfl, rfl⟩) (by assumption) ?_
        try simp only [Act.put, List.setIfInBounds_toArray, List.set_cons_zero, List.set_cons_succ]
        refine wpAnyH_take (i := 24) (oi := ⟨_, _, _, _, _, _⟩) (v := undef) rfl (by kernel_rfl) (by kernel_rfl) (by kernel_rfl) (fun _ _ _ h => h) (Or.inr ⟨by rfl, rfl⟩) (by assumption) ?_
        try simp only [Act.put, List.setIfInBounds_toArray, List.set_cons_zero, List.set_cons_succ]
        refine wpAnyH_take (i := 25) (oi := ⟨_, _, _, _, _, _⟩) (v := ?_) rfl (by kernel_rfl) (by kernel_rfl) (by kernel_rfl) (fun _ _ _ h => h) (Or.inl ⟨by rfl, ?_⟩) (by assumption) ?_
        rotate_left 1
        · intro W hSw
          try dsimp only at hSw
          go_simp
          try with_reducible rfl
        try simp only [Act.put, List.setIfInBounds_toArray, List.set_cons_zero, List.set_cons_succ]
        refine wpAnyH_take (i := 26) (oi := ⟨_, _, _, _, _, _⟩) (v := ?_) rfl (by kernel_rfl) (by kernel_rfl) (by kernel_rfl) (fun _ _ _ h => h) (Or.inl ⟨by rfl, ?_⟩) (by assumption) ?_
        rotate_left 1
        · intro W hSw
          try dsimp only at hSw
          go_simp
          try with_reducible rfl
        try simp only [Act.put, List.setIfInBounds_toArray, List.set_cons_zero, List.set_cons_succ]
        refine wpAnyH_done (by kernel_rfl) ?_ _
        have c10 : w10.cell? ⟨w.heap.size, 0, none⟩ = some (.slice h.A h.p.ps.length h.c) := (rngB R0.out V10.out L0.out) 0 _ rfl
        have HV10 := Lib.hid (nxTr V70.out V10.out)
        go_wp2_with (first
          | (go_at_call 13; refine (num6_any _ _).mono ?_; rintro e wn ⟨rfl, hwn⟩; obtain rfl := hwn.symm)
          | (go_at_call 6; refine (known6_any w10).mono ?_; rintro e w11 ⟨rfl, hb⟩; have V11 := Lib.hid (nxTr HV10.out hb); clear hb))
        go_ret
        exact ⟨rfl, V11.out⟩
      | false =>
        have V7d : Hid (Below w7.heap.size w7 w7.drew) := nxDrI (nxRf w7)
        refine wp_region_held_drew (S := fun W => W.rangeAt w.heap.size 0 (hdC h) ∧ W.rangeAt b5 0 (hdC r1) ∧ W.rangeAt b7 0 (hdC r2)) (by kernel_rfl) ⟨R0.out, R5.out, R7.out⟩ (fun hHeld => ?_)
        refine wpAnyH_take (i := 0) (oi := ⟨_, _, _, _, _, _⟩) (v := .agg (hdC h).toArray) rfl (by kernel_rfl) (by kernel_rfl) (by kernel_rfl) (fun _ _ _ h => h) (yieldsIf_load_mid (by rfl) 27 (.tmp 2) rfl (w.heap.size) (0) rfl (hdC h) _ (fun W h => h.1) Tryd.underlying27 rfl HZ.out) (by assumption) ?_
        try simp only [Act.put, List.setIfInBounds_toArray, List.set_cons_zero, List.set_cons_succ]
        refine wpAnyH_take (i := 2) (oi := ⟨_, _, _, _, _, _⟩) (v := .agg (hdC h).toArray) rfl (by kernel_rfl) (by kernel_rfl) (by kernel_rfl) (fun _ _ _ h => h) (yieldsIf_load_mid (by rfl) 27 (.tmp 2) rfl (w.heap.size) (0) rfl (hdC h) _ (fun W h => h.1) Tryd.underlying27 rfl HZ.out) (by assumption) ?_
        try simp only [Act.put, List.setIfInBounds_toArray, List.set_cons_zero, List.set_cons_succ]
        refine wpAnyH_ready (rs := [1]) (by kernel_rfl) (by simp) ?_
        refine AllReadyH.cons rfl (fun K hK => ?_) AllReadyH.nil
        go_simp
        go_at_call 10
        refine (idh_any w7.drew (T7.out.later V7d.out) h (K07.out.later V7d.out)).mono ?_
        rw [HX.out]
        rintro e w8 ⟨rfl, hb⟩
        have V8 : Hid (Below w7.heap.size w7 w8) := nxTr V7d.out hb
        clear hb
        refine hK.out _ _ ⟨rngB R0.out V8.out L0.out, rngB R5.out V8.out L5.out, rngB R7.out V8.out L7.out⟩ (fun hSn => ?_)
        clear hK K
        try simp only [Act.put, List.setIfInBounds_toArray, List.set_cons_zero, List.set_cons_succ]
        refine wpAnyH_ready (rs := [3]) (by kernel_rfl) (by simp) ?_
        refine AllReadyH.cons rfl (fun K hK => ?_) AllReadyH.nil
        go_simp
        go_at_call 11
        refine (ridh_any w8 h (K07.out.later V8.out)).mono ?_
        rw [HX.out]
        rintro e w9 ⟨rfl, hb⟩
        have V9 : Hid (Below w7.heap.size w7 w9) := nxTr V8.out hb
        clear hb
        refine hK.out _ _ ⟨rngB R0.out V9.out L0.out, rngB R5.out V9.out L5.out, rngB R7.out V9.out L7.out⟩ (fun hSn => ?_)
        clear hK K
        try simp only [Act.put, List.setIfInBounds_toArray, List.set_cons_zero, List.set_cons_succ]
        refine wpAnyH_take (i := 4) (oi := ⟨_, _, _, _, _, _⟩) (v := ?_) rfl (by kernel_rfl) (by kernel_rfl) (by kernel_rfl) (fun _ _ _ h => h) (Or.inl ⟨by rfl, ?_⟩) (by assumption) ?_
        rotate_left 1
        · intro W hSw
          try dsimp only at hSw
          go_simp
          try with_reducible rfl
        try simp only [Act.put, List.setIfInBounds_toArray, List.set_cons_zero, List.set_cons_succ]
        refine wpAnyH_take (i := 5) (oi := ⟨_, _, _, _, _, _⟩) (v := ?_) rfl (by kernel_rfl) (by kernel_rfl) (by kernel_rfl) (fun _ _ _ h => h) (Or.inl ⟨by rfl, ?_⟩) (by assumption) ?_
        rotate_left 1
        · intro W hSw
          try dsimp only at hSw
          go_simp
          try with_reducible rfl
        try simp only [Act.put, List.setIfInBounds_toArray, List.set_cons_zero, List.set_cons_succ]
        refine wpAnyH_take (i := 6) (oi := ⟨_, _, _, _, _, _⟩) (v := .agg (hdC r1).toArray) rfl (by kernel_rfl) (by kernel_rfl) (by kernel_rfl) (fun _ _ _ h => h) (yieldsIf_load_mid (by rfl) 27 (.tmp 7) rfl (b5) (0) rfl (hdC r1) _ (fun W h => h.2.1) Tryd.underlying27 rfl (hdSz Z4.out)) (by assumption) ?_
        try simp only [Act.put, List.setIfInBounds_toArray, List.set_cons_zero, List.set_cons_succ]
        refine wpAnyH_take (i := 7) (oi := ⟨_, _, _, _, _, _⟩) (v := .agg (hdC r2).toArray) rfl (by kernel_rfl) (by kernel_rfl) (by kernel_rfl) (fun _ _ _ h => h) (yieldsIf_load_mid (by rfl) 27 (.tmp 9) rfl (b7) (0) rfl (hdC r2) _ (fun W h => h.2.2) Tryd.underlying27 rfl (hdSz Z6.out)) (by assumption) ?_
        try simp only [Act.put, List.setIfInBounds_toArray, List.set_cons_zero, List.set_cons_succ]
        refine wpAnyH_ready (rs := [8]) (by kernel_rfl) (by simp) ?_
        refine AllReadyH.cons rfl (fun K hK => ?_) AllReadyH.nil
        go_simp
        go_at_call 12
        refine (sameh_any w9 r1 r2 (K47.out.later V9.out) (K67.out.later V9.out)).mono ?_
        rw [HSE.out]
        rintro e w10 ⟨rfl, hb⟩
        have V10 : Hid (Below w7.heap.size w7 w10) := nxTr V9.out hb
        clear hb
        refine hK.out _ _ ⟨rngB R0.out V10.out L0.out, rngB R5.out V10.out L5.out, rngB R7.out V10.out L7.out⟩ (fun hSn => ?_)
        clear hK K
        try simp only [Act.put, List.setIfInBounds_toArray, List.set_cons_zero, List.set_cons_succ]
        refine wpAnyH_take (i := 9) (oi := ⟨_, _, _, _, _, _⟩) (v := ?_) rfl (by kernel_rfl) (by kernel_rfl) (by kernel_rfl) (fun _ _ _ h => h) (Or.inl ⟨by rfl, ?_⟩) (by assumption) ?_
        rotate_left 1
        · intro W hSw
          try dsimp only at hSw
          go_simp
          try with_reducible rfl
        try simp only [Act.put, List.setIfInBounds_toArray, List.set_cons_zero, List.set_cons_succ]
        refine wpAnyH_take (i := 10) (oi := ⟨_, _, _, _, _, _⟩) (v := ?_) rfl (by kernel_rfl) (by kernel_rfl) (by kernel_rfl) (fun _ _ _ h => h) (Or.inl ⟨by rfl, ?_⟩) (by assumption) ?_
        rotate_left 1
        · intro W hSw
          try dsimp only at hSw
          go_simp
          try with_reducible rfl
        try simp only [Act.put, List.setIfInBounds_toArray, List.set_cons_zero, List.set_cons_succ]
        refine wpAnyH_take (i := 11) (oi := ⟨_, _, _, _, _, _⟩) (v := ?_) rfl (by kernel_rfl) (by kernel_rfl) (by kernel_rfl) (fun _ _ _ h => h) (Or.inl ⟨by rfl, ?_⟩) (by assumption) ?_
        rotate_left 1
        · intro W hSw
          try dsimp only at hSw
          go_simp
          try with_reducible rfl
        try simp only [Act.put, List.setIfInBounds_toArray, List.set_cons_zero, List.set_cons_succ]
        refine wpAnyH_take (i := 12) (oi := ⟨_, _, _, _, _, _⟩) (v := ?_) rfl (by kernel_rfl) (by kernel_rfl) (by kernel_rfl) (fun _ _ _ h => h) (Or.inl ⟨by rfl, ?_⟩) (by assumption) ?_
        rotate_left 1
        · intro W hSw
          try dsimp only at hSw
          go_simp
          try with_reducible rfl
        try simp only [Act.put, List.setIfInBounds_toArray, List.set_cons_zero, List.set_cons_succ]
        refine wpAnyH_take (i := 15) (oi := ⟨_, _, _, _, _, _⟩) (v := ?_) rfl (by kernel_rfl) (by kernel_rfl) (by kernel_rfl) (fun _ _ _ h => h) (Or.inl ⟨by rfl, ?_⟩) (by assumption) ?_
        rotate_left 1
        · intro W hSw
          try dsimp only at hSw
          go_simp
          try with_reducible rfl
        try simp only [Act.put, List.setIfInBounds_toArray, List.set_cons_zero, List.set_cons_succ]
        refine wpAnyH_ready (rs := [13]) (by kernel_rfl) (by simp) ?_
        refine AllReadyH.cons rfl (fun K hK => ?_) AllReadyH.nil
        go_simp
        go_at_call 13
        refine (num6_any _ _).mono ?_
        rintro e wn ⟨rfl, hwn⟩
        obtain rfl := hwn.symm
        refine hK.out _ _ ⟨rngB R0.out V10.out L0.out, rngB R5.out V10.out L5.out, rngB R7.out V10.out L7.out⟩ (fun hSn => ?_)
        clear hK K
        try simp only [Act.put, List.setIfInBounds_toArray, List.set_cons_zero, List.set_cons_succ]
        refine wpAnyH_take (i := 14) (oi := ⟨_, _, _, _, _, _⟩) (v := ?_) rfl (by kernel_rfl) (by kernel_rfl) (by kernel_rfl) (fun _ _ _ h => h) (Or.inl ⟨by rfl, ?_⟩) (by assumption) ?_
        rotate_left 1
        · intro W hSw
          try dsimp only at hSw
          go_simp
          try with_reducible rfl
        try simp only [Act.put, List.setIfInBounds_toArray, List.set_cons_zero, List.set_cons_succ]
        refine wpAnyH_take (i := 16) (oi := ⟨_, _, _, _, _, _⟩) (v := ?_) rfl (by kernel_rfl) (by kernel_rfl) (by kernel_rfl) (fun _ _ _ h => h) (Or.inl ⟨by rfl, ?_⟩) (by assumption) ?_
        rotate_left 1
        · intro W hSw
          try dsimp only at hSw
          go_simp
          try with_reducible rfl
        try simp only [Act.put, List.setIfInBounds_toArray, List.set_cons_zero, List.set_cons_succ]
        refine wpAnyH_take (i := 17) (oi := ⟨_, _, _, _, _, _⟩) (v := ?_) rfl (by kernel_rfl) (by kernel_rfl) (by kernel_rfl) (fun _ _ _ h => h) (Or.inl ⟨by rfl, ?_⟩) (by assumption) ?_
        rotate_left 1
        · intro W hSw
          try dsimp only at hSw
          go_simp
          try with_reducible rfl
        try simp only [Act.put, List.setIfInBounds_toArray, List.set_cons_zero, List.set_cons_succ]
        refine wpAnyH_take (i := 18) (oi := ⟨_, _, _, _, _, _⟩) (v := ?_) rfl (by kernel_rfl) (by kernel_rfl) (by kernel_rfl) (fun _ _ _ h => h) (Or.inl ⟨by rfl, ?_⟩) (by assumption) ?_
        rotate_left 1
        · intro W hSw
          try dsimp only at hSw
          go_simp
          try with_reducible rfl
        try simp only [Act.put, List.setIfInBounds_toArray, List.set_cons_zero, List.set_cons_succ]
        refine wpAnyH_take (i := 19) (oi := ⟨_, _, _, _, _, _⟩) (v := ?_) rfl (by kernel_rfl) (by kernel_rfl) (by kernel_rfl) (fun _ _ _ h => h) (Or.inl ⟨by rfl, ?_⟩) (by assumption) ?_
        rotate_left 1
        · intro W hSw
          try dsimp only at hSw
          go_simp
          try with_reducible rfl
        try simp only [Act.put, List.setIfInBounds_toArray, List.set_cons_zero, List.set_cons_succ]
        refine wpAnyH_take (i := 20) (oi := ⟨_, _, _, _, _, _⟩) (v := ?_) rfl (by kernel_rfl) (by kernel_rfl) (by kernel_rfl) (fun _ _ _ h => h) (Or.inl ⟨by rfl, ?_⟩) (by assumption) ?_
        rotate_left 1
        · intro W hSw
          try dsimp only at hSw
          go_simp
          try with_reducible rfl
        try simp only [Act.put, List.setIfInBounds_toArray, List.set_cons_zero, List.set_cons_succ]
        refine wpAnyH_take (i := 21) (oi := ⟨_, _, _, _, _, _⟩) (v := ?_) rfl (by kernel_rfl) (by kernel_rfl) (by kernel_rfl) (fun _ _ _ h => h) (Or.inl ⟨by rfl, ?_⟩) (by assumption) ?_
        rotate_left 1
        · intro W hSw
          try dsimp only at hSw
          go_simp
          try with_reducible rfl
        try simp only [Act.put, List.setIfInBounds_toArray, List.set_cons_zero, List.set_cons_succ]
        refine wpAnyH_take (i := 22) (oi := ⟨_, _, _, _, _, _⟩) (v := ?_) rfl (by kernel_rfl) (by kernel_rfl) (by kernel_rfl) (fun _ _ _ h => h) (Or.inl ⟨by rfl, ?_⟩) (by assumption) ?_
        rotate_left 1
        · intro W hSw
          try dsimp only at hSw
          go_simp
          try with_reducible rfl
        try simp only [Act.put, List.setIfInBounds_toArray, List.set_cons_zero, List.set_cons_succ]
        refine wpAnyH_ready (rs := [23]) (by kernel_rfl) (by simp) ?_
        refine AllReadyH.cons rfl (fun K hK => ?_) AllReadyH.nil
        go_simp
        go_at_call 13
        refine (num6_any _ _).mono ?_
        rintro e wn ⟨rfl, hwn⟩
        obtain rfl := hwn.symm
        refine hK.out _ _ ⟨rngB R0.out V10.out L0.out, rngB R5.out V10.out L5.out, rngB R7.out V10.out L7.out⟩ (fun hSn => ?_)
        clear hK K
        try simp only [Act.put, List.setIfInBounds_toArray, List.set_cons_zero, List.set_cons_succ]
        refine wpAnyH_take (i := 24) (oi := ⟨_, _, _, _, _, _⟩) (v := ?_) rfl (by kernel_rfl) (by kernel_rfl) (by kernel_rfl) (fun _ _ _ h => h) (Or.inl ⟨by rfl, ?_⟩) (by assumption) ?_
        rotate_left 1
        · intro W hSw
          try dsimp only at hSw
          go_simp
          try with_reducible rfl
        try simp only [Act.put, List.setIfInBounds_toArray, List.set_cons_zero, List.set_cons_succ]
        refine wpAnyH_take (i := 25) (oi := ⟨_, _, _, _, _, _⟩) (v := ?_) rfl (by kernel_rfl) (by kernel_rfl) (by kernel_rfl) (fun _ _ _ h => h) (Or.inl ⟨by rfl, ?_⟩) (by assumption) ?_
        rotate_left 1
        · intro W hSw
          try dsimp only at hSw
          go_simp
          try with_reducible rfl
        try simp only [Act.put, List.setIfInBounds_toArray, List.set_cons_zero, List.set_cons_succ]
        refine wpAnyH_take (i := 26) (oi := ⟨_, _, _, _, _, _⟩) (v := ?_) rfl (by kernel_rfl) (by kernel_rfl) (by kernel_rfl) (fun _ _ _ h => h) (Or.inl ⟨by rfl, ?_⟩) (by assumption) ?_
        rotate_left 1
        · intro W hSw
          try dsimp only at hSw
          go_simp
          try with_reducible rfl
        try simp only [Act.put, List.setIfInBounds_toArray, List.set_cons_zero, List.set_cons_succ]
        refine wpAnyH_done (by kernel_rfl) ?_ _
        have c10 : w10.cell? ⟨w.heap.size, 0, none⟩ = some (.slice h.A h.p.ps.length h.c) := (rngB R0.out V10.out L0.out) 0 _ rfl
        have HV10 := Lib.hid (nxTr V70.out V10.out)
        go_wp2_with (first
          | (go_at_call 13; refine (num6_any _ _).mono ?_; rintro e wn ⟨rfl, hwn⟩; obtain rfl := hwn.symm)
          | (go_at_call 6; refine (known6_any w10).mono ?_; rintro e w11 ⟨rfl, hb⟩; have V11 := Lib.hid (nxTr HV10.out hb); clear hb))
        go_ret
        exact ⟨rfl, V11.out⟩
end Go.Proofs.YtchpmmnoflibfaaDoor
