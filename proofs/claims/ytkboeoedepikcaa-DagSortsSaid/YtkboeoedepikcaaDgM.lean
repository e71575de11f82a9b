/-
  dag: DagSorts' law.
-/
import Derived.Test.YtkboeoedepikcaaDgL
namespace Go.Proofs.Ytkboeoedepikcaa
open Go.RowKit

theorem requal_self (w : World) (A B : Option Addr) (l : List Hh) (c d : Nat) (hS : SeesV w w.heap.size A (hsC l)) (hT : SeesV w w.heap.size B (hsC l)) (hmax : l.length ≤ 1000000) : Calls Try.prog 8 #[.slice A l.length c, .slice B l.length d] w fun e w' => e = .returned (.bool true) ∧ Below w.heap.size w w' :=
  (requal_any w A B l l c d hS hT hmax).mono fun e w' h => ⟨h.1.trans (by rw [decide_eq_true rfl]), h.2⟩
theorem nxDrB {B : Nat} {w W : World} (h : Below B w W) : Below B w W.drew := ⟨h.os, h.tape, h.output, h.size, h.block⟩
theorem pcompare_any (w : World) (a b : Hh) : Calls Try.prog 6 #[.agg (hC a).toArray, .agg (hC b).toArray] w fun e w' => e = .returned (.int .i64 (cmpH a b)) ∧ Below w.heap.size w w' := by
  refine (compare_any w a b).mono ?_
  rintro e w' ⟨rfl, q, rfl⟩
  have h := nxAlloc (nxAlloc (nxRefl w) (.cells (hC a).toArray 23)) (.cells (hC b).toArray 23)
  exact ⟨rfl, h.trans ((⟨rfl, rfl, rfl, Nat.le_refl _, fun _ _ => rfl⟩ : Below ((w.alloc (.cells (hC a).toArray 23)).alloc (.cells (hC b).toArray 23)).heap.size ((w.alloc (.cells (hC a).toArray 23)).alloc (.cells (hC b).toArray 23)) (((w.alloc (.cells (hC a).toArray 23)).alloc (.cells (hC b).toArray 23)).drewN q)).mono h.size)⟩
set_option maxRecDepth 100000 in
set_option maxHeartbeats 4000000 in
theorem dagSorts_any (w : World) (a b : Hh) (A : Option Addr) (l : List Hh) (c : Nat) (hS : SeesV w w.heap.size A (hsC l)) :
    Calls Try.prog 3 #[.agg (hC a).toArray, .agg (hC b).toArray, .slice A l.length c] w fun e w' => e = .returned (.bool true) ∧ Below w.heap.size w w' := by
  have ba : Blk ((w.alloc (.cells (hC a).toArray 23)).alloc (.cells (hC b).toArray 23)) w.heap.size 23 (hC a).toArray := Blk.alloc (heap_alloc_new w _) _
  have bb : Blk ((w.alloc (.cells (hC a).toArray 23)).alloc (.cells (hC b).toArray 23)) (w.heap.size + 1) 23 (hC b).toArray := blkNew (by simp) rfl
  have hsz : ((w.alloc (.cells (hC a).toArray 23)).alloc (.cells (hC b).toArray 23)).heap.size = w.heap.size + 2 := by simp
  have V : Hid (Below w.heap.size w ((w.alloc (.cells (hC a).toArray 23)).alloc (.cells (hC b).toArray 23))) := nxAlloc (nxAlloc (nxRefl w) _) _
  have HS := Lib.hid hS

  have BA := Lib.hid ba
  have BB := Lib.hid bb
  have HSz := Lib.hid hsz
  clear hS ba bb hsz
  obtain ⟨i0, hi0, hz0, hs0, hy0⟩ := info_parts Try.dinfoH
  by_cases h60 : l.length ≤ 60
  · have HMx : Hid (l.length ≤ 1000000) := by show _ ≤ _; omega
    have HRx : Hid ((risH l).length ≤ 1000000) := Nat.le_trans (risH_le l) HMx.out
    have hlen : ¬ (60 : Int) < (l.length : Int) := by omega
    have hlen2 : (l.length : Int) ≤ 60 := by omega
    have h61 : ¬ 60 < l.length := by omega
    obtain ⟨v, hv⟩ : ∃ v, cmpH a b = v := ⟨_, rfl⟩
    have HVv := Lib.hid hv
    have HV0 : Hid (cmpH a a = 0) := (dcmp_zero _ _).2 rfl
    clear hv
    go_enter Try.func3, Try.ntmps3
    have N0 : Hid (((w.alloc (.cells (hC a).toArray 23)).alloc (.cells (hC b).toArray 23)).ownsRow ((w.alloc (.cells (hC a).toArray 23)).alloc (.cells (hC b).toArray 23)).heap.size 23 32 (.slice none 0 0) 0 []) := ⟨by simp, .inl ⟨rfl, rfl⟩⟩
    have HS2 : Hid (SeesV ((w.alloc (.cells (hC a).toArray 23)).alloc (.cells (hC b).toArray 23)) w.heap.size A (hsC l)) := HS.out.below V.out
    go_wp2_with (first
      | ((with_reducible show wpList _ _ _ (⟨some 14, _, _, _, _, _⟩ :: _) _ _); refine wpList_append_seesV rfl (.const (.slice none 0 0)) (.tmp 13) 24 rfl ((w.alloc (.cells (hC a).toArray 23)).alloc (.cells (hC b).toArray 23)).heap.size 23 i0 _ 32 32 Try.underlying24 hi0 hz0 hs0 hy0 rfl (by decide) (.slice none 0 0) 0 [] rfl N0.out w.heap.size A l.length c (hsC l) rfl (by rw [hsC_len]) HS2.out (hsC_one _) (by omega) (by omega) (Nat.le_refl _) ?_; intro v7 w7 ho7 hg7 hat7; obtain ⟨A7, c7, rfl⟩ := own_form ho7; rw [Nat.zero_add, List.nil_append] at ho7; rw [Nat.zero_add]; have SO7 : Hid (SeesV w7 w7.heap.size A7 (hsC l)) := SeesV.own ho7; have K7 : Hid (Below ((w.alloc (.cells (hC a).toArray 23)).alloc (.cells (hC b).toArray 23)).heap.size ((w.alloc (.cells (hC a).toArray 23)).alloc (.cells (hC b).toArray 23)) w7) := (nxRefl ((w.alloc (.cells (hC a).toArray 23)).alloc (.cells (hC b).toArray 23))).grown hg7 (Nat.le_refl _) (fun j hj => by cases hj); clear ho7 hg7 hat7)
      | (go_at_call 5; refine (sorted_any w7 A7 l c7 SO7.out HMx.out).mono ?_; unfold SortPost; rintro e w8 ⟨A8, c8, rfl, ho8, hb8⟩; have SS8 : Hid (SeesV w8 w8.heap.size A8 (hsC (risH l))) := SeesV.own ho8; have K8 : Hid (Below ((w.alloc (.cells (hC a).toArray 23)).alloc (.cells (hC b).toArray 23)).heap.size ((w.alloc (.cells (hC a).toArray 23)).alloc (.cells (hC b).toArray 23)) w8) := nxTo K7.out hb8; have SO8 : Hid (SeesV w8 w8.heap.size A7 (hsC l)) := (SO7.out.below hb8).more hb8.size; clear ho8 hb8))
    have KDr : Hid (Below ((w.alloc (.cells (hC a).toArray 23)).alloc (.cells (hC b).toArray 23)).heap.size ((w.alloc (.cells (hC a).toArray 23)).alloc (.cells (hC b).toArray 23)) w8.drew) := nxDrB K8.out
    have VD : Hid (Below w.heap.size w w8.drew) := V.out.trans (KDr.out.mono V.out.size)
    have RA : Hid (w8.drew.rangeAt w.heap.size 0 (hC a)) := rngK (kb_range BA.out) KDr.out BA.out.lt
    have RB : Hid (w8.drew.rangeAt (w.heap.size + 1) 0 (hC b)) := rngK (kb_range BB.out) KDr.out BB.out.lt
    have SL : Hid (SeesV w8.drew w8.drew.heap.size A (hsC l)) := (HS.out.below VD.out).more VD.out.size
    have SO : Hid (SeesV w8.drew w8.drew.heap.size A7 (hsC l)) := SO8.out
    have SS : Hid (SeesV w8.drew w8.drew.heap.size A8 (hsC (risH l))) := SS8.out
    have HLa : Hid (w.heap.size < w8.drew.heap.size) := Nat.lt_of_lt_of_le BA.out.lt K8.out.size
    have HLb : Hid (w.heap.size + 1 < w8.drew.heap.size) := Nat.lt_of_lt_of_le BB.out.lt K8.out.size
    refine wp_region_held_drew (S := fun W => W.rangeAt w.heap.size 0 (hC a) ∧ W.rangeAt (w.heap.size + 1) 0 (hC b)) (by kernel_rfl) ⟨RA.out, RB.out⟩ (fun hHeld => ?_)
    clear SO8 SS8 K8 K7 SO7 BA BB KDr
    generalize w8.drew = wd at *
    have KD : Hid (Below wd.heap.size wd wd) := nxRefl wd
    refine wpAnyH_take (i := 0) (oi := ⟨_, _, _, _, _, _⟩) (v := .agg (hC a).toArray) rfl (by kernel_rfl) (by kernel_rfl) (by kernel_rfl) (fun _ _ _ h => h) (yieldsIf_load_mid (by rfl) 23 (.tmp 3) rfl w.heap.size 0 rfl (hC a) _ (fun W h => h.1) Try.underlying23 rfl (hszL a)) (by assumption) ?_
    try simp only [Act.put, List.setIfInBounds_toArray, List.set_cons_zero, List.set_cons_succ]
    refine wpAnyH_take (i := 1) (oi := ⟨_, _, _, _, _, _⟩) (v := .agg (hC b).toArray) rfl (by kernel_rfl) (by kernel_rfl) (by kernel_rfl) (fun _ _ _ h => h) (yieldsIf_load_mid (by rfl) 23 (.tmp 4) rfl (w.heap.size + 1) 0 rfl (hC b) _ (fun W h => h.2) Try.underlying23 rfl (hszL b)) (by assumption) ?_
    try simp only [Act.put, List.setIfInBounds_toArray, List.set_cons_zero, List.set_cons_succ]
    refine wpAnyH_take (i := 3) (oi := ⟨_, _, _, _, _, _⟩) (v := .agg (hC a).toArray) rfl (by kernel_rfl) (by kernel_rfl) (by kernel_rfl) (fun _ _ _ h => h) (yieldsIf_load_mid (by rfl) 23 (.tmp 3) rfl w.heap.size 0 rfl (hC a) _ (fun W h => h.1) Try.underlying23 rfl (hszL a)) (by assumption) ?_
    try simp only [Act.put, List.setIfInBounds_toArray, List.set_cons_zero, List.set_cons_succ]
    refine wpAnyH_take (i := 4) (oi := ⟨_, _, _, _, _, _⟩) (v := .agg (hC b).toArray) rfl (by kernel_rfl) (by kernel_rfl) (by kernel_rfl) (fun _ _ _ h => h) (yieldsIf_load_mid (by rfl) 23 (.tmp 4) rfl (w.heap.size + 1) 0 rfl (hC b) _ (fun W h => h.2) Try.underlying23 rfl (hszL b)) (by assumption) ?_
    try simp only [Act.put, List.setIfInBounds_toArray, List.set_cons_zero, List.set_cons_succ]
    refine wpAnyH_ready (rs := [2]) (by kernel_rfl) (by simp) ?_
    refine AllReadyH.cons rfl (fun K hK => ?_) AllReadyH.nil
    go_simp
    go_at_call 6
    refine (pcompare_any wd a b).mono ?_
    rw [HVv.out]
    rintro e w2 ⟨rfl, hb2⟩
    have K2 : Hid (Below wd.heap.size wd w2) := nxTo KD.out hb2
    clear hb2
    have s2 := rngK RA.out K2.out HLa.out
    have t2 := rngK RB.out K2.out HLb.out
    have S2 := Lib.hid s2
    have T2 := Lib.hid t2
    clear s2 t2
    refine hK.out _ _ ⟨S2.out, T2.out⟩ (fun hSn => ?_)
    clear hK K
    try simp only [Act.put, List.setIfInBounds_toArray, List.set_cons_zero, List.set_cons_succ]
    refine wpAnyH_ready (rs := [5]) (by kernel_rfl) (by simp) ?_
    refine AllReadyH.cons rfl (fun K hK => ?_) AllReadyH.nil
    go_simp
    go_at_call 7
    refine (rcompare_any w2 a b).mono ?_
    rw [HVv.out]
    rintro e w5 ⟨rfl, hb5⟩
    have K5 : Hid (Below wd.heap.size wd w5) := nxTo K2.out hb5
    clear hb5
    have s5 := rngK RA.out K5.out HLa.out
    have t5 := rngK RB.out K5.out HLb.out
    have S5 := Lib.hid s5
    have T5 := Lib.hid t5
    clear s5 t5
    refine hK.out _ _ ⟨S5.out, T5.out⟩ (fun hSn => ?_)
    clear hK K
    try simp only [Act.put, List.setIfInBounds_toArray, List.set_cons_zero, List.set_cons_succ]
    refine wpAnyH_take (i := 6) (oi := ⟨_, _, _, _, _, _⟩) (v := ?_) rfl (by kernel_rfl) (by kernel_rfl) (by kernel_rfl) (fun _ _ _ h => h) (Or.inl ⟨by rfl, ?_⟩) (by assumption) ?_
    rotate_left 1
    · intro W hSw
      try dsimp only at hSw
      obtain ⟨hs1, hs2⟩ := hSw
      go_simp
      try with_reducible rfl
    try simp only [Act.put, List.setIfInBounds_toArray, List.set_cons_zero, List.set_cons_succ]
    refine wpAnyH_take (i := 7) (oi := ⟨_, _, _, _, _, _⟩) (v := ?_) rfl (by kernel_rfl) (by kernel_rfl) (by kernel_rfl) (fun _ _ _ h => h) (Or.inl ⟨by rfl, ?_⟩) (by assumption) ?_
    rotate_left 1
    · intro W hSw
      try dsimp only at hSw
      obtain ⟨hs1, hs2⟩ := hSw
      go_simp
      try with_reducible rfl
    try simp only [Act.put, List.setIfInBounds_toArray, List.set_cons_zero, List.set_cons_succ]
    refine wpAnyH_take (i := 8) (oi := ⟨_, _, _, _, _, _⟩) (v := .agg (hC a).toArray) rfl (by kernel_rfl) (by kernel_rfl) (by kernel_rfl) (fun _ _ _ h => h) (yieldsIf_load_mid (by rfl) 23 (.tmp 3) rfl w.heap.size 0 rfl (hC a) _ (fun W h => h.1) Try.underlying23 rfl (hszL a)) (by assumption) ?_
    try simp only [Act.put, List.setIfInBounds_toArray, List.set_cons_zero, List.set_cons_succ]
    refine wpAnyH_take (i := 9) (oi := ⟨_, _, _, _, _, _⟩) (v := .agg (hC a).toArray) rfl (by kernel_rfl) (by kernel_rfl) (by kernel_rfl) (fun _ _ _ h => h) (yieldsIf_load_mid (by rfl) 23 (.tmp 3) rfl w.heap.size 0 rfl (hC a) _ (fun W h => h.1) Try.underlying23 rfl (hszL a)) (by assumption) ?_
    try simp only [Act.put, List.setIfInBounds_toArray, List.set_cons_zero, List.set_cons_succ]
    refine wpAnyH_ready (rs := [10]) (by kernel_rfl) (by simp) ?_
    refine AllReadyH.cons rfl (fun K hK => ?_) AllReadyH.nil
    go_simp
    go_at_call 6
    refine (pcompare_any w5 a a).mono ?_
    rw [HV0.out]
    rintro e w10 ⟨rfl, hb10⟩
    have K10 : Hid (Below wd.heap.size wd w10) := nxTo K5.out hb10
    clear hb10
    have s10 := rngK RA.out K10.out HLa.out
    have t10 := rngK RB.out K10.out HLb.out
    have S10 := Lib.hid s10
    have T10 := Lib.hid t10
    clear s10 t10
    refine hK.out _ _ ⟨S10.out, T10.out⟩ (fun hSn => ?_)
    clear hK K
    try simp only [Act.put, List.setIfInBounds_toArray, List.set_cons_zero, List.set_cons_succ]
    refine wpAnyH_take (i := 11) (oi := ⟨_, _, _, _, _, _⟩) (v := ?_) rfl (by kernel_rfl) (by kernel_rfl) (by kernel_rfl) (fun _ _ _ h => h) (Or.inl ⟨by rfl, ?_⟩) (by assumption) ?_
    rotate_left 1
    · intro W hSw
      try dsimp only at hSw
      obtain ⟨hs1, hs2⟩ := hSw
      go_simp
      try with_reducible rfl
    try simp only [Act.put, List.setIfInBounds_toArray, List.set_cons_zero, List.set_cons_succ]
    refine wpAnyH_take (i := 12) (oi := ⟨_, _, _, _, _, _⟩) (v := ?_) rfl (by kernel_rfl) (by kernel_rfl) (by kernel_rfl) (fun _ _ _ h => h) (Or.inl ⟨by rfl, ?_⟩) (by assumption) ?_
    rotate_left 1
    · intro W hSw
      try dsimp only at hSw
      obtain ⟨hs1, hs2⟩ := hSw
      go_simp
      try with_reducible rfl
    try simp only [Act.put, List.setIfInBounds_toArray, List.set_cons_zero, List.set_cons_succ]
    refine wpAnyH_take (i := 13) (oi := ⟨_, _, _, _, _, _⟩) (v := ?_) rfl (by kernel_rfl) (by kernel_rfl) (by kernel_rfl) (fun _ _ _ h => h) (Or.inl ⟨by rfl, ?_⟩) (by assumption) ?_
    rotate_left 1
    · intro W hSw
      try dsimp only at hSw
      obtain ⟨hs1, hs2⟩ := hSw
      go_simp
      try with_reducible rfl
    try simp only [Act.put, List.setIfInBounds_toArray, List.set_cons_zero, List.set_cons_succ]
    refine wpAnyH_take (i := 14) (oi := ⟨_, _, _, _, _, _⟩) (v := ?_) rfl (by kernel_rfl) (by kernel_rfl) (by kernel_rfl) (fun _ _ _ h => h) (Or.inl ⟨by rfl, ?_⟩) (by assumption) ?_
    rotate_left 1
    · intro W hSw
      try dsimp only at hSw
      obtain ⟨hs1, hs2⟩ := hSw
      go_simp
      try with_reducible rfl
    try simp only [Act.put, List.setIfInBounds_toArray, List.set_cons_zero, List.set_cons_succ]
    refine wpAnyH_take (i := 15) (oi := ⟨_, _, _, _, _, _⟩) (v := ?_) rfl (by kernel_rfl) (by kernel_rfl) (by kernel_rfl) (fun _ _ _ h => h) (Or.inl ⟨by rfl, ?_⟩) (by assumption) ?_
    rotate_left 1
    · intro W hSw
      try dsimp only at hSw
      obtain ⟨hs1, hs2⟩ := hSw
      go_simp
      try with_reducible rfl
    try simp only [Act.put, List.setIfInBounds_toArray, List.set_cons_zero, List.set_cons_succ]
    refine wpAnyH_ready (rs := [16]) (by kernel_rfl) (by simp) ?_
    refine AllReadyH.cons rfl (fun K hK => ?_) AllReadyH.nil
    go_simp
    go_at_call 9
    refine (rsorted_any w10 A l c ((SL.out.below K10.out).more K10.out.size) HMx.out).mono ?_
    unfold SortPost
    rintro e w16 ⟨A6, c6, rfl, ho6, hb16⟩
    have S6 : Hid (SeesV w16 w16.heap.size A6 (hsC (risH l))) := SeesV.own ho6
    clear ho6
    have K16 : Hid (Below wd.heap.size wd w16) := nxTo K10.out hb16
    clear hb16
    have s16 := rngK RA.out K16.out HLa.out
    have t16 := rngK RB.out K16.out HLb.out
    have S16 := Lib.hid s16
    have T16 := Lib.hid t16
    clear s16 t16
    refine hK.out _ _ ⟨S16.out, T16.out⟩ (fun hSn => ?_)
    clear hK K
    try simp only [Act.put, List.setIfInBounds_toArray, List.set_cons_zero, List.set_cons_succ]
    refine wpAnyH_ready (rs := [17]) (by kernel_rfl) (by simp) ?_
    refine AllReadyH.cons rfl (fun K hK => ?_) AllReadyH.nil
    go_simp
    go_at_call 8
    refine (requal_self w16 A8 A6 (risH l) c8 c6 ((SS.out.below K16.out).more K16.out.size) S6.out HRx.out).mono ?_
    rintro e w17 ⟨rfl, hb17⟩
    have K17 : Hid (Below wd.heap.size wd w17) := nxTo K16.out hb17
    clear hb17
    have s17 := rngK RA.out K17.out HLa.out
    have t17 := rngK RB.out K17.out HLb.out
    have S17 := Lib.hid s17
    have T17 := Lib.hid t17
    clear s17 t17
    refine hK.out _ _ ⟨S17.out, T17.out⟩ (fun hSn => ?_)
    clear hK K
    try simp only [Act.put, List.setIfInBounds_toArray, List.set_cons_zero, List.set_cons_succ]
    refine wpAnyH_take (i := 18) (oi := ⟨_, _, _, _, _, _⟩) (v := ?_) rfl (by kernel_rfl) (by kernel_rfl) (by kernel_rfl) (fun _ _ _ h => h) (Or.inl ⟨by rfl, ?_⟩) (by assumption) ?_
    rotate_left 1
    · intro W hSw
      try dsimp only at hSw
      obtain ⟨hs1, hs2⟩ := hSw
      go_simp
      try with_reducible rfl
    try simp only [Act.put, List.setIfInBounds_toArray, List.set_cons_zero, List.set_cons_succ]
    refine wpAnyH_take (i := 19) (oi := ⟨_, _, _, _, _, _⟩) (v := ?_) rfl (by kernel_rfl) (by kernel_rfl) (by kernel_rfl) (fun _ _ _ h => h) (Or.inl ⟨by rfl, ?_⟩) (by assumption) ?_
    rotate_left 1
    · intro W hSw
      try dsimp only at hSw
      obtain ⟨hs1, hs2⟩ := hSw
      go_simp
      try with_reducible rfl
    try simp only [Act.put, List.setIfInBounds_toArray, List.set_cons_zero, List.set_cons_succ]
    refine wpAnyH_take (i := 20) (oi := ⟨_, _, _, _, _, _⟩) (v := ?_) rfl (by kernel_rfl) (by kernel_rfl) (by kernel_rfl) (fun _ _ _ h => h) (Or.inl ⟨by rfl, ?_⟩) (by assumption) ?_
    rotate_left 1
    · intro W hSw
      try dsimp only at hSw
      obtain ⟨hs1, hs2⟩ := hSw
      go_simp
      try with_reducible rfl
    try simp only [Act.put, List.setIfInBounds_toArray, List.set_cons_zero, List.set_cons_succ]
    refine wpAnyH_take (i := 21) (oi := ⟨_, _, _, _, _, _⟩) (v := ?_) rfl (by kernel_rfl) (by kernel_rfl) (by kernel_rfl) (fun _ _ _ h => h) (Or.inl ⟨by rfl, ?_⟩) (by assumption) ?_
    rotate_left 1
    · intro W hSw
      try dsimp only at hSw
      obtain ⟨hs1, hs2⟩ := hSw
      go_simp
      try with_reducible rfl
    try simp only [Act.put, List.setIfInBounds_toArray, List.set_cons_zero, List.set_cons_succ]
    refine wpAnyH_ready (rs := [22]) (by kernel_rfl) (by simp) ?_
    refine AllReadyH.cons rfl (fun K hK => ?_) AllReadyH.nil
    go_simp
    go_at_call 8
    refine (requal_self w17 A7 A l c7 c ((SO.out.below K17.out).more K17.out.size) ((SL.out.below K17.out).more K17.out.size) HMx.out).mono ?_
    rintro e w22 ⟨rfl, hb22⟩
    have K22 : Hid (Below wd.heap.size wd w22) := nxTo K17.out hb22
    clear hb22
    have s22 := rngK RA.out K22.out HLa.out
    have t22 := rngK RB.out K22.out HLb.out
    have S22 := Lib.hid s22
    have T22 := Lib.hid t22
    clear s22 t22
    refine hK.out _ _ ⟨S22.out, T22.out⟩ (fun hSn => ?_)
    clear hK K
    try simp only [Act.put, List.setIfInBounds_toArray, List.set_cons_zero, List.set_cons_succ]
    refine wpAnyH_take (i := 23) (oi := ⟨_, _, _, _, _, _⟩) (v := ?_) rfl (by kernel_rfl) (by kernel_rfl) (by kernel_rfl) (fun _ _ _ h => h) (Or.inl ⟨by rfl, ?_⟩) (by assumption) ?_
    rotate_left 1
    · intro W hSw
      try dsimp only at hSw
      obtain ⟨hs1, hs2⟩ := hSw
      go_simp
      try with_reducible rfl
    try simp only [Act.put, List.setIfInBounds_toArray, List.set_cons_zero, List.set_cons_succ]
    refine wpAnyH_take (i := 24) (oi := ⟨_, _, _, _, _, _⟩) (v := ?_) rfl (by kernel_rfl) (by kernel_rfl) (by kernel_rfl) (fun _ _ _ h => h) (Or.inl ⟨by rfl, ?_⟩) (by assumption) ?_
    rotate_left 1
    · intro W hSw
      try dsimp only at hSw
      obtain ⟨hs1, hs2⟩ := hSw
      go_simp
      try with_reducible rfl
    try simp only [Act.put, List.setIfInBounds_toArray, List.set_cons_zero, List.set_cons_succ]
    refine wpAnyH_ready (rs := [25]) (by kernel_rfl) (by simp) ?_
    refine AllReadyH.cons rfl (fun K hK => ?_) AllReadyH.nil
    go_simp
    go_at_call 4
    refine (known_any w22).mono ?_
    rintro e w25 ⟨rfl, hb25⟩
    have K25 : Hid (Below wd.heap.size wd w25) := nxTo K22.out hb25
    clear hb25
    have s25 := rngK RA.out K25.out HLa.out
    have t25 := rngK RB.out K25.out HLb.out
    have S25 := Lib.hid s25
    have T25 := Lib.hid t25
    clear s25 t25
    refine hK.out _ _ ⟨S25.out, T25.out⟩ (fun hSn => ?_)
    clear hK K
    try simp only [Act.put, List.setIfInBounds_toArray, List.set_cons_zero, List.set_cons_succ]
    refine wpAnyH_take (i := 26) (oi := ⟨_, _, _, _, _, _⟩) (v := ?_) rfl (by kernel_rfl) (by kernel_rfl) (by kernel_rfl) (fun _ _ _ h => h) (Or.inl ⟨by rfl, ?_⟩) (by assumption) ?_
    rotate_left 1
    · intro W hSw
      try dsimp only at hSw
      obtain ⟨hs1, hs2⟩ := hSw
      go_simp
      try with_reducible rfl
    try simp only [Act.put, List.setIfInBounds_toArray, List.set_cons_zero, List.set_cons_succ]
    refine wpAnyH_take (i := 27) (oi := ⟨_, _, _, _, _, _⟩) (v := ?_) rfl (by kernel_rfl) (by kernel_rfl) (by kernel_rfl) (fun _ _ _ h => h) (Or.inl ⟨by rfl, ?_⟩) (by assumption) ?_
    rotate_left 1
    · intro W hSw
      try dsimp only at hSw
      obtain ⟨hs1, hs2⟩ := hSw
      go_simp
      try with_reducible rfl
    try simp only [Act.put, List.setIfInBounds_toArray, List.set_cons_zero, List.set_cons_succ]
    refine wpAnyH_done (by kernel_rfl) ?_ _
    go_wp2
    go_ret
    exact ⟨rfl, VD.out.trans (K25.out.mono VD.out.size)⟩
  · have h61 : (60 : Int) < (l.length : Int) := by omega
    have h62 : 60 < l.length := by omega
    clear h60
    go_enter Try.func3, Try.ntmps3
    go_wp2_with (first
      | (go_at_call 4; refine (known_any ((w.alloc (.cells (hC a).toArray 23)).alloc (.cells (hC b).toArray 23))).mono ?_; rintro e w4 ⟨rfl, hb4⟩; have K4 : Hid (Below w.heap.size w w4) := V.out.trans (hb4.mono V.out.size); clear hb4))
    go_ret
    exact ⟨rfl, K4.out⟩
end Go.Proofs.Ytkboeoedepikcaa
