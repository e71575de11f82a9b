/-
  TxBounds, the walk.
-/
import Derived.Test.YtckomfffilonlaaDoorTbB
namespace Go.Proofs.YtckomfffilonlaaDoor
open Go.RowKit

theorem inI_cells (k g : Nat) : By zero32 ++ [Value.int .u32 (k : Int), .slice (some ⟨g, 0, none⟩) 256 256] = inC ⟨zero32, k, some ⟨g, 0, none⟩, 256, nulls 256⟩ := by
  have h : (nulls 256).length = 256 := List.length_replicate
  unfold inC
  rw [h]
theorem inI_ok {w : World} {g k : Nat} (hk : k < 64) (h : Blk w g 5 (By (nulls 256)).toArray) : InOk w ⟨zero32, k, some ⟨g, 0, none⟩, 256, nulls 256⟩ := by
  have hl : (nulls 256).length = 256 := List.length_replicate
  refine ⟨rfl, by show k < _; omega, by show (nulls 256).length ≤ 256; omega, sees_blk (more := []) (by rw [List.append_nil]; exact h) h.lt, by show (nulls 256).length ≤ _; omega⟩
theorem outI_cells : (Value.int .u64 17592186044416 :: By zero32) = outC bO := rfl

theorem seesV_keeps {w w' : World} {g B : Nat} {A : Option Addr} {xs : List Value} (h : SeesV w B A xs) (k : Keeps (· = g) w w') (hn : ∀ ad, A = some ad → ad.block ≠ g) : SeesV w' w'.heap.size A xs := by
  rcases h.size with h | ⟨b, off, hA, hlt, hc⟩
  · exact .inl h
  · refine .inr ⟨b, off, hA, Nat.lt_of_lt_of_le hlt k.size, fun i hi => ?_⟩
    exact (k.cell (p := ⟨b, off + i, none⟩) hlt (show ¬ (b = g) from hn _ hA)).trans (hc i hi)
theorem xrow : outsC (⟨17592186044417, zero32⟩ :: List.replicate 63 bO) = outC ⟨17592186044417, zero32⟩ ++ (outsC (List.replicate 64 bO)).drop 33 := by
  have e : outsC (List.replicate 64 bO) = outC bO ++ outsC (List.replicate 63 bO) := rfl
  rw [e, List.drop_left' (outC_len rfl)]
  rfl
theorem noT_check : checkT noT = 2 := by decide

set_option maxHeartbeats 8000000 in
set_option maxRecDepth 100000 in
theorem txBounds_any (w : World) (hTb : Tabs w) : Calls Tryd.prog 6 #[] w fun e w' => e = .returned (.bool true) ∧ Below w.heap.size w w' := by
  have HTb := Lib.hid hTb
  have HZT0 : Hid (∀ t : TxR, (Tryd.prog.info? 26).map (·.size) = some (txC t).toArray.size) := fun t => Tryd.sizeTx
  have HZTl : Hid (∀ t : TxR, (Tryd.prog.info? 26).map (·.size) = some (txC t).length) := fun t => Tryd.sizeTx
  have HZx : Hid ((Tryd.prog.info? 26).map (·.size) = some txZ.size) := Tryd.sizeTx
  have hp0 := part_tx
  have hmk := make_256
  obtain ⟨i0, hi0, hz0, hz1, hz2⟩ := infoP Tryd.ininfo
  obtain ⟨j0, hj0, hy0, hy1, hy2⟩ := infoP Tryd.outinfo
  clear hTb
  go_enter Tryd.func6, Tryd.ntmps6
  go_wp2_with (first
    | ((with_reducible show wpList _ _ _ (⟨none, .store 26 (.tmp 1) _, _, _, _, _⟩ :: _) _ _); (show wpList _ _ _ _ _ (w.alloc (.cells txZ 26))); refine wpList_store_all rfl 26 (.tmp 1) (.tmp 11) rfl w.heap.size 26 txZ txZ rfl rfl (heap_alloc_new w _) rfl HZx.out (txC_one noT) ?_; intro w1 h5 h6 h7; have B1 := Lib.hid h5; have V1 : Hid (Below w.heap.size w w1) := belowFresh h6; clear h5 h6 h7))
  go_loopw [2] (fun iv wr => ∃ (k : Nat) (l : List InR) (A1 : Option Addr) (e1 : Nat) (A2 : Option Addr) (e2 : Nat), k ≤ 64 ∧ iv = .int .i64 k ∧ Hid (BoundsAt w wr k l A1 e1 A2 e2)) (fun iv _ => 64 - (intOf iv).toNat)
  case atStart => exact ⟨0, [], none, 0, none, 0, by omega, rfl, ⟨rfl, B1.out, ⟨rfl, .inl ⟨rfl, rfl⟩⟩, ⟨rfl, .inl ⟨rfl, rfl⟩⟩, (fun j hj => by cases hj), (fun W hW i hi => by cases hi), V1.out⟩⟩
  case round =>
    obtain ⟨k, l, A1, e1, A2, e2, hk, rfl, H⟩ := hrel
    clear B1 V1
    by_cases hlt : k < 64
    · have hin : (k : Int) < 64 := by omega
      have hcv : IntKind.u32.wrap (k : Int) = (k : Int) := by rw [IntKind.wrap_u32]; omega
      have c0 : Hid (wr.cell? ⟨w.heap.size, 0, none⟩ = some (.slice A1 k e1)) := H.out.2.1.cell 0
      have hbl := H.out.2.1.lt
      have hgs := H.out.2.2.2.2.2.2.size
      go_wp2_with fail
      refine wp_region_K (fun W => W.cell? ⟨w.heap.size, 0, none⟩ = some (.slice A1 k e1)) 8 (by kernel_rfl) c0.out (fun hSn => ?_)
      refine wpAnyK_pure (i := 0) (oi := ⟨_, _, _, _, _, _⟩) (v := ?_) rfl (by kernel_rfl) (by kernel_rfl) (by kernel_rfl) rfl (fun _ _ _ h => h) (Or.inl ⟨by rfl, ?_⟩) hSn ?_
      rotate_left 1
      · intro W hSw
        go_simp
        try with_reducible rfl
      replace hSn := (KT.set (i := 0) (by decide)).2 hSn
      try simp only [Act.put, List.setIfInBounds_toArray, List.set_cons_zero, List.set_cons_succ]
      refine wpAnyK_take (i := 1) (oi := ⟨_, _, _, _, _, _⟩) (v := ?_) rfl (by kernel_rfl) (by kernel_rfl) (by kernel_rfl) rfl (by kernel_rfl) (by kernel_rfl) (fun _ _ _ h => h) (Or.inl ⟨by rfl, ?_⟩) hSn ?_
      rotate_left 1
      · intro W hSw
        try dsimp only at hSw
        go_simp
        try with_reducible rfl
      replace hSn := (KT.set (i := 1) (by decide)).2 hSn
      try simp only [Act.put, List.setIfInBounds_toArray, List.set_cons_zero, List.set_cons_succ]
      refine wpAnyK_pure (i := 2) (oi := ⟨_, _, _, _, _, _⟩) (v := ?_) rfl (by kernel_rfl) (by kernel_rfl) (by kernel_rfl) rfl (fun _ _ _ h => h) (Or.inl ⟨by rfl, ?_⟩) hSn ?_
      rotate_left 1
      · intro W hSw
        go_simp
        try with_reducible rfl
      replace hSn := (KT.set (i := 2) (by decide)).2 hSn
      try simp only [Act.put, List.setIfInBounds_toArray, List.set_cons_zero, List.set_cons_succ]
      refine wpAnyK_pure (i := 3) (oi := ⟨_, _, _, _, _, _⟩) (v := ?_) rfl (by kernel_rfl) (by kernel_rfl) (by kernel_rfl) rfl (fun _ _ _ h => h) (Or.inl ⟨by rfl, ?_⟩) hSn ?_
      rotate_left 1
      · intro W hSw
        go_simp
        try with_reducible rfl
      replace hSn := (KT.set (i := 3) (by decide)).2 hSn
      try simp only [Act.put, List.setIfInBounds_toArray, List.set_cons_zero, List.set_cons_succ]
      refine wpAnyK_pure (i := 4) (oi := ⟨_, _, _, _, _, _⟩) (v := .agg (By zero32 ++ [Value.int .u32 (k : Int)]).toArray) rfl (by kernel_rfl) (by kernel_rfl) (by kernel_rfl) rfl (fun _ _ _ h => h) (yieldsIf_build1 (by rfl) 44 1 (.tmp 19) rfl (.int .u32 (k : Int)) _ rfl (fun wq => part_pt _ wq)) hSn ?_
      replace hSn := (KT.set (i := 4) (by decide)).2 hSn
      try simp only [Act.put, List.setIfInBounds_toArray, List.set_cons_zero, List.set_cons_succ]
      clear hSn
      refine wpAnyK_ready (rs := [5]) (by kernel_rfl) (by simp) ?_
      refine AllReadyK.cons rfl (fun K hK => ?_) AllReadyK.nil
      go_simp
      skip
      refine hK.out _ _ (fun _ => ((World.cell?_alloc_some wr.drew _ _ (by rw [show wr.drew.cell? ⟨w.heap.size, 0, none⟩ = some (.slice A1 k e1) from c0.out]; rfl)).trans c0.out)) (fun hSn => ?_)
      clear hK K
      try simp only [Act.put, List.setIfInBounds_toArray, List.set_cons_zero, List.set_cons_succ]
      obtain ⟨w4, hw4⟩ : ∃ q, (wr.alloc (.cells (By (nulls 256)).toArray 5)).drew = q := ⟨_, rfl⟩
      have hB4 : Blk w4 wr.heap.size 5 (By (nulls 256)).toArray := by rw [← hw4]; exact heap_alloc_new wr _
      have hV4 : Below wr.heap.size wr w4 := by rw [← hw4]; exact nxDrI (nxAl (nxRf wr) _)
      have hs4 : w4.heap.size = wr.heap.size + 1 := by rw [← hw4]; show (wr.alloc _).heap.size = _; simp
      have c4 : Hid (w4.cell? ⟨w.heap.size, 0, none⟩ = some (.slice A1 k e1)) := cell_later hV4 c0.out
      rw [hw4] at hSn
      rw [hw4]
      clear hw4
      refine wpAnyK_pure (i := 6) (oi := ⟨_, _, _, _, _, _⟩) (v := .agg (By zero32 ++ [Value.int .u32 (k : Int), .slice (some ⟨wr.heap.size, 0, none⟩) 256 256]).toArray) rfl (by kernel_rfl) (by kernel_rfl) (by kernel_rfl) rfl (fun _ _ _ h => h) (yieldsIf_build2 (by rfl) 46 (.tmp 20) (.tmp 21) rfl (.agg (By zero32 ++ [Value.int .u32 (k : Int)]).toArray) (.slice (some ⟨wr.heap.size, 0, none⟩) 256 256) _ rfl rfl (fun wq => part_in2 _ _ _ _ wq)) hSn ?_
      replace hSn := (KT.set (i := 6) (by decide)).2 hSn
      try simp only [Act.put, List.setIfInBounds_toArray, List.set_cons_zero, List.set_cons_succ]
      clear hSn
      refine wpAnyK_ready (rs := [7]) (by kernel_rfl) (by simp) ?_
      refine AllReadyK.cons rfl (fun K hK => ?_) AllReadyK.nil
      refine step_build_one (o := ⟨some 23, _, _, _, _, _⟩) rfl 22 46 (.tmp 22) rfl (By zero32 ++ [Value.int .u32 (k : Int), .slice (some ⟨wr.heap.size, 0, none⟩) 256 256]) _ 34 64 Tryd.underlying22 Tryd.ininfo (by decide) (by decide) (by rw [inI_cells]; exact inC_len rfl) rfl ?_
      refine hK.out _ _ (fun _ => ((World.cell?_alloc_some w4 _ _ (by rw [c4.out]; rfl)).trans c4.out)) (fun hSn => ?_)
      clear hK K
      try simp only [Act.put, List.setIfInBounds_toArray, List.set_cons_zero, List.set_cons_succ]
      have HSi : Hid (SeesV (w4.alloc (.cells (By zero32 ++ [Value.int .u32 (k : Int), .slice (some ⟨wr.heap.size, 0, none⟩) 256 256]).toArray 46)) (w4.alloc (.cells (By zero32 ++ [Value.int .u32 (k : Int), .slice (some ⟨wr.heap.size, 0, none⟩) 256 256]).toArray 46)).heap.size (some ⟨w4.heap.size, 0, none⟩) (inC ⟨zero32, k, some ⟨wr.heap.size, 0, none⟩, 256, nulls 256⟩)) := by rw [← inI_cells]; exact SeesV.blk (heap_alloc_new w4 _)
      have hV7 : Below wr.heap.size wr (w4.alloc (.cells (By zero32 ++ [Value.int .u32 (k : Int), .slice (some ⟨wr.heap.size, 0, none⟩) 256 256]).toArray 46)) := nxAl hV4 _
      have hB7 : Blk (w4.alloc (.cells (By zero32 ++ [Value.int .u32 (k : Int), .slice (some ⟨wr.heap.size, 0, none⟩) 256 256]).toArray 46)) wr.heap.size 5 (By (nulls 256)).toArray := hB4.alloc _
      obtain ⟨w7, hw7⟩ : ∃ q, w4.alloc (.cells (By zero32 ++ [Value.int .u32 (k : Int), .slice (some ⟨wr.heap.size, 0, none⟩) 256 256]).toArray 46) = q := ⟨_, rfl⟩
      have hs7 : w7.heap.size = wr.heap.size + 2 := by rw [← hw7]; simp [hs4]
      rw [hw7] at hSn HSi hV7 hB7
      rw [hw7]
      have HB7 := Lib.hid hB7
      have HV7 := Lib.hid hV7
      have HOa : Hid (w7.ownsRow (w.heap.size + 1) 46 34 (.slice A1 k e1) k (insC l)) := own_keepsS (S := fun _ => False) H.out.2.2.1 (Keeps.of_below hV7 _) (fun _ _ h => h)
      clear hw7 hV4 hB4 hB7
      have hll : (w.heap.size + 1) ≤ w7.heap.size := by omega
      clear hSn
      refine wpAnyK_ready (rs := [8]) (by kernel_rfl) (by simp) ?_
      refine AllReadyK.cons rfl (fun K hK => ?_) AllReadyK.nil
      refine step_append_seesV (o := ⟨some 24, _, _, _, _, _⟩) rfl (.tmp 17) (.tmp 23) 22 rfl (w.heap.size + 1) 46 i0 _ 34 64 Tryd.underlying22 hi0 hz0 hz1 hz2 rfl (by decide) (.slice A1 k e1) k (insC l) rfl HOa.out _ (some ⟨w4.heap.size, 0, none⟩) 1 1 (inC ⟨zero32, k, some ⟨wr.heap.size, 0, none⟩, 256, nulls 256⟩) rfl (inC_len rfl) HSi.out (fun u hu => inC_one _ u (by simpa using hu)) (by omega) (by omega) hll ?_
      intro v5 w5 ho5 hg5 hv5
      obtain ⟨A5, e5, rfl⟩ := own_form ho5
      have O5 := Lib.hid ho5
      have G5 := Lib.hid hg5
      have NV5 := Lib.hid hv5
      clear ho5 hg5 hv5
      refine hK.out _ _ (fun h => absurd h (by decide +kernel)) (fun hSn => ?_)
      clear hK K
      try simp only [Act.put, List.setIfInBounds_toArray, List.set_cons_zero, List.set_cons_succ]
      have hI := bounds_in H.out HV7.out ⟨zero32, k, some ⟨wr.heap.size, 0, none⟩, 256, nulls 256⟩ rfl (inI_ok hlt HB7.out) (fun ad e => by injection e with e; subst e; exact ⟨Nat.le_refl _, by show wr.heap.size < _; omega⟩) O5.out (by have := G5.out; rw [own_blk] at this; exact this) (by have := NV5.out; rw [own_blk, own_blk] at this; exact this)
      have HI := Lib.hid hI
      have hnb : A1.map (·.block) ≠ some w.heap.size := fun h => by have := (own_lt HOa.out w.heap.size (by rw [own_blk]; exact h)).1; omega
      have hB5 : Blk w5 w.heap.size 26 #[.slice A1 k e1, .slice A2 k e2, .int .u64 0] := (H.out.2.1.below HV7.out hbl).of_eq (G5.out.block _ (Nat.lt_of_lt_of_le hbl HV7.out.size) (by rw [own_blk]; exact fun h => hnb h.symm))
      have c5 : w5.cell? ⟨w.heap.size, 0, none⟩ = some (.slice A1 k e1) := hB5.cell 0
      have f5 : w5.frozen? ⟨w.heap.size, 0, none⟩ = false := hB5.frozen 0
      clear hI hB5 hnb
      refine wpAnyK_pure (i := 9) (oi := ⟨_, _, _, _, _, _⟩) (v := ?_) rfl (by kernel_rfl) (by kernel_rfl) (by kernel_rfl) rfl (fun _ _ _ h => h) (Or.inl ⟨by rfl, ?_⟩) hSn ?_
      rotate_left 1
      · intro W hSw
        go_simp
        try with_reducible rfl
      replace hSn := (KT.set (i := 9) (by decide)).2 hSn
      try simp only [Act.put, List.setIfInBounds_toArray, List.set_cons_zero, List.set_cons_succ]
      clear hSn
      refine wpAnyK_ready (rs := [10]) (by kernel_rfl) (by simp) ?_
      refine AllReadyK.cons rfl (fun K hK => ?_) AllReadyK.nil
      go_simp
      skip
      refine hK.out _ _ (fun h => absurd h (by decide +kernel)) (fun hSn => ?_)
      clear hK K
      try simp only [Act.put, List.setIfInBounds_toArray, List.set_cons_zero, List.set_cons_succ]
      refine wpAnyK_done (by kernel_rfl) ?_ _
      clear hSn c5 f5 HOa HSi HB7 O5 G5 NV5 c4
      obtain ⟨l2, hl2⟩ : ∃ x, l ++ [⟨zero32, k, some ⟨wr.heap.size, 0, none⟩, 256, nulls 256⟩] = x := ⟨_, rfl⟩
      obtain ⟨w6, hw6⟩ : ∃ W, w5.setCell ⟨w.heap.size, 0, none⟩ (.slice A5 (k + 1) e5) = W := ⟨_, rfl⟩
      rw [hw6]
      rw [hl2, hw6] at HI
      clear hw6 hl2
      have cq : w6.cell? ⟨w.heap.size, 1, none⟩ = some (.slice A2 k e2) := HI.out.2.1.cell 1
      have hs6 := HI.out.2.2.2.2.2.2.size
      have hb6 := HI.out.2.1.lt
      go_wp2_with (first
        | ((with_reducible show wpList _ _ _ (⟨some 28, _, _, _, _, _⟩ :: _) _ _); refine wpList_build1 rfl 49 0 _ rfl (.int .u64 17592186044416) (.agg (outC bO).toArray) rfl (fun wq => part_out _ wq) ?_)
        | ((with_reducible show wpList _ _ _ (⟨some 29, _, _, _, _, _⟩ :: _) _ _); refine wpList_build_one rfl 23 49 (.tmp 28) rfl (outC bO) _ 33 40 Tryd.underlying23 Tryd.outinfo (by decide) (by decide) (outC_len rfl) rfl ?_; have O8 : Hid ((w6.alloc (.cells (outC bO).toArray 49)).ownsRow (w.heap.size + 1) 49 33 (.slice A2 k e2) k (outsC (List.replicate k bO))) := own_keepsS (S := fun _ => False) HI.out.2.2.2.1 (Keeps.of_below (nxAl (nxRf w6) _) _) (fun _ _ h => h); have S8 : Hid (SeesV (w6.alloc (.cells (outC bO).toArray 49)) (w6.alloc (.cells (outC bO).toArray 49)).heap.size (some ⟨w6.heap.size, 0, none⟩) (outC bO)) := SeesV.blk (heap_alloc_new w6 _); have h8s : w.heap.size + 1 ≤ (w6.alloc (.cells (outC bO).toArray 49)).heap.size := (by simp; omega))
        | ((with_reducible show wpList _ _ _ (⟨some 30, _, _, _, _, _⟩ :: _) _ _); refine wpList_append_seesV rfl (.tmp 27) (.tmp 29) 23 rfl (w.heap.size + 1) 49 j0 _ 33 40 Tryd.underlying23 hj0 hy0 hy1 hy2 rfl (by decide) (.slice A2 k e2) k (outsC (List.replicate k bO)) rfl O8.out _ (some ⟨w6.heap.size, 0, none⟩) 1 1 (outC bO) rfl (outC_len rfl) S8.out (fun u hu => outC_one _ u (by simpa using hu)) (by omega) (by omega) h8s ?_; intro v9 w9 ho9 hg9 hv9; obtain ⟨A6, e6, rfl⟩ := own_form ho9; have O9 := Lib.hid ho9; have hg9' : (w6.alloc (.cells (outC bO).toArray 49)).grownBy w9 (A2.map (·.block)) := (by rw [own_blk] at hg9; exact hg9); have hB9 : Blk w9 w.heap.size 26 #[.slice A5 (k + 1) e5, .slice A2 k e2, .int .u64 0] := (HI.out.2.1.alloc _).of_eq (hg9'.block _ (HI.out.2.1.alloc _).lt (fun h => by have := (own_lt O8.out w.heap.size (by rw [own_blk]; exact h.symm)).1; omega)); have HN := Lib.hid (bounds_out HI.out.1 HI.out.2.1 HI.out.2.2.1 HI.out.2.2.2.1 HI.out.2.2.2.2.1 HI.out.2.2.2.2.2.1 HI.out.2.2.2.2.2.2 (nxAl (nxRf w6) _) O9.out hg9' (by rw [own_blk, own_blk] at hv9; exact hv9)); have c9 : w9.cell? ⟨w.heap.size, 1, none⟩ = some (.slice A2 k e2) := hB9.cell 1; have f9 : w9.frozen? ⟨w.heap.size, 1, none⟩ = false := hB9.frozen 1; clear ho9 hg9 hv9 hg9' hB9))
      go_roundw
      case rel => exact ⟨k + 1, l2, A5, e5, A6, e6, by omega, by go_num, HN.out⟩
      case measure => simp [intOf] <;> omega
    · obtain rfl : k = 64 := by omega
      have hll : l.length = 64 := by have := congrArg List.length H.out.1; simpa [bIs] using this
      have hcap1 := own_cmS H.out.2.2.1
      have hcap2 := own_cmS H.out.2.2.2.1
      obtain ⟨t, ht⟩ : ∃ t : TxR, (⟨A1, e1, l, A2, e2, List.replicate 64 bO, 0⟩ : TxR) = t := ⟨_, rfl⟩
      have hP : txP t = tP := by rw [← ht]; show TxP.mk _ _ _ = _; rw [H.out.1]; rfl
      have hOk : TxOk wr t := by
        rw [← ht]
        exact ⟨SeesV.own H.out.2.2.1, H.out.2.2.2.2.2.1.now, SeesV.own H.out.2.2.2.1, fun x hx => by rw [List.eq_of_mem_replicate hx]; exact ⟨by decide, rfl⟩, by show l.length ≤ e1; omega, by show (List.replicate 64 bO).length ≤ e2; rw [List.length_replicate]; omega, by show 0 < _; omega, by show l.length ≤ _; omega, by show (List.replicate 64 bO).length ≤ _; rw [List.length_replicate]; omega⟩
      have hBk : Blk wr w.heap.size 26 (txC t).toArray := by
        have h := H.out.2.1
        have e : (txC t).toArray = #[.slice A1 64 e1, .slice A2 64 e2, .int .u64 0] := by rw [← ht]; simp [txC, hll]
        rw [e]; exact h
      have hCt : t.ins.length = 64 ∧ t.outs.length = 64 ∧ t.ins.map inP = bIs 64 ∧ t.outs = List.replicate 64 bO ∧ 64 ≤ t.c ∧ t.c ≤ maxLen ∧ 64 ≤ t.d ∧ t.d ≤ maxLen := by
        rw [← ht]
        exact ⟨hll, List.length_replicate, H.out.1, rfl, hcap1.1, hcap1.2, hcap2.1, hcap2.2⟩
      have HCt := Lib.hid hCt
      have HOk := Lib.hid hOk
      have HR := Lib.hid (blkR (vs := txC t) hBk)
      have HV := Lib.hid H.out.2.2.2.2.2.2
      have HL := Lib.hid hBk.lt
      have hc0 : checkT t = 0 := check_of hP tP_check
      have HC := Lib.hid hc0
      have hpf := pack_ofB t (fun i hi => ⟨(hOk.each i hi).id, (hOk.each i hi).n⟩) hOk.eacho hOk.nonce hc0
      have hlF := packT_len hOk hc0
      have HOut : Hid (outT t = 1125899906842624) := by show _ = _; rw [outT, hc0, hCt.2.2.2.1]; exact tP_out
      obtain ⟨F, hF⟩ : ∃ F, packT t = F := ⟨_, rfl⟩
      have HF := Lib.hid hF
      rw [hF] at hpf hlF
      have HFB := Lib.hid hpf.1
      have HLF := Lib.hid (show F.length ≤ 1099511627776 by omega)
      have HTb2 := Lib.hid (HTb.out.later HV.out)
      clear H hll hcap1 hcap2 ht hP hOk hBk hCt hc0 hpf hlF hF hk hlt hmk hp0
      go_upto_region 9 with (first
        | ((with_reducible show wpList _ _ _ (⟨some 33, _, _, _, _, _⟩ :: _) _ _); refine wpList_load_mid rfl 26 (.tmp 1) rfl w.heap.size 0 rfl (txC t) _ HR.out Tryd.underlying26 rfl (HZTl.out t) ?_)
        | (go_at_call 9; refine (bytes_yes wr t HOk.out HC.out).mono ?_; unfold BytesPost; rw [HF.out]; rintro e w3 ⟨⟨A3, c3, B3, rfl, hB0, ho⟩, hb⟩; have V3 : Hid (Below wr.heap.size wr w3) := hb; have S3 := Lib.hid (Sees.own ho); clear hB0 ho hb)
        | (go_at_call 26; refine (of_any w3 w3.heap.size A3 F c3 S3.out HLF.out).mono ?_; unfold OfPost; rw [HFB.out]; rintro e w5 ⟨t5, rfl, hp5, ht5, hb5⟩; have V5 : Hid (Below wr.heap.size wr w5) := nxTr V3.out hb5; clear hp5 ht5 hb5)
        | ((with_reducible show wpList _ _ _ (⟨none, .store 26 (.tmp 5) _, _, _, _, _⟩ :: _) _ _); (show wpList _ _ _ _ _ (w5.alloc (.cells txZ 26))); refine wpList_store_all rfl 26 (.tmp 5) (.tmp 40) rfl w5.heap.size 26 txZ (txC t5).toArray rfl rfl (heap_alloc_new w5 _) rfl (HZT0.out t5) (txC_one t5) ?_; intro w6 h5 h6 h7; have V6 : Hid (Below wr.heap.size wr w6) := nxTr V5.out (belowFresh h6); clear h5 h6 h7))
      have T6 := Lib.hid (HOk.out.later V6.out)
      have R6 : Hid (w6.rangeAt w.heap.size 0 (txC t)) := rngB HR.out V6.out HL.out
      have L6 : Hid (w.heap.size < w6.heap.size) := Nat.lt_of_lt_of_le HL.out V6.out.size
      have hc6 : w6.cell? ⟨w.heap.size, 0, none⟩ = some (.slice t.A 64 t.c) ∧ w6.cell? ⟨w.heap.size, 1, none⟩ = some (.slice t.B 64 t.d) := by
        have h0 := R6.out 0 (.slice t.A t.ins.length t.c) rfl
        have h1 := R6.out 1 (.slice t.B t.outs.length t.d) rfl
        rw [HCt.out.1] at h0
        rw [HCt.out.2.1] at h1
        exact ⟨h0, h1⟩
      have C6 := Lib.hid hc6
      obtain ⟨S1, hs1, hsl1⟩ := full_slice 34 Tryd.underlying22 Tryd.sizeIn T6.out.ins HCt.out.2.2.2.2.1 HCt.out.2.2.2.2.2.1
      obtain ⟨S2, hs2, hsl2⟩ := full_slice 33 Tryd.underlying23 Tryd.sizeOut T6.out.outs HCt.out.2.2.2.2.2.2.1 HCt.out.2.2.2.2.2.2.2
      obtain ⟨S3', hs3, hsl3⟩ := tail_slice 33 Tryd.underlying23 Tryd.sizeOut T6.out.outs HCt.out.2.2.2.2.2.2.1 HCt.out.2.2.2.2.2.2.2
      have Hs1 := Lib.hid hs1
      have Hs2 := Lib.hid hs2
      have Hs3 := Lib.hid hs3
      have li : Hid ((insC t.ins).length = 64 * 34) := by show _ = _; rw [insC_len (fun i hi => (T6.out.each i hi).id), HCt.out.1]
      have lo : Hid ((outsC t.outs).length = 64 * 33) := by show _ = _; rw [HCt.out.2.2.2.1]; rfl
      have lo1 : Hid (((outsC t.outs).drop 33).length = 63 * 33) := by show _ = _; rw [List.length_drop, lo.out]
      clear hc6 hs1 hs2 hs3 V3 V5 S3
      have V66w6 : Hid (Below w6.heap.size w6 w6) := nxRf w6
      go_cut [7] (fun q wx => ∃ (g : Nat) (u : TxR), q = .pointer (some ⟨g, 0, none⟩) ∧ Hid (wx.rangeAt g 0 (txC u)) ∧ Hid (g < wx.heap.size) ∧ Hid (TxOk wx u) ∧ Hid (checkT u = 2) ∧ Hid (Below w6.heap.size w6 wx))
      case first =>
        as_aux_lemma =>
          refine wp_region_held_drew (S := fun W => W.cell? ⟨w.heap.size, 0, none⟩ = some (.slice t.A 64 t.c) ∧ W.cell? ⟨w.heap.size, 1, none⟩ = some (.slice t.B 64 t.d)) (by kernel_rfl) ⟨cell_later (nxDrI V66w6.out) C6.out.1, cell_later (nxDrI V66w6.out) C6.out.2⟩ (fun hHeld => ?_)
          obtain ⟨q1, hq1⟩ : ∃ q, w6.drew = q := ⟨_, rfl⟩
          have v1 : Hid (Below w6.heap.size w6 q1) := by show Below _ _ _; rw [← hq1]; exact nxDrI (nxRf w6)
          rw [hq1] at hHeld ⊢
          clear hq1
          refine wpAnyH_take (i := 0) (oi := ⟨_, _, _, _, _, _⟩) (v := ?_) rfl (by kernel_rfl) (by kernel_rfl) (by kernel_rfl) (fun _ _ _ h => h) (Or.inl ⟨by rfl, ?_⟩) (by assumption) ?_
          rotate_left 1
          · intro W hSw
            try dsimp only at hSw
            go_simp
            try with_reducible rfl
          try simp only [Act.put, List.setIfInBounds_toArray, List.set_cons_zero, List.set_cons_succ]
          refine wpAnyH_take (i := 1) (oi := ⟨_, _, _, _, _, _⟩) (v := ?_) rfl (by kernel_rfl) (by kernel_rfl) (by kernel_rfl) (fun _ _ _ h => h) (Or.inl ⟨by rfl, ?_⟩) (by assumption) ?_
          rotate_left 1
          · intro W hSw
            try dsimp only at hSw
            go_simp
            try with_reducible rfl
          try simp only [Act.put, List.setIfInBounds_toArray, List.set_cons_zero, List.set_cons_succ]
          refine wpAnyH_take (i := 2) (oi := ⟨_, _, _, _, _, _⟩) (v := ?_) rfl (by kernel_rfl) (by kernel_rfl) (by kernel_rfl) (fun _ _ _ h => h) (Or.inl ⟨by rfl, ?_⟩) (by assumption) ?_
          rotate_left 1
          · intro W hSw
            try dsimp only at hSw
            go_simp
            try with_reducible rfl
          try simp only [Act.put, List.setIfInBounds_toArray, List.set_cons_zero, List.set_cons_succ]
          refine wpAnyH_take (i := 3) (oi := ⟨_, _, _, _, _, _⟩) (v := .agg (By zero32 ++ [Value.int .u32 64]).toArray) rfl (by kernel_rfl) (by kernel_rfl) (by kernel_rfl) (fun _ _ _ h => h) (yieldsIf_build1 (by rfl) 44 1 _ rfl (.int .u32 64) _ rfl (fun wq => part_pt _ wq)) (by assumption) ?_
          try simp only [Act.put, List.setIfInBounds_toArray, List.set_cons_zero, List.set_cons_succ]
          refine wpAnyH_take (i := 4) (oi := ⟨_, _, _, _, _, _⟩) (v := .agg (By zero32 ++ [Value.int .u32 64, .slice none 0 0]).toArray) rfl (by kernel_rfl) (by kernel_rfl) (by kernel_rfl) (fun _ _ _ h => h) (yieldsIf_build1 (by rfl) 46 0 (.tmp 45) rfl (.agg (By zero32 ++ [Value.int .u32 64]).toArray) _ rfl (fun wq => part_in0 _ wq)) (by assumption) ?_
          try simp only [Act.put, List.setIfInBounds_toArray, List.set_cons_zero, List.set_cons_succ]
          refine wpAnyH_take (i := 7) (oi := ⟨_, _, _, _, _, _⟩) (v := ?_) rfl (by kernel_rfl) (by kernel_rfl) (by kernel_rfl) (fun _ _ _ h => h) (Or.inl ⟨by rfl, ?_⟩) (by assumption) ?_
          rotate_left 1
          · intro W hSw
            try dsimp only at hSw
            go_simp
            try with_reducible rfl
          try simp only [Act.put, List.setIfInBounds_toArray, List.set_cons_zero, List.set_cons_succ]
          refine wpAnyH_take (i := 8) (oi := ⟨_, _, _, _, _, _⟩) (v := ?_) rfl (by kernel_rfl) (by kernel_rfl) (by kernel_rfl) (fun _ _ _ h => h) (Or.inl ⟨by rfl, ?_⟩) (by assumption) ?_
          rotate_left 1
          · intro W hSw
            try dsimp only at hSw
            go_simp
            try with_reducible rfl
          try simp only [Act.put, List.setIfInBounds_toArray, List.set_cons_zero, List.set_cons_succ]
          refine wpAnyH_ready (rs := [5, 10]) (by kernel_rfl) (by simp) ?_
          refine AllReadyH.cons rfl (fun K hK => ?_) (AllReadyH.cons rfl (fun K hK => ?_) AllReadyH.nil)
          · refine step_build_one (o := ⟨some 47, _, _, _, _, _⟩) rfl 22 46 (.tmp 46) rfl (By zero32 ++ [Value.int .u32 64, .slice none 0 0]) _ 34 64 Tryd.underlying22 Tryd.ininfo (by decide) (by decide) rfl rfl ?_
            have v2 : Hid (Below w6.heap.size w6 (q1.alloc (.cells (By zero32 ++ [Value.int .u32 64, .slice none 0 0]).toArray 46))) := nxAl v1.out _
            have y2 : Hid ((q1.alloc (.cells (By zero32 ++ [Value.int .u32 64, .slice none 0 0]).toArray 46)).heap.size = q1.heap.size + 1) := (by show _ = _; simp)
            have r2_0 : Hid (SeesV (q1.alloc (.cells (By zero32 ++ [Value.int .u32 64, .slice none 0 0]).toArray 46)) (q1.alloc (.cells (By zero32 ++ [Value.int .u32 64, .slice none 0 0]).toArray 46)).heap.size (some ⟨q1.heap.size, 0, none⟩) (By zero32 ++ [Value.int .u32 64, .slice none 0 0])) := SeesV.blk (heap_alloc_new q1 _)
            refine hK.out _ _ ⟨cell_later (nxTr V66w6.out v2.out) C6.out.1, cell_later (nxTr V66w6.out v2.out) C6.out.2⟩ (fun hSn => ?_)
            clear hK K
            try simp only [Act.put, List.setIfInBounds_toArray, List.set_cons_zero, List.set_cons_succ]
            obtain ⟨q2, hq2⟩ : ∃ q, (q1.alloc (.cells (By zero32 ++ [Value.int .u32 64, .slice none 0 0]).toArray 46)) = q := ⟨_, rfl⟩
            rw [hq2] at hSn v2 y2 r2_0 ⊢
            clear hq2
            refine wpAnyH_ready (rs := [6, 10]) (by kernel_rfl) (by simp) ?_
            refine AllReadyH.cons rfl (fun K hK => ?_) (AllReadyH.cons rfl (fun K hK => ?_) AllReadyH.nil)
            · refine step_append_full (o := ⟨some 48, _, _, _, _, _⟩) rfl (.tmp 44) (.tmp 47) 22 rfl 46 i0 _ 34 64 Tryd.underlying22 hi0 hz0 hz1 hz2 rfl (by decide) S1 64 64 _ (insC t.ins) rfl li.out ((Hs1.out.later (nxTr V66w6.out v2.out)).more (nxTr V66w6.out v2.out).size) (by omega) _ (some ⟨q1.heap.size, 0, none⟩) 1 _ (By zero32 ++ [Value.int .u32 64, .slice none 0 0]) rfl rfl r2_0.out (by omega) (by omega) (by omega) (by omega) ?_
              intro A3 c3 q3 ho hb
              have v3 : Hid (Below w6.heap.size w6 q3) := nxTr v2.out hb
              have y3 : Hid (q2.heap.size ≤ q3.heap.size) := hb.size
              have r3_0 : Hid (SeesV q3 q3.heap.size A3 (insC t.ins ++ (By zero32 ++ [Value.int .u32 64, .slice none 0 0]))) := SeesV.own ho
              have d3 : Hid (65 ≤ c3) := (own_cmS ho).1
              have n3 : Hid (∀ ad, A3 = some ad → q2.heap.size ≤ ad.block ∧ ad.block < q3.heap.size) := (fun ad e => own_lt ho ad.block (by rw [own_blk, e]; rfl))
              clear ho hb
              refine hK.out _ _ ⟨cell_later (nxTr V66w6.out v3.out) C6.out.1, cell_later (nxTr V66w6.out v3.out) C6.out.2⟩ (fun hSn => ?_)
              clear hK K
              try simp only [Act.put, List.setIfInBounds_toArray, List.set_cons_zero, List.set_cons_succ]
              refine wpAnyH_take (i := 9) (oi := ⟨_, _, _, _, _, _⟩) (v := .agg #[Value.slice A3 65 c3, .slice t.B 64 t.d, .int .u64 0]) rfl (by kernel_rfl) (by kernel_rfl) (by kernel_rfl) (fun _ _ _ h => h) (yieldsIf_build2 (by rfl) 26 (.tmp 48) (.tmp 50) rfl (Value.slice A3 65 c3) (.slice t.B 64 t.d) _ rfl rfl (fun wq => part_tx2 _ _ _ _ _ _ wq)) (by assumption) ?_
              try simp only [Act.put, List.setIfInBounds_toArray, List.set_cons_zero, List.set_cons_succ]
              refine wpAnyH_ready (rs := [10]) (by kernel_rfl) (by simp) ?_
              refine AllReadyH.cons rfl (fun K hK => ?_) AllReadyH.nil
              go_simp
              have v4 : Hid (Below w6.heap.size w6 (q3.alloc (.cells txZ 26))) := nxAl v3.out _
              have y4 : Hid ((q3.alloc (.cells txZ 26)).heap.size = q3.heap.size + 1) := (by show _ = _; simp)
              have x4 : Hid (w6.heap.size ≤ q3.heap.size) := v3.out.size
              have r4_0 : Hid (SeesV (q3.alloc (.cells txZ 26)) (q3.alloc (.cells txZ 26)).heap.size A3 (insC t.ins ++ (By zero32 ++ [Value.int .u32 64, .slice none 0 0]))) := (r3_0.out.alloc _).more (by simp)
              have g4 : Hid (Blk (q3.alloc (.cells txZ 26)) q3.heap.size 26 txZ) := heap_alloc_new q3 _
              refine hK.out _ (q3.alloc (.cells txZ 26)) ⟨cell_later (nxTr V66w6.out v4.out) C6.out.1, cell_later (nxTr V66w6.out v4.out) C6.out.2⟩ (fun hSn => ?_)
              clear hK K
              try simp only [Act.put, List.setIfInBounds_toArray, List.set_cons_zero, List.set_cons_succ]
              obtain ⟨q4, hq4⟩ : ∃ q, (q3.alloc (.cells txZ 26)) = q := ⟨_, rfl⟩
              rw [hq4] at hSn v4 y4 g4 r4_0 ⊢
              clear hq4
              refine wpAnyH_ready (rs := [11]) (by kernel_rfl) (by simp) ?_
              refine AllReadyH.cons rfl (fun K hK => ?_) AllReadyH.nil
              refine step_store_all (o := ⟨none, _, _, _, _, _⟩) rfl 26 (.tmp 7) (.tmp 51) rfl (q3.heap.size) 26 txZ #[.slice A3 65 c3, .slice t.B 64 t.d, .int .u64 0] rfl rfl g4.out rfl Tryd.sizeTx (by intro v hv; simp at hv; rcases hv with rfl | rfl | rfl <;> rfl) ?_
              intro q5 h5 h6 h7
              obtain ⟨u, hu⟩ : ∃ u : TxR, (⟨A3, c3, t.ins ++ [⟨zero32, 64, none, 0, []⟩], t.B, t.d, t.outs, 0⟩ : TxR) = u := ⟨_, rfl⟩
              have hcs : #[.slice A3 65 c3, .slice t.B 64 t.d, .int .u64 0] = (txC u).toArray := by rw [← hu]; simp [txC, HCt.out.1, HCt.out.2.1]
              rw [hcs] at h5
              have v5 : Hid (Below w6.heap.size w6 q5) := v4.out.trans (h6.below v4.out.size (fun k hk => by have := y2.out; have := y3.out; have := y4.out; have := x4.out; omega))
              have hT : TxOk q5 t := T6.out.later (nxTr V66w6.out v5.out)
              have hU : TxOk q5 u := by
                rw [← hu]
                refine ⟨by show SeesV _ _ _ (insC (t.ins ++ [_])); rw [insC_snoc]; exact seesV_keeps r4_0.out h6 (fun ad e => by have h := n3.out ad e; have := y2.out; have := y3.out; have := y4.out; have := x4.out; omega), fun j hj => ?_, hT.outs, hT.eacho, by show (t.ins ++ [_]).length ≤ _; rw [List.length_append, HCt.out.1]; exact d3.out, hT.d, by show 0 < _; omega, by show (t.ins ++ [_]).length ≤ _; rw [List.length_append, HCt.out.1]; exact Nat.le_of_ble_eq_true rfl, hT.mo⟩
                rcases List.mem_append.1 hj with hj | hj
                · exact hT.each j hj
                · rw [List.mem_singleton.1 hj]; exact ⟨rfl, by show 64 < _; omega, Nat.le_refl _, .inl rfl, by show 0 ≤ _; omega⟩
              have hCu : checkT u = 2 := by
                rw [← hu]
                refine check_of (p := uP) ?_ uP_check
                show TxP.mk _ _ _ = _
                rw [List.map_append, HCt.out.2.2.1, HCt.out.2.2.2.1]; rfl
              refine hK.out _ _ ⟨cell_later (nxTr V66w6.out v5.out) C6.out.1, cell_later (nxTr V66w6.out v5.out) C6.out.2⟩ (fun hSn => ?_)
              clear hK K
              try simp only [Act.put, List.setIfInBounds_toArray, List.set_cons_zero, List.set_cons_succ]
              refine wpAnyH_done (by kernel_rfl) ?_ _
              go_wp2_with fail
              go_meet
              exact ⟨q3.heap.size, u, rfl, blkR h5, h5.lt, hU, hCu, v5⟩
            · go_simp
              have v6 : Hid (Below w6.heap.size w6 (q2.alloc (.cells txZ 26))) := nxAl v2.out _
              have y6 : Hid ((q2.alloc (.cells txZ 26)).heap.size = q2.heap.size + 1) := (by show _ = _; simp)
              have x6 : Hid (w6.heap.size ≤ q2.heap.size) := v2.out.size
              have r6_0 : Hid (SeesV (q2.alloc (.cells txZ 26)) (q2.alloc (.cells txZ 26)).heap.size (some ⟨q1.heap.size, 0, none⟩) (By zero32 ++ [Value.int .u32 64, .slice none 0 0])) := (r2_0.out.alloc _).more (by simp)
              have g6 : Hid (Blk (q2.alloc (.cells txZ 26)) q2.heap.size 26 txZ) := heap_alloc_new q2 _
              refine hK.out _ (q2.alloc (.cells txZ 26)) ⟨cell_later (nxTr V66w6.out v6.out) C6.out.1, cell_later (nxTr V66w6.out v6.out) C6.out.2⟩ (fun hSn => ?_)
              clear hK K
              try simp only [Act.put, List.setIfInBounds_toArray, List.set_cons_zero, List.set_cons_succ]
              obtain ⟨q6, hq6⟩ : ∃ q, (q2.alloc (.cells txZ 26)) = q := ⟨_, rfl⟩
              rw [hq6] at hSn v6 y6 g6 r6_0 ⊢
              clear hq6
              refine wpAnyH_ready (rs := [6]) (by kernel_rfl) (by simp) ?_
              refine AllReadyH.cons rfl (fun K hK => ?_) AllReadyH.nil
              refine step_append_full (o := ⟨some 48, _, _, _, _, _⟩) rfl (.tmp 44) (.tmp 47) 22 rfl 46 i0 _ 34 64 Tryd.underlying22 hi0 hz0 hz1 hz2 rfl (by decide) S1 64 64 _ (insC t.ins) rfl li.out ((Hs1.out.later (nxTr V66w6.out v6.out)).more (nxTr V66w6.out v6.out).size) (by omega) _ (some ⟨q1.heap.size, 0, none⟩) 1 _ (By zero32 ++ [Value.int .u32 64, .slice none 0 0]) rfl rfl r6_0.out (by omega) (by omega) (by omega) (by omega) ?_
              intro A7 c7 q7 ho hb
              have v7 : Hid (Below w6.heap.size w6 q7) := nxTr v6.out hb
              have y7 : Hid (q6.heap.size ≤ q7.heap.size) := hb.size
              have g7 : Hid (Blk q7 q2.heap.size 26 txZ) := g6.out.below hb g6.out.lt
              have r7_0 : Hid (SeesV q7 q7.heap.size A7 (insC t.ins ++ (By zero32 ++ [Value.int .u32 64, .slice none 0 0]))) := SeesV.own ho
              have d7 : Hid (65 ≤ c7) := (own_cmS ho).1
              have n7 : Hid (∀ ad, A7 = some ad → q6.heap.size ≤ ad.block ∧ ad.block < q7.heap.size) := (fun ad e => own_lt ho ad.block (by rw [own_blk, e]; rfl))
              clear ho hb
              refine hK.out _ _ ⟨cell_later (nxTr V66w6.out v7.out) C6.out.1, cell_later (nxTr V66w6.out v7.out) C6.out.2⟩ (fun hSn => ?_)
              clear hK K
              try simp only [Act.put, List.setIfInBounds_toArray, List.set_cons_zero, List.set_cons_succ]
              refine wpAnyH_take (i := 9) (oi := ⟨_, _, _, _, _, _⟩) (v := .agg #[Value.slice A7 65 c7, .slice t.B 64 t.d, .int .u64 0]) rfl (by kernel_rfl) (by kernel_rfl) (by kernel_rfl) (fun _ _ _ h => h) (yieldsIf_build2 (by rfl) 26 (.tmp 48) (.tmp 50) rfl (Value.slice A7 65 c7) (.slice t.B 64 t.d) _ rfl rfl (fun wq => part_tx2 _ _ _ _ _ _ wq)) (by assumption) ?_
              try simp only [Act.put, List.setIfInBounds_toArray, List.set_cons_zero, List.set_cons_succ]
              refine wpAnyH_ready (rs := [11]) (by kernel_rfl) (by simp) ?_
              refine AllReadyH.cons rfl (fun K hK => ?_) AllReadyH.nil
              refine step_store_all (o := ⟨none, _, _, _, _, _⟩) rfl 26 (.tmp 7) (.tmp 51) rfl (q2.heap.size) 26 txZ #[.slice A7 65 c7, .slice t.B 64 t.d, .int .u64 0] rfl rfl g7.out rfl Tryd.sizeTx (by intro v hv; simp at hv; rcases hv with rfl | rfl | rfl <;> rfl) ?_
              intro q8 h5 h6 h7
              obtain ⟨u, hu⟩ : ∃ u : TxR, (⟨A7, c7, t.ins ++ [⟨zero32, 64, none, 0, []⟩], t.B, t.d, t.outs, 0⟩ : TxR) = u := ⟨_, rfl⟩
              have hcs : #[.slice A7 65 c7, .slice t.B 64 t.d, .int .u64 0] = (txC u).toArray := by rw [← hu]; simp [txC, HCt.out.1, HCt.out.2.1]
              rw [hcs] at h5
              have v8 : Hid (Below w6.heap.size w6 q8) := v7.out.trans (h6.below v7.out.size (fun k hk => by have := y2.out; have := y6.out; have := x6.out; have := y7.out; omega))
              have hT : TxOk q8 t := T6.out.later (nxTr V66w6.out v8.out)
              have hU : TxOk q8 u := by
                rw [← hu]
                refine ⟨by show SeesV _ _ _ (insC (t.ins ++ [_])); rw [insC_snoc]; exact seesV_keeps r7_0.out h6 (fun ad e => by have h := n7.out ad e; have := y2.out; have := y6.out; have := x6.out; have := y7.out; omega), fun j hj => ?_, hT.outs, hT.eacho, by show (t.ins ++ [_]).length ≤ _; rw [List.length_append, HCt.out.1]; exact d7.out, hT.d, by show 0 < _; omega, by show (t.ins ++ [_]).length ≤ _; rw [List.length_append, HCt.out.1]; exact Nat.le_of_ble_eq_true rfl, hT.mo⟩
                rcases List.mem_append.1 hj with hj | hj
                · exact hT.each j hj
                · rw [List.mem_singleton.1 hj]; exact ⟨rfl, by show 64 < _; omega, Nat.le_refl _, .inl rfl, by show 0 ≤ _; omega⟩
              have hCu : checkT u = 2 := by
                rw [← hu]
                refine check_of (p := uP) ?_ uP_check
                show TxP.mk _ _ _ = _
                rw [List.map_append, HCt.out.2.2.1, HCt.out.2.2.2.1]; rfl
              refine hK.out _ _ ⟨cell_later (nxTr V66w6.out v8.out) C6.out.1, cell_later (nxTr V66w6.out v8.out) C6.out.2⟩ (fun hSn => ?_)
              clear hK K
              try simp only [Act.put, List.setIfInBounds_toArray, List.set_cons_zero, List.set_cons_succ]
              refine wpAnyH_done (by kernel_rfl) ?_ _
              go_wp2_with fail
              go_meet
              exact ⟨q2.heap.size, u, rfl, blkR h5, h5.lt, hU, hCu, v8⟩
          · go_simp
            have v9 : Hid (Below w6.heap.size w6 (q1.alloc (.cells txZ 26))) := nxAl v1.out _
            have y9 : Hid ((q1.alloc (.cells txZ 26)).heap.size = q1.heap.size + 1) := (by show _ = _; simp)
            have x9 : Hid (w6.heap.size ≤ q1.heap.size) := v1.out.size
            have g9 : Hid (Blk (q1.alloc (.cells txZ 26)) q1.heap.size 26 txZ) := heap_alloc_new q1 _
            refine hK.out _ (q1.alloc (.cells txZ 26)) ⟨cell_later (nxTr V66w6.out v9.out) C6.out.1, cell_later (nxTr V66w6.out v9.out) C6.out.2⟩ (fun hSn => ?_)
            clear hK K
            try simp only [Act.put, List.setIfInBounds_toArray, List.set_cons_zero, List.set_cons_succ]
            obtain ⟨q9, hq9⟩ : ∃ q, (q1.alloc (.cells txZ 26)) = q := ⟨_, rfl⟩
            rw [hq9] at hSn v9 y9 g9 ⊢
            clear hq9
            refine wpAnyH_ready (rs := [5]) (by kernel_rfl) (by simp) ?_
            refine AllReadyH.cons rfl (fun K hK => ?_) AllReadyH.nil
            refine step_build_one (o := ⟨some 47, _, _, _, _, _⟩) rfl 22 46 (.tmp 46) rfl (By zero32 ++ [Value.int .u32 64, .slice none 0 0]) _ 34 64 Tryd.underlying22 Tryd.ininfo (by decide) (by decide) rfl rfl ?_
            have v10 : Hid (Below w6.heap.size w6 (q9.alloc (.cells (By zero32 ++ [Value.int .u32 64, .slice none 0 0]).toArray 46))) := nxAl v9.out _
            have y10 : Hid ((q9.alloc (.cells (By zero32 ++ [Value.int .u32 64, .slice none 0 0]).toArray 46)).heap.size = q9.heap.size + 1) := (by show _ = _; simp)
            have g10 : Hid (Blk (q9.alloc (.cells (By zero32 ++ [Value.int .u32 64, .slice none 0 0]).toArray 46)) q1.heap.size 26 txZ) := g9.out.alloc _
            have r10_0 : Hid (SeesV (q9.alloc (.cells (By zero32 ++ [Value.int .u32 64, .slice none 0 0]).toArray 46)) (q9.alloc (.cells (By zero32 ++ [Value.int .u32 64, .slice none 0 0]).toArray 46)).heap.size (some ⟨q9.heap.size, 0, none⟩) (By zero32 ++ [Value.int .u32 64, .slice none 0 0])) := SeesV.blk (heap_alloc_new q9 _)
            refine hK.out _ _ ⟨cell_later (nxTr V66w6.out v10.out) C6.out.1, cell_later (nxTr V66w6.out v10.out) C6.out.2⟩ (fun hSn => ?_)
            clear hK K
            try simp only [Act.put, List.setIfInBounds_toArray, List.set_cons_zero, List.set_cons_succ]
            obtain ⟨q10, hq10⟩ : ∃ q, (q9.alloc (.cells (By zero32 ++ [Value.int .u32 64, .slice none 0 0]).toArray 46)) = q := ⟨_, rfl⟩
            rw [hq10] at hSn v10 y10 r10_0 g10 ⊢
            clear hq10
            refine wpAnyH_ready (rs := [6]) (by kernel_rfl) (by simp) ?_
            refine AllReadyH.cons rfl (fun K hK => ?_) AllReadyH.nil
            refine step_append_full (o := ⟨some 48, _, _, _, _, _⟩) rfl (.tmp 44) (.tmp 47) 22 rfl 46 i0 _ 34 64 Tryd.underlying22 hi0 hz0 hz1 hz2 rfl (by decide) S1 64 64 _ (insC t.ins) rfl li.out ((Hs1.out.later (nxTr V66w6.out v10.out)).more (nxTr V66w6.out v10.out).size) (by omega) _ (some ⟨q9.heap.size, 0, none⟩) 1 _ (By zero32 ++ [Value.int .u32 64, .slice none 0 0]) rfl rfl r10_0.out (by omega) (by omega) (by omega) (by omega) ?_
            intro A11 c11 q11 ho hb
            have v11 : Hid (Below w6.heap.size w6 q11) := nxTr v10.out hb
            have y11 : Hid (q10.heap.size ≤ q11.heap.size) := hb.size
            have g11 : Hid (Blk q11 q1.heap.size 26 txZ) := g10.out.below hb g10.out.lt
            have r11_0 : Hid (SeesV q11 q11.heap.size A11 (insC t.ins ++ (By zero32 ++ [Value.int .u32 64, .slice none 0 0]))) := SeesV.own ho
            have d11 : Hid (65 ≤ c11) := (own_cmS ho).1
            have n11 : Hid (∀ ad, A11 = some ad → q10.heap.size ≤ ad.block ∧ ad.block < q11.heap.size) := (fun ad e => own_lt ho ad.block (by rw [own_blk, e]; rfl))
            clear ho hb
            refine hK.out _ _ ⟨cell_later (nxTr V66w6.out v11.out) C6.out.1, cell_later (nxTr V66w6.out v11.out) C6.out.2⟩ (fun hSn => ?_)
            clear hK K
            try simp only [Act.put, List.setIfInBounds_toArray, List.set_cons_zero, List.set_cons_succ]
            refine wpAnyH_take (i := 9) (oi := ⟨_, _, _, _, _, _⟩) (v := .agg #[Value.slice A11 65 c11, .slice t.B 64 t.d, .int .u64 0]) rfl (by kernel_rfl) (by kernel_rfl) (by kernel_rfl) (fun _ _ _ h => h) (yieldsIf_build2 (by rfl) 26 (.tmp 48) (.tmp 50) rfl (Value.slice A11 65 c11) (.slice t.B 64 t.d) _ rfl rfl (fun wq => part_tx2 _ _ _ _ _ _ wq)) (by assumption) ?_
            try simp only [Act.put, List.setIfInBounds_toArray, List.set_cons_zero, List.set_cons_succ]
            refine wpAnyH_ready (rs := [11]) (by kernel_rfl) (by simp) ?_
            refine AllReadyH.cons rfl (fun K hK => ?_) AllReadyH.nil
            refine step_store_all (o := ⟨none, _, _, _, _, _⟩) rfl 26 (.tmp 7) (.tmp 51) rfl (q1.heap.size) 26 txZ #[.slice A11 65 c11, .slice t.B 64 t.d, .int .u64 0] rfl rfl g11.out rfl Tryd.sizeTx (by intro v hv; simp at hv; rcases hv with rfl | rfl | rfl <;> rfl) ?_
            intro q12 h5 h6 h7
            obtain ⟨u, hu⟩ : ∃ u : TxR, (⟨A11, c11, t.ins ++ [⟨zero32, 64, none, 0, []⟩], t.B, t.d, t.outs, 0⟩ : TxR) = u := ⟨_, rfl⟩
            have hcs : #[.slice A11 65 c11, .slice t.B 64 t.d, .int .u64 0] = (txC u).toArray := by rw [← hu]; simp [txC, HCt.out.1, HCt.out.2.1]
            rw [hcs] at h5
            have v12 : Hid (Below w6.heap.size w6 q12) := v11.out.trans (h6.below v11.out.size (fun k hk => by have := y9.out; have := x9.out; have := y10.out; have := y11.out; omega))
            have hT : TxOk q12 t := T6.out.later (nxTr V66w6.out v12.out)
            have hU : TxOk q12 u := by
              rw [← hu]
              refine ⟨by show SeesV _ _ _ (insC (t.ins ++ [_])); rw [insC_snoc]; exact seesV_keeps r11_0.out h6 (fun ad e => by have h := n11.out ad e; have := y9.out; have := x9.out; have := y10.out; have := y11.out; omega), fun j hj => ?_, hT.outs, hT.eacho, by show (t.ins ++ [_]).length ≤ _; rw [List.length_append, HCt.out.1]; exact d11.out, hT.d, by show 0 < _; omega, by show (t.ins ++ [_]).length ≤ _; rw [List.length_append, HCt.out.1]; exact Nat.le_of_ble_eq_true rfl, hT.mo⟩
              rcases List.mem_append.1 hj with hj | hj
              · exact hT.each j hj
              · rw [List.mem_singleton.1 hj]; exact ⟨rfl, by show 64 < _; omega, Nat.le_refl _, .inl rfl, by show 0 ≤ _; omega⟩
            have hCu : checkT u = 2 := by
              rw [← hu]
              refine check_of (p := uP) ?_ uP_check
              show TxP.mk _ _ _ = _
              rw [List.map_append, HCt.out.2.2.1, HCt.out.2.2.2.1]; rfl
            refine hK.out _ _ ⟨cell_later (nxTr V66w6.out v12.out) C6.out.1, cell_later (nxTr V66w6.out v12.out) C6.out.2⟩ (fun hSn => ?_)
            clear hK K
            try simp only [Act.put, List.setIfInBounds_toArray, List.set_cons_zero, List.set_cons_succ]
            refine wpAnyH_done (by kernel_rfl) ?_ _
            go_wp2_with fail
            go_meet
            exact ⟨q1.heap.size, u, rfl, blkR h5, h5.lt, hU, hCu, v12⟩
      case rest =>
        obtain ⟨wa, rfl⟩ : ∃ x, x = wc := ⟨_, rfl⟩
        obtain ⟨gu, uu, rfl, Ru, Lu, Tu, Cu, Vu⟩ := hcut
        have V66wa : Hid (Below w6.heap.size w6 wa) := nxTr V66w6.out Vu.out
        go_upto_region 10 with fail
        go_cut [8] (fun q wx => ∃ (g : Nat) (u : TxR), q = .pointer (some ⟨g, 0, none⟩) ∧ Hid (wx.rangeAt g 0 (txC u)) ∧ Hid (g < wx.heap.size) ∧ Hid (TxOk wx u) ∧ Hid (checkT u = 2) ∧ Hid (Below wa.heap.size wa wx))
        case first =>
          as_aux_lemma =>
            refine wp_region_held_drew (S := fun W => W.cell? ⟨w.heap.size, 0, none⟩ = some (.slice t.A 64 t.c) ∧ W.cell? ⟨w.heap.size, 1, none⟩ = some (.slice t.B 64 t.d)) (by kernel_rfl) ⟨cell_later (nxDrI V66wa.out) C6.out.1, cell_later (nxDrI V66wa.out) C6.out.2⟩ (fun hHeld => ?_)
            obtain ⟨q13, hq13⟩ : ∃ q, wa.drew = q := ⟨_, rfl⟩
            have v13 : Hid (Below wa.heap.size wa q13) := by show Below _ _ _; rw [← hq13]; exact nxDrI (nxRf wa)
            rw [hq13] at hHeld ⊢
            clear hq13
            refine wpAnyH_take (i := 0) (oi := ⟨_, _, _, _, _, _⟩) (v := ?_) rfl (by kernel_rfl) (by kernel_rfl) (by kernel_rfl) (fun _ _ _ h => h) (Or.inl ⟨by rfl, ?_⟩) (by assumption) ?_
            rotate_left 1
            · intro W hSw
              try dsimp only at hSw
              go_simp
              try with_reducible rfl
            try simp only [Act.put, List.setIfInBounds_toArray, List.set_cons_zero, List.set_cons_succ]
            refine wpAnyH_take (i := 1) (oi := ⟨_, _, _, _, _, _⟩) (v := ?_) rfl (by kernel_rfl) (by kernel_rfl) (by kernel_rfl) (fun _ _ _ h => h) (Or.inl ⟨by rfl, ?_⟩) (by assumption) ?_
            rotate_left 1
            · intro W hSw
              try dsimp only at hSw
              go_simp
              try with_reducible rfl
            try simp only [Act.put, List.setIfInBounds_toArray, List.set_cons_zero, List.set_cons_succ]
            refine wpAnyH_take (i := 2) (oi := ⟨_, _, _, _, _, _⟩) (v := ?_) rfl (by kernel_rfl) (by kernel_rfl) (by kernel_rfl) (fun _ _ _ h => h) (Or.inl ⟨by rfl, ?_⟩) (by assumption) ?_
            rotate_left 1
            · intro W hSw
              try dsimp only at hSw
              go_simp
              try with_reducible rfl
            try simp only [Act.put, List.setIfInBounds_toArray, List.set_cons_zero, List.set_cons_succ]
            refine wpAnyH_take (i := 3) (oi := ⟨_, _, _, _, _, _⟩) (v := ?_) rfl (by kernel_rfl) (by kernel_rfl) (by kernel_rfl) (fun _ _ _ h => h) (Or.inl ⟨by rfl, ?_⟩) (by assumption) ?_
            rotate_left 1
            · intro W hSw
              try dsimp only at hSw
              go_simp
              try with_reducible rfl
            try simp only [Act.put, List.setIfInBounds_toArray, List.set_cons_zero, List.set_cons_succ]
            refine wpAnyH_take (i := 4) (oi := ⟨_, _, _, _, _, _⟩) (v := ?_) rfl (by kernel_rfl) (by kernel_rfl) (by kernel_rfl) (fun _ _ _ h => h) (Or.inl ⟨by rfl, ?_⟩) (by assumption) ?_
            rotate_left 1
            · intro W hSw
              try dsimp only at hSw
              go_simp
              try with_reducible rfl
            try simp only [Act.put, List.setIfInBounds_toArray, List.set_cons_zero, List.set_cons_succ]
            refine wpAnyH_take (i := 5) (oi := ⟨_, _, _, _, _, _⟩) (v := .agg (outC ⟨1, zero32⟩).toArray) rfl (by kernel_rfl) (by kernel_rfl) (by kernel_rfl) (fun _ _ _ h => h) (yieldsIf_build1 (by rfl) 49 0 _ rfl (.int .u64 1) _ rfl (fun wq => part_out _ wq)) (by assumption) ?_
            try simp only [Act.put, List.setIfInBounds_toArray, List.set_cons_zero, List.set_cons_succ]
            refine wpAnyH_ready (rs := [6, 9]) (by kernel_rfl) (by simp) ?_
            refine AllReadyH.cons rfl (fun K hK => ?_) (AllReadyH.cons rfl (fun K hK => ?_) AllReadyH.nil)
            · refine step_build_one (o := ⟨some 58, _, _, _, _, _⟩) rfl 23 49 (.tmp 57) rfl (outC ⟨1, zero32⟩) _ 33 40 Tryd.underlying23 Tryd.outinfo (by decide) (by decide) rfl rfl ?_
              have v14 : Hid (Below wa.heap.size wa (q13.alloc (.cells (outC ⟨1, zero32⟩).toArray 49))) := nxAl v13.out _
              have y14 : Hid ((q13.alloc (.cells (outC ⟨1, zero32⟩).toArray 49)).heap.size = q13.heap.size + 1) := (by show _ = _; simp)
              have r14_0 : Hid (SeesV (q13.alloc (.cells (outC ⟨1, zero32⟩).toArray 49)) (q13.alloc (.cells (outC ⟨1, zero32⟩).toArray 49)).heap.size (some ⟨q13.heap.size, 0, none⟩) (outC ⟨1, zero32⟩)) := SeesV.blk (heap_alloc_new q13 _)
              refine hK.out _ _ ⟨cell_later (nxTr V66wa.out v14.out) C6.out.1, cell_later (nxTr V66wa.out v14.out) C6.out.2⟩ (fun hSn => ?_)
              clear hK K
              try simp only [Act.put, List.setIfInBounds_toArray, List.set_cons_zero, List.set_cons_succ]
              obtain ⟨q14, hq14⟩ : ∃ q, (q13.alloc (.cells (outC ⟨1, zero32⟩).toArray 49)) = q := ⟨_, rfl⟩
              rw [hq14] at hSn v14 y14 r14_0 ⊢
              clear hq14
              refine wpAnyH_ready (rs := [7, 9]) (by kernel_rfl) (by simp) ?_
              refine AllReadyH.cons rfl (fun K hK => ?_) (AllReadyH.cons rfl (fun K hK => ?_) AllReadyH.nil)
              · refine step_append_full (o := ⟨some 59, _, _, _, _, _⟩) rfl (.tmp 56) (.tmp 58) 23 rfl 49 j0 _ 33 40 Tryd.underlying23 hj0 hy0 hy1 hy2 rfl (by decide) S2 64 64 _ (outsC t.outs) rfl lo.out ((Hs2.out.later (nxTr V66wa.out v14.out)).more (nxTr V66wa.out v14.out).size) (by omega) _ (some ⟨q13.heap.size, 0, none⟩) 1 _ (outC ⟨1, zero32⟩) rfl rfl r14_0.out (by omega) (by omega) (by omega) (by omega) ?_
                intro A15 c15 q15 ho hb
                have v15 : Hid (Below wa.heap.size wa q15) := nxTr v14.out hb
                have y15 : Hid (q14.heap.size ≤ q15.heap.size) := hb.size
                have r15_0 : Hid (SeesV q15 q15.heap.size A15 (outsC t.outs ++ (outC ⟨1, zero32⟩))) := SeesV.own ho
                have d15 : Hid (65 ≤ c15) := (own_cmS ho).1
                have n15 : Hid (∀ ad, A15 = some ad → q14.heap.size ≤ ad.block ∧ ad.block < q15.heap.size) := (fun ad e => own_lt ho ad.block (by rw [own_blk, e]; rfl))
                clear ho hb
                refine hK.out _ _ ⟨cell_later (nxTr V66wa.out v15.out) C6.out.1, cell_later (nxTr V66wa.out v15.out) C6.out.2⟩ (fun hSn => ?_)
                clear hK K
                try simp only [Act.put, List.setIfInBounds_toArray, List.set_cons_zero, List.set_cons_succ]
                refine wpAnyH_take (i := 8) (oi := ⟨_, _, _, _, _, _⟩) (v := .agg #[Value.slice t.A 64 t.c, .slice A15 65 c15, .int .u64 0]) rfl (by kernel_rfl) (by kernel_rfl) (by kernel_rfl) (fun _ _ _ h => h) (yieldsIf_build2 (by rfl) 26 (.tmp 53) (.tmp 59) rfl (Value.slice t.A 64 t.c) (.slice A15 65 c15) _ rfl rfl (fun wq => part_tx2 _ _ _ _ _ _ wq)) (by assumption) ?_
                try simp only [Act.put, List.setIfInBounds_toArray, List.set_cons_zero, List.set_cons_succ]
                refine wpAnyH_ready (rs := [9]) (by kernel_rfl) (by simp) ?_
                refine AllReadyH.cons rfl (fun K hK => ?_) AllReadyH.nil
                go_simp
                have v16 : Hid (Below wa.heap.size wa (q15.alloc (.cells txZ 26))) := nxAl v15.out _
                have y16 : Hid ((q15.alloc (.cells txZ 26)).heap.size = q15.heap.size + 1) := (by show _ = _; simp)
                have x16 : Hid (wa.heap.size ≤ q15.heap.size) := v15.out.size
                have r16_0 : Hid (SeesV (q15.alloc (.cells txZ 26)) (q15.alloc (.cells txZ 26)).heap.size A15 (outsC t.outs ++ (outC ⟨1, zero32⟩))) := (r15_0.out.alloc _).more (by simp)
                have g16 : Hid (Blk (q15.alloc (.cells txZ 26)) q15.heap.size 26 txZ) := heap_alloc_new q15 _
                refine hK.out _ (q15.alloc (.cells txZ 26)) ⟨cell_later (nxTr V66wa.out v16.out) C6.out.1, cell_later (nxTr V66wa.out v16.out) C6.out.2⟩ (fun hSn => ?_)
                clear hK K
                try simp only [Act.put, List.setIfInBounds_toArray, List.set_cons_zero, List.set_cons_succ]
                obtain ⟨q16, hq16⟩ : ∃ q, (q15.alloc (.cells txZ 26)) = q := ⟨_, rfl⟩
                rw [hq16] at hSn v16 y16 g16 r16_0 ⊢
                clear hq16
                refine wpAnyH_ready (rs := [10]) (by kernel_rfl) (by simp) ?_
                refine AllReadyH.cons rfl (fun K hK => ?_) AllReadyH.nil
                refine step_store_all (o := ⟨none, _, _, _, _, _⟩) rfl 26 (.tmp 8) (.tmp 60) rfl (q15.heap.size) 26 txZ #[.slice t.A 64 t.c, .slice A15 65 c15, .int .u64 0] rfl rfl g16.out rfl Tryd.sizeTx (by intro v hv; simp at hv; rcases hv with rfl | rfl | rfl <;> rfl) ?_
                intro q17 h5 h6 h7
                obtain ⟨u, hu⟩ : ∃ u : TxR, (⟨t.A, t.c, t.ins, A15, c15, t.outs ++ [⟨1, zero32⟩], 0⟩ : TxR) = u := ⟨_, rfl⟩
                have hcs : #[.slice t.A 64 t.c, .slice A15 65 c15, .int .u64 0] = (txC u).toArray := by rw [← hu]; simp [txC, HCt.out.1, HCt.out.2.1]
                rw [hcs] at h5
                have v17 : Hid (Below wa.heap.size wa q17) := v16.out.trans (h6.below v16.out.size (fun k hk => by have := y14.out; have := y15.out; have := y16.out; have := x16.out; omega))
                have hT : TxOk q17 t := T6.out.later (nxTr V66wa.out v17.out)
                have hU : TxOk q17 u := by
                  rw [← hu]
                  refine ⟨hT.ins, hT.each, by show SeesV _ _ _ (outsC (t.outs ++ [_])); rw [outsC_snoc]; exact seesV_keeps r16_0.out h6 (fun ad e => by have h := n15.out ad e; have := y14.out; have := y15.out; have := y16.out; have := x16.out; omega), fun j hj => ?_, hT.c, by show (t.outs ++ [_]).length ≤ _; rw [List.length_append, HCt.out.2.1]; exact d15.out, by show 0 < _; omega, hT.mi, by show (t.outs ++ [_]).length ≤ _; rw [List.length_append, HCt.out.2.1]; exact Nat.le_of_ble_eq_true rfl⟩
                  rcases List.mem_append.1 hj with hj | hj
                  · exact hT.eacho j hj
                  · rw [List.mem_singleton.1 hj]; exact ⟨by show 1 < _; omega, rfl⟩
                have hCu : checkT u = 2 := by
                  rw [← hu]
                  refine check_of (p := vP) ?_ vP_check
                  show TxP.mk _ _ _ = _
                  rw [HCt.out.2.2.1, HCt.out.2.2.2.1]; rfl
                refine hK.out _ _ ⟨cell_later (nxTr V66wa.out v17.out) C6.out.1, cell_later (nxTr V66wa.out v17.out) C6.out.2⟩ (fun hSn => ?_)
                clear hK K
                try simp only [Act.put, List.setIfInBounds_toArray, List.set_cons_zero, List.set_cons_succ]
                refine wpAnyH_done (by kernel_rfl) ?_ _
                go_wp2_with fail
                go_meet
                exact ⟨q15.heap.size, u, rfl, blkR h5, h5.lt, hU, hCu, v17⟩
              · go_simp
                have v18 : Hid (Below wa.heap.size wa (q14.alloc (.cells txZ 26))) := nxAl v14.out _
                have y18 : Hid ((q14.alloc (.cells txZ 26)).heap.size = q14.heap.size + 1) := (by show _ = _; simp)
                have x18 : Hid (wa.heap.size ≤ q14.heap.size) := v14.out.size
                have r18_0 : Hid (SeesV (q14.alloc (.cells txZ 26)) (q14.alloc (.cells txZ 26)).heap.size (some ⟨q13.heap.size, 0, none⟩) (outC ⟨1, zero32⟩)) := (r14_0.out.alloc _).more (by simp)
                have g18 : Hid (Blk (q14.alloc (.cells txZ 26)) q14.heap.size 26 txZ) := heap_alloc_new q14 _
                refine hK.out _ (q14.alloc (.cells txZ 26)) ⟨cell_later (nxTr V66wa.out v18.out) C6.out.1, cell_later (nxTr V66wa.out v18.out) C6.out.2⟩ (fun hSn => ?_)
                clear hK K
                try simp only [Act.put, List.setIfInBounds_toArray, List.set_cons_zero, List.set_cons_succ]
                obtain ⟨q18, hq18⟩ : ∃ q, (q14.alloc (.cells txZ 26)) = q := ⟨_, rfl⟩
                rw [hq18] at hSn v18 y18 g18 r18_0 ⊢
                clear hq18
                refine wpAnyH_ready (rs := [7]) (by kernel_rfl) (by simp) ?_
                refine AllReadyH.cons rfl (fun K hK => ?_) AllReadyH.nil
                refine step_append_full (o := ⟨some 59, _, _, _, _, _⟩) rfl (.tmp 56) (.tmp 58) 23 rfl 49 j0 _ 33 40 Tryd.underlying23 hj0 hy0 hy1 hy2 rfl (by decide) S2 64 64 _ (outsC t.outs) rfl lo.out ((Hs2.out.later (nxTr V66wa.out v18.out)).more (nxTr V66wa.out v18.out).size) (by omega) _ (some ⟨q13.heap.size, 0, none⟩) 1 _ (outC ⟨1, zero32⟩) rfl rfl r18_0.out (by omega) (by omega) (by omega) (by omega) ?_
                intro A19 c19 q19 ho hb
                have v19 : Hid (Below wa.heap.size wa q19) := nxTr v18.out hb
                have y19 : Hid (q18.heap.size ≤ q19.heap.size) := hb.size
                have g19 : Hid (Blk q19 q14.heap.size 26 txZ) := g18.out.below hb g18.out.lt
                have r19_0 : Hid (SeesV q19 q19.heap.size A19 (outsC t.outs ++ (outC ⟨1, zero32⟩))) := SeesV.own ho
                have d19 : Hid (65 ≤ c19) := (own_cmS ho).1
                have n19 : Hid (∀ ad, A19 = some ad → q18.heap.size ≤ ad.block ∧ ad.block < q19.heap.size) := (fun ad e => own_lt ho ad.block (by rw [own_blk, e]; rfl))
                clear ho hb
                refine hK.out _ _ ⟨cell_later (nxTr V66wa.out v19.out) C6.out.1, cell_later (nxTr V66wa.out v19.out) C6.out.2⟩ (fun hSn => ?_)
                clear hK K
                try simp only [Act.put, List.setIfInBounds_toArray, List.set_cons_zero, List.set_cons_succ]
                refine wpAnyH_take (i := 8) (oi := ⟨_, _, _, _, _, _⟩) (v := .agg #[Value.slice t.A 64 t.c, .slice A19 65 c19, .int .u64 0]) rfl (by kernel_rfl) (by kernel_rfl) (by kernel_rfl) (fun _ _ _ h => h) (yieldsIf_build2 (by rfl) 26 (.tmp 53) (.tmp 59) rfl (Value.slice t.A 64 t.c) (.slice A19 65 c19) _ rfl rfl (fun wq => part_tx2 _ _ _ _ _ _ wq)) (by assumption) ?_
                try simp only [Act.put, List.setIfInBounds_toArray, List.set_cons_zero, List.set_cons_succ]
                refine wpAnyH_ready (rs := [10]) (by kernel_rfl) (by simp) ?_
                refine AllReadyH.cons rfl (fun K hK => ?_) AllReadyH.nil
                refine step_store_all (o := ⟨none, _, _, _, _, _⟩) rfl 26 (.tmp 8) (.tmp 60) rfl (q14.heap.size) 26 txZ #[.slice t.A 64 t.c, .slice A19 65 c19, .int .u64 0] rfl rfl g19.out rfl Tryd.sizeTx (by intro v hv; simp at hv; rcases hv with rfl | rfl | rfl <;> rfl) ?_
                intro q20 h5 h6 h7
                obtain ⟨u, hu⟩ : ∃ u : TxR, (⟨t.A, t.c, t.ins, A19, c19, t.outs ++ [⟨1, zero32⟩], 0⟩ : TxR) = u := ⟨_, rfl⟩
                have hcs : #[.slice t.A 64 t.c, .slice A19 65 c19, .int .u64 0] = (txC u).toArray := by rw [← hu]; simp [txC, HCt.out.1, HCt.out.2.1]
                rw [hcs] at h5
                have v20 : Hid (Below wa.heap.size wa q20) := v19.out.trans (h6.below v19.out.size (fun k hk => by have := y14.out; have := y18.out; have := x18.out; have := y19.out; omega))
                have hT : TxOk q20 t := T6.out.later (nxTr V66wa.out v20.out)
                have hU : TxOk q20 u := by
                  rw [← hu]
                  refine ⟨hT.ins, hT.each, by show SeesV _ _ _ (outsC (t.outs ++ [_])); rw [outsC_snoc]; exact seesV_keeps r19_0.out h6 (fun ad e => by have h := n19.out ad e; have := y14.out; have := y18.out; have := x18.out; have := y19.out; omega), fun j hj => ?_, hT.c, by show (t.outs ++ [_]).length ≤ _; rw [List.length_append, HCt.out.2.1]; exact d19.out, by show 0 < _; omega, hT.mi, by show (t.outs ++ [_]).length ≤ _; rw [List.length_append, HCt.out.2.1]; exact Nat.le_of_ble_eq_true rfl⟩
                  rcases List.mem_append.1 hj with hj | hj
                  · exact hT.eacho j hj
                  · rw [List.mem_singleton.1 hj]; exact ⟨by show 1 < _; omega, rfl⟩
                have hCu : checkT u = 2 := by
                  rw [← hu]
                  refine check_of (p := vP) ?_ vP_check
                  show TxP.mk _ _ _ = _
                  rw [HCt.out.2.2.1, HCt.out.2.2.2.1]; rfl
                refine hK.out _ _ ⟨cell_later (nxTr V66wa.out v20.out) C6.out.1, cell_later (nxTr V66wa.out v20.out) C6.out.2⟩ (fun hSn => ?_)
                clear hK K
                try simp only [Act.put, List.setIfInBounds_toArray, List.set_cons_zero, List.set_cons_succ]
                refine wpAnyH_done (by kernel_rfl) ?_ _
                go_wp2_with fail
                go_meet
                exact ⟨q14.heap.size, u, rfl, blkR h5, h5.lt, hU, hCu, v20⟩
            · go_simp
              have v21 : Hid (Below wa.heap.size wa (q13.alloc (.cells txZ 26))) := nxAl v13.out _
              have y21 : Hid ((q13.alloc (.cells txZ 26)).heap.size = q13.heap.size + 1) := (by show _ = _; simp)
              have x21 : Hid (wa.heap.size ≤ q13.heap.size) := v13.out.size
              have g21 : Hid (Blk (q13.alloc (.cells txZ 26)) q13.heap.size 26 txZ) := heap_alloc_new q13 _
              refine hK.out _ (q13.alloc (.cells txZ 26)) ⟨cell_later (nxTr V66wa.out v21.out) C6.out.1, cell_later (nxTr V66wa.out v21.out) C6.out.2⟩ (fun hSn => ?_)
              clear hK K
              try simp only [Act.put, List.setIfInBounds_toArray, List.set_cons_zero, List.set_cons_succ]
              obtain ⟨q21, hq21⟩ : ∃ q, (q13.alloc (.cells txZ 26)) = q := ⟨_, rfl⟩
              rw [hq21] at hSn v21 y21 g21 ⊢
              clear hq21
              refine wpAnyH_ready (rs := [6]) (by kernel_rfl) (by simp) ?_
              refine AllReadyH.cons rfl (fun K hK => ?_) AllReadyH.nil
              refine step_build_one (o := ⟨some 58, _, _, _, _, _⟩) rfl 23 49 (.tmp 57) rfl (outC ⟨1, zero32⟩) _ 33 40 Tryd.underlying23 Tryd.outinfo (by decide) (by decide) rfl rfl ?_
              have v22 : Hid (Below wa.heap.size wa (q21.alloc (.cells (outC ⟨1, zero32⟩).toArray 49))) := nxAl v21.out _
              have y22 : Hid ((q21.alloc (.cells (outC ⟨1, zero32⟩).toArray 49)).heap.size = q21.heap.size + 1) := (by show _ = _; simp)
              have g22 : Hid (Blk (q21.alloc (.cells (outC ⟨1, zero32⟩).toArray 49)) q13.heap.size 26 txZ) := g21.out.alloc _
              have r22_0 : Hid (SeesV (q21.alloc (.cells (outC ⟨1, zero32⟩).toArray 49)) (q21.alloc (.cells (outC ⟨1, zero32⟩).toArray 49)).heap.size (some ⟨q21.heap.size, 0, none⟩) (outC ⟨1, zero32⟩)) := SeesV.blk (heap_alloc_new q21 _)
              refine hK.out _ _ ⟨cell_later (nxTr V66wa.out v22.out) C6.out.1, cell_later (nxTr V66wa.out v22.out) C6.out.2⟩ (fun hSn => ?_)
              clear hK K
              try simp only [Act.put, List.setIfInBounds_toArray, List.set_cons_zero, List.set_cons_succ]
              obtain ⟨q22, hq22⟩ : ∃ q, (q21.alloc (.cells (outC ⟨1, zero32⟩).toArray 49)) = q := ⟨_, rfl⟩
              rw [hq22] at hSn v22 y22 r22_0 g22 ⊢
              clear hq22
              refine wpAnyH_ready (rs := [7]) (by kernel_rfl) (by simp) ?_
              refine AllReadyH.cons rfl (fun K hK => ?_) AllReadyH.nil
              refine step_append_full (o := ⟨some 59, _, _, _, _, _⟩) rfl (.tmp 56) (.tmp 58) 23 rfl 49 j0 _ 33 40 Tryd.underlying23 hj0 hy0 hy1 hy2 rfl (by decide) S2 64 64 _ (outsC t.outs) rfl lo.out ((Hs2.out.later (nxTr V66wa.out v22.out)).more (nxTr V66wa.out v22.out).size) (by omega) _ (some ⟨q21.heap.size, 0, none⟩) 1 _ (outC ⟨1, zero32⟩) rfl rfl r22_0.out (by omega) (by omega) (by omega) (by omega) ?_
              intro A23 c23 q23 ho hb
              have v23 : Hid (Below wa.heap.size wa q23) := nxTr v22.out hb
              have y23 : Hid (q22.heap.size ≤ q23.heap.size) := hb.size
              have g23 : Hid (Blk q23 q13.heap.size 26 txZ) := g22.out.below hb g22.out.lt
              have r23_0 : Hid (SeesV q23 q23.heap.size A23 (outsC t.outs ++ (outC ⟨1, zero32⟩))) := SeesV.own ho
              have d23 : Hid (65 ≤ c23) := (own_cmS ho).1
              have n23 : Hid (∀ ad, A23 = some ad → q22.heap.size ≤ ad.block ∧ ad.block < q23.heap.size) := (fun ad e => own_lt ho ad.block (by rw [own_blk, e]; rfl))
              clear ho hb
              refine hK.out _ _ ⟨cell_later (nxTr V66wa.out v23.out) C6.out.1, cell_later (nxTr V66wa.out v23.out) C6.out.2⟩ (fun hSn => ?_)
              clear hK K
              try simp only [Act.put, List.setIfInBounds_toArray, List.set_cons_zero, List.set_cons_succ]
              refine wpAnyH_take (i := 8) (oi := ⟨_, _, _, _, _, _⟩) (v := .agg #[Value.slice t.A 64 t.c, .slice A23 65 c23, .int .u64 0]) rfl (by kernel_rfl) (by kernel_rfl) (by kernel_rfl) (fun _ _ _ h => h) (yieldsIf_build2 (by rfl) 26 (.tmp 53) (.tmp 59) rfl (Value.slice t.A 64 t.c) (.slice A23 65 c23) _ rfl rfl (fun wq => part_tx2 _ _ _ _ _ _ wq)) (by assumption) ?_
              try simp only [Act.put, List.setIfInBounds_toArray, List.set_cons_zero, List.set_cons_succ]
              refine wpAnyH_ready (rs := [10]) (by kernel_rfl) (by simp) ?_
              refine AllReadyH.cons rfl (fun K hK => ?_) AllReadyH.nil
              refine step_store_all (o := ⟨none, _, _, _, _, _⟩) rfl 26 (.tmp 8) (.tmp 60) rfl (q13.heap.size) 26 txZ #[.slice t.A 64 t.c, .slice A23 65 c23, .int .u64 0] rfl rfl g23.out rfl Tryd.sizeTx (by intro v hv; simp at hv; rcases hv with rfl | rfl | rfl <;> rfl) ?_
              intro q24 h5 h6 h7
              obtain ⟨u, hu⟩ : ∃ u : TxR, (⟨t.A, t.c, t.ins, A23, c23, t.outs ++ [⟨1, zero32⟩], 0⟩ : TxR) = u := ⟨_, rfl⟩
              have hcs : #[.slice t.A 64 t.c, .slice A23 65 c23, .int .u64 0] = (txC u).toArray := by rw [← hu]; simp [txC, HCt.out.1, HCt.out.2.1]
              rw [hcs] at h5
              have v24 : Hid (Below wa.heap.size wa q24) := v23.out.trans (h6.below v23.out.size (fun k hk => by have := y21.out; have := x21.out; have := y22.out; have := y23.out; omega))
              have hT : TxOk q24 t := T6.out.later (nxTr V66wa.out v24.out)
              have hU : TxOk q24 u := by
                rw [← hu]
                refine ⟨hT.ins, hT.each, by show SeesV _ _ _ (outsC (t.outs ++ [_])); rw [outsC_snoc]; exact seesV_keeps r23_0.out h6 (fun ad e => by have h := n23.out ad e; have := y21.out; have := x21.out; have := y22.out; have := y23.out; omega), fun j hj => ?_, hT.c, by show (t.outs ++ [_]).length ≤ _; rw [List.length_append, HCt.out.2.1]; exact d23.out, by show 0 < _; omega, hT.mi, by show (t.outs ++ [_]).length ≤ _; rw [List.length_append, HCt.out.2.1]; exact Nat.le_of_ble_eq_true rfl⟩
                rcases List.mem_append.1 hj with hj | hj
                · exact hT.eacho j hj
                · rw [List.mem_singleton.1 hj]; exact ⟨by show 1 < _; omega, rfl⟩
              have hCu : checkT u = 2 := by
                rw [← hu]
                refine check_of (p := vP) ?_ vP_check
                show TxP.mk _ _ _ = _
                rw [HCt.out.2.2.1, HCt.out.2.2.2.1]; rfl
              refine hK.out _ _ ⟨cell_later (nxTr V66wa.out v24.out) C6.out.1, cell_later (nxTr V66wa.out v24.out) C6.out.2⟩ (fun hSn => ?_)
              clear hK K
              try simp only [Act.put, List.setIfInBounds_toArray, List.set_cons_zero, List.set_cons_succ]
              refine wpAnyH_done (by kernel_rfl) ?_ _
              go_wp2_with fail
              go_meet
              exact ⟨q13.heap.size, u, rfl, blkR h5, h5.lt, hU, hCu, v24⟩
        case rest =>
          obtain ⟨wb, rfl⟩ : ∃ x, x = wc := ⟨_, rfl⟩
          obtain ⟨gv, uv, rfl, Rv, Lv, Tv, Cv, Vv⟩ := hcut
          have V66wb : Hid (Below w6.heap.size w6 wb) := nxTr V66wa.out Vv.out
          go_upto_region 11 with fail
          have hmk7 := make_257
          go_cut [9] (fun q wx => ∃ (g : Nat) (u : TxR), q = .pointer (some ⟨g, 0, none⟩) ∧ Hid (wx.rangeAt g 0 (txC u)) ∧ Hid (g < wx.heap.size) ∧ Hid (TxOk wx u) ∧ Hid (checkT u = 2) ∧ Hid (Below wb.heap.size wb wx))
          case first =>
            as_aux_lemma =>
              refine wp_region_held_drew (S := fun W => W.cell? ⟨w.heap.size, 0, none⟩ = some (.slice t.A 64 t.c) ∧ W.cell? ⟨w.heap.size, 1, none⟩ = some (.slice t.B 64 t.d)) (by kernel_rfl) ⟨cell_later (nxDrI V66wb.out) C6.out.1, cell_later (nxDrI V66wb.out) C6.out.2⟩ (fun hHeld => ?_)
              obtain ⟨q25, hq25⟩ : ∃ q, wb.drew = q := ⟨_, rfl⟩
              have v25 : Hid (Below wb.heap.size wb q25) := by show Below _ _ _; rw [← hq25]; exact nxDrI (nxRf wb)
              rw [hq25] at hHeld ⊢
              clear hq25
              refine wpAnyH_take (i := 3) (oi := ⟨_, _, _, _, _, _⟩) (v := ?_) rfl (by kernel_rfl) (by kernel_rfl) (by kernel_rfl) (fun _ _ _ h => h) (Or.inl ⟨by rfl, ?_⟩) (by assumption) ?_
              rotate_left 1
              · intro W hSw
                try dsimp only at hSw
                go_simp
                try with_reducible rfl
              try simp only [Act.put, List.setIfInBounds_toArray, List.set_cons_zero, List.set_cons_succ]
              refine wpAnyH_take (i := 4) (oi := ⟨_, _, _, _, _, _⟩) (v := ?_) rfl (by kernel_rfl) (by kernel_rfl) (by kernel_rfl) (fun _ _ _ h => h) (Or.inl ⟨by rfl, ?_⟩) (by assumption) ?_
              rotate_left 1
              · intro W hSw
                try dsimp only at hSw
                go_simp
                try with_reducible rfl
              try simp only [Act.put, List.setIfInBounds_toArray, List.set_cons_zero, List.set_cons_succ]
              refine wpAnyH_ready (rs := [0, 6]) (by kernel_rfl) (by simp) ?_
              refine AllReadyH.cons rfl (fun K hK => ?_) (AllReadyH.cons rfl (fun K hK => ?_) AllReadyH.nil)
              · go_simp
                have v26 : Hid (Below wb.heap.size wb (q25.alloc (.cells (By (nulls 257)).toArray 5))) := nxAl v25.out _
                have y26 : Hid ((q25.alloc (.cells (By (nulls 257)).toArray 5)).heap.size = q25.heap.size + 1) := (by show _ = _; simp)
                have z26 : Hid (Blk (q25.alloc (.cells (By (nulls 257)).toArray 5)) q25.heap.size 5 (By (nulls 257)).toArray) := heap_alloc_new q25 _
                refine hK.out _ (q25.alloc (.cells (By (nulls 257)).toArray 5)) ⟨cell_later (nxTr V66wb.out v26.out) C6.out.1, cell_later (nxTr V66wb.out v26.out) C6.out.2⟩ (fun hSn => ?_)
                clear hK K
                try simp only [Act.put, List.setIfInBounds_toArray, List.set_cons_zero, List.set_cons_succ]
                obtain ⟨q26, hq26⟩ : ∃ q, (q25.alloc (.cells (By (nulls 257)).toArray 5)) = q := ⟨_, rfl⟩
                rw [hq26] at hSn v26 y26 z26 ⊢
                clear hq26
                refine wpAnyH_take (i := 1) (oi := ⟨_, _, _, _, _, _⟩) (v := .agg (By zero32 ++ [Value.int .u32 0, .slice (some ⟨q25.heap.size, 0, none⟩) 257 257]).toArray) rfl (by kernel_rfl) (by kernel_rfl) (by kernel_rfl) (fun _ _ _ h => h) (yieldsIf_build1 (by rfl) 46 1 (.tmp 61) rfl (.slice (some ⟨q25.heap.size, 0, none⟩) 257 257) _ rfl (fun wq => part_in1 _ _ _ wq)) (by assumption) ?_
                try simp only [Act.put, List.setIfInBounds_toArray, List.set_cons_zero, List.set_cons_succ]
                refine wpAnyH_ready (rs := [2, 6]) (by kernel_rfl) (by simp) ?_
                refine AllReadyH.cons rfl (fun K hK => ?_) (AllReadyH.cons rfl (fun K hK => ?_) AllReadyH.nil)
                · refine step_build_one (o := ⟨some 63, _, _, _, _, _⟩) rfl 22 46 (.tmp 62) rfl (By zero32 ++ [Value.int .u32 0, .slice (some ⟨q25.heap.size, 0, none⟩) 257 257]) _ 34 64 Tryd.underlying22 Tryd.ininfo (by decide) (by decide) rfl rfl ?_
                  have v27 : Hid (Below wb.heap.size wb (q26.alloc (.cells (By zero32 ++ [Value.int .u32 0, .slice (some ⟨q25.heap.size, 0, none⟩) 257 257]).toArray 46))) := nxAl v26.out _
                  have y27 : Hid ((q26.alloc (.cells (By zero32 ++ [Value.int .u32 0, .slice (some ⟨q25.heap.size, 0, none⟩) 257 257]).toArray 46)).heap.size = q26.heap.size + 1) := (by show _ = _; simp)
                  have z27 : Hid (Blk (q26.alloc (.cells (By zero32 ++ [Value.int .u32 0, .slice (some ⟨q25.heap.size, 0, none⟩) 257 257]).toArray 46)) q25.heap.size 5 (By (nulls 257)).toArray) := z26.out.alloc _
                  have r27_0 : Hid (SeesV (q26.alloc (.cells (By zero32 ++ [Value.int .u32 0, .slice (some ⟨q25.heap.size, 0, none⟩) 257 257]).toArray 46)) (q26.alloc (.cells (By zero32 ++ [Value.int .u32 0, .slice (some ⟨q25.heap.size, 0, none⟩) 257 257]).toArray 46)).heap.size (some ⟨q26.heap.size, 0, none⟩) (By zero32 ++ [Value.int .u32 0, .slice (some ⟨q25.heap.size, 0, none⟩) 257 257])) := SeesV.blk (heap_alloc_new q26 _)
                  refine hK.out _ _ ⟨cell_later (nxTr V66wb.out v27.out) C6.out.1, cell_later (nxTr V66wb.out v27.out) C6.out.2⟩ (fun hSn => ?_)
                  clear hK K
                  try simp only [Act.put, List.setIfInBounds_toArray, List.set_cons_zero, List.set_cons_succ]
                  obtain ⟨q27, hq27⟩ : ∃ q, (q26.alloc (.cells (By zero32 ++ [Value.int .u32 0, .slice (some ⟨q25.heap.size, 0, none⟩) 257 257]).toArray 46)) = q := ⟨_, rfl⟩
                  rw [hq27] at hSn v27 y27 r27_0 z27 ⊢
                  clear hq27
                  refine wpAnyH_take (i := 5) (oi := ⟨_, _, _, _, _, _⟩) (v := .agg #[Value.slice (some ⟨q26.heap.size, 0, none⟩) 1 1, .slice t.B 64 t.d, .int .u64 0]) rfl (by kernel_rfl) (by kernel_rfl) (by kernel_rfl) (fun _ _ _ h => h) (yieldsIf_build2 (by rfl) 26 (.tmp 63) (.tmp 65) rfl (Value.slice (some ⟨q26.heap.size, 0, none⟩) 1 1) (.slice t.B 64 t.d) _ rfl rfl (fun wq => part_tx2 _ _ _ _ _ _ wq)) (by assumption) ?_
                  try simp only [Act.put, List.setIfInBounds_toArray, List.set_cons_zero, List.set_cons_succ]
                  refine wpAnyH_ready (rs := [6]) (by kernel_rfl) (by simp) ?_
                  refine AllReadyH.cons rfl (fun K hK => ?_) AllReadyH.nil
                  go_simp
                  have v28 : Hid (Below wb.heap.size wb (q27.alloc (.cells txZ 26))) := nxAl v27.out _
                  have y28 : Hid ((q27.alloc (.cells txZ 26)).heap.size = q27.heap.size + 1) := (by show _ = _; simp)
                  have x28 : Hid (wb.heap.size ≤ q27.heap.size) := v27.out.size
                  have r28_0 : Hid (SeesV (q27.alloc (.cells txZ 26)) (q27.alloc (.cells txZ 26)).heap.size (some ⟨q26.heap.size, 0, none⟩) (By zero32 ++ [Value.int .u32 0, .slice (some ⟨q25.heap.size, 0, none⟩) 257 257])) := (r27_0.out.alloc _).more (by simp)
                  have z28 : Hid (Blk (q27.alloc (.cells txZ 26)) q25.heap.size 5 (By (nulls 257)).toArray) := z27.out.alloc _
                  have g28 : Hid (Blk (q27.alloc (.cells txZ 26)) q27.heap.size 26 txZ) := heap_alloc_new q27 _
                  refine hK.out _ (q27.alloc (.cells txZ 26)) ⟨cell_later (nxTr V66wb.out v28.out) C6.out.1, cell_later (nxTr V66wb.out v28.out) C6.out.2⟩ (fun hSn => ?_)
                  clear hK K
                  try simp only [Act.put, List.setIfInBounds_toArray, List.set_cons_zero, List.set_cons_succ]
                  obtain ⟨q28, hq28⟩ : ∃ q, (q27.alloc (.cells txZ 26)) = q := ⟨_, rfl⟩
                  rw [hq28] at hSn v28 y28 g28 r28_0 z28 ⊢
                  clear hq28
                  refine wpAnyH_ready (rs := [7]) (by kernel_rfl) (by simp) ?_
                  refine AllReadyH.cons rfl (fun K hK => ?_) AllReadyH.nil
                  refine step_store_all (o := ⟨none, _, _, _, _, _⟩) rfl 26 (.tmp 9) (.tmp 66) rfl (q27.heap.size) 26 txZ #[.slice (some ⟨q26.heap.size, 0, none⟩) 1 1, .slice t.B 64 t.d, .int .u64 0] rfl rfl g28.out rfl Tryd.sizeTx (by intro v hv; simp at hv; rcases hv with rfl | rfl | rfl <;> rfl) ?_
                  intro q29 h5 h6 h7
                  obtain ⟨u, hu⟩ : ∃ u : TxR, (⟨(some ⟨q26.heap.size, 0, none⟩), 1, [⟨zero32, 0, some ⟨q25.heap.size, 0, none⟩, 257, nulls 257⟩], t.B, t.d, t.outs, 0⟩ : TxR) = u := ⟨_, rfl⟩
                  have hcs : #[.slice (some ⟨q26.heap.size, 0, none⟩) 1 1, .slice t.B 64 t.d, .int .u64 0] = (txC u).toArray := by rw [← hu]; simp [txC, HCt.out.1, HCt.out.2.1]
                  rw [hcs] at h5
                  have v29 : Hid (Below wb.heap.size wb q29) := v28.out.trans (h6.below v28.out.size (fun k hk => by have := y26.out; have := y27.out; have := y28.out; have := x28.out; omega))
                  have hT : TxOk q29 t := T6.out.later (nxTr V66wb.out v29.out)
                  have hU : TxOk q29 u := by
                    rw [← hu]
                    have h257 : (nulls 257).length = 257 := List.length_replicate
                    refine ⟨?_, fun j hj => ?_, hT.outs, hT.eacho, Nat.le_refl _, hT.d, by show 0 < _; omega, by show 1 ≤ _; omega, hT.mo⟩
                    · have e : insC [(⟨zero32, 0, some ⟨q25.heap.size, 0, none⟩, 257, nulls 257⟩ : InR)] = By zero32 ++ [Value.int .u32 0, .slice (some ⟨q25.heap.size, 0, none⟩) 257 257] := by simp [insC, inC, h257]
                      show SeesV _ _ _ (insC [_])
                      rw [e]
                      exact seesV_keeps r28_0.out h6 (fun ad e => by injection e with e; subst e; dsimp only; have := y26.out; have := y27.out; have := y28.out; have := x28.out; omega)
                    · rw [List.mem_singleton.1 hj]
                      have hz : Blk q29 q25.heap.size 5 (By (nulls 257)).toArray := z28.out.keeps h6 (by have := y26.out; have := y27.out; have := y28.out; have := x28.out; omega)
                      exact ⟨rfl, by show 0 < _; omega, by show (nulls 257).length ≤ 257; omega, sees_blk (more := []) (by rw [List.append_nil]; exact hz) hz.lt, by show (nulls 257).length ≤ _; omega⟩
                  have hCu : checkT u = 2 := by
                    rw [← hu]
                    refine check_of (p := wP) ?_ wP_check
                    show TxP.mk _ _ _ = _
                    rw [HCt.out.2.2.2.1]; rfl
                  refine hK.out _ _ ⟨cell_later (nxTr V66wb.out v29.out) C6.out.1, cell_later (nxTr V66wb.out v29.out) C6.out.2⟩ (fun hSn => ?_)
                  clear hK K
                  try simp only [Act.put, List.setIfInBounds_toArray, List.set_cons_zero, List.set_cons_succ]
                  refine wpAnyH_done (by kernel_rfl) ?_ _
                  go_wp2_with fail
                  go_meet
                  exact ⟨q27.heap.size, u, rfl, blkR h5, h5.lt, hU, hCu, v29⟩
                · go_simp
                  have v30 : Hid (Below wb.heap.size wb (q26.alloc (.cells txZ 26))) := nxAl v26.out _
                  have y30 : Hid ((q26.alloc (.cells txZ 26)).heap.size = q26.heap.size + 1) := (by show _ = _; simp)
                  have x30 : Hid (wb.heap.size ≤ q26.heap.size) := v26.out.size
                  have z30 : Hid (Blk (q26.alloc (.cells txZ 26)) q25.heap.size 5 (By (nulls 257)).toArray) := z26.out.alloc _
                  have g30 : Hid (Blk (q26.alloc (.cells txZ 26)) q26.heap.size 26 txZ) := heap_alloc_new q26 _
                  refine hK.out _ (q26.alloc (.cells txZ 26)) ⟨cell_later (nxTr V66wb.out v30.out) C6.out.1, cell_later (nxTr V66wb.out v30.out) C6.out.2⟩ (fun hSn => ?_)
                  clear hK K
                  try simp only [Act.put, List.setIfInBounds_toArray, List.set_cons_zero, List.set_cons_succ]
                  obtain ⟨q30, hq30⟩ : ∃ q, (q26.alloc (.cells txZ 26)) = q := ⟨_, rfl⟩
                  rw [hq30] at hSn v30 y30 g30 z30 ⊢
                  clear hq30
                  refine wpAnyH_ready (rs := [2]) (by kernel_rfl) (by simp) ?_
                  refine AllReadyH.cons rfl (fun K hK => ?_) AllReadyH.nil
                  refine step_build_one (o := ⟨some 63, _, _, _, _, _⟩) rfl 22 46 (.tmp 62) rfl (By zero32 ++ [Value.int .u32 0, .slice (some ⟨q25.heap.size, 0, none⟩) 257 257]) _ 34 64 Tryd.underlying22 Tryd.ininfo (by decide) (by decide) rfl rfl ?_
                  have v31 : Hid (Below wb.heap.size wb (q30.alloc (.cells (By zero32 ++ [Value.int .u32 0, .slice (some ⟨q25.heap.size, 0, none⟩) 257 257]).toArray 46))) := nxAl v30.out _
                  have y31 : Hid ((q30.alloc (.cells (By zero32 ++ [Value.int .u32 0, .slice (some ⟨q25.heap.size, 0, none⟩) 257 257]).toArray 46)).heap.size = q30.heap.size + 1) := (by show _ = _; simp)
                  have z31 : Hid (Blk (q30.alloc (.cells (By zero32 ++ [Value.int .u32 0, .slice (some ⟨q25.heap.size, 0, none⟩) 257 257]).toArray 46)) q25.heap.size 5 (By (nulls 257)).toArray) := z30.out.alloc _
                  have g31 : Hid (Blk (q30.alloc (.cells (By zero32 ++ [Value.int .u32 0, .slice (some ⟨q25.heap.size, 0, none⟩) 257 257]).toArray 46)) q26.heap.size 26 txZ) := g30.out.alloc _
                  have r31_0 : Hid (SeesV (q30.alloc (.cells (By zero32 ++ [Value.int .u32 0, .slice (some ⟨q25.heap.size, 0, none⟩) 257 257]).toArray 46)) (q30.alloc (.cells (By zero32 ++ [Value.int .u32 0, .slice (some ⟨q25.heap.size, 0, none⟩) 257 257]).toArray 46)).heap.size (some ⟨q30.heap.size, 0, none⟩) (By zero32 ++ [Value.int .u32 0, .slice (some ⟨q25.heap.size, 0, none⟩) 257 257])) := SeesV.blk (heap_alloc_new q30 _)
                  refine hK.out _ _ ⟨cell_later (nxTr V66wb.out v31.out) C6.out.1, cell_later (nxTr V66wb.out v31.out) C6.out.2⟩ (fun hSn => ?_)
                  clear hK K
                  try simp only [Act.put, List.setIfInBounds_toArray, List.set_cons_zero, List.set_cons_succ]
                  obtain ⟨q31, hq31⟩ : ∃ q, (q30.alloc (.cells (By zero32 ++ [Value.int .u32 0, .slice (some ⟨q25.heap.size, 0, none⟩) 257 257]).toArray 46)) = q := ⟨_, rfl⟩
                  rw [hq31] at hSn v31 y31 r31_0 z31 g31 ⊢
                  clear hq31
                  refine wpAnyH_take (i := 5) (oi := ⟨_, _, _, _, _, _⟩) (v := .agg #[Value.slice (some ⟨q30.heap.size, 0, none⟩) 1 1, .slice t.B 64 t.d, .int .u64 0]) rfl (by kernel_rfl) (by kernel_rfl) (by kernel_rfl) (fun _ _ _ h => h) (yieldsIf_build2 (by rfl) 26 (.tmp 63) (.tmp 65) rfl (Value.slice (some ⟨q30.heap.size, 0, none⟩) 1 1) (.slice t.B 64 t.d) _ rfl rfl (fun wq => part_tx2 _ _ _ _ _ _ wq)) (by assumption) ?_
                  try simp only [Act.put, List.setIfInBounds_toArray, List.set_cons_zero, List.set_cons_succ]
                  refine wpAnyH_ready (rs := [7]) (by kernel_rfl) (by simp) ?_
                  refine AllReadyH.cons rfl (fun K hK => ?_) AllReadyH.nil
                  refine step_store_all (o := ⟨none, _, _, _, _, _⟩) rfl 26 (.tmp 9) (.tmp 66) rfl (q26.heap.size) 26 txZ #[.slice (some ⟨q30.heap.size, 0, none⟩) 1 1, .slice t.B 64 t.d, .int .u64 0] rfl rfl g31.out rfl Tryd.sizeTx (by intro v hv; simp at hv; rcases hv with rfl | rfl | rfl <;> rfl) ?_
                  intro q32 h5 h6 h7
                  obtain ⟨u, hu⟩ : ∃ u : TxR, (⟨(some ⟨q30.heap.size, 0, none⟩), 1, [⟨zero32, 0, some ⟨q25.heap.size, 0, none⟩, 257, nulls 257⟩], t.B, t.d, t.outs, 0⟩ : TxR) = u := ⟨_, rfl⟩
                  have hcs : #[.slice (some ⟨q30.heap.size, 0, none⟩) 1 1, .slice t.B 64 t.d, .int .u64 0] = (txC u).toArray := by rw [← hu]; simp [txC, HCt.out.1, HCt.out.2.1]
                  rw [hcs] at h5
                  have v32 : Hid (Below wb.heap.size wb q32) := v31.out.trans (h6.below v31.out.size (fun k hk => by have := y26.out; have := y30.out; have := x30.out; have := y31.out; omega))
                  have hT : TxOk q32 t := T6.out.later (nxTr V66wb.out v32.out)
                  have hU : TxOk q32 u := by
                    rw [← hu]
                    have h257 : (nulls 257).length = 257 := List.length_replicate
                    refine ⟨?_, fun j hj => ?_, hT.outs, hT.eacho, Nat.le_refl _, hT.d, by show 0 < _; omega, by show 1 ≤ _; omega, hT.mo⟩
                    · have e : insC [(⟨zero32, 0, some ⟨q25.heap.size, 0, none⟩, 257, nulls 257⟩ : InR)] = By zero32 ++ [Value.int .u32 0, .slice (some ⟨q25.heap.size, 0, none⟩) 257 257] := by simp [insC, inC, h257]
                      show SeesV _ _ _ (insC [_])
                      rw [e]
                      exact seesV_keeps r31_0.out h6 (fun ad e => by injection e with e; subst e; dsimp only; have := y26.out; have := y30.out; have := x30.out; have := y31.out; omega)
                    · rw [List.mem_singleton.1 hj]
                      have hz : Blk q32 q25.heap.size 5 (By (nulls 257)).toArray := z31.out.keeps h6 (by have := y26.out; have := y30.out; have := x30.out; have := y31.out; omega)
                      exact ⟨rfl, by show 0 < _; omega, by show (nulls 257).length ≤ 257; omega, sees_blk (more := []) (by rw [List.append_nil]; exact hz) hz.lt, by show (nulls 257).length ≤ _; omega⟩
                  have hCu : checkT u = 2 := by
                    rw [← hu]
                    refine check_of (p := wP) ?_ wP_check
                    show TxP.mk _ _ _ = _
                    rw [HCt.out.2.2.2.1]; rfl
                  refine hK.out _ _ ⟨cell_later (nxTr V66wb.out v32.out) C6.out.1, cell_later (nxTr V66wb.out v32.out) C6.out.2⟩ (fun hSn => ?_)
                  clear hK K
                  try simp only [Act.put, List.setIfInBounds_toArray, List.set_cons_zero, List.set_cons_succ]
                  refine wpAnyH_done (by kernel_rfl) ?_ _
                  go_wp2_with fail
                  go_meet
                  exact ⟨q26.heap.size, u, rfl, blkR h5, h5.lt, hU, hCu, v32⟩
              · go_simp
                have v33 : Hid (Below wb.heap.size wb (q25.alloc (.cells txZ 26))) := nxAl v25.out _
                have y33 : Hid ((q25.alloc (.cells txZ 26)).heap.size = q25.heap.size + 1) := (by show _ = _; simp)
                have x33 : Hid (wb.heap.size ≤ q25.heap.size) := v25.out.size
                have g33 : Hid (Blk (q25.alloc (.cells txZ 26)) q25.heap.size 26 txZ) := heap_alloc_new q25 _
                refine hK.out _ (q25.alloc (.cells txZ 26)) ⟨cell_later (nxTr V66wb.out v33.out) C6.out.1, cell_later (nxTr V66wb.out v33.out) C6.out.2⟩ (fun hSn => ?_)
                clear hK K
                try simp only [Act.put, List.setIfInBounds_toArray, List.set_cons_zero, List.set_cons_succ]
                obtain ⟨q33, hq33⟩ : ∃ q, (q25.alloc (.cells txZ 26)) = q := ⟨_, rfl⟩
                rw [hq33] at hSn v33 y33 g33 ⊢
                clear hq33
                refine wpAnyH_ready (rs := [0]) (by kernel_rfl) (by simp) ?_
                refine AllReadyH.cons rfl (fun K hK => ?_) AllReadyH.nil
                go_simp
                have v34 : Hid (Below wb.heap.size wb (q33.alloc (.cells (By (nulls 257)).toArray 5))) := nxAl v33.out _
                have y34 : Hid ((q33.alloc (.cells (By (nulls 257)).toArray 5)).heap.size = q33.heap.size + 1) := (by show _ = _; simp)
                have g34 : Hid (Blk (q33.alloc (.cells (By (nulls 257)).toArray 5)) q25.heap.size 26 txZ) := g33.out.alloc _
                have z34 : Hid (Blk (q33.alloc (.cells (By (nulls 257)).toArray 5)) q33.heap.size 5 (By (nulls 257)).toArray) := heap_alloc_new q33 _
                refine hK.out _ (q33.alloc (.cells (By (nulls 257)).toArray 5)) ⟨cell_later (nxTr V66wb.out v34.out) C6.out.1, cell_later (nxTr V66wb.out v34.out) C6.out.2⟩ (fun hSn => ?_)
                clear hK K
                try simp only [Act.put, List.setIfInBounds_toArray, List.set_cons_zero, List.set_cons_succ]
                obtain ⟨q34, hq34⟩ : ∃ q, (q33.alloc (.cells (By (nulls 257)).toArray 5)) = q := ⟨_, rfl⟩
                rw [hq34] at hSn v34 y34 z34 g34 ⊢
                clear hq34
                refine wpAnyH_take (i := 1) (oi := ⟨_, _, _, _, _, _⟩) (v := .agg (By zero32 ++ [Value.int .u32 0, .slice (some ⟨q33.heap.size, 0, none⟩) 257 257]).toArray) rfl (by kernel_rfl) (by kernel_rfl) (by kernel_rfl) (fun _ _ _ h => h) (yieldsIf_build1 (by rfl) 46 1 (.tmp 61) rfl (.slice (some ⟨q33.heap.size, 0, none⟩) 257 257) _ rfl (fun wq => part_in1 _ _ _ wq)) (by assumption) ?_
                try simp only [Act.put, List.setIfInBounds_toArray, List.set_cons_zero, List.set_cons_succ]
                refine wpAnyH_ready (rs := [2]) (by kernel_rfl) (by simp) ?_
                refine AllReadyH.cons rfl (fun K hK => ?_) AllReadyH.nil
                refine step_build_one (o := ⟨some 63, _, _, _, _, _⟩) rfl 22 46 (.tmp 62) rfl (By zero32 ++ [Value.int .u32 0, .slice (some ⟨q33.heap.size, 0, none⟩) 257 257]) _ 34 64 Tryd.underlying22 Tryd.ininfo (by decide) (by decide) rfl rfl ?_
                have v35 : Hid (Below wb.heap.size wb (q34.alloc (.cells (By zero32 ++ [Value.int .u32 0, .slice (some ⟨q33.heap.size, 0, none⟩) 257 257]).toArray 46))) := nxAl v34.out _
                have y35 : Hid ((q34.alloc (.cells (By zero32 ++ [Value.int .u32 0, .slice (some ⟨q33.heap.size, 0, none⟩) 257 257]).toArray 46)).heap.size = q34.heap.size + 1) := (by show _ = _; simp)
                have z35 : Hid (Blk (q34.alloc (.cells (By zero32 ++ [Value.int .u32 0, .slice (some ⟨q33.heap.size, 0, none⟩) 257 257]).toArray 46)) q33.heap.size 5 (By (nulls 257)).toArray) := z34.out.alloc _
                have g35 : Hid (Blk (q34.alloc (.cells (By zero32 ++ [Value.int .u32 0, .slice (some ⟨q33.heap.size, 0, none⟩) 257 257]).toArray 46)) q25.heap.size 26 txZ) := g34.out.alloc _
                have r35_0 : Hid (SeesV (q34.alloc (.cells (By zero32 ++ [Value.int .u32 0, .slice (some ⟨q33.heap.size, 0, none⟩) 257 257]).toArray 46)) (q34.alloc (.cells (By zero32 ++ [Value.int .u32 0, .slice (some ⟨q33.heap.size, 0, none⟩) 257 257]).toArray 46)).heap.size (some ⟨q34.heap.size, 0, none⟩) (By zero32 ++ [Value.int .u32 0, .slice (some ⟨q33.heap.size, 0, none⟩) 257 257])) := SeesV.blk (heap_alloc_new q34 _)
                refine hK.out _ _ ⟨cell_later (nxTr V66wb.out v35.out) C6.out.1, cell_later (nxTr V66wb.out v35.out) C6.out.2⟩ (fun hSn => ?_)
                clear hK K
                try simp only [Act.put, List.setIfInBounds_toArray, List.set_cons_zero, List.set_cons_succ]
                obtain ⟨q35, hq35⟩ : ∃ q, (q34.alloc (.cells (By zero32 ++ [Value.int .u32 0, .slice (some ⟨q33.heap.size, 0, none⟩) 257 257]).toArray 46)) = q := ⟨_, rfl⟩
                rw [hq35] at hSn v35 y35 r35_0 z35 g35 ⊢
                clear hq35
                refine wpAnyH_take (i := 5) (oi := ⟨_, _, _, _, _, _⟩) (v := .agg #[Value.slice (some ⟨q34.heap.size, 0, none⟩) 1 1, .slice t.B 64 t.d, .int .u64 0]) rfl (by kernel_rfl) (by kernel_rfl) (by kernel_rfl) (fun _ _ _ h => h) (yieldsIf_build2 (by rfl) 26 (.tmp 63) (.tmp 65) rfl (Value.slice (some ⟨q34.heap.size, 0, none⟩) 1 1) (.slice t.B 64 t.d) _ rfl rfl (fun wq => part_tx2 _ _ _ _ _ _ wq)) (by assumption) ?_
                try simp only [Act.put, List.setIfInBounds_toArray, List.set_cons_zero, List.set_cons_succ]
                refine wpAnyH_ready (rs := [7]) (by kernel_rfl) (by simp) ?_
                refine AllReadyH.cons rfl (fun K hK => ?_) AllReadyH.nil
                refine step_store_all (o := ⟨none, _, _, _, _, _⟩) rfl 26 (.tmp 9) (.tmp 66) rfl (q25.heap.size) 26 txZ #[.slice (some ⟨q34.heap.size, 0, none⟩) 1 1, .slice t.B 64 t.d, .int .u64 0] rfl rfl g35.out rfl Tryd.sizeTx (by intro v hv; simp at hv; rcases hv with rfl | rfl | rfl <;> rfl) ?_
                intro q36 h5 h6 h7
                obtain ⟨u, hu⟩ : ∃ u : TxR, (⟨(some ⟨q34.heap.size, 0, none⟩), 1, [⟨zero32, 0, some ⟨q33.heap.size, 0, none⟩, 257, nulls 257⟩], t.B, t.d, t.outs, 0⟩ : TxR) = u := ⟨_, rfl⟩
                have hcs : #[.slice (some ⟨q34.heap.size, 0, none⟩) 1 1, .slice t.B 64 t.d, .int .u64 0] = (txC u).toArray := by rw [← hu]; simp [txC, HCt.out.1, HCt.out.2.1]
                rw [hcs] at h5
                have v36 : Hid (Below wb.heap.size wb q36) := v35.out.trans (h6.below v35.out.size (fun k hk => by have := y33.out; have := x33.out; have := y34.out; have := y35.out; omega))
                have hT : TxOk q36 t := T6.out.later (nxTr V66wb.out v36.out)
                have hU : TxOk q36 u := by
                  rw [← hu]
                  have h257 : (nulls 257).length = 257 := List.length_replicate
                  refine ⟨?_, fun j hj => ?_, hT.outs, hT.eacho, Nat.le_refl _, hT.d, by show 0 < _; omega, by show 1 ≤ _; omega, hT.mo⟩
                  · have e : insC [(⟨zero32, 0, some ⟨q33.heap.size, 0, none⟩, 257, nulls 257⟩ : InR)] = By zero32 ++ [Value.int .u32 0, .slice (some ⟨q33.heap.size, 0, none⟩) 257 257] := by simp [insC, inC, h257]
                    show SeesV _ _ _ (insC [_])
                    rw [e]
                    exact seesV_keeps r35_0.out h6 (fun ad e => by injection e with e; subst e; dsimp only; have := y33.out; have := x33.out; have := y34.out; have := y35.out; omega)
                  · rw [List.mem_singleton.1 hj]
                    have hz : Blk q36 q33.heap.size 5 (By (nulls 257)).toArray := z35.out.keeps h6 (by have := y33.out; have := x33.out; have := y34.out; have := y35.out; omega)
                    exact ⟨rfl, by show 0 < _; omega, by show (nulls 257).length ≤ 257; omega, sees_blk (more := []) (by rw [List.append_nil]; exact hz) hz.lt, by show (nulls 257).length ≤ _; omega⟩
                have hCu : checkT u = 2 := by
                  rw [← hu]
                  refine check_of (p := wP) ?_ wP_check
                  show TxP.mk _ _ _ = _
                  rw [HCt.out.2.2.2.1]; rfl
                refine hK.out _ _ ⟨cell_later (nxTr V66wb.out v36.out) C6.out.1, cell_later (nxTr V66wb.out v36.out) C6.out.2⟩ (fun hSn => ?_)
                clear hK K
                try simp only [Act.put, List.setIfInBounds_toArray, List.set_cons_zero, List.set_cons_succ]
                refine wpAnyH_done (by kernel_rfl) ?_ _
                go_wp2_with fail
                go_meet
                exact ⟨q25.heap.size, u, rfl, blkR h5, h5.lt, hU, hCu, v36⟩
          case rest =>
            obtain ⟨wd, rfl⟩ : ∃ x, x = wc := ⟨_, rfl⟩
            obtain ⟨gh, uh, rfl, Rh, Lh, Th, Ch, Vh⟩ := hcut
            have V66wd : Hid (Below w6.heap.size w6 wd) := nxTr V66wb.out Vh.out
            go_upto_region 12 with fail
            go_cut [10] (fun q wx => ∃ (g : Nat) (u : TxR), q = .pointer (some ⟨g, 0, none⟩) ∧ Hid (wx.rangeAt g 0 (txC u)) ∧ Hid (g < wx.heap.size) ∧ Hid (TxOk wx u) ∧ Hid (checkT u = 5) ∧ Hid (Below wd.heap.size wd wx))
            case first =>
              as_aux_lemma =>
                refine wp_region_held_drew (S := fun W => W.cell? ⟨w.heap.size, 0, none⟩ = some (.slice t.A 64 t.c) ∧ W.cell? ⟨w.heap.size, 1, none⟩ = some (.slice t.B 64 t.d)) (by kernel_rfl) ⟨cell_later (nxDrI V66wd.out) C6.out.1, cell_later (nxDrI V66wd.out) C6.out.2⟩ (fun hHeld => ?_)
                obtain ⟨q37, hq37⟩ : ∃ q, wd.drew = q := ⟨_, rfl⟩
                have v37 : Hid (Below wd.heap.size wd q37) := by show Below _ _ _; rw [← hq37]; exact nxDrI (nxRf wd)
                rw [hq37] at hHeld ⊢
                clear hq37
                refine wpAnyH_take (i := 0) (oi := ⟨_, _, _, _, _, _⟩) (v := ?_) rfl (by kernel_rfl) (by kernel_rfl) (by kernel_rfl) (fun _ _ _ h => h) (Or.inl ⟨by rfl, ?_⟩) (by assumption) ?_
                rotate_left 1
                · intro W hSw
                  try dsimp only at hSw
                  go_simp
                  try with_reducible rfl
                try simp only [Act.put, List.setIfInBounds_toArray, List.set_cons_zero, List.set_cons_succ]
                refine wpAnyH_take (i := 1) (oi := ⟨_, _, _, _, _, _⟩) (v := ?_) rfl (by kernel_rfl) (by kernel_rfl) (by kernel_rfl) (fun _ _ _ h => h) (Or.inl ⟨by rfl, ?_⟩) (by assumption) ?_
                rotate_left 1
                · intro W hSw
                  try dsimp only at hSw
                  go_simp
                  try with_reducible rfl
                try simp only [Act.put, List.setIfInBounds_toArray, List.set_cons_zero, List.set_cons_succ]
                refine wpAnyH_take (i := 2) (oi := ⟨_, _, _, _, _, _⟩) (v := .agg (outC ⟨17592186044417, zero32⟩).toArray) rfl (by kernel_rfl) (by kernel_rfl) (by kernel_rfl) (fun _ _ _ h => h) (yieldsIf_build1 (by rfl) 49 0 _ rfl (.int .u64 17592186044417) _ rfl (fun wq => part_out _ wq)) (by assumption) ?_
                try simp only [Act.put, List.setIfInBounds_toArray, List.set_cons_zero, List.set_cons_succ]
                refine wpAnyH_take (i := 4) (oi := ⟨_, _, _, _, _, _⟩) (v := ?_) rfl (by kernel_rfl) (by kernel_rfl) (by kernel_rfl) (fun _ _ _ h => h) (Or.inl ⟨by rfl, ?_⟩) (by assumption) ?_
                rotate_left 1
                · intro W hSw
                  try dsimp only at hSw
                  go_simp
                  try with_reducible rfl
                try simp only [Act.put, List.setIfInBounds_toArray, List.set_cons_zero, List.set_cons_succ]
                refine wpAnyH_take (i := 5) (oi := ⟨_, _, _, _, _, _⟩) (v := ?_) rfl (by kernel_rfl) (by kernel_rfl) (by kernel_rfl) (fun _ _ _ h => h) (Or.inl ⟨by rfl, ?_⟩) (by assumption) ?_
                rotate_left 1
                · intro W hSw
                  try dsimp only at hSw
                  go_simp
                  try with_reducible rfl
                try simp only [Act.put, List.setIfInBounds_toArray, List.set_cons_zero, List.set_cons_succ]
                refine wpAnyH_take (i := 6) (oi := ⟨_, _, _, _, _, _⟩) (v := ?_) rfl (by kernel_rfl) (by kernel_rfl) (by kernel_rfl) (fun _ _ _ h => h) (Or.inl ⟨by rfl, ?_⟩) (by assumption) ?_
                rotate_left 1
                · intro W hSw
                  try dsimp only at hSw
                  go_simp
                  try with_reducible rfl
                try simp only [Act.put, List.setIfInBounds_toArray, List.set_cons_zero, List.set_cons_succ]
                refine wpAnyH_ready (rs := [3, 9]) (by kernel_rfl) (by simp) ?_
                refine AllReadyH.cons rfl (fun K hK => ?_) (AllReadyH.cons rfl (fun K hK => ?_) AllReadyH.nil)
                · refine step_build_one (o := ⟨some 70, _, _, _, _, _⟩) rfl 23 49 (.tmp 69) rfl (outC ⟨17592186044417, zero32⟩) _ 33 40 Tryd.underlying23 Tryd.outinfo (by decide) (by decide) rfl rfl ?_
                  have v38 : Hid (Below wd.heap.size wd (q37.alloc (.cells (outC ⟨17592186044417, zero32⟩).toArray 49))) := nxAl v37.out _
                  have y38 : Hid ((q37.alloc (.cells (outC ⟨17592186044417, zero32⟩).toArray 49)).heap.size = q37.heap.size + 1) := (by show _ = _; simp)
                  have r38_0 : Hid (SeesV (q37.alloc (.cells (outC ⟨17592186044417, zero32⟩).toArray 49)) (q37.alloc (.cells (outC ⟨17592186044417, zero32⟩).toArray 49)).heap.size (some ⟨q37.heap.size, 0, none⟩) (outC ⟨17592186044417, zero32⟩)) := SeesV.blk (heap_alloc_new q37 _)
                  refine hK.out _ _ ⟨cell_later (nxTr V66wd.out v38.out) C6.out.1, cell_later (nxTr V66wd.out v38.out) C6.out.2⟩ (fun hSn => ?_)
                  clear hK K
                  try simp only [Act.put, List.setIfInBounds_toArray, List.set_cons_zero, List.set_cons_succ]
                  obtain ⟨q38, hq38⟩ : ∃ q, (q37.alloc (.cells (outC ⟨17592186044417, zero32⟩).toArray 49)) = q := ⟨_, rfl⟩
                  rw [hq38] at hSn v38 y38 r38_0 ⊢
                  clear hq38
                  refine wpAnyH_ready (rs := [7, 9]) (by kernel_rfl) (by simp) ?_
                  refine AllReadyH.cons rfl (fun K hK => ?_) (AllReadyH.cons rfl (fun K hK => ?_) AllReadyH.nil)
                  · refine step_append_full (o := ⟨some 74, _, _, _, _, _⟩) rfl (.tmp 70) (.tmp 73) 23 rfl 49 j0 _ 33 40 Tryd.underlying23 hj0 hy0 hy1 hy2 rfl (by decide) (some ⟨q37.heap.size, 0, none⟩) 1 1 _ (outC ⟨17592186044417, zero32⟩) rfl rfl r38_0.out (by omega) _ S3' 63 _ ((outsC t.outs).drop 33) rfl lo1.out ((Hs3.out.later (nxTr V66wd.out v38.out)).more (nxTr V66wd.out v38.out).size) (by omega) (by omega) (by omega) (by omega) ?_
                    intro A39 c39 q39 ho hb
                    have v39 : Hid (Below wd.heap.size wd q39) := nxTr v38.out hb
                    have y39 : Hid (q38.heap.size ≤ q39.heap.size) := hb.size
                    have r39_0 : Hid (SeesV q39 q39.heap.size A39 (outC ⟨17592186044417, zero32⟩ ++ ((outsC t.outs).drop 33))) := SeesV.own ho
                    have d39 : Hid (64 ≤ c39) := (own_cmS ho).1
                    have n39 : Hid (∀ ad, A39 = some ad → q38.heap.size ≤ ad.block ∧ ad.block < q39.heap.size) := (fun ad e => own_lt ho ad.block (by rw [own_blk, e]; rfl))
                    clear ho hb
                    refine hK.out _ _ ⟨cell_later (nxTr V66wd.out v39.out) C6.out.1, cell_later (nxTr V66wd.out v39.out) C6.out.2⟩ (fun hSn => ?_)
                    clear hK K
                    try simp only [Act.put, List.setIfInBounds_toArray, List.set_cons_zero, List.set_cons_succ]
                    refine wpAnyH_take (i := 8) (oi := ⟨_, _, _, _, _, _⟩) (v := .agg #[Value.slice t.A 64 t.c, .slice A39 64 c39, .int .u64 0]) rfl (by kernel_rfl) (by kernel_rfl) (by kernel_rfl) (fun _ _ _ h => h) (yieldsIf_build2 (by rfl) 26 (.tmp 68) (.tmp 74) rfl (Value.slice t.A 64 t.c) (.slice A39 64 c39) _ rfl rfl (fun wq => part_tx2 _ _ _ _ _ _ wq)) (by assumption) ?_
                    try simp only [Act.put, List.setIfInBounds_toArray, List.set_cons_zero, List.set_cons_succ]
                    refine wpAnyH_ready (rs := [9]) (by kernel_rfl) (by simp) ?_
                    refine AllReadyH.cons rfl (fun K hK => ?_) AllReadyH.nil
                    go_simp
                    have v40 : Hid (Below wd.heap.size wd (q39.alloc (.cells txZ 26))) := nxAl v39.out _
                    have y40 : Hid ((q39.alloc (.cells txZ 26)).heap.size = q39.heap.size + 1) := (by show _ = _; simp)
                    have x40 : Hid (wd.heap.size ≤ q39.heap.size) := v39.out.size
                    have r40_0 : Hid (SeesV (q39.alloc (.cells txZ 26)) (q39.alloc (.cells txZ 26)).heap.size A39 (outC ⟨17592186044417, zero32⟩ ++ ((outsC t.outs).drop 33))) := (r39_0.out.alloc _).more (by simp)
                    have g40 : Hid (Blk (q39.alloc (.cells txZ 26)) q39.heap.size 26 txZ) := heap_alloc_new q39 _
                    refine hK.out _ (q39.alloc (.cells txZ 26)) ⟨cell_later (nxTr V66wd.out v40.out) C6.out.1, cell_later (nxTr V66wd.out v40.out) C6.out.2⟩ (fun hSn => ?_)
                    clear hK K
                    try simp only [Act.put, List.setIfInBounds_toArray, List.set_cons_zero, List.set_cons_succ]
                    obtain ⟨q40, hq40⟩ : ∃ q, (q39.alloc (.cells txZ 26)) = q := ⟨_, rfl⟩
                    rw [hq40] at hSn v40 y40 g40 r40_0 ⊢
                    clear hq40
                    refine wpAnyH_ready (rs := [10]) (by kernel_rfl) (by simp) ?_
                    refine AllReadyH.cons rfl (fun K hK => ?_) AllReadyH.nil
                    refine step_store_all (o := ⟨none, _, _, _, _, _⟩) rfl 26 (.tmp 10) (.tmp 75) rfl (q39.heap.size) 26 txZ #[.slice t.A 64 t.c, .slice A39 64 c39, .int .u64 0] rfl rfl g40.out rfl Tryd.sizeTx (by intro v hv; simp at hv; rcases hv with rfl | rfl | rfl <;> rfl) ?_
                    intro q41 h5 h6 h7
                    obtain ⟨u, hu⟩ : ∃ u : TxR, (⟨t.A, t.c, t.ins, A39, c39, ⟨17592186044417, zero32⟩ :: List.replicate 63 bO, 0⟩ : TxR) = u := ⟨_, rfl⟩
                    have hcs : #[.slice t.A 64 t.c, .slice A39 64 c39, .int .u64 0] = (txC u).toArray := by rw [← hu]; simp [txC, HCt.out.1, HCt.out.2.1]
                    rw [hcs] at h5
                    have v41 : Hid (Below wd.heap.size wd q41) := v40.out.trans (h6.below v40.out.size (fun k hk => by have := y38.out; have := y39.out; have := y40.out; have := x40.out; omega))
                    have hT : TxOk q41 t := T6.out.later (nxTr V66wd.out v41.out)
                    have hU : TxOk q41 u := by
                      rw [← hu]
                      have e : outsC (⟨17592186044417, zero32⟩ :: List.replicate 63 bO) = outC ⟨17592186044417, zero32⟩ ++ (outsC t.outs).drop 33 := by rw [HCt.out.2.2.2.1]; exact xrow
                      refine ⟨hT.ins, hT.each, by show SeesV _ _ _ (outsC (_ :: _)); rw [e]; exact seesV_keeps r40_0.out h6 (fun ad e => by have h := n39.out ad e; have := y38.out; have := y39.out; have := y40.out; have := x40.out; omega), fun j hj => ?_, hT.c, by show (_ :: List.replicate 63 bO).length ≤ _; rw [List.length_cons, List.length_replicate]; exact d39.out, by show 0 < _; omega, hT.mi, by show (_ :: List.replicate 63 bO).length ≤ _; rw [List.length_cons, List.length_replicate]; exact Nat.le_of_ble_eq_true rfl⟩
                      rcases List.mem_cons.1 hj with hj | hj
                      · rw [hj]; exact ⟨by show 17592186044417 < _; omega, rfl⟩
                      · rw [List.eq_of_mem_replicate hj]; exact ⟨by decide, rfl⟩
                    have hCu : checkT u = 5 := by
                      rw [← hu]
                      refine check_of (p := xP) ?_ xP_check
                      show TxP.mk _ _ _ = _
                      rw [HCt.out.2.2.1]; rfl
                    refine hK.out _ _ ⟨cell_later (nxTr V66wd.out v41.out) C6.out.1, cell_later (nxTr V66wd.out v41.out) C6.out.2⟩ (fun hSn => ?_)
                    clear hK K
                    try simp only [Act.put, List.setIfInBounds_toArray, List.set_cons_zero, List.set_cons_succ]
                    refine wpAnyH_done (by kernel_rfl) ?_ _
                    go_wp2_with fail
                    go_meet
                    exact ⟨q39.heap.size, u, rfl, blkR h5, h5.lt, hU, hCu, v41⟩
                  · go_simp
                    have v42 : Hid (Below wd.heap.size wd (q38.alloc (.cells txZ 26))) := nxAl v38.out _
                    have y42 : Hid ((q38.alloc (.cells txZ 26)).heap.size = q38.heap.size + 1) := (by show _ = _; simp)
                    have x42 : Hid (wd.heap.size ≤ q38.heap.size) := v38.out.size
                    have r42_0 : Hid (SeesV (q38.alloc (.cells txZ 26)) (q38.alloc (.cells txZ 26)).heap.size (some ⟨q37.heap.size, 0, none⟩) (outC ⟨17592186044417, zero32⟩)) := (r38_0.out.alloc _).more (by simp)
                    have g42 : Hid (Blk (q38.alloc (.cells txZ 26)) q38.heap.size 26 txZ) := heap_alloc_new q38 _
                    refine hK.out _ (q38.alloc (.cells txZ 26)) ⟨cell_later (nxTr V66wd.out v42.out) C6.out.1, cell_later (nxTr V66wd.out v42.out) C6.out.2⟩ (fun hSn => ?_)
                    clear hK K
                    try simp only [Act.put, List.setIfInBounds_toArray, List.set_cons_zero, List.set_cons_succ]
                    obtain ⟨q42, hq42⟩ : ∃ q, (q38.alloc (.cells txZ 26)) = q := ⟨_, rfl⟩
                    rw [hq42] at hSn v42 y42 g42 r42_0 ⊢
                    clear hq42
                    refine wpAnyH_ready (rs := [7]) (by kernel_rfl) (by simp) ?_
                    refine AllReadyH.cons rfl (fun K hK => ?_) AllReadyH.nil
                    refine step_append_full (o := ⟨some 74, _, _, _, _, _⟩) rfl (.tmp 70) (.tmp 73) 23 rfl 49 j0 _ 33 40 Tryd.underlying23 hj0 hy0 hy1 hy2 rfl (by decide) (some ⟨q37.heap.size, 0, none⟩) 1 1 _ (outC ⟨17592186044417, zero32⟩) rfl rfl r42_0.out (by omega) _ S3' 63 _ ((outsC t.outs).drop 33) rfl lo1.out ((Hs3.out.later (nxTr V66wd.out v42.out)).more (nxTr V66wd.out v42.out).size) (by omega) (by omega) (by omega) (by omega) ?_
                    intro A43 c43 q43 ho hb
                    have v43 : Hid (Below wd.heap.size wd q43) := nxTr v42.out hb
                    have y43 : Hid (q42.heap.size ≤ q43.heap.size) := hb.size
                    have g43 : Hid (Blk q43 q38.heap.size 26 txZ) := g42.out.below hb g42.out.lt
                    have r43_0 : Hid (SeesV q43 q43.heap.size A43 (outC ⟨17592186044417, zero32⟩ ++ ((outsC t.outs).drop 33))) := SeesV.own ho
                    have d43 : Hid (64 ≤ c43) := (own_cmS ho).1
                    have n43 : Hid (∀ ad, A43 = some ad → q42.heap.size ≤ ad.block ∧ ad.block < q43.heap.size) := (fun ad e => own_lt ho ad.block (by rw [own_blk, e]; rfl))
                    clear ho hb
                    refine hK.out _ _ ⟨cell_later (nxTr V66wd.out v43.out) C6.out.1, cell_later (nxTr V66wd.out v43.out) C6.out.2⟩ (fun hSn => ?_)
                    clear hK K
                    try simp only [Act.put, List.setIfInBounds_toArray, List.set_cons_zero, List.set_cons_succ]
                    refine wpAnyH_take (i := 8) (oi := ⟨_, _, _, _, _, _⟩) (v := .agg #[Value.slice t.A 64 t.c, .slice A43 64 c43, .int .u64 0]) rfl (by kernel_rfl) (by kernel_rfl) (by kernel_rfl) (fun _ _ _ h => h) (yieldsIf_build2 (by rfl) 26 (.tmp 68) (.tmp 74) rfl (Value.slice t.A 64 t.c) (.slice A43 64 c43) _ rfl rfl (fun wq => part_tx2 _ _ _ _ _ _ wq)) (by assumption) ?_
                    try simp only [Act.put, List.setIfInBounds_toArray, List.set_cons_zero, List.set_cons_succ]
                    refine wpAnyH_ready (rs := [10]) (by kernel_rfl) (by simp) ?_
                    refine AllReadyH.cons rfl (fun K hK => ?_) AllReadyH.nil
                    refine step_store_all (o := ⟨none, _, _, _, _, _⟩) rfl 26 (.tmp 10) (.tmp 75) rfl (q38.heap.size) 26 txZ #[.slice t.A 64 t.c, .slice A43 64 c43, .int .u64 0] rfl rfl g43.out rfl Tryd.sizeTx (by intro v hv; simp at hv; rcases hv with rfl | rfl | rfl <;> rfl) ?_
                    intro q44 h5 h6 h7
                    obtain ⟨u, hu⟩ : ∃ u : TxR, (⟨t.A, t.c, t.ins, A43, c43, ⟨17592186044417, zero32⟩ :: List.replicate 63 bO, 0⟩ : TxR) = u := ⟨_, rfl⟩
                    have hcs : #[.slice t.A 64 t.c, .slice A43 64 c43, .int .u64 0] = (txC u).toArray := by rw [← hu]; simp [txC, HCt.out.1, HCt.out.2.1]
                    rw [hcs] at h5
                    have v44 : Hid (Below wd.heap.size wd q44) := v43.out.trans (h6.below v43.out.size (fun k hk => by have := y38.out; have := y42.out; have := x42.out; have := y43.out; omega))
                    have hT : TxOk q44 t := T6.out.later (nxTr V66wd.out v44.out)
                    have hU : TxOk q44 u := by
                      rw [← hu]
                      have e : outsC (⟨17592186044417, zero32⟩ :: List.replicate 63 bO) = outC ⟨17592186044417, zero32⟩ ++ (outsC t.outs).drop 33 := by rw [HCt.out.2.2.2.1]; exact xrow
                      refine ⟨hT.ins, hT.each, by show SeesV _ _ _ (outsC (_ :: _)); rw [e]; exact seesV_keeps r43_0.out h6 (fun ad e => by have h := n43.out ad e; have := y38.out; have := y42.out; have := x42.out; have := y43.out; omega), fun j hj => ?_, hT.c, by show (_ :: List.replicate 63 bO).length ≤ _; rw [List.length_cons, List.length_replicate]; exact d43.out, by show 0 < _; omega, hT.mi, by show (_ :: List.replicate 63 bO).length ≤ _; rw [List.length_cons, List.length_replicate]; exact Nat.le_of_ble_eq_true rfl⟩
                      rcases List.mem_cons.1 hj with hj | hj
                      · rw [hj]; exact ⟨by show 17592186044417 < _; omega, rfl⟩
                      · rw [List.eq_of_mem_replicate hj]; exact ⟨by decide, rfl⟩
                    have hCu : checkT u = 5 := by
                      rw [← hu]
                      refine check_of (p := xP) ?_ xP_check
                      show TxP.mk _ _ _ = _
                      rw [HCt.out.2.2.1]; rfl
                    refine hK.out _ _ ⟨cell_later (nxTr V66wd.out v44.out) C6.out.1, cell_later (nxTr V66wd.out v44.out) C6.out.2⟩ (fun hSn => ?_)
                    clear hK K
                    try simp only [Act.put, List.setIfInBounds_toArray, List.set_cons_zero, List.set_cons_succ]
                    refine wpAnyH_done (by kernel_rfl) ?_ _
                    go_wp2_with fail
                    go_meet
                    exact ⟨q38.heap.size, u, rfl, blkR h5, h5.lt, hU, hCu, v44⟩
                · go_simp
                  have v45 : Hid (Below wd.heap.size wd (q37.alloc (.cells txZ 26))) := nxAl v37.out _
                  have y45 : Hid ((q37.alloc (.cells txZ 26)).heap.size = q37.heap.size + 1) := (by show _ = _; simp)
                  have x45 : Hid (wd.heap.size ≤ q37.heap.size) := v37.out.size
                  have g45 : Hid (Blk (q37.alloc (.cells txZ 26)) q37.heap.size 26 txZ) := heap_alloc_new q37 _
                  refine hK.out _ (q37.alloc (.cells txZ 26)) ⟨cell_later (nxTr V66wd.out v45.out) C6.out.1, cell_later (nxTr V66wd.out v45.out) C6.out.2⟩ (fun hSn => ?_)
                  clear hK K
                  try simp only [Act.put, List.setIfInBounds_toArray, List.set_cons_zero, List.set_cons_succ]
                  obtain ⟨q45, hq45⟩ : ∃ q, (q37.alloc (.cells txZ 26)) = q := ⟨_, rfl⟩
                  rw [hq45] at hSn v45 y45 g45 ⊢
                  clear hq45
                  refine wpAnyH_ready (rs := [3]) (by kernel_rfl) (by simp) ?_
                  refine AllReadyH.cons rfl (fun K hK => ?_) AllReadyH.nil
                  refine step_build_one (o := ⟨some 70, _, _, _, _, _⟩) rfl 23 49 (.tmp 69) rfl (outC ⟨17592186044417, zero32⟩) _ 33 40 Tryd.underlying23 Tryd.outinfo (by decide) (by decide) rfl rfl ?_
                  have v46 : Hid (Below wd.heap.size wd (q45.alloc (.cells (outC ⟨17592186044417, zero32⟩).toArray 49))) := nxAl v45.out _
                  have y46 : Hid ((q45.alloc (.cells (outC ⟨17592186044417, zero32⟩).toArray 49)).heap.size = q45.heap.size + 1) := (by show _ = _; simp)
                  have g46 : Hid (Blk (q45.alloc (.cells (outC ⟨17592186044417, zero32⟩).toArray 49)) q37.heap.size 26 txZ) := g45.out.alloc _
                  have r46_0 : Hid (SeesV (q45.alloc (.cells (outC ⟨17592186044417, zero32⟩).toArray 49)) (q45.alloc (.cells (outC ⟨17592186044417, zero32⟩).toArray 49)).heap.size (some ⟨q45.heap.size, 0, none⟩) (outC ⟨17592186044417, zero32⟩)) := SeesV.blk (heap_alloc_new q45 _)
                  refine hK.out _ _ ⟨cell_later (nxTr V66wd.out v46.out) C6.out.1, cell_later (nxTr V66wd.out v46.out) C6.out.2⟩ (fun hSn => ?_)
                  clear hK K
                  try simp only [Act.put, List.setIfInBounds_toArray, List.set_cons_zero, List.set_cons_succ]
                  obtain ⟨q46, hq46⟩ : ∃ q, (q45.alloc (.cells (outC ⟨17592186044417, zero32⟩).toArray 49)) = q := ⟨_, rfl⟩
                  rw [hq46] at hSn v46 y46 r46_0 g46 ⊢
                  clear hq46
                  refine wpAnyH_ready (rs := [7]) (by kernel_rfl) (by simp) ?_
                  refine AllReadyH.cons rfl (fun K hK => ?_) AllReadyH.nil
                  refine step_append_full (o := ⟨some 74, _, _, _, _, _⟩) rfl (.tmp 70) (.tmp 73) 23 rfl 49 j0 _ 33 40 Tryd.underlying23 hj0 hy0 hy1 hy2 rfl (by decide) (some ⟨q45.heap.size, 0, none⟩) 1 1 _ (outC ⟨17592186044417, zero32⟩) rfl rfl r46_0.out (by omega) _ S3' 63 _ ((outsC t.outs).drop 33) rfl lo1.out ((Hs3.out.later (nxTr V66wd.out v46.out)).more (nxTr V66wd.out v46.out).size) (by omega) (by omega) (by omega) (by omega) ?_
                  intro A47 c47 q47 ho hb
                  have v47 : Hid (Below wd.heap.size wd q47) := nxTr v46.out hb
                  have y47 : Hid (q46.heap.size ≤ q47.heap.size) := hb.size
                  have g47 : Hid (Blk q47 q37.heap.size 26 txZ) := g46.out.below hb g46.out.lt
                  have r47_0 : Hid (SeesV q47 q47.heap.size A47 (outC ⟨17592186044417, zero32⟩ ++ ((outsC t.outs).drop 33))) := SeesV.own ho
                  have d47 : Hid (64 ≤ c47) := (own_cmS ho).1
                  have n47 : Hid (∀ ad, A47 = some ad → q46.heap.size ≤ ad.block ∧ ad.block < q47.heap.size) := (fun ad e => own_lt ho ad.block (by rw [own_blk, e]; rfl))
                  clear ho hb
                  refine hK.out _ _ ⟨cell_later (nxTr V66wd.out v47.out) C6.out.1, cell_later (nxTr V66wd.out v47.out) C6.out.2⟩ (fun hSn => ?_)
                  clear hK K
                  try simp only [Act.put, List.setIfInBounds_toArray, List.set_cons_zero, List.set_cons_succ]
                  refine wpAnyH_take (i := 8) (oi := ⟨_, _, _, _, _, _⟩) (v := .agg #[Value.slice t.A 64 t.c, .slice A47 64 c47, .int .u64 0]) rfl (by kernel_rfl) (by kernel_rfl) (by kernel_rfl) (fun _ _ _ h => h) (yieldsIf_build2 (by rfl) 26 (.tmp 68) (.tmp 74) rfl (Value.slice t.A 64 t.c) (.slice A47 64 c47) _ rfl rfl (fun wq => part_tx2 _ _ _ _ _ _ wq)) (by assumption) ?_
                  try simp only [Act.put, List.setIfInBounds_toArray, List.set_cons_zero, List.set_cons_succ]
                  refine wpAnyH_ready (rs := [10]) (by kernel_rfl) (by simp) ?_
                  refine AllReadyH.cons rfl (fun K hK => ?_) AllReadyH.nil
                  refine step_store_all (o := ⟨none, _, _, _, _, _⟩) rfl 26 (.tmp 10) (.tmp 75) rfl (q37.heap.size) 26 txZ #[.slice t.A 64 t.c, .slice A47 64 c47, .int .u64 0] rfl rfl g47.out rfl Tryd.sizeTx (by intro v hv; simp at hv; rcases hv with rfl | rfl | rfl <;> rfl) ?_
                  intro q48 h5 h6 h7
                  obtain ⟨u, hu⟩ : ∃ u : TxR, (⟨t.A, t.c, t.ins, A47, c47, ⟨17592186044417, zero32⟩ :: List.replicate 63 bO, 0⟩ : TxR) = u := ⟨_, rfl⟩
                  have hcs : #[.slice t.A 64 t.c, .slice A47 64 c47, .int .u64 0] = (txC u).toArray := by rw [← hu]; simp [txC, HCt.out.1, HCt.out.2.1]
                  rw [hcs] at h5
                  have v48 : Hid (Below wd.heap.size wd q48) := v47.out.trans (h6.below v47.out.size (fun k hk => by have := y45.out; have := x45.out; have := y46.out; have := y47.out; omega))
                  have hT : TxOk q48 t := T6.out.later (nxTr V66wd.out v48.out)
                  have hU : TxOk q48 u := by
                    rw [← hu]
                    have e : outsC (⟨17592186044417, zero32⟩ :: List.replicate 63 bO) = outC ⟨17592186044417, zero32⟩ ++ (outsC t.outs).drop 33 := by rw [HCt.out.2.2.2.1]; exact xrow
                    refine ⟨hT.ins, hT.each, by show SeesV _ _ _ (outsC (_ :: _)); rw [e]; exact seesV_keeps r47_0.out h6 (fun ad e => by have h := n47.out ad e; have := y45.out; have := x45.out; have := y46.out; have := y47.out; omega), fun j hj => ?_, hT.c, by show (_ :: List.replicate 63 bO).length ≤ _; rw [List.length_cons, List.length_replicate]; exact d47.out, by show 0 < _; omega, hT.mi, by show (_ :: List.replicate 63 bO).length ≤ _; rw [List.length_cons, List.length_replicate]; exact Nat.le_of_ble_eq_true rfl⟩
                    rcases List.mem_cons.1 hj with hj | hj
                    · rw [hj]; exact ⟨by show 17592186044417 < _; omega, rfl⟩
                    · rw [List.eq_of_mem_replicate hj]; exact ⟨by decide, rfl⟩
                  have hCu : checkT u = 5 := by
                    rw [← hu]
                    refine check_of (p := xP) ?_ xP_check
                    show TxP.mk _ _ _ = _
                    rw [HCt.out.2.2.1]; rfl
                  refine hK.out _ _ ⟨cell_later (nxTr V66wd.out v48.out) C6.out.1, cell_later (nxTr V66wd.out v48.out) C6.out.2⟩ (fun hSn => ?_)
                  clear hK K
                  try simp only [Act.put, List.setIfInBounds_toArray, List.set_cons_zero, List.set_cons_succ]
                  refine wpAnyH_done (by kernel_rfl) ?_ _
                  go_wp2_with fail
                  go_meet
                  exact ⟨q37.heap.size, u, rfl, blkR h5, h5.lt, hU, hCu, v48⟩
            case rest =>
              obtain ⟨we, rfl⟩ : ∃ x, x = wc := ⟨_, rfl⟩
              obtain ⟨gy, uy, rfl, Ry, Ly, Ty, Cy, Vy⟩ := hcut
              have V66we : Hid (Below w6.heap.size w6 we) := nxTr V66wd.out Vy.out
              go_upto_region 13 with fail
              clear hsl1 hsl2 hsl3 hmk7
              have FR := Lib.hid (rngB R6.out V66we.out L6.out)
              have FT := Lib.hid (T6.out.later V66we.out)
              have va : Hid (Below wa.heap.size wa we) := nxTr (nxTr Vv.out Vh.out) Vy.out
              have vb : Hid (Below wb.heap.size wb we) := nxTr Vh.out Vy.out
              have vd : Hid (Below wd.heap.size wd we) := Vy.out
              have Fu := Lib.hid (rngB Ru.out va.out Lu.out)
              have Ku := Lib.hid (Tu.out.later va.out)
              have Mu := Lib.hid (Nat.lt_of_lt_of_le Lu.out va.out.size)
              have Fv := Lib.hid (rngB Rv.out vb.out Lv.out)
              have Kv := Lib.hid (Tv.out.later vb.out)
              have Mv := Lib.hid (Nat.lt_of_lt_of_le Lv.out vb.out.size)
              have Fh := Lib.hid (rngB Rh.out vd.out Lh.out)
              have Kh := Lib.hid (Th.out.later vd.out)
              have Mh := Lib.hid (Nat.lt_of_lt_of_le Lh.out vd.out.size)
              have Fy := Ry
              have Ky := Ty
              have My := Ly
              have HL6 : Hid (w.heap.size < we.heap.size) := Nat.lt_of_lt_of_le L6.out V66we.out.size
              have hxz : idT uu = zero32 := by rw [idT, Cu.out]; rfl
              have HXz := Lib.hid hxz
              have heq : ∀ wq, (binOp .eql 39 (.agg (By zero32).toArray) (.agg (By zero32).toArray)).run Tryd.prog wq = .ok (.bool true) wq := fun wq => by rw [run_eql_bytes 32 39 5 Tryd.underlying39 Tryd.underlying5 Tryd.u8sz zero32 zero32 rfl rfl, beq_self_eq_true]
              go_wp2_with (first
                | (go_at_call 11; refine (num_any _ _).mono ?_; rintro e wn ⟨rfl, hwn⟩; obtain rfl := hwn.symm)
                | ((with_reducible show wpList _ _ _ (⟨some 83, _, _, _, _, _⟩ :: _) _ _); refine wpList_load_want (by rfl) 26 (.tmp 1) rfl w.heap.size 0 rfl (txC t) _ FR.out Tryd.underlying26 rfl (HZTl.out t) ?_)
                | (go_at_call 22; refine (out_any we t FT.out).mono ?_; rw [HOut.out]; rintro e f1 ⟨rfl, hb⟩; have b1 : Hid (Below we.heap.size we f1) := hb; clear hb)
                | ((with_reducible show wpList _ _ _ (⟨some 88, _, _, _, _, _⟩ :: _) _ _); refine wpList_load_want (by rfl) 26 (.tmp 7) rfl gu 0 rfl (txC uu) _ (rngB Fu.out b1.out Mu.out) Tryd.underlying26 rfl (HZTl.out uu) ?_)
                | (go_at_call 12; (with_reducible show Calls _ _ #[.agg (txC uu).toArray] _ _); refine (check_any f1 uu (Ku.out.later b1.out)).mono ?_; rw [Cu.out]; rintro e f2 ⟨rfl, hb⟩; have b2 : Hid (Below we.heap.size we f2) := nxTr b1.out hb; clear hb)
                | ((with_reducible show wpList _ _ _ (⟨some 94, _, _, _, _, _⟩ :: _) _ _); refine wpList_load_want (by rfl) 26 (.tmp 8) rfl gv 0 rfl (txC uv) _ (rngB Fv.out b2.out Mv.out) Tryd.underlying26 rfl (HZTl.out uv) ?_)
                | (go_at_call 12; (with_reducible show Calls _ _ #[.agg (txC uv).toArray] _ _); refine (check_any f2 uv (Kv.out.later b2.out)).mono ?_; rw [Cv.out]; rintro e f3 ⟨rfl, hb⟩; have b3 : Hid (Below we.heap.size we f3) := nxTr b2.out hb; clear hb)
                | ((with_reducible show wpList _ _ _ (⟨some 100, _, _, _, _, _⟩ :: _) _ _); refine wpList_load_want (by rfl) 26 (.tmp 9) rfl gh 0 rfl (txC uh) _ (rngB Fh.out b3.out Mh.out) Tryd.underlying26 rfl (HZTl.out uh) ?_)
                | (go_at_call 12; (with_reducible show Calls _ _ #[.agg (txC uh).toArray] _ _); refine (check_any f3 uh (Kh.out.later b3.out)).mono ?_; rw [Ch.out]; rintro e f4 ⟨rfl, hb⟩; have b4 : Hid (Below we.heap.size we f4) := nxTr b3.out hb; clear hb)
                | ((with_reducible show wpList _ _ _ (⟨some 106, _, _, _, _, _⟩ :: _) _ _); refine wpList_load_want (by rfl) 26 (.tmp 10) rfl gy 0 rfl (txC uy) _ (rngB Fy.out b4.out My.out) Tryd.underlying26 rfl (HZTl.out uy) ?_)
                | (go_at_call 12; (with_reducible show Calls _ _ #[.agg (txC uy).toArray] _ _); refine (check_any f4 uy (Ky.out.later b4.out)).mono ?_; rw [Cy.out]; rintro e f5 ⟨rfl, hb⟩; have b5 : Hid (Below we.heap.size we f5) := nxTr b4.out hb; clear hb)
                | ((with_reducible show wpList _ _ _ (⟨some 112, _, _, _, _, _⟩ :: _) _ _); refine wpList_build0 (by rfl) 26 rfl (.agg (txC noT).toArray) part_tx ?_)
                | (go_at_call 12; (with_reducible show Calls _ _ #[.agg (txC noT).toArray] _ _); refine (check_any f5 noT (noT_ok f5)).mono ?_; rw [noT_check]; rintro e f6 ⟨rfl, hb⟩; have b6 : Hid (Below we.heap.size we f6) := nxTr b5.out hb; clear hb)
                | ((with_reducible show wpList _ _ _ (⟨some 118, _, _, _, _, _⟩ :: _) _ _); refine wpList_load_want (by rfl) 26 (.tmp 7) rfl gu 0 rfl (txC uu) _ (rngB Fu.out b6.out Mu.out) Tryd.underlying26 rfl (HZTl.out uu) ?_)
                | (go_at_call 14; refine (id_any f6 (HTb2.out.later (nxTr (nxTr V6.out V66we.out) b6.out)) uu (Ku.out.later b6.out)).mono ?_; rw [HXz.out]; rintro e f7 ⟨rfl, hb⟩; have b7 : Hid (Below we.heap.size we f7) := nxTr b6.out hb; clear hb)
                | ((with_reducible show wpList _ _ _ (⟨some 120, _, _, _, _, _⟩ :: _) _ _); refine wpList_build0 (by rfl) 39 rfl (.agg (By zero32).toArray) part_hash ?_)
                | (go_at_call 8; refine (known_any f7).mono ?_; rintro e f8 ⟨rfl, hb⟩; have b8 : Hid (Below we.heap.size we f8) := nxTr b7.out hb; clear hb))
              go_ret
              exact ⟨rfl, nxTr (nxTr HV.out V6.out) (nxTr V66we.out b8.out)⟩
end Go.Proofs.YtckomfffilonlaaDoor
