/-
  merkle, the document's: Lead.
-/
import Derived.Test.YtcbdjcmjchoagaaDoorMkM
import Derived.Test.YtcbdjcmjchoagaaDoorMkQ
namespace Go.Proofs.YtcbdjcmjchoagaaDoor
open Go.RowKit

/-- What a path comes to. -/
def leadB (id : List UInt8) (n c : Nat) (hs : List (List UInt8)) : List UInt8 := shaB (tagB nmRoot (le8 c ++ ldH knotB (leafB id) n c hs))
theorem leadB_len (id : List UInt8) (n c : Nat) (hs : List (List UInt8)) : (leadB id n c hs).length = 32 := shaB_length _
theorem blk_rng {w : World} {g : Nat} {t : TypeId} {vs : List Value} (h : Blk w g t vs.toArray) : w.rangeAt g 0 vs := by
  intro j v hv
  rw [Nat.zero_add, h.cell j]
  simpa using hv

set_option maxHeartbeats 1000000 in
set_option maxRecDepth 100000 in
theorem rLead_any (w : World) (id : List UInt8) (n c : Nat) (A : Option Addr) (m d : Nat) (hs : List (List UInt8)) (hid : id.length = 32) (hm : m = hs.length) (hd : m ≤ d) (hnc : n < c) (hmax : c ≤ 1048576) (hsz : hs.length = szH n c) (h32 : All32 hs) (hS : SeesV w w.heap.size A (Hs hs)) :
    Calls Tryd.prog 21 #[.agg (By id).toArray, .agg (PathC n c A m d)] w fun e w' => e = .returned (.agg (By (leadB id n c hs)).toArray) ∧ Below w.heap.size w w' := by
  subst hm
  have hA : Blk (((w.alloc (.cells (By id).toArray 32)).alloc (.cells (PathC n c A hs.length d) 25)).alloc (.cells (By zero32).toArray 32)) w.heap.size 32 (By id).toArray := ((show Blk (w.alloc _) _ _ _ from heap_alloc_new w _).alloc _).alloc _
  have hP : Blk (((w.alloc (.cells (By id).toArray 32)).alloc (.cells (PathC n c A hs.length d) 25)).alloc (.cells (By zero32).toArray 32)) (w.heap.size + 1) 25 (PathC n c A hs.length d) := Blk.alloc (Blk.newAt (by simp) rfl) _
  have hZ : Blk (((w.alloc (.cells (By id).toArray 32)).alloc (.cells (PathC n c A hs.length d) 25)).alloc (.cells (By zero32).toArray 32)) (w.heap.size + 2) 32 (By zero32).toArray := Blk.newAt (by simp) rfl
  have hb0 : Below w.heap.size w (((w.alloc (.cells (By id).toArray 32)).alloc (.cells (PathC n c A hs.length d) 25)).alloc (.cells (By zero32).toArray 32)) := nxAlloc (nxAlloc (nxAlloc (nxRefl w) _) _) _
  have HS : Hid (SeesV (((w.alloc (.cells (By id).toArray 32)).alloc (.cells (PathC n c A hs.length d) 25)).alloc (.cells (By zero32).toArray 32)) w.heap.size A (Hs hs)) := ((hS.alloc _).alloc _).alloc _
  have hsz0 : w.heap.size + 3 = (((w.alloc (.cells (By id).toArray 32)).alloc (.cells (PathC n c A hs.length d) 25)).alloc (.cells (By zero32).toArray 32)).heap.size := by simp
  obtain ⟨y, hy⟩ : ∃ y, ldH knotB (leafB id) n c hs = y := ⟨_, rfl⟩
  obtain ⟨x, hx⟩ : ∃ x, leadB id n c hs = x := ⟨_, rfl⟩
  have HX : Hid (shaB (tagB nmRoot (le8 c ++ y)) = x) := by show _ = _; rw [← hx, leadB, hy]
  have HYl : Hid (y.length = 32) := by show _ = _; rw [← hy]; exact ldH_len _ _ _ _ (leafB_len id)
  have HXl : Hid (x.length = 32) := by show _ = _; rw [← hx]; exact leadB_len _ _ _ _
  have HZx := Lib.hid (Tryd.hsizeB x HXl.out)
  have HZy := Lib.hid (Tryd.hsizeB y HYl.out)
  have HSX : Hid ((Tryd.prog.info? 32).map (·.size) = some (By id).length) := by have h := Tryd.hsizeB id hid; show _ = _; rw [h]; simp
  have HY := Lib.hid hy
  have HA := Lib.hid hA
  have HP := Lib.hid hP
  have HZ := Lib.hid hZ
  have HRA := Lib.hid (blk_rng hA)
  have Hb0 := Lib.hid hb0
  have Hs0 := Lib.hid hsz0
  have HL := Lib.hid hid
  have H32 := Lib.hid h32
  have HD := Lib.hid hd
  have HN := Lib.hid hnc
  have HM := Lib.hid hmax
  have HSZ := Lib.hid hsz
  obtain ⟨c0, c1, c2⟩ := path_cells hP
  rw [hx]
  clear hS hA hP hZ hb0 hsz0 hid h32 hd hnc hmax hsz hx hy
  go_enter Tryd.func21, Tryd.ntmps21
  go_wp2_with (first
    | ((with_reducible show wpList _ _ _ (⟨some 6, _, _, _, _, _⟩ :: _) _ _); change wpList _ _ _ _ _ (((w.alloc (.cells (By id).toArray 32)).alloc (.cells (PathC n c A hs.length d) 25)).alloc (.cells (By zero32).toArray 32)); refine wpList_load_mid rfl 32 (.tmp 2) rfl w.heap.size 0 rfl (By id) _ HRA.out Tryd.underlying32 rfl HSX.out ?_)
    | (go_at_call 37; refine (rlead_any c n c rfl _ id hs A hs.length d HL.out rfl HD.out HN.out HM.out HSZ.out H32.out (HS.out.more (by have := Hs0.out; omega))).mono ?_; rw [HY.out]; rintro e w4 ⟨rfl, hb4⟩; have Hb4 := Lib.hid (nxTo Hb0.out hb4); have P4 := Lib.hid (HP.out.below hb4 HP.out.lt); have Z4 := Lib.hid (HZ.out.below hb4 HZ.out.lt); clear hb4)
    | ((with_reducible show wpList _ _ _ (⟨none, .store 32 (.tmp 5) _, _, _, _, _⟩ :: _) _ _); change wpList _ _ _ _ _ (w4.alloc (.cells (By zero32).toArray 32)); refine wpList_store_all rfl 32 (.tmp 5) (.tmp 13) rfl w4.heap.size 32 (By zero32).toArray (By y).toArray rfl rfl (heap_alloc_new w4 _) (by rw [List.size_toArray, List.size_toArray, By_length, By_length, HYl.out]; rfl) HZy.out (By_one _) ?_; intro w5 h5 h6 h7; have H5 := Lib.hid h5; have Hs5 : Hid (Sees w5 w5.heap.size (some ⟨w4.heap.size, 0, none⟩) y) := Sees.blk H5.out; have Hc5 : Hid (Below w4.heap.size w4 w5) := (nxAlloc (nxRefl w4) _).trans (h6.below (nxAlloc (nxRefl w4) _).size (fun k hk => by omega)); have Hb5 := Lib.hid (nxTo Hb4.out Hc5.out); have P5 := Lib.hid (P4.out.below Hc5.out P4.out.lt); have Z5 := Lib.hid (Z4.out.below Hc5.out Z4.out.lt); clear h5 h6 h7))
  have HC5 : Hid (w5.cell? ⟨w.heap.size + 1, 1, none⟩ = some (.int .i64 (c : Int))) := (path_cells P5.out).2.1
  have HLt : Hid (w.heap.size + 2 < w5.heap.size) := Z5.out.lt
  refine wp_region_held_drew (S := fun W => W.cell? ⟨w.heap.size + 1, 1, none⟩ = some (.int .i64 (c : Int))) (by kernel_rfl) HC5.out (fun hHeld => ?_)
  refine wpAnyH_take (i := 0) (oi := ⟨_, _, _, _, _, _⟩) (v := ?_) rfl (by kernel_rfl) (by kernel_rfl) (by kernel_rfl) (fun _ _ _ h => h) (Or.inl ⟨by rfl, ?_⟩) (by assumption) ?_
  rotate_left 1
  · intro W hSw
    try dsimp only at hSw
    go_simp
    try with_reducible rfl
  try simp only [Act.put, List.setIfInBounds_toArray, List.set_cons_zero, List.set_cons_succ]
  refine wpAnyH_take (i := 1) (oi := ⟨_, _, _, _, _, _⟩) (v := ?_) rfl (by kernel_rfl) (by kernel_rfl) (by kernel_rfl) (fun _ _ _ h => h) (Or.inl ⟨by rfl, ?_⟩) (by assumption) ?_
  rotate_left 1
  · intro W hSw
    try dsimp only at hSw
    go_simp
    try with_reducible rfl
  try simp only [Act.put, List.setIfInBounds_toArray, List.set_cons_zero, List.set_cons_succ]
  refine wpAnyH_take (i := 2) (oi := ⟨_, _, _, _, _, _⟩) (v := ?_) rfl (by kernel_rfl) (by kernel_rfl) (by kernel_rfl) (fun _ _ _ h => h) (Or.inl ⟨by rfl, ?_⟩) (by assumption) ?_
  rotate_left 1
  · intro W hSw
    try dsimp only at hSw
    go_simp
    try with_reducible rfl
  try simp only [Act.put, List.setIfInBounds_toArray, List.set_cons_zero, List.set_cons_succ]
  refine wpAnyH_ready (rs := [3]) (by kernel_rfl) (by simp) ?_
  refine AllReadyH.cons rfl (fun K hK => ?_) AllReadyH.nil
  go_simp
  go_at_call 27
  refine (rtop_any w5.drew c (by have := HM.out; omega) _ 32 32 y HYl.out.symm (show Sees w5.drew _ _ _ from Hs5.out) (by omega)).mono ?_
  rw [HX.out]
  rintro e w6 ⟨rfl, hb6⟩
  have Hr6 : Hid (Below w5.heap.size w5 w6) := nxUndr hb6
  have Z6 := Lib.hid (Z5.out.below Hr6.out Z5.out.lt)
  have HC6 : Hid (w6.cell? ⟨w.heap.size + 1, 1, none⟩ = some (.int .i64 (c : Int))) := (Hr6.out.cell (show w.heap.size + 1 < w5.heap.size by have := HLt.out; omega)).trans HC5.out
  clear hb6
  refine hK.out _ _ HC6.out (fun hSn => ?_)
  clear hK K
  try simp only [Act.put, List.setIfInBounds_toArray, List.set_cons_zero, List.set_cons_succ]
  refine wpAnyH_ready (rs := [4]) (by kernel_rfl) (by simp) ?_
  refine AllReadyH.cons rfl (fun K hK => ?_) AllReadyH.nil
  refine step_store_all (o := ⟨none, _, _, _, _, _⟩) rfl 32 (.tmp 4) (.tmp 17) rfl (w.heap.size + 2) 32 (By zero32).toArray (By x).toArray rfl rfl Z6.out (by rw [List.size_toArray, List.size_toArray, By_length, By_length, HXl.out]; rfl) HZx.out (By_one _) ?_
  intro w8 h5 h6 h7
  have H8 := Lib.hid h5
  have Hb8 : Hid (Below w.heap.size w w8) := (nxTo Hb5.out Hr6.out).trans (h6.below (nxTo Hb5.out Hr6.out).size (fun k hk => by omega))
  have Hc8 : Hid (Below (w.heap.size + 2) w6 w8) := h6.below (by have := Hr6.out.size; have := HLt.out; omega) (fun k hk => by omega)
  clear h5 h6 h7
  refine hK.out _ _ ((Hc8.out.cell (show w.heap.size + 1 < w.heap.size + 2 by omega)).trans HC6.out) (fun hSn => ?_)
  clear hK K
  try simp only [Act.put, List.setIfInBounds_toArray, List.set_cons_zero, List.set_cons_succ]
  refine wpAnyH_done (by kernel_rfl) ?_ _
  go_wp2
  refine bodyPost_ret (results_cell_row Tryd.results21 _ _ (w.heap.size + 2) 32 _ (0, 0) _ rfl H8.out Tryd.underlying32 rfl HZx.out) rfl ⟨rfl, Hb8.out⟩
end Go.Proofs.YtcbdjcmjchoagaaDoor
