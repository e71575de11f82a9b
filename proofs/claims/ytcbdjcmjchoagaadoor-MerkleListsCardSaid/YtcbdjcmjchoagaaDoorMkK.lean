/-
  merkle, the document's: Root.
-/
import Derived.Test.YtcbdjcmjchoagaaDoorMkJ
import Derived.Test.YtcbdjcmjchoagaaDoorMkI
namespace Go.Proofs.YtcbdjcmjchoagaaDoor
open Go.RowKit

theorem Sees.blk {w : World} {g : Nat} {t : TypeId} {l : List UInt8} (hb : Blk w g t (By l).toArray) : Sees w w.heap.size (some ⟨g, 0, none⟩) l := by
  refine .inr ⟨g, 0, rfl, hb.lt, fun i hi => ?_⟩
  rw [Nat.zero_add, hb.cell i]
  simp [By, hi]
theorem rootL_nil : shaB (tagB nmRoot (le8 0 ++ [])) = rootL [] := by
  rw [rootL, rootB, List.map_nil, topR_short (by simp)]
  simp only [List.length_nil, List.flatten_nil]
theorem rootL_some {ids : List (List UInt8)} (h : 1 ≤ ids.length) : shaB (tagB nmRoot (le8 ids.length ++ leftL ids)) = rootL ids := by
  have hne : ids.map leafB ≠ [] := by
    intro e
    have := congrArg List.length e
    simp at this
    rw [this] at h; simp at h
  rw [rootL, rootB, topR_eq knotB _ hne, leftL]
  simp

set_option maxHeartbeats 400000 in
set_option maxRecDepth 100000 in
theorem rroot_any (w : World) (A : Option Addr) (m c : Nat) (ids : List (List UInt8)) (hm : m = ids.length) (hc : m ≤ c) (h32 : All32 ids) (hS : SeesV w w.heap.size A (Hs ids)) (hmax : m ≤ 1048576) :
    Calls Tryd.prog 12 #[.slice A m c] w fun e w' => e = .returned (.agg (By (rootL ids)).toArray) ∧ Below w.heap.size w w' := by
  subst hm
  have hb0 : Below w.heap.size w (w.alloc (.cells (By zero32).toArray 32)) := nxAlloc (nxRefl w) _
  have B0 : Hid (Blk (w.alloc (.cells (By zero32).toArray 32)) w.heap.size 32 (By zero32).toArray) := Lib.hid (heap_alloc_new w _)
  have HS := Lib.hid ((hS.alloc (.cells (By zero32).toArray 32)).size)
  have H32 := Lib.hid h32
  have Hb0 := Lib.hid hb0
  obtain ⟨x, hx⟩ : ∃ x, rootL ids = x := ⟨_, rfl⟩
  have HXl : Hid (x.length = 32) := by show _ = _; rw [← hx, rootL_len]
  have HZ0 := Lib.hid (Tryd.hsizeB x HXl.out)
  rw [hx]
  clear hS h32
  by_cases h0 : ids.length = 0
  · obtain rfl := List.length_eq_zero_iff.mp h0
    have HX : Hid (shaB (tagB nmRoot (le8 0 ++ [])) = x) := by show _ = _; rw [rootL_nil, hx]
    clear hx h0 hmax hc
    rw [show ([] : List (List UInt8)).length = 0 from rfl]
    go_enter Tryd.func12, Tryd.ntmps12
    go_wp2_with (first
      | (go_at_call 27; refine (rtop_any _ 0 (by omega) none 0 0 [] rfl Sees.nil (by omega)).mono ?_; rw [HX.out]; rintro e w4 ⟨rfl, hb4⟩; have Hb4 := Lib.hid (nxTo Hb0.out hb4); have B4 := Lib.hid (B0.out.below hb4 B0.out.lt); clear hb4)
      | ((with_reducible show wpList _ _ _ (⟨none, .store 32 _ _, _, _, _, _⟩ :: _) _ _); refine wpList_store_all rfl 32 (.tmp 2) (.tmp 7) rfl w.heap.size 32 (By zero32).toArray (By x).toArray rfl rfl B4.out (by rw [List.size_toArray, List.size_toArray, By_length, By_length, HXl.out]; rfl) HZ0.out (By_one _) ?_; intro w5 h5 h6 h7; have H5 := Lib.hid h5; have Hb5 : Hid (Below w.heap.size w w5) := Hb4.out.trans (h6.below Hb4.out.size (fun k hk => by omega)); clear h5 h6 h7))
    refine bodyPost_ret (results_cell_row Tryd.results12 _ _ w.heap.size 32 _ (0, 0) _ rfl H5.out Tryd.underlying32 rfl HZ0.out) rfl ⟨rfl, Hb5.out⟩
  · obtain ⟨y, hy⟩ : ∃ y, leftL ids = y := ⟨_, rfl⟩
    have HX : Hid (shaB (tagB nmRoot (le8 ids.length ++ y)) = x) := by show _ = _; rw [← hy, rootL_some (by omega), hx]
    have HYl : Hid (y.length = 32) := by show _ = _; rw [← hy]; exact leftL_len (by omega)
    have HZy := Lib.hid (Tryd.hsizeB y HYl.out)
    have HY := Lib.hid hy
    have hone' : ((ids.length : Int) == 0) = false := by rw [beq_eq_false_iff_ne]; omega
    have H0 : Hid (1 ≤ ids.length) := by show _ ≤ _; omega
    have HM := Lib.hid hmax
    have HCc := Lib.hid hc
    clear hx hy h0 hmax hc
    go_enter Tryd.func12, Tryd.ntmps12
    go_wp2_with (first
      | (go_at_call 34; refine (rleft_any _ ids rfl _ A ids.length c rfl HCc.out H0.out H32.out HS.out HM.out).mono ?_; rw [HY.out]; rintro e w4 ⟨rfl, hb4⟩; have Hb4 := Lib.hid (nxTo Hb0.out hb4); have B4 := Lib.hid (B0.out.below hb4 B0.out.lt); clear hb4)
      | ((with_reducible show wpList _ _ _ (⟨none, .store 32 (.tmp 3) _, _, _, _, _⟩ :: _) _ _); change wpList _ _ _ _ _ (w4.alloc (.cells (By zero32).toArray 32)); refine wpList_store_all rfl 32 (.tmp 3) (.tmp 9) rfl w4.heap.size 32 (By zero32).toArray (By y).toArray rfl rfl (heap_alloc_new w4 _) (by rw [List.size_toArray, List.size_toArray, By_length, By_length, HYl.out]; rfl) HZy.out (By_one _) ?_; intro w5 h5 h6 h7; have H5 := Lib.hid h5; have Hs5 : Hid (Sees w5 w5.heap.size (some ⟨w4.heap.size, 0, none⟩) y) := Sees.blk H5.out; have Hc5 : Hid (Below w4.heap.size w4 w5) := (nxAlloc (nxRefl w4) _).trans (h6.below (nxAlloc (nxRefl w4) _).size (fun k hk => by omega)); have Hb5 := Lib.hid (nxTo Hb4.out Hc5.out); have B5 := Lib.hid (B4.out.below Hc5.out B4.out.lt); clear h5 h6 h7)
      | (go_at_call 27; refine (rtop_any _ ids.length (by have := HM.out; omega) _ 32 32 y HYl.out.symm Hs5.out (by omega)).mono ?_; rw [HX.out]; rintro e w6 ⟨rfl, hb6⟩; have Hb6 := Lib.hid (nxTo Hb5.out hb6); have B6 := Lib.hid (B5.out.below hb6 B5.out.lt); clear hb6)
      | ((with_reducible show wpList _ _ _ (⟨none, .store 32 (.tmp 2) _, _, _, _, _⟩ :: _) _ _); refine wpList_store_all rfl 32 (.tmp 2) (.tmp 13) rfl w.heap.size 32 (By zero32).toArray (By x).toArray rfl rfl B6.out (by rw [List.size_toArray, List.size_toArray, By_length, By_length, HXl.out]; rfl) HZ0.out (By_one _) ?_; intro w7 h5 h6 h7; have H7 := Lib.hid h5; have Hb7 : Hid (Below w.heap.size w w7) := Hb6.out.trans (h6.below Hb6.out.size (fun k hk => by omega)); clear h5 h6 h7))
    refine bodyPost_ret (results_cell_row Tryd.results12 _ _ w.heap.size 32 _ (0, 0) _ rfl H7.out Tryd.underlying32 rfl HZ0.out) rfl ⟨rfl, Hb7.out⟩
end Go.Proofs.YtcbdjcmjchoagaaDoor
