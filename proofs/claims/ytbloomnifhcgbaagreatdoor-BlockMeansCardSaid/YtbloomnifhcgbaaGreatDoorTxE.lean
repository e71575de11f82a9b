/-
  tx: ids, the program's and the document's.
-/
import Derived.Test.YtbloomnifhcgbaaGreatDoorTxD
import Derived.Test.YtbloomnifhcgbaaGreatDoorTxt
namespace Go.Proofs.YtbloomnifhcgbaaGreatDoor
open Go.RowKit

def nmTx : ByteArray := ⟨#[116, 120]⟩
/-- A transaction's id. -/
def idT (t : TxR) : List UInt8 := bif checkT t == 0 then shaB (tagB (cutN nmTx) (packT t)) else zero32
theorem idT_len (t : TxR) : (idT t).length = 32 := by
  unfold idT
  cases checkT t == 0
  · rfl
  · exact shaB_length _
theorem packT_len {t : TxR} {w : World} (h : TxOk w t) (hz : checkT t = 0) : (packT t).length ≤ 30000 := by
  obtain ⟨⟨_, hi2⟩, ⟨_, ho2⟩, hwl⟩ := checkT_ok hz
  have h1 := insB_len (l := t.ins) (fun i hi => ⟨(h.each i hi).id, hwl i hi⟩)
  have h2 := outsB_len (l := t.outs) (fun i hi => (h.eacho i hi).lock)
  unfold packT
  simp only [List.length_append, leB_length]
  omega

set_option maxHeartbeats 1000000 in
set_option maxRecDepth 100000 in
theorem rid_any (w : World) (t : TxR) (h : TxOk w t) : Calls Tryz.prog 37 #[.agg (txC t).toArray] w fun e w' => e = .returned (.agg (By (idT t)).toArray) ∧ Below w.heap.size w w' := by
  have hb0 : Below w.heap.size w ((w.alloc (.cells (txC t).toArray 66)).alloc (.cells (By zero32).toArray 26)) := nxAl (nxAl (nxRf w) _) _
  have hBk : Blk ((w.alloc (.cells (txC t).toArray 66)).alloc (.cells (By zero32).toArray 26)) w.heap.size 66 (txC t).toArray := Blk.alloc (heap_alloc_new w _) _
  have hHk : Blk ((w.alloc (.cells (txC t).toArray 66)).alloc (.cells (By zero32).toArray 26)) (w.heap.size + 1) 26 (By zero32).toArray := Blk.newAt (by simp) rfl
  have HR := Lib.hid (blkR (vs := txC t) hBk)
  have HH := Lib.hid hHk
  have HT := Lib.hid (h.later hb0)
  have HZ : Hid ((Tryz.prog.info? 66).map (·.size) = some (txC t).length) := Tryz.sizeTx
  have HZ0 := Lib.hid (Tryz.hsizeB zero32 rfl)
  have Hb0 := Lib.hid hb0
  have Hlt : Hid (w.heap.size < ((w.alloc (.cells (txC t).toArray 66)).alloc (.cells (By zero32).toArray 26)).heap.size) := by show _ < _; simp; omega
  cases hz : checkT t == 0 with
  | false =>
    have HV : Hid (idT t = zero32) := by show _ = _; rw [idT, hz, cond_false]
    have HMy := Lib.hid hz
    rw [HV.out]
    clear hz h hBk hHk hb0
    go_enter Tryz.func37, Tryz.ntmps37
    go_wp2_with (first
      | ((with_reducible show wpList _ _ _ (⟨some 3, _, _, _, _, _⟩ :: _) _ _); refine wpList_load_mid rfl 66 (.tmp 1) rfl w.heap.size 0 rfl (txC t) _ HR.out Tryz.underlying66 rfl HZ.out ?_)
      | (go_at_call 53; refine (rmay_any _ t HT.out).mono ?_; rw [HMy.out]; rintro e w2 ⟨rfl, hb2⟩; have Hb2 : Hid (Below w.heap.size w w2) := nxTr Hb0.out hb2; have H2 := Lib.hid (HH.out.below hb2 HH.out.lt); clear hb2)
      | ((with_reducible show wpList _ _ _ (⟨none, .store 26 _ _, _, _, _, _⟩ :: _) _ _); refine wpList_store_all rfl 26 (.tmp 2) (.tmp 6) rfl (w.heap.size + 1) 26 (By zero32).toArray (By zero32).toArray rfl rfl H2.out rfl HZ0.out (By_one _) ?_; intro w5 h5 h6 h7; have H5 := Lib.hid h5; have Hb5 : Hid (Below w.heap.size w w5) := Hb2.out.trans (h6.below Hb2.out.size (fun k hk => by omega)); clear h5 h6 h7))
    refine bodyPost_ret (results_cell_row Tryz.results37 _ _ (w.heap.size + 1) 26 _ (0, 0) _ rfl H5.out Tryz.underlying26 rfl HZ0.out) rfl ⟨rfl, Hb5.out⟩
  | true =>
    have hz0 : checkT t = 0 := eq_of_beq hz
    have HV : Hid (idT t = shaB (tagB (cutN nmTx) (packT t))) := by show _ = _; rw [idT, hz, cond_true]
    have HMy := Lib.hid hz
    have HC := Lib.hid hz0
    have HL := Lib.hid (packT_len h hz0)
    have HI := Lib.hid (idT_len t)
    obtain ⟨x, hx⟩ : ∃ x, idT t = x := ⟨_, rfl⟩
    obtain ⟨F, hF⟩ : ∃ F, packT t = F := ⟨_, rfl⟩
    have HF := Lib.hid hF
    rw [hx] at HV HI ⊢
    rw [hF] at HV HL
    have HZx := Lib.hid (Tryz.hsizeB x HI.out)
    clear hz hz0 h hBk hHk hb0 hx hF
    go_enter Tryz.func37, Tryz.ntmps37
    go_wp2_with (first
      | ((with_reducible show wpList _ _ _ (⟨some 3, _, _, _, _, _⟩ :: _) _ _); refine wpList_load_mid rfl 66 (.tmp 1) rfl w.heap.size 0 rfl (txC t) _ HR.out Tryz.underlying66 rfl HZ.out ?_)
      | (go_at_call 53; refine (rmay_any _ t HT.out).mono ?_; rw [HMy.out]; rintro e w2 ⟨rfl, hb2⟩; have Hb2 : Hid (Below w.heap.size w w2) := nxTr Hb0.out hb2; have H2 := Lib.hid (HH.out.below hb2 HH.out.lt); have R2 := Lib.hid (rngB HR.out hb2 Hlt.out); have T2 := Lib.hid (HT.out.later hb2); clear hb2)
      | ((with_reducible show wpList _ _ _ (⟨some 7, _, _, _, _, _⟩ :: _) _ _); refine wpList_load_mid rfl 66 (.tmp 1) rfl w.heap.size 0 rfl (txC t) _ R2.out Tryz.underlying66 rfl HZ.out ?_)
      | (go_at_call 64; refine (pack_any w2 t T2.out HC.out).mono ?_; unfold PackPost; rw [HF.out]; rintro e w3 ⟨⟨A3, c3, rfl, hc3, hs3⟩, hb3⟩; have Hb3 : Hid (Below w.heap.size w w3) := nxTr Hb2.out hb3; have H3 := Lib.hid (H2.out.below hb3 H2.out.lt); have S3 := Lib.hid hs3; clear hc3 hs3 hb3)
      | (go_at_call 36; refine (rtag_any w3 nmTx A3 _ c3 F rfl S3.out (by have := HL.out; omega) (by show 2 ≤ _; omega)).mono ?_; rw [← HV.out]; rintro e w4 ⟨rfl, hb4⟩; have Hb4 : Hid (Below w.heap.size w w4) := nxTr Hb3.out hb4; have H4 := Lib.hid (H3.out.below hb4 H3.out.lt); clear hb4)
      | ((with_reducible show wpList _ _ _ (⟨none, .store 26 _ _, _, _, _, _⟩ :: _) _ _); refine wpList_store_all rfl 26 (.tmp 2) (.tmp 9) rfl (w.heap.size + 1) 26 (By zero32).toArray (By x).toArray rfl rfl H4.out (by rw [List.size_toArray, List.size_toArray, By_length, By_length, HI.out]; rfl) HZx.out (By_one _) ?_; intro w5 h5 h6 h7; have H5 := Lib.hid h5; have Hb5 : Hid (Below w.heap.size w w5) := Hb4.out.trans (h6.below Hb4.out.size (fun k hk => by omega)); clear h5 h6 h7))
    refine bodyPost_ret (results_cell_row Tryz.results37 _ _ (w.heap.size + 1) 26 _ (0, 0) _ rfl H5.out Tryz.underlying26 rfl HZx.out) rfl ⟨rfl, Hb5.out⟩

set_option maxHeartbeats 1000000 in
set_option maxRecDepth 100000 in
theorem id_any (w : World) (hTb : Tabs w) (t : TxR) (h : TxOk w t) : Calls Tryz.prog 91 #[.agg (txC t).toArray] w fun e w' => e = .returned (.agg (By (idT t)).toArray) ∧ Below w.heap.size w w' := by
  have hb0 : Below w.heap.size w ((w.alloc (.cells (txC t).toArray 66)).alloc (.cells (By zero32).toArray 26)) := nxAl (nxAl (nxRf w) _) _
  have hBk : Blk ((w.alloc (.cells (txC t).toArray 66)).alloc (.cells (By zero32).toArray 26)) w.heap.size 66 (txC t).toArray := Blk.alloc (heap_alloc_new w _) _
  have hHk : Blk ((w.alloc (.cells (txC t).toArray 66)).alloc (.cells (By zero32).toArray 26)) (w.heap.size + 1) 26 (By zero32).toArray := Blk.newAt (by simp) rfl
  have HR := Lib.hid (blkR (vs := txC t) hBk)
  have HH := Lib.hid hHk
  have HT := Lib.hid (h.later hb0)
  have HTb := Lib.hid hTb
  have HZ : Hid ((Tryz.prog.info? 66).map (·.size) = some (txC t).length) := Tryz.sizeTx
  have HZ0 := Lib.hid (Tryz.hsizeB zero32 rfl)
  have Hb0 := Lib.hid hb0
  have h3 := checkT_three t
  by_cases hz : checkT t = 0
  · have HV : Hid (idT t = shaB (tagB (cutN nmTx) (packT t))) := by show _ = _; rw [idT, hz]; rfl
    have HC := Lib.hid hz
    have HL := Lib.hid (packT_len h hz)
    have HI := Lib.hid (idT_len t)
    obtain ⟨x, hx⟩ : ∃ x, idT t = x := ⟨_, rfl⟩
    obtain ⟨F, hF⟩ : ∃ F, packT t = F := ⟨_, rfl⟩
    have HF := Lib.hid hF
    rw [hx] at HV HI ⊢
    rw [hF] at HV HL
    have HZx := Lib.hid (Tryz.hsizeB x HI.out)
    have HFl : Hid (([F] : List (List UInt8)).flatten = F) := by show _ = _; simp
    clear hz h hBk hHk hb0 hx hF h3 hTb
    go_enter Tryz.func91, Tryz.ntmps91
    go_wp2_with (first
      | ((with_reducible show wpList _ _ _ (⟨some 6, _, _, _, _, _⟩ :: _) _ _); refine wpList_load_mid rfl 66 (.tmp 1) rfl w.heap.size 0 rfl (txC t) _ HR.out Tryz.underlying66 rfl HZ.out ?_)
      | (go_at_call 32; refine (bytes_yes _ t HT.out HC.out).mono ?_; unfold BytesPost; rw [HF.out]; rintro e w2 ⟨⟨A3, c3, B0, rfl, hB0, ho3⟩, hb2⟩; have Hb2 : Hid (Below w.heap.size w w2) := nxTr Hb0.out hb2; have H2 := Lib.hid (HH.out.below hb2 HH.out.lt); have S3 := Lib.hid (Sees.own ho3); have C3 := Lib.hid (own_cp ho3); clear hb2 hB0 ho3)
      | (go_at_call 34; refine (tag_any _ (HTb.out.later (nxAl Hb2.out _)) nmTx _ 1 1 [F] rfl (SeesL.one (SeesO.of S3.out (by simp)) rfl C3.out (by simp)) (by rw [HFl.out]; have := HL.out; omega) (by omega) (by show 2 ≤ _; omega)).mono ?_; rw [HFl.out, ← HV.out]; rintro e w4 ⟨rfl, hb4⟩; have Hb4 : Hid (Below w.heap.size w w4) := nxTr (nxAl Hb2.out _) hb4; have H4 := Lib.hid ((Blk.alloc H2.out _).below hb4 (Blk.alloc H2.out _).lt); clear hb4)
      | ((with_reducible show wpList _ _ _ (⟨none, .store 26 _ _, _, _, _, _⟩ :: _) _ _); refine wpList_store_all rfl 26 (.tmp 2) (.tmp 15) rfl (w.heap.size + 1) 26 (By zero32).toArray (By x).toArray rfl rfl H4.out (by rw [List.size_toArray, List.size_toArray, By_length, By_length, HI.out]; rfl) HZx.out (By_one _) ?_; intro w5 h5 h6 h7; have H5 := Lib.hid h5; have Hb5 : Hid (Below w.heap.size w w5) := Hb4.out.trans (h6.below Hb4.out.size (fun k hk => by omega)); clear h5 h6 h7))
    refine bodyPost_ret (results_cell_row Tryz.results91 _ _ (w.heap.size + 1) 26 _ (0, 0) _ rfl H5.out Tryz.underlying26 rfl HZx.out) rfl ⟨rfl, Hb5.out⟩
  · have HV : Hid (idT t = zero32) := by show _ = _; rw [idT, beq_eq_false_iff_ne.2 hz, cond_false]
    have HCz := Lib.hid hz
    obtain ⟨z, hzz⟩ : ∃ z, checkT t = z := ⟨_, rfl⟩
    have HZz := Lib.hid hzz
    rw [hzz] at h3 hz
    rw [HV.out]
    clear h hBk hHk hb0 hzz hTb
    rcases h3 with rfl | rfl | rfl
    · exact absurd rfl hz
    all_goals
      clear hz
      go_enter Tryz.func91, Tryz.ntmps91
      go_wp2_with (first
        | ((with_reducible show wpList _ _ _ (⟨some 6, _, _, _, _, _⟩ :: _) _ _); refine wpList_load_mid rfl 66 (.tmp 1) rfl w.heap.size 0 rfl (txC t) _ HR.out Tryz.underlying66 rfl HZ.out ?_)
        | (go_at_call 32; refine (bytes_no _ t HT.out HCz.out).mono ?_; rw [HZz.out]; rintro e w2 ⟨rfl, hb2⟩; have Hb2 : Hid (Below w.heap.size w w2) := nxTr Hb0.out hb2; have H2 := Lib.hid (HH.out.below hb2 HH.out.lt); clear hb2)
        | ((with_reducible show wpList _ _ _ (⟨none, .store 26 _ _, _, _, _, _⟩ :: _) _ _); refine wpList_store_all rfl 26 (.tmp 2) (.tmp 12) rfl (w.heap.size + 1) 26 (By zero32).toArray (By zero32).toArray rfl rfl H2.out rfl HZ0.out (By_one _) ?_; intro w5 h5 h6 h7; have H5 := Lib.hid h5; have Hb5 : Hid (Below w.heap.size w w5) := Hb2.out.trans (h6.below Hb2.out.size (fun k hk => by omega)); clear h5 h6 h7))
      refine bodyPost_ret (results_cell_row Tryz.results91 _ _ (w.heap.size + 1) 26 _ (0, 0) _ rfl H5.out Tryz.underlying26 rfl HZ0.out) rfl ⟨rfl, Hb5.out⟩
end Go.Proofs.YtbloomnifhcgbaaGreatDoor
