/-
  tx: ids, the program's and the document's.
-/
import Derived.Test.YtpfjkjogljilnaaDoorPBbQ7
import Derived.Test.YtpfjkjogljilnaaDoorPBbQ2
namespace Go.Proofs.YtpfjkjogljilnaaDoor
open Go.RowKit

def nmTx : ByteArray := ⟨#[116, 120]⟩
/-- A transaction's id. -/
def idT (t : TxR) : List UInt8 := bif checkT t == 0 then shaB (tagB (cutN nmTx) (packT t)) else zero32
theorem idT_len (t : TxR) : (idT t).length = 32 := by
  unfold idT
  cases checkT t == 0
  · rfl
  · exact shaB_length _
theorem packT_len {t : TxR} {w : World} (h : TxOk w t) (hz : checkT t = 0) : (packT t).length ≤ 30000 := by
  obtain ⟨⟨_, hi2⟩, ⟨_, ho2⟩, hwl⟩ := checkT_ok hz
  have h1 := insB_len (l := t.ins) (fun i hi => ⟨(h.each i hi).id, hwl i hi⟩)
  have h2 := outsB_len (l := t.outs) (fun i hi => (h.eacho i hi).lock)
  unfold packT
  simp only [List.length_append, leB_length]
  omega

set_option maxHeartbeats 1000000 in
set_option maxRecDepth 100000 in
theorem id_any (w : World) (hTb : Tabs w) (t : TxR) (h : TxOk w t) : Calls Tryd.prog 40 #[.agg (txC t).toArray] w fun e w' => e = .returned (.agg (By (idT t)).toArray) ∧ Below w.heap.size w w' := by
  have hb0 : Below w.heap.size w ((w.alloc (.cells (txC t).toArray 40)).alloc (.cells (By zero32).toArray 24)) := nxAl (nxAl (nxRf w) _) _
  have hBk : Blk ((w.alloc (.cells (txC t).toArray 40)).alloc (.cells (By zero32).toArray 24)) w.heap.size 40 (txC t).toArray := Blk.alloc (heap_alloc_new w _) _
  have hHk : Blk ((w.alloc (.cells (txC t).toArray 40)).alloc (.cells (By zero32).toArray 24)) (w.heap.size + 1) 24 (By zero32).toArray := Blk.newAt (by simp) rfl
  have HR := Lib.hid (blkR (vs := txC t) hBk)
  have HH := Lib.hid hHk
  have HT := Lib.hid (h.later hb0)
  have HTb := Lib.hid hTb
  have HZ : Hid ((Tryd.prog.info? 40).map (·.size) = some (txC t).length) := Tryd.sizeTx
  have HZ0 := Lib.hid (Tryd.hsizeB zero32 rfl)
  have Hb0 := Lib.hid hb0
  have h3 := checkT_three t
  by_cases hz : checkT t = 0
  · have HV : Hid (idT t = shaB (tagB (cutN nmTx) (packT t))) := by show _ = _; rw [idT, hz]; rfl
    have HC := Lib.hid hz
    have HL := Lib.hid (packT_len h hz)
    have HI := Lib.hid (idT_len t)
    obtain ⟨x, hx⟩ : ∃ x, idT t = x := ⟨_, rfl⟩
    obtain ⟨F, hF⟩ : ∃ F, packT t = F := ⟨_, rfl⟩
    have HF := Lib.hid hF
    rw [hx] at HV HI ⊢
    rw [hF] at HV HL
    have HZx := Lib.hid (Tryd.hsizeB x HI.out)
    have HFl : Hid (([F] : List (List UInt8)).flatten = F) := by show _ = _; simp
    clear hz h hBk hHk hb0 hx hF h3 hTb
    go_enter Tryd.func40, Tryd.ntmps40
    go_wp2_with (first
      | ((with_reducible show wpList _ _ _ (⟨some 6, _, _, _, _, _⟩ :: _) _ _); refine wpList_load_mid rfl 40 (.tmp 1) rfl w.heap.size 0 rfl (txC t) _ HR.out Tryd.underlying40 rfl HZ.out ?_)
      | (go_at_call 26; refine (bytes_yes _ t HT.out HC.out).mono ?_; unfold BytesPost; rw [HF.out]; rintro e w2 ⟨⟨A3, c3, B0, rfl, hB0, ho3⟩, hb2⟩; have Hb2 : Hid (Below w.heap.size w w2) := nxTr Hb0.out hb2; have H2 := Lib.hid (HH.out.below hb2 HH.out.lt); have S3 := Lib.hid (Sees.own ho3); have C3 := Lib.hid (own_cp ho3); clear hb2 hB0 ho3)
      | (go_at_call 29; refine (tag_any _ (HTb.out.later (nxAl Hb2.out _)) nmTx _ 1 1 [F] rfl (SeesL.one (SeesO.of S3.out (by simp)) rfl C3.out (by simp)) (by rw [HFl.out]; have := HL.out; omega) (by omega) (by show 2 ≤ _; omega)).mono ?_; rw [HFl.out, ← HV.out]; rintro e w4 ⟨rfl, hb4⟩; have Hb4 : Hid (Below w.heap.size w w4) := nxTr (nxAl Hb2.out _) hb4; have H4 := Lib.hid ((Blk.alloc H2.out _).below hb4 (Blk.alloc H2.out _).lt); clear hb4)
      | ((with_reducible show wpList _ _ _ (⟨none, .store 24 _ _, _, _, _, _⟩ :: _) _ _); refine wpList_store_all rfl 24 (.tmp 2) (.tmp 15) rfl (w.heap.size + 1) 24 (By zero32).toArray (By x).toArray rfl rfl H4.out (by rw [List.size_toArray, List.size_toArray, By_length, By_length, HI.out]; rfl) HZx.out (By_one _) ?_; intro w5 h5 h6 h7; have H5 := Lib.hid h5; have Hb5 : Hid (Below w.heap.size w w5) := Hb4.out.trans (h6.below Hb4.out.size (fun k hk => by omega)); clear h5 h6 h7))
    refine bodyPost_ret (results_cell_row Tryd.results40 _ _ (w.heap.size + 1) 24 _ (0, 0) _ rfl H5.out Tryd.underlying24 rfl HZx.out) rfl ⟨rfl, Hb5.out⟩
  · have HV : Hid (idT t = zero32) := by show _ = _; rw [idT, beq_eq_false_iff_ne.2 hz, cond_false]
    have HCz := Lib.hid hz
    obtain ⟨z, hzz⟩ : ∃ z, checkT t = z := ⟨_, rfl⟩
    have HZz := Lib.hid hzz
    rw [hzz] at h3 hz
    rw [HV.out]
    clear h hBk hHk hb0 hzz hTb
    rcases h3 with rfl | rfl | rfl
    · exact absurd rfl hz
    all_goals
      clear hz
      go_enter Tryd.func40, Tryd.ntmps40
      go_wp2_with (first
        | ((with_reducible show wpList _ _ _ (⟨some 6, _, _, _, _, _⟩ :: _) _ _); refine wpList_load_mid rfl 40 (.tmp 1) rfl w.heap.size 0 rfl (txC t) _ HR.out Tryd.underlying40 rfl HZ.out ?_)
        | (go_at_call 26; refine (bytes_no _ t HT.out HCz.out).mono ?_; rw [HZz.out]; rintro e w2 ⟨rfl, hb2⟩; have Hb2 : Hid (Below w.heap.size w w2) := nxTr Hb0.out hb2; have H2 := Lib.hid (HH.out.below hb2 HH.out.lt); clear hb2)
        | ((with_reducible show wpList _ _ _ (⟨none, .store 24 _ _, _, _, _, _⟩ :: _) _ _); refine wpList_store_all rfl 24 (.tmp 2) (.tmp 12) rfl (w.heap.size + 1) 24 (By zero32).toArray (By zero32).toArray rfl rfl H2.out rfl HZ0.out (By_one _) ?_; intro w5 h5 h6 h7; have H5 := Lib.hid h5; have Hb5 : Hid (Below w.heap.size w w5) := Hb2.out.trans (h6.below Hb2.out.size (fun k hk => by omega)); clear h5 h6 h7))
      refine bodyPost_ret (results_cell_row Tryd.results40 _ _ (w.heap.size + 1) 24 _ (0, 0) _ rfl H5.out Tryd.underlying24 rfl HZ0.out) rfl ⟨rfl, Hb5.out⟩
end Go.Proofs.YtpfjkjogljilnaaDoor
