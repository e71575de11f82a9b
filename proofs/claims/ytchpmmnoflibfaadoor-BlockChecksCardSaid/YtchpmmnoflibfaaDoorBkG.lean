/-
  block, the document's: Pack.
-/
import Derived.Test.YtchpmmnoflibfaaDoorBkE
import Derived.Test.YtchpmmnoflibfaaDoorBk3
namespace Go.Proofs.YtchpmmnoflibfaaDoor
open Go.RowKit

theorem own_lower {w : World} {base base' size n : Nat} {e : TypeId} {v : Value} {xs : List Value} (h : w.ownsRow base e size v n xs) (hb : base' ≤ base) : w.ownsRow base' e size v n xs := by
  refine ⟨h.1, ?_⟩
  rcases h.2 with h2 | ⟨g', cap, cur, h1, h2, h3⟩
  · exact .inl h2
  · exact .inr ⟨g', cap, cur, h1, Nat.le_trans hb h2, h3⟩
def RPackPost (w : World) (b : BkR) (e : Ending) (w' : World) : Prop := (∃ A c, e = .returned (.slice A (packK b).length c) ∧ (packK b).length ≤ c ∧ Sees w' w'.heap.size A (packK b)) ∧ Below w.heap.size w w'

set_option maxHeartbeats 4000000 in
set_option maxRecDepth 100000 in
theorem rpack6_any (w : World) (b : BkR) (h : BkOk w b) (hf : FormK b) : Calls Tryd.prog 21 #[.agg (bkC b).toArray] w (RPackPost w b) := by
  have hb0 : Below w.heap.size w (w.alloc (.cells (bkC b).toArray 44)) := nxAl (nxRf w) _
  have HROW : Hid (BkRow (w.alloc (.cells (bkC b).toArray 44)) w.heap.size b) := BkRow.of (blkR (heap_alloc_new w (.cells (bkC b).toArray 44))) h.h.f
  have Hlt : Hid (w.heap.size < (w.alloc (.cells (bkC b).toArray 44)).heap.size) := by show _ < _; simp
  have HTS : Hid (TxsOk w b.B b.txs b.d) := h.t
  have HKh := Lib.hid (h.h.later hb0)
  have HZh := Lib.hid (hdSz h.h.f)
  have Hb0 := Lib.hid hb0
  have HMy := Lib.hid hf.m
  have HCt := Lib.hid hf.t
  have hn := hf.n
  have HPl : Hid (∀ t ∈ b.txs, (packT t).length ≤ 30000) := fun t ht => packT_len (h.t.each t ht) (hf.t t ht)
  have HPh : Hid ((packH b.h.p).length ≤ 30000) := by
    show _ ≤ _
    have hm : b.h.p.ps.length ≤ 255 := of_decide_eq_true hf.m
    rw [packH_len h.h.f]; omega
  have HTl : Hid (∀ k, (txsB (b.txs.take k)).length ≤ 6000800) := by
    intro k
    have h1 := txsB_len (l := b.txs.take k) (fun t ht => HPl.out t (List.mem_of_mem_take ht))
    rw [List.length_take] at h1
    omega
  have HF : Hid (packK b = (blobB (packH b.h.p) ++ leB b.txs.length 2) ++ txsB b.txs) := rfl
  obtain ⟨F, hF⟩ : ∃ F, packK b = F := ⟨_, rfl⟩
  obtain ⟨hb, hhb⟩ : ∃ F, packH b.h.p = F := ⟨_, rfl⟩
  obtain ⟨l, hl⟩ : ∃ F, b.txs = F := ⟨_, rfl⟩
  have HHb := Lib.hid hhb
  have HLe := Lib.hid hl
  unfold RPackPost
  rw [hF] at HF ⊢
  rw [hhb] at HF HPh
  rw [hl] at HF HCt hn HPl HTl HTS
  obtain ⟨L, hL⟩ : ∃ L, blobB hb ++ leB l.length 2 = L := ⟨_, rfl⟩
  have HLl : Hid (L.length ≤ 30006) := by show _ ≤ _; rw [← hL, List.length_append, blobB_len, leB_length]; have := HPh.out; omega
  have HLv : Hid (blobB hb ++ leB l.length 2 = L) := hL
  rw [hL] at HF
  have cT : (w.alloc (.cells (bkC b).toArray 44)).cell? ⟨w.heap.size, 130, none⟩ = some (.slice b.B l.length b.d) := by rw [← hl]; exact HROW.out.t
  have hwl : IntKind.u64.wrap (l.length : Int) = (l.length : Int) := by rw [IntKind.wrap_u64]; omega
  obtain ⟨i0, hi, hz0, hz1, hz2⟩ := info_parts Tryd.u8info
  clear hf hb0 h hF hhb hl hL
  go_enter Tryd.func21, Tryd.ntmps21
  go_wp2_with (first
    | ((with_reducible show wpList _ _ _ (⟨some 6, _, _, _, _, _⟩ :: _) _ _); refine wpList_load_mid rfl 27 (.tmp 5) rfl w.heap.size 0 rfl (hdC b.h) _ HROW.out.r Tryd.underlying27 rfl HZh.out ?_)
    | (go_at_call 14; refine (rhbytes_any (w.alloc (.cells (bkC b).toArray 44)) b.h HKh.out HMy.out).mono ?_; unfold RHBytesPost; rw [HHb.out]; rintro e w2 ⟨⟨A2, c2, rfl, hc2, hs2⟩, hb2⟩; have S2 := Lib.hid hs2; have V2 : Hid (Below (w.alloc (.cells (bkC b).toArray 44)).heap.size (w.alloc (.cells (bkC b).toArray 44)) w2) := hb2; clear hc2 hs2 hb2)
    | (go_at_call 48; refine (refBlob_any w2 w2.heap.size A2 _ c2 hb rfl S2.out (by have := HPh.out; omega)).mono ?_; rintro e w3 ⟨A3, c3, rfl, ho3, hb3⟩; have V3 : Hid (Below (w.alloc (.cells (bkC b).toArray 44)).heap.size (w.alloc (.cells (bkC b).toArray 44)) w3) := nxTr V2.out hb3; have O3 : Hid (w3.ownsRow (w.alloc (.cells (bkC b).toArray 44)).heap.size 5 1 (.slice A3 (hb.length + 4) c3) (hb.length + 4) (By (blobB hb))) := own_lower ho3 V2.out.size; have k3 : w3.cell? ⟨w.heap.size, 130, none⟩ = some (.slice b.B l.length b.d) := (V3.out.cell (p := ⟨w.heap.size, 130, none⟩) Hlt.out).trans cT; clear ho3 hb3)
    | (go_at_call 38; refine (refNumZ_any w3 l.length (by omega) 2 rfl).mono ?_; rintro e w4 ⟨A4, c4, rfl, ho4, hb4⟩; have S4 := Lib.hid (Sees.own ho4); have O4 := Lib.hid (own_gb O3.out hb4); have V4 : Hid (Below (w.alloc (.cells (bkC b).toArray 44)).heap.size (w.alloc (.cells (bkC b).toArray 44)) w4) := nxTr V3.out hb4; clear ho4 hb4)
    | ((with_reducible show wpList _ _ _ (⟨some 15, _, _, _, _, _⟩ :: _) _ _); refine wpList_append_sees rfl (.tmp 9) (.tmp 14) 28 rfl (w.alloc (.cells (bkC b).toArray 44)).heap.size 5 i0 (.int .u8 0) Tryd.underlying28 hi hz0 hz1 hz2 rfl (.slice A3 (hb.length + 4) c3) (hb.length + 4) (By (blobB hb)) rfl O4.out w4.heap.size A4 2 c4 (leB l.length 2) rfl (leB_length _ _).symm S4.out (by have := HPh.out; omega) V4.out.size ?_; intro v5 w5 ho5 hg5 hat5; obtain ⟨A5, c5, rfl⟩ := own_form ho5; have HL5 : Hid (hb.length + 4 + 2 = L.length) := (by show _ = _; rw [← HLv.out, List.length_append, blobB_len, leB_length]; omega); have O5 : Hid (w5.ownsRow (w.alloc (.cells (bkC b).toArray 44)).heap.size 5 1 (.slice A5 L.length c5) L.length (By L)) := (by rw [← HL5.out, ← HLv.out, By_append]; exact ho5); have V5 : Hid (Below (w.alloc (.cells (bkC b).toArray 44)).heap.size (w.alloc (.cells (bkC b).toArray 44)) w5) := V4.out.grown hg5 V4.out.size (fun j hj => (own_lt O4.out j hj).1); clear ho5 hg5 hat5))
  rw [HL5.out]
  clear cT k3 O3 V3 S2 V2 O4 V4 S4 hwl HLv
  generalize (w.alloc (.cells (bkC b).toArray 44)) = W at *
  go_loopw [3, 4] (fun bv iv wr => ∃ (k : Nat) (A1 : Option Addr) (c1 : Nat), k ≤ l.length ∧ iv = .int .i64 k ∧ bv = .slice A1 (L ++ txsB (l.take k)).length c1 ∧ Hid (wr.ownsRow W.heap.size 5 1 (.slice A1 (L ++ txsB (l.take k)).length c1) (L ++ txsB (l.take k)).length (By (L ++ txsB (l.take k)))) ∧ Hid (Below W.heap.size W wr)) (fun _ iv _ => l.length - (intOf iv).toNat)
  case atStart =>
    have e0 : L ++ txsB (l.take 0) = L := by rw [show txsB (l.take 0) = [] from rfl, List.append_nil]
    exact ⟨0, A5, c5, by omega, rfl, by rw [e0], by rw [e0]; exact O5.out, V5.out⟩
  case round =>
    clear O5 V5
    obtain ⟨k, A1, c1, hk, rfl, rfl, HO, Hb⟩ := hrel
    have kT : wr.cell? ⟨w.heap.size, 130, none⟩ = some (.slice b.B l.length b.d) := by
      have h1 := (HROW.out.below Hb.out Hlt.out).t
      rw [HLe.out] at h1; exact h1
    have HBg : Hid (Below w.heap.size w wr) := nxTr Hb0.out Hb.out
    by_cases hlt : k < l.length
    · have hin : (k : Int) < (l.length : Int) := by omega
      obtain ⟨bb, off, hA, hbb, hr⟩ := txsC_row HTS.out.s (by omega)
      have hrk := rngB (hr k hlt) HBg.out hbb
      have hik := (HTS.out.each _ (List.getElem_mem hlt)).later HBg.out
      have hck := HCt.out _ (List.getElem_mem hlt)
      have hpk := HPl.out _ (List.getElem_mem hlt)
      have hnx := txsB_next hlt
      have hll := HTl.out k
      rw [hA] at kT
      obtain ⟨t, ht⟩ : ∃ i, l[k] = i := ⟨_, rfl⟩
      rw [ht] at hrk hik hck hpk hnx
      have HRk := Lib.hid hrk
      have HIk := Lib.hid hik
      have HCk := Lib.hid hck
      have HPk := Lib.hid hpk
      obtain ⟨P, hP⟩ : ∃ P, packT t = P := ⟨_, rfl⟩
      have HPe := Lib.hid hP
      rw [hP] at hnx HPk
      obtain ⟨M, hM⟩ : ∃ M, L ++ txsB (l.take k) = M := ⟨_, rfl⟩
      have HNx : Hid (L ++ txsB (l.take (k + 1)) = M ++ blobB P) := by show _ = _; rw [hnx, ← List.append_assoc, hM]
      have HMl : Hid (M.length ≤ 6030806) := by show _ ≤ _; rw [← hM, List.length_append]; have := HLl.out; omega
      rw [hM] at HO ⊢
      have HSZ : Hid ((Tryd.prog.info? 59).map (·.size) = some (txC t).length) := Tryd.sizeTx
      clear hr hrk hik hck hpk ht hnx hll hA hP hM
      go_wp2_with (first
        | ((with_reducible show wpList _ _ _ (⟨some 28, _, _, _, _, _⟩ :: _) _ _); refine wpList_load_mid rfl 59 (.tmp 27) rfl bb (off + k * 3) rfl (txC t) _ HRk.out Tryd.underlying59 rfl HSZ.out ?_)
        | (go_at_call 49; refine (pack_any wr t HIk.out HCk.out).mono ?_; unfold PackPost; rw [HPe.out]; rintro e w7 ⟨⟨A7, c7, rfl, hc7, hs7⟩, hb7⟩; have S7 := Lib.hid hs7; have O7 := Lib.hid (own_gb HO.out hb7); have V7 : Hid (Below W.heap.size W w7) := nxTr Hb.out hb7; clear hc7 hs7 hb7)
        | (go_at_call 48; refine (refBlob_any w7 w7.heap.size A7 _ c7 P rfl S7.out (by have := HPk.out; omega)).mono ?_; rintro e w8 ⟨A8, c8, rfl, ho8, hb8⟩; have S8 : Hid (Sees w8 w8.heap.size A8 (blobB P)) := Sees.own ho8; have O8 := Lib.hid (own_gb O7.out hb8); have V8 : Hid (Below W.heap.size W w8) := nxTr V7.out hb8; clear ho8 hb8)
        | ((with_reducible show wpList _ _ _ (⟨some 31, _, _, _, _, _⟩ :: _) _ _); refine wpList_append_sees rfl (.tmp 23) (.tmp 30) 28 rfl W.heap.size 5 i0 (.int .u8 0) Tryd.underlying28 hi hz0 hz1 hz2 rfl (.slice A1 M.length c1) M.length (By M) rfl O8.out w8.heap.size A8 (P.length + 4) c8 (blobB P) rfl (by rw [blobB_len]; omega) S8.out (by have := HMl.out; have := HPk.out; omega) V8.out.size ?_; intro v9 w9 ho9 hg9 hat9; obtain ⟨A9, c9, rfl⟩ := own_form ho9; have HL9 : Hid (M.length + (P.length + 4) = (M ++ blobB P).length) := (by show _ = _; rw [List.length_append, blobB_len]; omega); have O9 : Hid (w9.ownsRow W.heap.size 5 1 (.slice A9 (M ++ blobB P).length c9) (M ++ blobB P).length (By (M ++ blobB P))) := (by rw [← HL9.out, By_append]; exact ho9); have V9 : Hid (Below W.heap.size W w9) := V8.out.grown hg9 V8.out.size (fun j hj => (own_lt O8.out j hj).1); clear ho9 hg9 hat9))
      rw [HL9.out]
      go_roundw
      case rel => exact ⟨k + 1, A9, c9, by omega, by go_num, by rw [HNx.out], by rw [HNx.out]; exact O9.out, V9.out⟩
      case measure => simp [intOf] <;> omega
    · obtain rfl : k = l.length := by omega
      have e1 : L ++ txsB (l.take l.length) = F := by rw [List.take_length, HF.out]
      rw [e1] at HO ⊢
      clear hlt e1 HF
      go_wp2
      go_ret
      exact ⟨⟨A1, c1, rfl, own_cp HO.out, Sees.own HO.out⟩, HBg.out⟩
end Go.Proofs.YtchpmmnoflibfaaDoor
