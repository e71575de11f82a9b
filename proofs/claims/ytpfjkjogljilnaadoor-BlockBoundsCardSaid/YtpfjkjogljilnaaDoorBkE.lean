/-
  block: the program's Bytes.
-/
import Derived.Test.YtpfjkjogljilnaaDoorBkD
import Derived.Test.YtpfjkjogljilnaaDoorBk1
import Derived.Test.YtpfjkjogljilnaaDoorTx9
import Derived.Test.YtpfjkjogljilnaaDoorTxE
import Derived.Deep.RegionHeld3
namespace Go.Proofs.YtpfjkjogljilnaaDoor
open Go.RowKit

/-- A blob's bytes. -/
def blobB (x : List UInt8) : List UInt8 := leB x.length 4 ++ x
def txsB (l : List TxR) : List UInt8 := (l.map fun t => blobB (packT t)).flatten
/-- A block's bytes. -/
def packK (b : BkR) : List UInt8 := (blobB (packH b.h.p) ++ leB b.txs.length 2) ++ txsB b.txs
theorem blobB_len (x : List UInt8) : (blobB x).length = 4 + x.length := by rw [blobB, List.length_append, leB_length]
theorem putBlob_ok {l x : List UInt8} (h : x.length ≤ 16777216) : putBlob (some l) x = some (l ++ blobB x) := by
  have e1 : putN (some l) x.length 4 = some (l ++ leB x.length 4) := putN_ok (Z := 4) rfl (by omega)
  rw [putBlob, if_pos h, e1]
  show some ((l ++ leB x.length 4) ++ x) = _
  rw [blobB, List.append_assoc]
theorem txsB_next {l : List TxR} {k : Nat} (h : k < l.length) : txsB (l.take (k + 1)) = txsB (l.take k) ++ blobB (packT l[k]) := by
  rw [txsB, List.take_succ_eq_append_getElem h, List.map_append, List.flatten_append]
  simp [txsB]
theorem txsB_len {l : List TxR} (h : ∀ t ∈ l, (packT t).length ≤ 30000) : (txsB l).length ≤ l.length * 30004 := by
  induction l with
  | nil => simp [txsB]
  | cons t r ih =>
    have e : txsB (t :: r) = blobB (packT t) ++ txsB r := by simp [txsB]
    have h1 := ih (fun t ht => h t (List.mem_cons_of_mem _ ht))
    have h2 := h t List.mem_cons_self
    rw [e, List.length_append, blobB_len, List.length_cons]
    omega
structure FormK (b : BkR) : Prop where
  m : mayH b.h.p = true
  t : ∀ t ∈ b.txs, checkT t = 0
  n : b.txs.length ≤ 200
  d : (idsL b.txs).Nodup
  r : rootL (idsL b.txs) = b.h.p.rt
theorem checkK_ok {b : BkR} (h : checkK b = 0) : FormK b := by
  unfold checkK at h
  cases h0 : mayH b.h.p with
  | false => rw [h0] at h; cases h
  | true =>
    rw [h0] at h
    cases h1 : b.txs.any notB with
    | true => rw [h1] at h; cases h
    | false =>
      rw [h1] at h
      cases h2 : decide (b.txs.length ≤ 200) with
      | false => rw [h2] at h; cases h
      | true =>
        rw [h2] at h
        cases h3 : decide (idsL b.txs).Nodup with
        | false => rw [h3] at h; cases h
        | true =>
          rw [h3] at h
          cases h4 : (rootL (idsL b.txs) == b.h.p.rt) with
          | false => rw [h4] at h; cases h
          | true =>
            refine ⟨h0, fun t ht => ?_, of_decide_eq_true h2, of_decide_eq_true h3, eq_of_beq h4⟩
            have h5 := List.any_eq_false.1 h1 t ht
            unfold notB at h5
            cases h6 : (checkT t == 0) with
            | true => exact eq_of_beq h6
            | false => rw [h6] at h5; exact absurd rfl h5
def BkBytesPost (w : World) (b : BkR) (e : Ending) (w' : World) : Prop := (∃ A c B0, e = .returned (.tuple #[.slice A (packK b).length c, .int .i64 0]) ∧ w.heap.size ≤ B0 ∧ w'.ownsRow B0 5 1 (.slice A (packK b).length c) (packK b).length (By (packK b))) ∧ Below w.heap.size w w'

set_option maxHeartbeats 1000000 in
set_option maxRecDepth 100000 in
theorem bbytes_no (w : World) (hTb : Tabs w) (b : BkR) (h : BkOk w b) (hz : checkK b ≠ 0) : Calls Tryd.prog 7 #[.agg (bkC b).toArray] w fun e w' => e = .returned (.tuple #[.slice none 0 0, .int .i64 (checkK b)]) ∧ Below w.heap.size w w' := by
  have hb0 : Below w.heap.size w (w.alloc (.cells (bkC b).toArray 42)) := nxAl (nxRf w) _
  have HR : Hid ((w.alloc (.cells (bkC b).toArray 42)).rangeAt w.heap.size 0 (bkC b)) := blkR (heap_alloc_new w (.cells (bkC b).toArray 42))
  have HT := Lib.hid (h.later hb0)
  have HTb := Lib.hid (hTb.later hb0)
  have HZ := Lib.hid (bkSz h.h.f)
  have Hb0 := Lib.hid hb0
  obtain ⟨E, hE⟩ : ∃ E, checkK b = E := ⟨_, rfl⟩
  have HE := Lib.hid hE
  rw [hE] at hz ⊢
  have hq : (E == 0) = false := beq_eq_false_iff_ne.2 hz
  have hq2 : (E != 0) = true := by rw [bne, hq]; rfl
  clear hb0 h hTb hE hz
  go_enter Tryd.func7, Tryd.ntmps7
  go_wp2_with (first
    | ((with_reducible show wpList _ _ _ (⟨some 12, _, _, _, _, _⟩ :: _) _ _); refine wpList_load_mid rfl 42 (.tmp 1) rfl w.heap.size 0 rfl (bkC b) _ HR.out Tryd.underlying42 rfl HZ.out ?_)
    | (go_at_call 11; refine (bcheck_any (w.alloc (.cells (bkC b).toArray 42)) HTb.out b HT.out).mono ?_; rw [HE.out]; rintro e w2 ⟨rfl, hb⟩; have V2 := Lib.hid (nxTr Hb0.out hb); clear hb))
  go_ret2
  exact ⟨rfl, V2.out⟩

set_option maxHeartbeats 8000000 in
set_option maxRecDepth 100000 in
theorem bbytes_yes (w : World) (hTb : Tabs w) (b : BkR) (h : BkOk w b) (hz : checkK b = 0) : Calls Tryd.prog 7 #[.agg (bkC b).toArray] w (BkBytesPost w b) := by
  have hf := checkK_ok hz
  have hb0 : Below w.heap.size w (w.alloc (.cells (bkC b).toArray 42)) := nxAl (nxRf w) _
  have HB0 : Hid (Blk (w.alloc (.cells (bkC b).toArray 42)) w.heap.size 42 (bkC b).toArray) := heap_alloc_new w _
  have HR := Lib.hid (blkR (vs := bkC b) HB0.out)
  have HROW := Lib.hid (BkRow.of HR.out h.h.f)
  have HK := Lib.hid (h.later hb0)
  have HK0 := Lib.hid h
  have HTb := Lib.hid (hTb.later hb0)
  have HZ := Lib.hid (bkSz h.h.f)
  have HZh := Lib.hid (hdSz h.h.f)
  have Hb0 := Lib.hid hb0
  have Hlt : Hid (w.heap.size < (w.alloc (.cells (bkC b).toArray 42)).heap.size) := by show _ < _; simp
  have HMy := Lib.hid hf.m
  have HCt := Lib.hid hf.t
  have HCz := Lib.hid hz
  have hn := hf.n
  have HPl : Hid (∀ t ∈ b.txs, (packT t).length ≤ 30000) := fun t ht => packT_len (h.t.each t ht) (hf.t t ht)
  have HPh : Hid ((packH b.h.p).length ≤ 30000) := by
    show _ ≤ _
    have hm : b.h.p.ps.length ≤ 255 := of_decide_eq_true hf.m
    rw [packH_len h.h.f]; omega
  have HTl : Hid (∀ k, (txsB (b.txs.take k)).length ≤ 6000800) := by
    intro k
    have h1 := txsB_len (l := b.txs.take k) (fun t ht => HPl.out t (List.mem_of_mem_take ht))
    rw [List.length_take] at h1
    omega
  have HF : Hid (packK b = (blobB (packH b.h.p) ++ leB b.txs.length 2) ++ txsB b.txs) := rfl
  obtain ⟨F, hF⟩ : ∃ F, packK b = F := ⟨_, rfl⟩
  obtain ⟨hb, hhb⟩ : ∃ F, packH b.h.p = F := ⟨_, rfl⟩
  obtain ⟨l, hl⟩ : ∃ F, b.txs = F := ⟨_, rfl⟩
  have HHb := Lib.hid hhb
  have HLe := Lib.hid hl
  have HTS : Hid (TxsOk w b.B l b.d) := by rw [← hl]; exact h.t
  unfold BkBytesPost
  rw [hF] at HF ⊢
  rw [hhb] at HF HPh
  rw [hl] at HF HCt hn HPl HTl
  have HPut : Hid (putCount (putBlob (some []) hb) (l.length : Int) = some (blobB hb ++ leB l.length 2)) := by
    show _ = _
    rw [putBlob_ok (by have := HPh.out; omega), List.nil_append, putCntH (by omega)]
  obtain ⟨L, hL⟩ : ∃ L, blobB hb ++ leB l.length 2 = L := ⟨_, rfl⟩
  have HLl : Hid (L.length ≤ 30006) := by show _ ≤ _; rw [← hL, List.length_append, blobB_len, leB_length]; have := HPh.out; omega
  rw [hL] at HF HPut
  clear hf hb0 h hTb hz hF hhb hl hL
  go_enter Tryd.func7, Tryd.ntmps7
  go_wp2_with (first
    | ((with_reducible show wpList _ _ _ (⟨some 12, _, _, _, _, _⟩ :: _) _ _); refine wpList_load_mid rfl 42 (.tmp 1) rfl w.heap.size 0 rfl (bkC b) _ HR.out Tryd.underlying42 rfl HZ.out ?_)
    | (go_at_call 11; refine (bcheck_any (w.alloc (.cells (bkC b).toArray 42)) HTb.out b HK.out).mono ?_; rw [HCz.out]; rintro e w2 ⟨rfl, hq⟩; have V2 : Hid (Below (w.alloc (.cells (bkC b).toArray 42)).heap.size (w.alloc (.cells (bkC b).toArray 42)) w2) := hq; have R2 := Lib.hid (HROW.out.below hq Hlt.out); clear hq)
    | ((with_reducible show wpList _ _ _ (⟨some 19, _, _, _, _, _⟩ :: _) _ _); refine wpList_load_mid rfl 27 (.tmp 18) rfl w.heap.size 0 rfl (hdC b.h) _ R2.out.r Tryd.underlying27 rfl HZh.out ?_)
    | (go_at_call 4; refine (hbytes_yes w2 b.h (HK.out.h.later V2.out) HMy.out).mono ?_; unfold HBytesPost; rw [HHb.out]; rintro e w3 ⟨⟨A3, c3, B0, rfl, hB0, ho3⟩, hb3⟩; have V3 : Hid (Below (w.alloc (.cells (bkC b).toArray 42)).heap.size (w.alloc (.cells (bkC b).toArray 42)) w3) := nxTr V2.out hb3; have R3 := Lib.hid (R2.out.below hb3 (Nat.lt_of_lt_of_le Hlt.out V2.out.size)); have S3 := Lib.hid (Sees.own ho3); clear hB0 ho3 hb3))
  have HC3 : Hid (w3.cell? ⟨w.heap.size, 130, none⟩ = some (.slice b.B l.length b.d)) := by show _ = _; rw [← HLe.out]; exact R3.out.t
  have L3 : Hid (w.heap.size < w3.heap.size) := Nat.lt_of_lt_of_le Hlt.out V3.out.size
  have T3 : Hid (Tabs w3) := HTb.out.later V3.out
  have B3 : Hid (Below w.heap.size w w3) := nxTr Hb0.out V3.out
  clear R2 R3 V2 HROW HR HB0 HK HTb
  refine wp_region_held_drew (S := fun W => W.cell? ⟨w.heap.size, 130, none⟩ = some (.slice b.B l.length b.d)) (by kernel_rfl) HC3.out (fun hHeld => ?_)
  refine wpAnyH_take (i := 1) (oi := ⟨_, _, _, _, _, _⟩) (v := ?_) rfl (by kernel_rfl) (by kernel_rfl) (by kernel_rfl) (fun _ _ _ h => h) (Or.inl ⟨by rfl, ?_⟩) (by assumption) ?_
  rotate_left 1
  · intro W hSw
    try dsimp only at hSw
    go_simp
    try with_reducible rfl
  try simp only [Act.put, List.setIfInBounds_toArray, List.set_cons_zero, List.set_cons_succ]
  refine wpAnyH_take (i := 3) (oi := ⟨_, _, _, _, _, _⟩) (v := ?_) rfl (by kernel_rfl) (by kernel_rfl) (by kernel_rfl) (fun _ _ _ h => h) (Or.inl ⟨by rfl, ?_⟩) (by assumption) ?_
  rotate_left 1
  · intro W hSw
    try dsimp only at hSw
    go_simp
    try with_reducible rfl
  try simp only [Act.put, List.setIfInBounds_toArray, List.set_cons_zero, List.set_cons_succ]
  refine wpAnyH_take (i := 4) (oi := ⟨_, _, _, _, _, _⟩) (v := ?_) rfl (by kernel_rfl) (by kernel_rfl) (by kernel_rfl) (fun _ _ _ h => h) (Or.inl ⟨by rfl, ?_⟩) (by assumption) ?_
  rotate_left 1
  · intro W hSw
    have hcw := hSw
    clear hSw
    go_simp
    try with_reducible rfl
  try simp only [Act.put, List.setIfInBounds_toArray, List.set_cons_zero, List.set_cons_succ]
  refine wpAnyH_take (i := 5) (oi := ⟨_, _, _, _, _, _⟩) (v := ?_) rfl (by kernel_rfl) (by kernel_rfl) (by kernel_rfl) (fun _ _ _ h => h) (Or.inl ⟨by rfl, ?_⟩) (by assumption) ?_
  rotate_left 1
  · intro W hSw
    try dsimp only at hSw
    go_simp
    try with_reducible rfl
  try simp only [Act.put, List.setIfInBounds_toArray, List.set_cons_zero, List.set_cons_succ]
  refine wpAnyH_ready (rs := [0]) (by kernel_rfl) (by simp) ?_
  refine AllReadyH.cons rfl (fun K hK => ?_) AllReadyH.nil
  go_simp
  skip
  refine hK.out _ _ ((nxAl (nxRf w3) (.cells #[.slice none 0 0, .bool false] 54)).cell (p := ⟨w.heap.size, 130, none⟩) L3.out |>.trans HC3.out) (fun hSn => ?_)
  clear hK K
  try simp only [Act.put, List.setIfInBounds_toArray, List.set_cons_zero, List.set_cons_succ]
  refine wpAnyH_ready (rs := [2]) (by kernel_rfl) (by simp) ?_
  refine AllReadyH.cons rfl (fun K hK => ?_) AllReadyH.nil
  go_simp
  go_at_call 25
  refine (blob_s (w3.drew.alloc (.cells #[.slice none 0 0, .bool false] 54)) (fun j => w3.heap.size ≤ j) w3.heap.size (some []) (WrS.fresh w3.drew _ (Nat.le_refl _)) (fun k hk => by simp at hk; omega) w3.heap.size A3 _ c3 hb rfl ((show Sees w3.drew w3.heap.size A3 hb from S3.out).later (nxAl (nxRf w3.drew) _)) (fun hne ad had _ hs => by have := sees_lt S3.out hne had; omega) (by simp [lenS]; have := HPh.out; omega)).mono ?_
  rintro e w5 ⟨rfl, hq1, hq2⟩
  have V5 : Hid (Below w3.heap.size w3 w5) := nxUndr ((nxAl (nxRf w3.drew) _).trans (hq2.below (nxAl (nxRf w3.drew) _).size (fun k hk hs => by have h1 : w3.heap.size ≤ k := hs; have h2 : k < w3.heap.size := hk; omega)))
  have W5 : Hid (WrS w5 (fun j => w3.heap.size ≤ j) w3.heap.size (putBlob (some []) hb)) := hq1
  clear hq1 hq2
  refine hK.out _ _ ((V5.out.cell (p := ⟨w.heap.size, 130, none⟩) L3.out).trans HC3.out) (fun hSn => ?_)
  clear hK K
  try simp only [Act.put, List.setIfInBounds_toArray, List.set_cons_zero, List.set_cons_succ]
  refine wpAnyH_ready (rs := [6]) (by kernel_rfl) (by simp) ?_
  refine AllReadyH.cons rfl (fun K hK => ?_) AllReadyH.nil
  go_simp
  go_at_call 14
  refine (count_s w5 (fun j => w3.heap.size ≤ j) w3.heap.size _ W5.out (fun j hj => Nat.le_trans V5.out.size hj) (l.length : Int) (by rw [putBlob_ok (by have := HPh.out; omega)]; simp only [lenS, Option.getD_some, List.nil_append, blobB_len]; have := HPh.out; omega)).mono ?_
  rw [HPut.out]
  rintro e w6 ⟨rfl, hq1, hq2⟩
  have V6 : Hid (Below w3.heap.size w3 w6) := V5.out.trans (hq2.below V5.out.size (fun k hk hs => by have h1 : w3.heap.size ≤ k := hs; omega))
  have W6 : Hid (WrS w6 (fun j => w3.heap.size ≤ j) w3.heap.size (some L)) := hq1
  clear hq1 hq2
  refine hK.out _ _ ((V6.out.cell (p := ⟨w.heap.size, 130, none⟩) L3.out).trans HC3.out) (fun hSn => ?_)
  clear hK K
  try simp only [Act.put, List.setIfInBounds_toArray, List.set_cons_zero, List.set_cons_succ]
  refine wpAnyH_take (i := 7) (oi := ⟨_, _, _, _, _, _⟩) (v := ?_) rfl (by kernel_rfl) (by kernel_rfl) (by kernel_rfl) (fun _ _ _ h => h) (Or.inl ⟨by rfl, ?_⟩) (by assumption) ?_
  rotate_left 1
  · intro W hSw
    try dsimp only at hSw
    go_simp
    try with_reducible rfl
  try simp only [Act.put, List.setIfInBounds_toArray, List.set_cons_zero, List.set_cons_succ]
  refine wpAnyH_done (by kernel_rfl) ?_ _
  have c6 : w6.cell? ⟨w.heap.size, 130, none⟩ = some (.slice b.B l.length b.d) := (V6.out.cell (p := ⟨w.heap.size, 130, none⟩) L3.out).trans HC3.out
  clear hHeld hSn
  go_wp2
  obtain ⟨gw, hgw⟩ : ∃ g, w3.heap.size = g := ⟨_, rfl⟩
  have HGe := Lib.hid hgw
  have HGw : Hid (w.heap.size < gw) := by rw [← hgw]; exact L3.out
  rw [hgw] at V6 W6
  rw [hgw]
  clear hgw c6 W5 V5
  go_loopw [33] (fun iv wr => ∃ k : Nat, k ≤ l.length ∧ iv = .int .i64 k ∧ Hid (WrS wr (fun j => gw ≤ j) gw (some (L ++ txsB (l.take k)))) ∧ Hid (Below gw w3 wr)) (fun iv _ => l.length - (intOf iv).toNat)
  case atStart => exact ⟨0, by omega, rfl, (by rw [show txsB (l.take 0) = [] from rfl, List.append_nil]; exact W6.out), V6.out⟩
  case round =>
    clear W6 V6
    obtain ⟨k, hk, rfl, HW, Hb⟩ := hrel
    have HBg : Hid (Below w.heap.size w wr) := nxTr B3.out (by rw [HGe.out]; exact Hb.out)
    have HSz : Hid (gw ≤ wr.heap.size) := by rw [← HGe.out]; exact Hb.out.size
    by_cases hlt : k < l.length
    · have hin : (k : Int) < (l.length : Int) := by omega
      obtain ⟨bb, off, hA, hbb, hr⟩ := txsC_row HTS.out.s (by omega)
      have hrk := rngB (hr k hlt) HBg.out hbb
      have hik := (HTS.out.each _ (List.getElem_mem hlt)).later HBg.out
      have hck := HCt.out _ (List.getElem_mem hlt)
      have hpk := HPl.out _ (List.getElem_mem hlt)
      have hnx := txsB_next hlt
      have hll := HTl.out k
      rw [hA]
      obtain ⟨t, ht⟩ : ∃ i, l[k] = i := ⟨_, rfl⟩
      rw [ht] at hrk hik hck hpk hnx
      have HRk := Lib.hid hrk
      have HIk := Lib.hid hik
      have HCk := Lib.hid hck
      have HPk := Lib.hid hpk
      obtain ⟨P, hP⟩ : ∃ P, packT t = P := ⟨_, rfl⟩
      have HPe := Lib.hid hP
      rw [hP] at hnx HPk
      obtain ⟨M, hM⟩ : ∃ M, L ++ txsB (l.take k) = M := ⟨_, rfl⟩
      have HNx : Hid (L ++ txsB (l.take (k + 1)) = M ++ blobB P) := by show _ = _; rw [hnx, ← List.append_assoc, hM]
      have HMl : Hid (M.length ≤ 6030806) := by show _ ≤ _; rw [← hM, List.length_append]; have := HLl.out; omega
      rw [hM] at HW
      have HSZ : Hid ((Tryd.prog.info? 40).map (·.size) = some (txC t).length) := Tryd.sizeTx
      have HSZ' : Hid ((Tryd.prog.info? 40).map (·.size) = some (txC t).toArray.size) := Tryd.sizeTx
      have HPb : Hid (putBlob (some M) P = some (M ++ blobB P)) := putBlob_ok (by have := HPk.out; omega)
      clear hr hrk hik hck hpk ht hnx hll hA hP hM
      go_wp2_with (first
        | ((with_reducible show wpList _ _ _ (⟨some 36, _, _, _, _, _⟩ :: _) _ _); refine wpList_load_mid rfl 40 (.tmp 35) rfl bb (off + k * 3) rfl (txC t) _ HRk.out Tryd.underlying40 rfl HSZ.out ?_)
        | ((with_reducible show wpList _ _ _ (⟨none, .store 40 _ _, _, _, _, _⟩ :: _) _ _); refine wpList_store_all rfl 40 (.tmp 9) (.tmp 36) rfl wr.heap.size 40 tx0Z (txC t).toArray rfl rfl (heap_alloc_new wr _) rfl HSZ'.out (txC_one' t) ?_; intro w7 h5 h6 h7; have H7 := Lib.hid (blkR h5); have Hr7 : Hid (Below wr.heap.size wr w7) := (nxAl (nxRf wr) _).trans (h6.below (nxAl (nxRf wr) _).size (fun k hk => by omega)); clear h5 h6 h7)
        | ((with_reducible show wpList _ _ _ (⟨some 38, _, _, _, _, _⟩ :: _) _ _); refine wpList_load_mid rfl 40 (.tmp 9) rfl wr.heap.size 0 rfl (txC t) _ H7.out Tryd.underlying40 rfl HSZ.out ?_)
        | (go_at_call 26; refine (bytes_yes w7 t (HIk.out.later Hr7.out) HCk.out).mono ?_; unfold BytesPost; rw [HPe.out]; rintro e w8 ⟨⟨A8, c8, B8, rfl, hB8, ho8⟩, hb8⟩; have Hr8 : Hid (Below wr.heap.size wr w8) := nxTr Hr7.out hb8; have S8 := Lib.hid (Sees.own ho8); have HO8 : Hid (∀ ad, A8 = some ad → wr.heap.size ≤ ad.block) := (fun ad e => by have h1 := (own_lt ho8 ad.block (by subst e; rfl)).1; have := Hr7.out.size; omega); clear hB8 ho8 hb8)
        | (go_at_call 25; refine (blob_s w8 (fun j => (gw ≤ j ∧ j < wr.heap.size) ∨ w8.heap.size ≤ j) gw (some M) ((HW.out.re (S' := fun j => (gw ≤ j ∧ j < wr.heap.size) ∨ w8.heap.size ≤ j) (fun j hj hs => .inl ⟨hs, hj⟩)).below Hr8.out) (fun j hj => .inr hj) w8.heap.size A8 _ c8 P rfl S8.out (fun _ ad e hl hs => by have := HO8.out ad e; rcases hs with hs | hs; omega; omega) (by have h1 := HMl.out; have h2 := HPk.out; simp only [lenS, Option.getD_some]; omega)).mono ?_; rw [HPb.out]; rintro e w9 ⟨rfl, hq1, hq2⟩; have W9 : Hid (WrS w9 (fun j => gw ≤ j) gw (some (L ++ txsB (l.take (k + 1))))) := (by rw [HNx.out]; exact WrS.re hq1 (fun j _ hs => by rcases hs with hs | hs; exact hs.1; exact Nat.le_trans (Nat.le_trans HSz.out Hr8.out.size) hs)); have Hb9 : Hid (Below gw w3 w9) := (Hb.out.trans ⟨Hr8.out.os, Hr8.out.tape, Hr8.out.output, Hr8.out.size, fun j hj => Hr8.out.block j (Nat.lt_of_lt_of_le hj HSz.out)⟩).trans (hq2.below (Nat.le_trans HSz.out Hr8.out.size) (fun j hj hs => by have := HSz.out; have := Hr8.out.size; rcases hs with hs | hs; omega; omega)); clear hq1 hq2))
      go_roundw
      case rel => exact ⟨k + 1, by omega, by go_num, W9.out, Hb9.out⟩
      case measure => simp [intOf] <;> omega
    · obtain rfl : k = l.length := by omega
      have HWe : Hid (WrS wr (fun j => gw ≤ j) gw (some F)) := by have h := HW.out; rw [List.take_length, ← HF.out] at h; exact h
      have HFl : Hid (F.length ≤ 6030806) := by
        have h := HTl.out l.length
        rw [List.take_length] at h
        show _ ≤ _
        rw [HF.out, List.length_append]; have := HLl.out; omega
      clear hlt HF
      go_wp2_with (go_at_call 17; refine (end_s wr (fun j => gw ≤ j) gw _ HWe.out (by have h := HFl.out; unfold lenS; rw [Option.getD_some]; omega)).mono ?_; unfold EndPost; rintro e w8 ⟨⟨A9, c9, rfl, ho9⟩, hb8⟩; have HO9 := Lib.hid ho9; have V8 := Lib.hid hb8; clear ho9 hb8)
      go_ret2
      exact ⟨⟨A9, c9, wr.heap.size, rfl, HBg.out.size, HO9.out⟩, nxTr HBg.out V8.out⟩
end Go.Proofs.YtpfjkjogljilnaaDoor
