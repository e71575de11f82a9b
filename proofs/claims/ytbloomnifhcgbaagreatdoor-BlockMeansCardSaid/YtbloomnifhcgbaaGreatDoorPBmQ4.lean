/-
  block: the program's Bytes.
  block, the document's: ids, Root, Check.
-/
import Derived.Test.YtbloomnifhcgbaaGreatDoorBkD
import Derived.Test.YtbloomnifhcgbaaGreatDoorBk1
import Derived.Test.YtbloomnifhcgbaaGreatDoorTx9
import Derived.Test.YtbloomnifhcgbaaGreatDoorTxE
import Derived.Deep.RegionHeld3
import Derived.Test.YtbloomnifhcgbaaGreatDoorBk7
import Derived.Test.YtbloomnifhcgbaaGreatDoorTxA
import Derived.Test.YtbloomnifhcgbaaGreatDoorMkK
import Derived.Test.YtbloomnifhcgbaaGreatDoorRg
namespace Go.Proofs.YtbloomnifhcgbaaGreatDoor
open Go.RowKit

/-- A blob's bytes. -/
def blobB (x : List UInt8) : List UInt8 := leB x.length 4 ++ x
def txsB (l : List TxR) : List UInt8 := (l.map fun t => blobB (packT t)).flatten
/-- A block's bytes. -/
def packK (b : BkR) : List UInt8 := (blobB (packH b.h.p) ++ leB b.txs.length 2) ++ txsB b.txs
theorem blobB_len (x : List UInt8) : (blobB x).length = 4 + x.length := by rw [blobB, List.length_append, leB_length]
theorem putBlob_ok {l x : List UInt8} (h : x.length ≤ 16777216) : putBlob (some l) x = some (l ++ blobB x) := by
  have e1 : putN (some l) x.length 4 = some (l ++ leB x.length 4) := putN_ok (Z := 4) rfl (by omega)
  rw [putBlob, if_pos h, e1]
  show some ((l ++ leB x.length 4) ++ x) = _
  rw [blobB, List.append_assoc]
theorem txsB_next {l : List TxR} {k : Nat} (h : k < l.length) : txsB (l.take (k + 1)) = txsB (l.take k) ++ blobB (packT l[k]) := by
  rw [txsB, List.take_succ_eq_append_getElem h, List.map_append, List.flatten_append]
  simp [txsB]
theorem txsB_len {l : List TxR} (h : ∀ t ∈ l, (packT t).length ≤ 30000) : (txsB l).length ≤ l.length * 30004 := by
  induction l with
  | nil => simp [txsB]
  | cons t r ih =>
    have e : txsB (t :: r) = blobB (packT t) ++ txsB r := by simp [txsB]
    have h1 := ih (fun t ht => h t (List.mem_cons_of_mem _ ht))
    have h2 := h t List.mem_cons_self
    rw [e, List.length_append, blobB_len, List.length_cons]
    omega
structure FormK (b : BkR) : Prop where
  m : mayH b.h.p = true
  t : ∀ t ∈ b.txs, checkT t = 0
  n : b.txs.length ≤ 200
  d : (idsL b.txs).Nodup
  r : rootL (idsL b.txs) = b.h.p.rt
theorem checkK_ok {b : BkR} (h : checkK b = 0) : FormK b := by
  unfold checkK at h
  cases h0 : mayH b.h.p with
  | false => rw [h0] at h; cases h
  | true =>
    rw [h0] at h
    cases h1 : b.txs.any notB with
    | true => rw [h1] at h; cases h
    | false =>
      rw [h1] at h
      cases h2 : decide (b.txs.length ≤ 200) with
      | false => rw [h2] at h; cases h
      | true =>
        rw [h2] at h
        cases h3 : decide (idsL b.txs).Nodup with
        | false => rw [h3] at h; cases h
        | true =>
          rw [h3] at h
          cases h4 : (rootL (idsL b.txs) == b.h.p.rt) with
          | false => rw [h4] at h; cases h
          | true =>
            refine ⟨h0, fun t ht => ?_, of_decide_eq_true h2, of_decide_eq_true h3, eq_of_beq h4⟩
            have h5 := List.any_eq_false.1 h1 t ht
            unfold notB at h5
            cases h6 : (checkT t == 0) with
            | true => exact eq_of_beq h6
            | false => rw [h6] at h5; exact absurd rfl h5
def BkBytesPost (w : World) (b : BkR) (e : Ending) (w' : World) : Prop := (∃ A c B0, e = .returned (.tuple #[.slice A (packK b).length c, .int .i64 0]) ∧ w.heap.size ≤ B0 ∧ w'.ownsRow B0 5 1 (.slice A (packK b).length c) (packK b).length (By (packK b))) ∧ Below w.heap.size w w'

set_option maxHeartbeats 1000000 in
set_option maxRecDepth 100000 in
theorem bbytes_no (w : World) (hTb : Tabs w) (b : BkR) (h : BkOk w b) (hz : checkK b ≠ 0) : Calls Tryz.prog 11 #[.agg (bkC b).toArray] w fun e w' => e = .returned (.tuple #[.slice none 0 0, .int .i64 (checkK b)]) ∧ Below w.heap.size w w' := by
  have hb0 : Below w.heap.size w (w.alloc (.cells (bkC b).toArray 32)) := nxAl (nxRf w) _
  have HR : Hid ((w.alloc (.cells (bkC b).toArray 32)).rangeAt w.heap.size 0 (bkC b)) := blkR (heap_alloc_new w (.cells (bkC b).toArray 32))
  have HT := Lib.hid (h.later hb0)
  have HTb := Lib.hid (hTb.later hb0)
  have HZ := Lib.hid (bkSz h.h.f)
  have Hb0 := Lib.hid hb0
  obtain ⟨E, hE⟩ : ∃ E, checkK b = E := ⟨_, rfl⟩
  have HE := Lib.hid hE
  rw [hE] at hz ⊢
  have hq : (E == 0) = false := beq_eq_false_iff_ne.2 hz
  have hq2 : (E != 0) = true := by rw [bne, hq]; rfl
  clear hb0 h hTb hE hz
  go_enter Tryz.func11, Tryz.ntmps11
  go_wp2_with (first
    | ((with_reducible show wpList _ _ _ (⟨some 12, _, _, _, _, _⟩ :: _) _ _); refine wpList_load_mid rfl 32 (.tmp 1) rfl w.heap.size 0 rfl (bkC b) _ HR.out Tryz.underlying32 rfl HZ.out ?_)
    | (go_at_call 20; refine (bcheck_any (w.alloc (.cells (bkC b).toArray 32)) HTb.out b HT.out).mono ?_; rw [HE.out]; rintro e w2 ⟨rfl, hb⟩; have V2 := Lib.hid (nxTr Hb0.out hb); clear hb))
  go_ret2
  exact ⟨rfl, V2.out⟩

set_option maxHeartbeats 8000000 in
set_option maxRecDepth 100000 in
theorem bbytes_yes (w : World) (hTb : Tabs w) (b : BkR) (h : BkOk w b) (hz : checkK b = 0) : Calls Tryz.prog 11 #[.agg (bkC b).toArray] w (BkBytesPost w b) := by
  have hf := checkK_ok hz
  have hb0 : Below w.heap.size w (w.alloc (.cells (bkC b).toArray 32)) := nxAl (nxRf w) _
  have HB0 : Hid (Blk (w.alloc (.cells (bkC b).toArray 32)) w.heap.size 32 (bkC b).toArray) := heap_alloc_new w _
  have HR := Lib.hid (blkR (vs := bkC b) HB0.out)
  have HROW := Lib.hid (BkRow.of HR.out h.h.f)
  have HK := Lib.hid (h.later hb0)
  have HK0 := Lib.hid h
  have HTb := Lib.hid (hTb.later hb0)
  have HZ := Lib.hid (bkSz h.h.f)
  have HZh := Lib.hid (hdSz h.h.f)
  have Hb0 := Lib.hid hb0
  have Hlt : Hid (w.heap.size < (w.alloc (.cells (bkC b).toArray 32)).heap.size) := by show _ < _; simp
  have HMy := Lib.hid hf.m
  have HCt := Lib.hid hf.t
  have HCz := Lib.hid hz
  have hn := hf.n
  have HPl : Hid (∀ t ∈ b.txs, (packT t).length ≤ 30000) := fun t ht => packT_len (h.t.each t ht) (hf.t t ht)
  have HPh : Hid ((packH b.h.p).length ≤ 30000) := by
    show _ ≤ _
    have hm : b.h.p.ps.length ≤ 255 := of_decide_eq_true hf.m
    rw [packH_len h.h.f]; omega
  have HTl : Hid (∀ k, (txsB (b.txs.take k)).length ≤ 6000800) := by
    intro k
    have h1 := txsB_len (l := b.txs.take k) (fun t ht => HPl.out t (List.mem_of_mem_take ht))
    rw [List.length_take] at h1
    omega
  have HF : Hid (packK b = (blobB (packH b.h.p) ++ leB b.txs.length 2) ++ txsB b.txs) := rfl
  obtain ⟨F, hF⟩ : ∃ F, packK b = F := ⟨_, rfl⟩
  obtain ⟨hb, hhb⟩ : ∃ F, packH b.h.p = F := ⟨_, rfl⟩
  obtain ⟨l, hl⟩ : ∃ F, b.txs = F := ⟨_, rfl⟩
  have HHb := Lib.hid hhb
  have HLe := Lib.hid hl
  have HTS : Hid (TxsOk w b.B l b.d) := by rw [← hl]; exact h.t
  unfold BkBytesPost
  rw [hF] at HF ⊢
  rw [hhb] at HF HPh
  rw [hl] at HF HCt hn HPl HTl
  have HPut : Hid (putCount (putBlob (some []) hb) (l.length : Int) = some (blobB hb ++ leB l.length 2)) := by
    show _ = _
    rw [putBlob_ok (by have := HPh.out; omega), List.nil_append, putCntH (by omega)]
  obtain ⟨L, hL⟩ : ∃ L, blobB hb ++ leB l.length 2 = L := ⟨_, rfl⟩
  have HLl : Hid (L.length ≤ 30006) := by show _ ≤ _; rw [← hL, List.length_append, blobB_len, leB_length]; have := HPh.out; omega
  rw [hL] at HF HPut
  clear hf hb0 h hTb hz hF hhb hl hL
  go_enter Tryz.func11, Tryz.ntmps11
  go_wp2_with (first
    | ((with_reducible show wpList _ _ _ (⟨some 12, _, _, _, _, _⟩ :: _) _ _); refine wpList_load_mid rfl 32 (.tmp 1) rfl w.heap.size 0 rfl (bkC b) _ HR.out Tryz.underlying32 rfl HZ.out ?_)
    | (go_at_call 20; refine (bcheck_any (w.alloc (.cells (bkC b).toArray 32)) HTb.out b HK.out).mono ?_; rw [HCz.out]; rintro e w2 ⟨rfl, hq⟩; have V2 : Hid (Below (w.alloc (.cells (bkC b).toArray 32)).heap.size (w.alloc (.cells (bkC b).toArray 32)) w2) := hq; have R2 := Lib.hid (HROW.out.below hq Hlt.out); clear hq)
    | ((with_reducible show wpList _ _ _ (⟨some 19, _, _, _, _, _⟩ :: _) _ _); refine wpList_load_mid rfl 29 (.tmp 18) rfl w.heap.size 0 rfl (hdC b.h) _ R2.out.r Tryz.underlying29 rfl HZh.out ?_)
    | (go_at_call 14; refine (hbytes_yes w2 b.h (HK.out.h.later V2.out) HMy.out).mono ?_; unfold HBytesPost; rw [HHb.out]; rintro e w3 ⟨⟨A3, c3, B0, rfl, hB0, ho3⟩, hb3⟩; have V3 : Hid (Below (w.alloc (.cells (bkC b).toArray 32)).heap.size (w.alloc (.cells (bkC b).toArray 32)) w3) := nxTr V2.out hb3; have R3 := Lib.hid (R2.out.below hb3 (Nat.lt_of_lt_of_le Hlt.out V2.out.size)); have S3 := Lib.hid (Sees.own ho3); clear hB0 ho3 hb3))
  have HC3 : Hid (w3.cell? ⟨w.heap.size, 130, none⟩ = some (.slice b.B l.length b.d)) := by show _ = _; rw [← HLe.out]; exact R3.out.t
  have L3 : Hid (w.heap.size < w3.heap.size) := Nat.lt_of_lt_of_le Hlt.out V3.out.size
  have T3 : Hid (Tabs w3) := HTb.out.later V3.out
  have B3 : Hid (Below w.heap.size w w3) := nxTr Hb0.out V3.out
  clear R2 R3 V2 HROW HR HB0 HK HTb
  refine wp_region_held_drew (S := fun W => W.cell? ⟨w.heap.size, 130, none⟩ = some (.slice b.B l.length b.d)) (by kernel_rfl) HC3.out (fun hHeld => ?_)
  refine wpAnyH_take (i := 1) (oi := ⟨_, _, _, _, _, _⟩) (v := ?_) rfl (by kernel_rfl) (by kernel_rfl) (by kernel_rfl) (fun _ _ _ h => h) (Or.inl ⟨by rfl, ?_⟩) (by assumption) ?_
  rotate_left 1
  · intro W hSw
    try dsimp only at hSw
    go_simp
    try with_reducible rfl
  try simp only [Act.put, List.setIfInBounds_toArray, List.set_cons_zero, List.set_cons_succ]
  refine wpAnyH_take (i := 3) (oi := ⟨_, _, _, _, _, _⟩) (v := ?_) rfl (by kernel_rfl) (by kernel_rfl) (by kernel_rfl) (fun _ _ _ h => h) (Or.inl ⟨by rfl, ?_⟩) (by assumption) ?_
  rotate_left 1
  · intro W hSw
    try dsimp only at hSw
    go_simp
    try with_reducible rfl
  try simp only [Act.put, List.setIfInBounds_toArray, List.set_cons_zero, List.set_cons_succ]
  refine wpAnyH_take (i := 4) (oi := ⟨_, _, _, _, _, _⟩) (v := ?_) rfl (by kernel_rfl) (by kernel_rfl) (by kernel_rfl) (fun _ _ _ h => h) (Or.inl ⟨by rfl, ?_⟩) (by assumption) ?_
  rotate_left 1
  · intro W hSw
    have hcw := hSw
    clear hSw
    go_simp
    try with_reducible rfl
  try simp only [Act.put, List.setIfInBounds_toArray, List.set_cons_zero, List.set_cons_succ]
  refine wpAnyH_take (i := 5) (oi := ⟨_, _, _, _, _, _⟩) (v := ?_) rfl (by kernel_rfl) (by kernel_rfl) (by kernel_rfl) (fun _ _ _ h => h) (Or.inl ⟨by rfl, ?_⟩) (by assumption) ?_
  rotate_left 1
  · intro W hSw
    try dsimp only at hSw
    go_simp
    try with_reducible rfl
  try simp only [Act.put, List.setIfInBounds_toArray, List.set_cons_zero, List.set_cons_succ]
  refine wpAnyH_ready (rs := [0]) (by kernel_rfl) (by simp) ?_
  refine AllReadyH.cons rfl (fun K hK => ?_) AllReadyH.nil
  go_simp
  skip
  refine hK.out _ _ ((nxAl (nxRf w3) (.cells #[.slice none 0 0, .bool false] 75)).cell (p := ⟨w.heap.size, 130, none⟩) L3.out |>.trans HC3.out) (fun hSn => ?_)
  clear hK K
  try simp only [Act.put, List.setIfInBounds_toArray, List.set_cons_zero, List.set_cons_succ]
  refine wpAnyH_ready (rs := [2]) (by kernel_rfl) (by simp) ?_
  refine AllReadyH.cons rfl (fun K hK => ?_) AllReadyH.nil
  go_simp
  go_at_call 30
  refine (blob_s (w3.drew.alloc (.cells #[.slice none 0 0, .bool false] 75)) (fun j => w3.heap.size ≤ j) w3.heap.size (some []) (WrS.fresh w3.drew _ (Nat.le_refl _)) (fun k hk => by simp at hk; omega) w3.heap.size A3 _ c3 hb rfl ((show Sees w3.drew w3.heap.size A3 hb from S3.out).later (nxAl (nxRf w3.drew) _)) (fun hne ad had _ hs => by have := sees_lt S3.out hne had; omega) (by simp [lenS]; have := HPh.out; omega)).mono ?_
  rintro e w5 ⟨rfl, hq1, hq2⟩
  have V5 : Hid (Below w3.heap.size w3 w5) := nxUndr ((nxAl (nxRf w3.drew) _).trans (hq2.below (nxAl (nxRf w3.drew) _).size (fun k hk hs => by have h1 : w3.heap.size ≤ k := hs; have h2 : k < w3.heap.size := hk; omega)))
  have W5 : Hid (WrS w5 (fun j => w3.heap.size ≤ j) w3.heap.size (putBlob (some []) hb)) := hq1
  clear hq1 hq2
  refine hK.out _ _ ((V5.out.cell (p := ⟨w.heap.size, 130, none⟩) L3.out).trans HC3.out) (fun hSn => ?_)
  clear hK K
  try simp only [Act.put, List.setIfInBounds_toArray, List.set_cons_zero, List.set_cons_succ]
  refine wpAnyH_ready (rs := [6]) (by kernel_rfl) (by simp) ?_
  refine AllReadyH.cons rfl (fun K hK => ?_) AllReadyH.nil
  go_simp
  go_at_call 31
  refine (count_s w5 (fun j => w3.heap.size ≤ j) w3.heap.size _ W5.out (fun j hj => Nat.le_trans V5.out.size hj) (l.length : Int) (by rw [putBlob_ok (by have := HPh.out; omega)]; simp only [lenS, Option.getD_some, List.nil_append, blobB_len]; have := HPh.out; omega)).mono ?_
  rw [HPut.out]
  rintro e w6 ⟨rfl, hq1, hq2⟩
  have V6 : Hid (Below w3.heap.size w3 w6) := V5.out.trans (hq2.below V5.out.size (fun k hk hs => by have h1 : w3.heap.size ≤ k := hs; omega))
  have W6 : Hid (WrS w6 (fun j => w3.heap.size ≤ j) w3.heap.size (some L)) := hq1
  clear hq1 hq2
  refine hK.out _ _ ((V6.out.cell (p := ⟨w.heap.size, 130, none⟩) L3.out).trans HC3.out) (fun hSn => ?_)
  clear hK K
  try simp only [Act.put, List.setIfInBounds_toArray, List.set_cons_zero, List.set_cons_succ]
  refine wpAnyH_take (i := 7) (oi := ⟨_, _, _, _, _, _⟩) (v := ?_) rfl (by kernel_rfl) (by kernel_rfl) (by kernel_rfl) (fun _ _ _ h => h) (Or.inl ⟨by rfl, ?_⟩) (by assumption) ?_
  rotate_left 1
  · intro W hSw
    try dsimp only at hSw
    go_simp
    try with_reducible rfl
  try simp only [Act.put, List.setIfInBounds_toArray, List.set_cons_zero, List.set_cons_succ]
  refine wpAnyH_done (by kernel_rfl) ?_ _
  have c6 : w6.cell? ⟨w.heap.size, 130, none⟩ = some (.slice b.B l.length b.d) := (V6.out.cell (p := ⟨w.heap.size, 130, none⟩) L3.out).trans HC3.out
  clear hHeld hSn
  go_wp2
  obtain ⟨gw, hgw⟩ : ∃ g, w3.heap.size = g := ⟨_, rfl⟩
  have HGe := Lib.hid hgw
  have HGw : Hid (w.heap.size < gw) := by rw [← hgw]; exact L3.out
  rw [hgw] at V6 W6
  rw [hgw]
  clear hgw c6 W5 V5
  go_loopw [33] (fun iv wr => ∃ k : Nat, k ≤ l.length ∧ iv = .int .i64 k ∧ Hid (WrS wr (fun j => gw ≤ j) gw (some (L ++ txsB (l.take k)))) ∧ Hid (Below gw w3 wr)) (fun iv _ => l.length - (intOf iv).toNat)
  case atStart => exact ⟨0, by omega, rfl, (by rw [show txsB (l.take 0) = [] from rfl, List.append_nil]; exact W6.out), V6.out⟩
  case round =>
    clear W6 V6
    obtain ⟨k, hk, rfl, HW, Hb⟩ := hrel
    have HBg : Hid (Below w.heap.size w wr) := nxTr B3.out (by rw [HGe.out]; exact Hb.out)
    have HSz : Hid (gw ≤ wr.heap.size) := by rw [← HGe.out]; exact Hb.out.size
    by_cases hlt : k < l.length
    · have hin : (k : Int) < (l.length : Int) := by omega
      obtain ⟨bb, off, hA, hbb, hr⟩ := txsC_row HTS.out.s (by omega)
      have hrk := rngB (hr k hlt) HBg.out hbb
      have hik := (HTS.out.each _ (List.getElem_mem hlt)).later HBg.out
      have hck := HCt.out _ (List.getElem_mem hlt)
      have hpk := HPl.out _ (List.getElem_mem hlt)
      have hnx := txsB_next hlt
      have hll := HTl.out k
      rw [hA]
      obtain ⟨t, ht⟩ : ∃ i, l[k] = i := ⟨_, rfl⟩
      rw [ht] at hrk hik hck hpk hnx
      have HRk := Lib.hid hrk
      have HIk := Lib.hid hik
      have HCk := Lib.hid hck
      have HPk := Lib.hid hpk
      obtain ⟨P, hP⟩ : ∃ P, packT t = P := ⟨_, rfl⟩
      have HPe := Lib.hid hP
      rw [hP] at hnx HPk
      obtain ⟨M, hM⟩ : ∃ M, L ++ txsB (l.take k) = M := ⟨_, rfl⟩
      have HNx : Hid (L ++ txsB (l.take (k + 1)) = M ++ blobB P) := by show _ = _; rw [hnx, ← List.append_assoc, hM]
      have HMl : Hid (M.length ≤ 6030806) := by show _ ≤ _; rw [← hM, List.length_append]; have := HLl.out; omega
      rw [hM] at HW
      have HSZ : Hid ((Tryz.prog.info? 66).map (·.size) = some (txC t).length) := Tryz.sizeTx
      have HSZ' : Hid ((Tryz.prog.info? 66).map (·.size) = some (txC t).toArray.size) := Tryz.sizeTx
      have HPb : Hid (putBlob (some M) P = some (M ++ blobB P)) := putBlob_ok (by have := HPk.out; omega)
      clear hr hrk hik hck hpk ht hnx hll hA hP hM
      go_wp2_with (first
        | ((with_reducible show wpList _ _ _ (⟨some 36, _, _, _, _, _⟩ :: _) _ _); refine wpList_load_mid rfl 66 (.tmp 35) rfl bb (off + k * 3) rfl (txC t) _ HRk.out Tryz.underlying66 rfl HSZ.out ?_)
        | ((with_reducible show wpList _ _ _ (⟨none, .store 66 _ _, _, _, _, _⟩ :: _) _ _); refine wpList_store_all rfl 66 (.tmp 9) (.tmp 36) rfl wr.heap.size 66 tx0Z (txC t).toArray rfl rfl (heap_alloc_new wr _) rfl HSZ'.out (txC_one' t) ?_; intro w7 h5 h6 h7; have H7 := Lib.hid (blkR h5); have Hr7 : Hid (Below wr.heap.size wr w7) := (nxAl (nxRf wr) _).trans (h6.below (nxAl (nxRf wr) _).size (fun k hk => by omega)); clear h5 h6 h7)
        | ((with_reducible show wpList _ _ _ (⟨some 38, _, _, _, _, _⟩ :: _) _ _); refine wpList_load_mid rfl 66 (.tmp 9) rfl wr.heap.size 0 rfl (txC t) _ H7.out Tryz.underlying66 rfl HSZ.out ?_)
        | (go_at_call 32; refine (bytes_yes w7 t (HIk.out.later Hr7.out) HCk.out).mono ?_; unfold BytesPost; rw [HPe.out]; rintro e w8 ⟨⟨A8, c8, B8, rfl, hB8, ho8⟩, hb8⟩; have Hr8 : Hid (Below wr.heap.size wr w8) := nxTr Hr7.out hb8; have S8 := Lib.hid (Sees.own ho8); have HO8 : Hid (∀ ad, A8 = some ad → wr.heap.size ≤ ad.block) := (fun ad e => by have h1 := (own_lt ho8 ad.block (by subst e; rfl)).1; have := Hr7.out.size; omega); clear hB8 ho8 hb8)
        | (go_at_call 30; refine (blob_s w8 (fun j => (gw ≤ j ∧ j < wr.heap.size) ∨ w8.heap.size ≤ j) gw (some M) ((HW.out.re (S' := fun j => (gw ≤ j ∧ j < wr.heap.size) ∨ w8.heap.size ≤ j) (fun j hj hs => .inl ⟨hs, hj⟩)).below Hr8.out) (fun j hj => .inr hj) w8.heap.size A8 _ c8 P rfl S8.out (fun _ ad e hl hs => by have := HO8.out ad e; rcases hs with hs | hs; omega; omega) (by have h1 := HMl.out; have h2 := HPk.out; simp only [lenS, Option.getD_some]; omega)).mono ?_; rw [HPb.out]; rintro e w9 ⟨rfl, hq1, hq2⟩; have W9 : Hid (WrS w9 (fun j => gw ≤ j) gw (some (L ++ txsB (l.take (k + 1))))) := (by rw [HNx.out]; exact WrS.re hq1 (fun j _ hs => by rcases hs with hs | hs; exact hs.1; exact Nat.le_trans (Nat.le_trans HSz.out Hr8.out.size) hs)); have Hb9 : Hid (Below gw w3 w9) := (Hb.out.trans ⟨Hr8.out.os, Hr8.out.tape, Hr8.out.output, Hr8.out.size, fun j hj => Hr8.out.block j (Nat.lt_of_lt_of_le hj HSz.out)⟩).trans (hq2.below (Nat.le_trans HSz.out Hr8.out.size) (fun j hj hs => by have := HSz.out; have := Hr8.out.size; rcases hs with hs | hs; omega; omega)); clear hq1 hq2))
      go_roundw
      case rel => exact ⟨k + 1, by omega, by go_num, W9.out, Hb9.out⟩
      case measure => simp [intOf] <;> omega
    · obtain rfl : k = l.length := by omega
      have HWe : Hid (WrS wr (fun j => gw ≤ j) gw (some F)) := by have h := HW.out; rw [List.take_length, ← HF.out] at h; exact h
      have HFl : Hid (F.length ≤ 6030806) := by
        have h := HTl.out l.length
        rw [List.take_length] at h
        show _ ≤ _
        rw [HF.out, List.length_append]; have := HLl.out; omega
      clear hlt HF
      go_wp2_with (go_at_call 33; refine (end_s wr (fun j => gw ≤ j) gw _ HWe.out (by have h := HFl.out; unfold lenS; rw [Option.getD_some]; omega)).mono ?_; unfold EndPost; rintro e w8 ⟨⟨A9, c9, rfl, ho9⟩, hb8⟩; have HO9 := Lib.hid ho9; have V8 := Lib.hid hb8; clear ho9 hb8)
      go_ret2
      exact ⟨⟨A9, c9, wr.heap.size, rfl, HBg.out.size, HO9.out⟩, nxTr HBg.out V8.out⟩
end Go.Proofs.YtbloomnifhcgbaaGreatDoor

namespace Go.Proofs.YtbloomnifhcgbaaGreatDoor
open Go.RowKit

set_option maxHeartbeats 2000000 in
set_option maxRecDepth 100000 in
theorem rids_any (w : World) (B : Option Addr) (l : List TxR) (d : Nat) (k : TxsOk w B l d) (hmax : l.length ≤ 1000) :
    Calls Tryz.prog 54 #[.slice B l.length d] w (HashesPost w (idsL l)) := by
  have HS := Lib.hid k.s
  have HE := Lib.hid k.each
  clear k
  obtain ⟨i0, hi, hz0, hz1, hz2⟩ := info_parts Tryz.hinfo
  go_enter Tryz.func54, Tryz.ntmps54
  go_wp2
  go_loopw [3, 4] (fun rv iv wr => ∃ (k : Nat) (A1 : Option Addr) (c1 : Nat), k ≤ l.length ∧ iv = .int .i64 k ∧ rv = .slice A1 k c1 ∧ Hid (wr.ownsRow w.heap.size 26 32 (.slice A1 k c1) k (Hs (idsL (l.take k)))) ∧ Hid (Below w.heap.size w wr)) (fun _ iv _ => l.length - (intOf iv).toNat)
  case atStart => exact ⟨0, none, 0, by omega, rfl, rfl, nil_own _ _ _ _, nxRf w⟩
  case round =>
    obtain ⟨k, A1, c1, hk, rfl, rfl, HO, Hb⟩ := hrel
    by_cases hlt : k < l.length
    · obtain ⟨b, off, rfl, hbb, hrg⟩ := txsC_row HS.out (by omega)
      have hr0 := rngB (hrg k hlt) Hb.out hbb
      have ht0 := (HE.out _ (List.getElem_mem hlt)).later Hb.out
      obtain ⟨t, ht⟩ : ∃ t, l[k] = t := ⟨_, rfl⟩
      rw [ht] at hr0 ht0
      have HR := Lib.hid hr0
      have HTx := Lib.hid ht0
      obtain ⟨x, hx⟩ : ∃ x, idT t = x := ⟨_, rfl⟩
      have HX := Lib.hid hx
      have HXl : Hid (x.length = 32) := by show _ = _; rw [← hx, idT_len]
      have HN : Hid (idsL (l.take (k + 1)) = idsL (l.take k) ++ [x]) := by show _ = _; rw [idsL, List.take_succ_eq_append_getElem hlt, List.map_append, ht, ← hx]; simp [idsL]
      have HSZ : Hid ((Tryz.prog.info? 66).map (·.size) = some (txC t).length) := Tryz.sizeTx
      have hin : (k : Int) < (l.length : Int) := by omega
      clear hrg hr0 ht0 ht hx
      go_wp2_with (first
        | ((with_reducible show wpList _ _ _ (⟨some 15, _, _, _, _, _⟩ :: _) _ _); refine wpList_load_mid rfl 66 (.tmp 14) rfl b (off + k * 3) rfl (txC t) _ HR.out Tryz.underlying66 rfl HSZ.out ?_)
        | (go_at_call 37; refine (rid_any wr t HTx.out).mono ?_; rw [HX.out]; rintro e w7 ⟨rfl, hb7⟩; have Hr7 : Hid (Below wr.heap.size wr w7) := hb7; have HO7 := Lib.hid (own_below HO.out Hr7.out (fun g hg => (own_lt HO.out g hg).2)); clear hb7)
        | ((with_reducible show wpList _ _ _ (⟨some 17, _, _, _, _, _⟩ :: _) _ _); refine wpList_build_hash rfl (.tmp 16) rfl x rfl HXl.out ?_)
        | ((with_reducible show wpList _ _ _ (⟨some 18, _, _, _, _, _⟩ :: _) _ _); refine wpList_append_seesV rfl (.tmp 11) (.tmp 17) 24 rfl w.heap.size 26 i0 (.agg (By zero32).toArray) 32 32 Tryz.underlying24 hi hz0 hz1 hz2 rfl (by omega) (.slice A1 k c1) k (Hs (idsL (l.take k))) rfl (HO7.out.alloc _) (w7.heap.size + 1) (some ⟨w7.heap.size, 0, none⟩) 1 1 (By x) rfl (by rw [By_length, HXl.out]) (SeesV.lit' w7 (By x) 26) (By_one _) (by omega) (by omega) (by have h1 := Hb.out.size; have h2 := Hr7.out.size; simp; omega) ?_; intro v8 w8 ho8 hg8 hat8; obtain ⟨A8, c8, rfl⟩ := own_form ho8; rw [← Hs_snoc, ← HN.out] at ho8; have HO8 := Lib.hid ho8; have Hb8 : Hid (Below w.heap.size w w8) := (nxAl (nxTr Hb.out Hr7.out) _).grown hg8 (nxAl (nxTr Hb.out Hr7.out) _).size (fun j hj => (own_lt HO7.out j hj).1); clear ho8 hg8 hat8))
      go_roundw
      case rel => exact ⟨k + 1, A8, c8, by omega, by go_num, rfl, HO8.out, Hb8.out⟩
      case measure => simp [intOf] <;> omega
    · obtain rfl : k = l.length := by omega
      rw [List.take_length] at HO
      have HLn := Lib.hid (idsL_len l)
      go_wp2
      go_ret
      exact ⟨A1, c1, by rw [HLn.out]; rfl, by rw [HLn.out]; exact HO.out, Hb.out⟩

set_option maxHeartbeats 1000000 in
set_option maxRecDepth 100000 in
theorem rroot6_any (w : World) (B : Option Addr) (l : List TxR) (d : Nat) (k : TxsOk w B l d) (hmax : l.length ≤ 1000) :
    Calls Tryz.prog 38 #[.slice B l.length d] w fun e w' => e = .returned (.agg (By (rootL (idsL l))).toArray) ∧ Below w.heap.size w w' := by
  have hb0 : Below w.heap.size w (w.alloc (.cells (By zero32).toArray 26)) := nxAl (nxRf w) _
  have B0 : Hid (Blk (w.alloc (.cells (By zero32).toArray 26)) w.heap.size 26 (By zero32).toArray) := Lib.hid (heap_alloc_new w _)
  have HK := Lib.hid (k.later hb0)
  have Hb0 := Lib.hid hb0
  obtain ⟨x, hx⟩ : ∃ x, rootL (idsL l) = x := ⟨_, rfl⟩
  have HX := Lib.hid hx
  have HXl : Hid (x.length = 32) := by show _ = _; rw [← hx, rootL_len]
  have HZ0 := Lib.hid (Tryz.hsizeB x HXl.out)
  have HM := Lib.hid hmax
  rw [hx]
  clear hb0 k hx hmax
  go_enter Tryz.func38, Tryz.ntmps38
  go_wp2_with (first
    | (go_at_call 54; refine (rids_any (w.alloc (.cells (By zero32).toArray 26)) B l d HK.out HM.out).mono ?_; unfold HashesPost; rintro e w2 ⟨A2, c2, rfl, ho, hb⟩; have C2 := Lib.hid (own_cap' ho); have S2 := Lib.hid (SeesV.own ho); have V2 := Lib.hid (nxTr Hb0.out hb); have B2 := Lib.hid (B0.out.below hb B0.out.lt); clear ho hb)
    | (go_at_call 55; refine (rroot_any w2 A2 _ c2 (idsL l) rfl C2.out (idsL_32 l) S2.out (by rw [idsL_len]; have := HM.out; omega)).mono ?_; rw [HX.out]; rintro e w3 ⟨rfl, hb⟩; have V3 := Lib.hid (nxTr V2.out hb); have B3 := Lib.hid (B2.out.below hb B2.out.lt); clear hb)
    | ((with_reducible show wpList _ _ _ (⟨none, .store 26 _ _, _, _, _, _⟩ :: _) _ _); refine wpList_store_all rfl 26 (.tmp 2) (.tmp 5) rfl w.heap.size 26 (By zero32).toArray (By x).toArray rfl rfl B3.out (by rw [List.size_toArray, List.size_toArray, By_length, By_length, HXl.out]; rfl) HZ0.out (By_one _) ?_; intro w7 h5 h6 h7; have H7 := Lib.hid h5; have Hb7 : Hid (Below w.heap.size w w7) := V3.out.trans (h6.below V3.out.size (fun k hk => by omega)); clear h5 h6 h7))
  refine bodyPost_ret (results_cell_row Tryz.results38 _ _ w.heap.size 26 _ (0, 0) _ rfl H7.out Tryz.underlying26 rfl HZ0.out) rfl ⟨rfl, Hb7.out⟩

section
variable {P : Program}
theorem quiet_eql_bytes {C : World → Prop} {op : Oper} {a : Act} {K : Act → Prop} (t e : TypeId) (x y : Operand) (ho : op.op = .binOp .eql t x y t) (n : Nat) (ht : P.underlying t = some (.array n e)) (he : P.underlying e = some (.int .u8)) (hs : (P.info? e).map (·.size) = some 1) (hg : P.eqGuardType P.depth t = false)
    (l k : List UInt8) (hl : l.length = n) (hk : k.length = n) (hx : a.eval x = .agg (By l).toArray) (hy : a.eval y = .agg (By k).toArray) (h : K (a.put op.dst (.bool (l == k)))) : op.quiet P a C K := by
  refine ⟨_, fun w hw => ?_, h⟩
  unfold Oper.quietAt execOp
  have hq : (eqGuard .eql t x y (.agg (By l).toArray) (.agg (By k).toArray)).run P w = .ok () w := by simp [eqGuard, hg]
  simp only [ho, hx, hy, Sem.run_bind, Sem.run_pure, Result.andThen_ok, hq, run_eql_bytes n t e ht he hs l k hl hk]
  exact ⟨rfl, rfl⟩
end
theorem nodup_one {l : List (List UInt8)} {i : Nat} (h : i < l.length) (hn : (l.take i).Nodup) (hne : ∀ j (hj : j < l.length), j < i → l[j] ≠ l[i]) : (l.take (i + 1)).Nodup := by
  refine nodup_next h hn (fun hm => ?_)
  obtain ⟨j, hj, e⟩ := List.getElem_of_mem hm
  rw [List.length_take] at hj
  rw [List.getElem_take] at e
  exact hne j (by omega) (by omega) e
theorem nodup_two {l : List (List UInt8)} {i j : Nat} (h : i < l.length) (hj : j < i) (e : l[i] = l[j]'(by omega)) : ¬ l.Nodup := by
  refine nodup_not h ?_
  rw [e, List.mem_iff_getElem]
  exact ⟨j, by rw [List.length_take]; omega, by rw [List.getElem_take]⟩

set_option maxHeartbeats 8000000 in
set_option maxRecDepth 100000 in
theorem rcheck6_any (w : World) (b : BkR) (h : BkOk w b) : Calls Tryz.prog 26 #[.agg (bkC b).toArray] w fun e w' => e = .returned (.int .i64 (checkK b)) ∧ Below w.heap.size w w' := by
  have hb0 : Below w.heap.size w (w.alloc (.cells (bkC b).toArray 32)) := nxAl (nxRf w) _
  have HROW : Hid (BkRow (w.alloc (.cells (bkC b).toArray 32)) w.heap.size b) := BkRow.of (blkR (heap_alloc_new w (.cells (bkC b).toArray 32))) h.h.f
  have Hlt : Hid (w.heap.size < (w.alloc (.cells (bkC b).toArray 32)).heap.size) := by show _ < _; simp
  have HT := Lib.hid (h.later hb0)
  have HTS : Hid (TxsOk w b.B b.txs b.d) := h.t
  have HF := Lib.hid h.h.f
  have Hb0 := Lib.hid hb0
  have c0 : (w.alloc (.cells (bkC b).toArray 32)).cell? ⟨w.heap.size, 0, none⟩ = some (.slice b.h.A b.h.p.ps.length b.h.c) := HROW.out.h.ps
  have hmd : mayH b.h.p = decide (b.h.p.ps.length ≤ 255) := rfl
  obtain ⟨D, hD⟩ : ∃ D, checkK b = D := ⟨_, rfl⟩
  have HV0 := Lib.hid hD
  rw [hD]
  clear hD hb0 h
  cases hm : mayH b.h.p with
  | false =>
    have HV : Hid (D = 2) := by show _ = _; rw [← HV0.out, checkK, hm]; rfl
    have h255 : (255 : Int) < (b.h.p.ps.length : Int) := by have := of_decide_eq_false (hmd.symm.trans hm); omega
    clear hm hmd HV0
    go_enter Tryz.func26, Tryz.ntmps26
    go_wp2
    go_ret
    exact ⟨by rw [HV.out] <;> rfl, Hb0.out⟩
  | true =>
    have h255 : ¬ (255 : Int) < (b.h.p.ps.length : Int) := by have := of_decide_eq_true (hmd.symm.trans hm); omega
    have HM := Lib.hid hm
    clear hm hmd
    go_enter Tryz.func26, Tryz.ntmps26
    go_wp2
    clear c0
    generalize (w.alloc (.cells (bkC b).toArray 32)) = W at *
    obtain ⟨l, hl⟩ : ∃ l, b.txs = l := ⟨_, rfl⟩
    have HLe := Lib.hid hl
    rw [hl] at HTS
    go_loopw [3] (fun iv wr => ∃ k : Nat, k ≤ l.length ∧ iv = .int .i64 k ∧ Hid (∀ j (h : j < l.length), j < k → notB l[j] = false) ∧ Hid (Below W.heap.size W wr)) (fun iv _ => l.length - (intOf iv).toNat)
    case atStart => exact ⟨0, by omega, rfl, fun j _ h => absurd h (Nat.not_lt_zero _), nxRf W⟩
    case round =>
      obtain ⟨k, hk, rfl, HN, Hb⟩ := hrel
      have cT : wr.cell? ⟨w.heap.size, 130, none⟩ = some (.slice b.B l.length b.d) := by
        have h1 := (HROW.out.below Hb.out Hlt.out).t
        rw [HLe.out] at h1; exact h1
      have HBg : Hid (Below w.heap.size w wr) := nxTr Hb0.out Hb.out
      by_cases hlt : k < l.length
      · obtain ⟨bb, off, hA, hbb, hr⟩ := txsC_row HTS.out.s (by omega)
        have hrk := rngB (hr k hlt) HBg.out hbb
        have hik := (HTS.out.each _ (List.getElem_mem hlt)).later HBg.out
        rw [hA] at cT
        obtain ⟨t, ht⟩ : ∃ i, l[k] = i := ⟨_, rfl⟩
        rw [ht] at hrk hik
        have HLk : Hid (l[k] = t) := ht
        have HR := Lib.hid hrk
        have HIk := Lib.hid hik
        have HSZ : Hid ((Tryz.prog.info? 66).map (·.size) = some (txC t).length) := Tryz.sizeTx
        have hin : (k : Int) < (l.length : Int) := by omega
        obtain ⟨z, hz⟩ : ∃ z, (checkT t == 0) = z := ⟨_, rfl⟩
        have HZz := Lib.hid hz
        have hnb : notB t = !z := by unfold notB; rw [hz]
        have hwk : IntKind.i64.wrap ((k : Int) + 1) = (k : Int) + 1 := by rw [IntKind.wrap_i64]; have := HTS.out.m; omega
        clear hr hrk hik ht hA hz
        cases z with
        | false =>
          have HV : Hid (D = 2) := by
            show _ = _
            have h1 : b.txs.any notB = true := by rw [HLe.out]; exact List.any_eq_true.2 ⟨l[k], List.getElem_mem hlt, by rw [HLk.out, hnb]; rfl⟩
            rw [← HV0.out]
            unfold checkK
            simp only [HM.out, h1, Bool.not_true, cond_true, cond_false]
          clear hnb
          go_wp2_with (first
            | ((with_reducible show wpList _ _ _ (⟨some 23, _, _, _, _, _⟩ :: _) _ _); refine wpList_load_mid rfl 66 (.tmp 22) rfl bb (off + k * 3) rfl (txC t) _ HR.out Tryz.underlying66 rfl HSZ.out ?_)
            | (go_at_call 53; refine (rmay_any wr t HIk.out).mono ?_; rw [HZz.out]; rintro e w2 ⟨rfl, hb⟩; have V2 := Lib.hid (nxTr HBg.out hb); clear hb))
          go_ret
          exact ⟨by rw [HV.out] <;> rfl, V2.out⟩
        | true =>
          have HN' : Hid (∀ j (h : j < l.length), j < k + 1 → notB l[j] = false) := by
            intro j h hj
            by_cases h1 : j < k
            · exact HN.out j h h1
            · obtain rfl : j = k := by omega
              rw [HLk.out, hnb]; rfl
          clear hnb
          go_wp2_with (first
            | ((with_reducible show wpList _ _ _ (⟨some 23, _, _, _, _, _⟩ :: _) _ _); refine wpList_load_mid rfl 66 (.tmp 22) rfl bb (off + k * 3) rfl (txC t) _ HR.out Tryz.underlying66 rfl HSZ.out ?_)
            | (go_at_call 53; refine (rmay_any wr t HIk.out).mono ?_; rw [HZz.out]; rintro e w2 ⟨rfl, hb⟩; have Hb2 : Hid (Below W.heap.size W w2) := nxTr Hb.out hb; clear hb))
          go_roundw
          case rel => exact ⟨k + 1, by omega, by go_num, HN'.out, Hb2.out⟩
          case measure => simp [intOf] <;> omega
      · obtain rfl : k = l.length := by omega
        have hno : b.txs.any notB = false := by
          rw [HLe.out]
          refine Bool.eq_false_iff.2 fun h => ?_
          obtain ⟨i, hi, hq⟩ := List.any_eq_true.1 h
          obtain ⟨j, hj, rfl⟩ := List.getElem_of_mem hi
          rw [HN.out j hj hj] at hq
          cases hq
        have HNo := Lib.hid hno
        clear hno HN hlt
        by_cases h2 : l.length ≤ 200
        rotate_left 1
        · have HV : Hid (D = 8) := by
            show _ = _
            rw [← HV0.out]
            unfold checkK
            have h3 : decide (b.txs.length ≤ 200) = false := by rw [HLe.out]; exact decide_eq_false h2
            simp only [HM.out, HNo.out, h3, Bool.not_true, Bool.not_false, cond_true, cond_false]
          have hg : (200 : Int) < (l.length : Int) := by omega
          clear h2
          go_wp2
          go_ret
          exact ⟨by rw [HV.out] <;> rfl, HBg.out⟩
        have hg : ¬ (200 : Int) < (l.length : Int) := by omega
        have HTr := Lib.hid (HTS.out.later HBg.out)
        have HL1 : Hid (l.length ≤ 1000) := by show _ ≤ _; omega
        have HVs : Hid (D = (bif !decide (idsL l).Nodup then 7 else bif !(rootL (idsL l) == b.h.p.rt) then 11 else 0)) := by
          show _ = _
          rw [← HV0.out]
          unfold checkK
          have h3 : decide (b.txs.length ≤ 200) = true := by rw [HLe.out]; exact decide_eq_true h2
          simp only [HM.out, HNo.out, h3, Bool.not_true, cond_false]
          rw [HLe.out]
        have HLn : Hid ((idsL l).length = l.length) := idsL_len l
        have H32 := Lib.hid (idsL_32 l)
        obtain ⟨ids, hids⟩ : ∃ ids, idsL l = ids := ⟨_, rfl⟩
        have HIe := Lib.hid hids
        rw [hids] at HVs HLn H32
        clear h2 hids
        go_wp2_with (go_at_call 54; refine (rids_any wr b.B l b.d HTr.out HL1.out).mono ?_; unfold HashesPost; rw [HIe.out, HLn.out]; rintro e w3 ⟨A3, c3, rfl, ho, hb⟩; have C3 := Lib.hid (own_cap' ho); have S3 := Lib.hid (SeesV.own ho); have V3 : Hid (Below W.heap.size W w3) := nxTr Hb.out hb; clear ho hb)
        clear cT
        have B3 : Hid (Below w.heap.size w w3) := nxTr Hb0.out V3.out
        have R3 := Lib.hid (rngB (rngB (HROW.out.h.rt) V3.out Hlt.out) (nxRf w3) (Nat.lt_of_lt_of_le Hlt.out V3.out.size))
        have L3 : Hid (w.heap.size < w3.heap.size) := Nat.lt_of_lt_of_le Hlt.out V3.out.size
        have HDy : Hid (ids.Nodup → D = (bif !(rootL ids == b.h.p.rt) then 11 else 0)) := fun hn => by
          rw [HVs.out, decide_eq_true hn]; rfl
        have HDn : Hid (¬ ids.Nodup → D = 7) := fun hn => by
          rw [HVs.out, decide_eq_false hn]; rfl
        have HnL : Hid (l.length ≤ 1000) := HL1.out
        clear V3 HBg Hb HTr HVs HROW HV0 HNo HM h255 hg hk
        obtain ⟨n, hn⟩ : ∃ n, l.length = n := ⟨_, rfl⟩
        rw [hn] at HLn HnL C3
        rw [hn]
        go_loopw [5] (fun iv wr => ∃ i : Nat, i ≤ n ∧ iv = .int .i64 i ∧ (∃ q, wr = w3.drewN q) ∧ Hid ((ids.take i).Nodup)) (fun iv _ => n - (intOf iv).toNat)
        case atStart => exact ⟨0, by omega, rfl, ⟨0, rfl⟩, List.nodup_nil⟩
        case round =>
          obtain ⟨i, hi, rfl, ⟨q0, rfl⟩, HNd⟩ := hrel
          by_cases hlt : i < n
          · have hin : (i : Int) < (n : Int) := by omega
            have hli : i < ids.length := by rw [HLn.out]; exact hlt
            obtain ⟨bb, off, hA, hbb, hr⟩ := SeesV.hash S3.out H32.out hli
            rw [hA]
            have HRi := Lib.hid (hr i hli)
            have HAll := Lib.hid hr
            have Hxi := Lib.hid (H32.out.get hli)
            have HZi := Lib.hid (hsz Hxi.out)
            have hwi : IntKind.i64.wrap ((i : Int) + 1) = (i : Int) + 1 := by rw [IntKind.wrap_i64]; have := HnL.out; omega
            clear hr hA hbb
            go_wp2
            go_loopw [6] (fun kv wr => ∃ k : Nat, k ≤ i ∧ kv = .int .i64 k ∧ (∃ q, wr = w3.drewN q) ∧ Hid (∀ j (hj : j < ids.length), j < k → ids[j] ≠ ids[i])) (fun kv _ => i - (intOf kv).toNat)
            case atStart => exact ⟨0, by omega, rfl, ⟨q0, rfl⟩, fun j _ h => absurd h (Nat.not_lt_zero _)⟩
            case round =>
              obtain ⟨k, hk, rfl, ⟨q1, rfl⟩, HNe⟩ := hrel
              by_cases hk2 : k < i
              · have hki : (k : Int) < (i : Int) := by omega
                have hkn : (k : Int) < (n : Int) := by omega
                have hlk : k < ids.length := by omega
                have HRk := Lib.hid (HAll.out k hlk)
                have Hxk := Lib.hid (H32.out.get hlk)
                have HZk := Lib.hid (hsz Hxk.out)
                go_wp2
                refine wp_region_quiet_lit (by kernel_rfl) (by kernel_rfl) ?_
                repeat (go_big_quiet_step (fail))
                go_big_quiet_want
                refine quiet_load_mid 26 (.tmp 46) rfl bb (off + i * 32) rfl (By ids[i]) _ (fun w' hw' => by obtain ⟨q, rfl⟩ := hw'; exact HRi.out) Tryz.underlying26 rfl HZi.out ?_
                go_big_quiet_on
                try simp only [Act.put, List.setIfInBounds_toArray, List.set_cons_zero, List.set_cons_succ]
                repeat (go_big_quiet_step (fail))
                go_big_quiet_want
                refine quiet_load_mid 26 (.tmp 50) rfl bb (off + k * 32) rfl (By ids[k]) _ (fun w' hw' => by obtain ⟨q, rfl⟩ := hw'; exact HRk.out) Tryz.underlying26 rfl HZk.out ?_
                go_big_quiet_on
                try simp only [Act.put, List.setIfInBounds_toArray, List.set_cons_zero, List.set_cons_succ]
                repeat (go_big_quiet_step (fail))
                go_big_quiet_want
                refine quiet_eql_bytes 26 5 (.tmp 47) (.tmp 51) rfl 32 Tryz.underlying26 Tryz.underlying5 Tryz.u8size (by kernel_rfl) ids[i] ids[k] Hxi.out Hxk.out rfl rfl ?_
                go_big_quiet_on
                try simp only [Act.put, List.setIfInBounds_toArray, List.set_cons_zero, List.set_cons_succ]
                refine wpQuiet_nil ?_
                intro _ hw'
                obtain ⟨nq, rfl⟩ := hw'
                by_cases hxy : ids[i] = ids[k]
                · have hb : (ids[i] == ids[k]) = true := by rw [hxy]; exact beq_self_eq_true _
                  rw [hb]
                  have HV : Hid (D = 7) := HDn.out (nodup_two hli hk2 hxy)
                  clear hb hxy
                  go_wp2
                  go_ret
                  exact ⟨by rw [HV.out] <;> rfl, nxDr6 (nxDr6 B3.out _) _⟩
                · have hb : (ids[i] == ids[k]) = false := beq_eq_false_iff_ne.2 hxy
                  rw [hb]
                  have HNe' : Hid (∀ j (hj : j < ids.length), j < k + 1 → ids[j] ≠ ids[i]) := by
                    intro j hj hjk
                    by_cases h1 : j < k
                    · exact HNe.out j hj h1
                    · obtain rfl : j = k := by omega
                      exact fun e => hxy e.symm
                  have hwk : IntKind.i64.wrap ((k : Int) + 1) = (k : Int) + 1 := by rw [IntKind.wrap_i64]; have := HnL.out; omega
                  clear hb hxy
                  go_wp2
                  go_roundw
                  case rel => exact ⟨k + 1, by omega, by go_num, ⟨q1 + nq, by simp⟩, HNe'.out⟩
                  case measure => simp [intOf] <;> omega
              · obtain rfl : k = i := by omega
                have HNd' : Hid ((ids.take (k + 1)).Nodup) := nodup_one hli HNd.out (fun j hj hjk => HNe.out j hj hjk)
                go_wp2
                go_roundw
                case rel => exact ⟨k + 1, by omega, by go_num, ⟨q1, rfl⟩, HNd'.out⟩
                case measure => simp [intOf] <;> omega
          · obtain rfl : i = n := by omega
            have HNd' : Hid (ids.Nodup) := by have h := HNd.out; rw [← HLn.out, List.take_length] at h; exact h
            have HDv := Lib.hid (HDy.out HNd'.out)
            obtain ⟨x, hx⟩ : ∃ x, rootL ids = x := ⟨_, rfl⟩
            have HX := Lib.hid hx
            have HXl : Hid (x.length = 32) := by show _ = _; rw [← hx, rootL_len]
            rw [hx] at HDv
            obtain ⟨z, hz⟩ : ∃ z, (x == b.h.p.rt) = z := ⟨_, rfl⟩
            have hq := neq_hashes x b.h.p.rt HXl.out HF.out.rt z hz
            rw [hz] at HDv
            have HZr := Lib.hid (hsz HF.out.rt)
            clear hx hz hlt HNd HNd' HDy HDn
            go_wp2
            have hRr : ((w3.drewN q0).drew).rangeAt w.heap.size 1 (By b.h.p.rt) := R3.out
            refine wp_region_held_drew (S := fun W => W.rangeAt w.heap.size 1 (By b.h.p.rt)) (by kernel_rfl) hRr (fun hHeld => ?_)
            refine wpAnyH_take (i := 0) (oi := ⟨_, _, _, _, _, _⟩) (v := ?_) rfl (by kernel_rfl) (by kernel_rfl) (by kernel_rfl) (fun _ _ _ h => h) (Or.inl ⟨by rfl, ?_⟩) (by assumption) ?_
            rotate_left 1
            · intro W hSw
              try dsimp only at hSw
              go_simp
              try with_reducible rfl
            try simp only [Act.put, List.setIfInBounds_toArray, List.set_cons_zero, List.set_cons_succ]
            refine wpAnyH_take (i := 2) (oi := ⟨_, _, _, _, _, _⟩) (v := ?_) rfl (by kernel_rfl) (by kernel_rfl) (by kernel_rfl) (fun _ _ _ h => h) (Or.inl ⟨by rfl, ?_⟩) (by assumption) ?_
            rotate_left 1
            · intro W hSw
              try dsimp only at hSw
              go_simp
              try with_reducible rfl
            try simp only [Act.put, List.setIfInBounds_toArray, List.set_cons_zero, List.set_cons_succ]
            refine wpAnyH_take (i := 3) (oi := ⟨_, _, _, _, _, _⟩) (v := ?_) rfl (by kernel_rfl) (by kernel_rfl) (by kernel_rfl) (fun _ _ _ h => h) (Or.inl ⟨by rfl, ?_⟩) (by assumption) ?_
            rotate_left 1
            · intro W hSw
              try dsimp only at hSw
              go_simp
              try with_reducible rfl
            try simp only [Act.put, List.setIfInBounds_toArray, List.set_cons_zero, List.set_cons_succ]
            refine wpAnyH_take (i := 4) (oi := ⟨_, _, _, _, _, _⟩) (v := .agg (By b.h.p.rt).toArray) rfl (by kernel_rfl) (by kernel_rfl) (by kernel_rfl) (fun _ _ _ h => h) (yieldsIf_load_mid (by rfl) 26 (.tmp 56) rfl (w.heap.size) (1) rfl (By b.h.p.rt) _ (fun W h => h) Tryz.underlying26 rfl HZr.out) (by assumption) ?_
            try simp only [Act.put, List.setIfInBounds_toArray, List.set_cons_zero, List.set_cons_succ]
            refine wpAnyH_ready (rs := [1]) (by kernel_rfl) (by simp) ?_
            refine AllReadyH.cons rfl (fun K hK => ?_) AllReadyH.nil
            go_simp
            go_at_call 55
            refine (rroot_any ((w3.drewN q0).drew) A3 _ c3 ids HLn.out.symm C3.out H32.out S3.out (by have := HnL.out; omega)).mono ?_
            rw [HX.out]
            rintro e w5 ⟨rfl, hb⟩
            have D5 : Hid (Below w3.heap.size w3 w5) := ⟨hb.os, hb.tape, hb.output, hb.size, hb.block⟩
            have V5 : Hid (Below w.heap.size w w5) := nxTr B3.out D5.out
            clear hb
            refine hK.out _ _ (rngB R3.out D5.out L3.out) (fun hSn => ?_)
            clear hK K
            try simp only [Act.put, List.setIfInBounds_toArray, List.set_cons_zero, List.set_cons_succ]
            refine wpAnyH_take (i := 5) (oi := ⟨_, _, _, _, _, _⟩) (v := ?_) rfl (by kernel_rfl) (by kernel_rfl) (by kernel_rfl) (fun _ _ _ h => h) (Or.inl ⟨by rfl, ?_⟩) (by assumption) ?_
            rotate_left 1
            · intro W hSw
              try dsimp only at hSw
              go_simp
              try with_reducible rfl
            try simp only [Act.put, List.setIfInBounds_toArray, List.set_cons_zero, List.set_cons_succ]
            refine wpAnyH_done (by kernel_rfl) ?_ _
            cases z with
            | true =>
              have HV : Hid (D = 0) := HDv.out
              clear hq
              go_wp2
              go_ret
              exact ⟨by rw [HV.out] <;> rfl, V5.out⟩
            | false =>
              have HV : Hid (D = 11) := HDv.out
              clear hq
              go_wp2
              go_ret
              exact ⟨by rw [HV.out] <;> rfl, V5.out⟩
end Go.Proofs.YtbloomnifhcgbaaGreatDoor
