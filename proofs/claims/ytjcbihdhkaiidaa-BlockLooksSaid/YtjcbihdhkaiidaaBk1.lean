/-
  block: the header's form; HeaderBytes.
-/
import Derived.Test.YtjcbihdhkaiidaaBk0
import Derived.Deep.RegionHeldLaw
import Derived.Deep.RegionHeld3
namespace Go.Proofs.Ytjcbihdhkaiidaa
open Go.RowKit

theorem mayName_any (w : World) (h : HdR) (k : HdOk w h) : Calls Try.prog 21 #[.agg (hdC h).toArray] w fun e w' => e = .returned (.bool (mayH h.p)) ∧ Below w.heap.size w w' := by
  have hB : Blk (w.alloc (.cells (hdC h).toArray 27)) w.heap.size 27 (hdC h).toArray := heap_alloc_new w _
  have c0 : (w.alloc (.cells (hdC h).toArray 27)).cell? ⟨w.heap.size, 0, none⟩ = some (.slice h.A h.p.ps.length h.c) := (HdRow.of (blkR hB) k.f).ps
  have Hb : Hid (Below w.heap.size w (w.alloc (.cells (hdC h).toArray 27))) := Lib.hid (nxAl (nxRf w) _)
  clear hB k
  by_cases hl : (h.p.ps.length : Int) ≤ 255
  · have H : Hid (mayH h.p = true) := by show _ = _; exact decide_eq_true (by omega)
    go_enter Try.func21, Try.ntmps21
    go_wp2
    go_ret
    exact ⟨by rw [H.out]; rfl, Hb.out⟩
  · have H : Hid (mayH h.p = false) := by show _ = _; exact decide_eq_false (by omega)
    go_enter Try.func21, Try.ntmps21
    go_wp2
    go_ret
    exact ⟨by rw [H.out]; rfl, Hb.out⟩

def HBytesPost (w : World) (h : HdR) (e : Ending) (w' : World) : Prop := (∃ A c B0, e = .returned (.tuple #[.slice A (packH h.p).length c, .int .i64 0]) ∧ w.heap.size ≤ B0 ∧ w'.ownsRow B0 5 1 (.slice A (packH h.p).length c) (packH h.p).length (By (packH h.p))) ∧ Below w.heap.size w w'

set_option maxHeartbeats 1000000 in
set_option maxRecDepth 100000 in
theorem hbytes_no (w : World) (h : HdR) (k : HdOk w h) (hz : mayH h.p = false) : Calls Try.prog 12 #[.agg (hdC h).toArray] w fun e w' => e = .returned (.tuple #[.slice none 0 0, .int .i64 2]) ∧ Below w.heap.size w w' := by
  have hB : Blk (w.alloc (.cells (hdC h).toArray 27)) w.heap.size 27 (hdC h).toArray := heap_alloc_new w _
  have HR := Lib.hid (blkR hB)
  have hb0 : Below w.heap.size w (w.alloc (.cells (hdC h).toArray 27)) := nxAl (nxRf w) _
  have Hb0 := Lib.hid hb0
  have HK := Lib.hid (k.later hb0)
  have HZ := Lib.hid (hdSz k.f)
  have HZz := Lib.hid hz
  clear hB hb0 k hz
  go_enter Try.func12, Try.ntmps12
  go_wp2_with (first
    | ((with_reducible show wpList _ _ _ (⟨some 7, _, _, _, _, _⟩ :: _) _ _); refine wpList_load_mid rfl 27 (.tmp 1) rfl w.heap.size 0 rfl (hdC h) _ HR.out Try.underlying27 rfl HZ.out ?_)
    | (go_at_call 21; refine (mayName_any _ h HK.out).mono ?_; rw [HZz.out]; rintro e w2 ⟨rfl, hb2⟩; have Hb2 : Hid (Below w.heap.size w w2) := nxTr Hb0.out hb2; clear hb2))
  go_ret2
  exact ⟨rfl, Hb2.out⟩

set_option maxHeartbeats 4000000 in
set_option maxRecDepth 100000 in
theorem hbytes_yes (w : World) (h : HdR) (k : HdOk w h) (hz : mayH h.p = true) : Calls Try.prog 12 #[.agg (hdC h).toArray] w (HBytesPost w h) := by
  have hB : Blk (w.alloc (.cells (hdC h).toArray 27)) w.heap.size 27 (hdC h).toArray := heap_alloc_new w _
  have HR := Lib.hid (blkR hB)
  have hb0 : Below w.heap.size w (w.alloc (.cells (hdC h).toArray 27)) := nxAl (nxRf w) _
  have Hb0 := Lib.hid hb0
  have HK := Lib.hid (k.later hb0)
  have HZ := Lib.hid (hdSz k.f)
  have HZz := Lib.hid hz
  have HROW := Lib.hid (HdRow.of (blkR hB) k.f)
  have Hs0 : Hid (w.heap.size < (w.alloc (.cells (hdC h).toArray 27)).heap.size) := by show _ < _; simp
  have HF := Lib.hid k.f
  have hn : h.p.ps.length ≤ 255 := of_decide_eq_true hz
  have HFl : Hid ((packH h.p).length ≤ 30000) := by show _ ≤ _; rw [packH_len k.f]; omega
  have HP : Hid (packH h.p = (leB h.p.ps.length 2 ++ h.p.ps.flatten) ++ (h.p.rt ++ (h.p.ac ++ (h.p.co ++ (h.p.mi ++ leB h.p.nonce 8))))) := by show _ = _; unfold packH; rw [List.append_assoc]
  have HLi : Hid (∀ k, (h.p.ps.take k).flatten.length ≤ 8160) := by
    intro j
    rw [All32.flat (fun x hx => k.f.ps x (List.mem_of_mem_take hx)), List.length_take]; omega
  have hc0 : (w.alloc (.cells (hdC h).toArray 27)).cell? ⟨w.heap.size, 0, none⟩ = some (.slice h.A h.p.ps.length h.c) := HROW.out.ps
  have HS : Hid (SeesV w w.heap.size h.A (Hs h.p.ps)) := k.s
  obtain ⟨F, hF⟩ : ∃ F, packH h.p = F := ⟨_, rfl⟩
  obtain ⟨l, hl⟩ : ∃ F, h.p.ps = F := ⟨_, rfl⟩
  unfold HBytesPost
  have H32 : Hid (All32 h.p.ps) := k.f.ps
  rw [hF] at HP HFl ⊢
  rw [hl] at HP HLi HS H32 hn hc0
  have HLe := Lib.hid hl
  clear hB hb0 hz k hF hl
  go_enter Try.func12, Try.ntmps12
  go_wp2_with (first
    | ((with_reducible show wpList _ _ _ (⟨some 7, _, _, _, _, _⟩ :: _) _ _); refine wpList_load_mid rfl 27 (.tmp 1) rfl w.heap.size 0 rfl (hdC h) _ HR.out Try.underlying27 rfl HZ.out ?_)
    | (go_at_call 21; refine (mayName_any _ h HK.out).mono ?_; rw [HZz.out]; rintro e w2 ⟨rfl, hb2⟩; have Hb2 : Hid (Below w.heap.size w w2) := nxTr Hb0.out hb2; have HR2 : Hid (HdRow w2 w.heap.size h) := HROW.out.below hb2 Hs0.out; have Hs2 : Hid (w.heap.size < w2.heap.size) := Nat.lt_of_lt_of_le Hs0.out hb2.size; have hc2 : w2.cell? ⟨w.heap.size, 0, none⟩ = some (.slice h.A l.length h.c) := (hb2.cell (p := ⟨w.heap.size, 0, none⟩) Hs0.out).trans hc0; have hc3 : (w2.alloc (.cells #[.slice none 0 0, .bool false] 63)).cell? ⟨w.heap.size, 0, none⟩ = some (.slice h.A l.length h.c) := cell_later (nxAl (nxRf w2) _) hc2; clear hb2 hc2)
    | (go_at_call 22; refine (count_s (w2.alloc (.cells #[.slice none 0 0, .bool false] 63)) (fun j => w2.heap.size ≤ j) w2.heap.size (some []) (WrS.fresh w2 _ (Nat.le_refl _)) (fun k hk => by simp at hk; omega) (l.length : Int) (by simp [lenS])).mono ?_; rw [putCntH hn]; rintro e w3 ⟨rfl, hq1, hq2⟩; have V3 : Hid (Below w2.heap.size w2 w3) := (nxAl (nxRf w2) _).trans (hq2.below (nxAl (nxRf w2) _).size (fun k hk => by omega)); have W3 : Hid (WrS w3 (fun j => w2.heap.size ≤ j) w2.heap.size (some (leB l.length 2))) := hq1; have hc4 : w3.cell? ⟨w.heap.size, 0, none⟩ = some (.slice h.A l.length h.c) := (V3.out.cell (p := ⟨w.heap.size, 0, none⟩) Hs2.out).trans ((nxAl (nxRf w2) (.cells #[.slice none 0 0, .bool false] 63)).cell (p := ⟨w.heap.size, 0, none⟩) Hs2.out ▸ hc3); clear hq1 hq2))
  clear hc0 hc3 HR HZ Hs0 HK Hb0 HROW
  obtain ⟨g, hg⟩ : ∃ g, w2.heap.size = g := ⟨_, rfl⟩
  have HG : Hid (w2.heap.size = g) := hg
  have HGw : Hid (w.heap.size < g) := by rw [← hg]; exact Hs2.out
  rw [hg] at V3 W3
  rw [hg]
  clear hg
  go_loopw [18] (fun iv wr => ∃ k : Nat, k ≤ l.length ∧ iv = .int .i64 k ∧ Hid (WrS wr (fun j => g ≤ j) g (some (leB l.length 2 ++ (l.take k).flatten))) ∧ Hid (Below g w2 wr)) (fun iv _ => l.length - (intOf iv).toNat)
  case atStart => exact ⟨0, by omega, rfl, (by rw [show (l.take 0).flatten = [] from rfl, List.append_nil]; exact W3.out), V3.out⟩
  case round =>
    clear W3 V3 hc4
    obtain ⟨k, hk, rfl, HW, Hb⟩ := hrel
    have HBg : Hid (Below w.heap.size w wr) := nxTr Hb2.out (by rw [HG.out]; exact Hb.out)
    have HSz : Hid (g ≤ wr.heap.size) := by rw [← HG.out]; exact Hb.out.size
    by_cases hlt : k < l.length
    · obtain ⟨b, off, hA, hbb, hr⟩ := SeesV.hash HS.out H32.out hlt
      have hrk := rngB (hr k hlt) HBg.out hbb
      have hik := H32.out.get hlt
      have hnx := flat_next l k hlt
      have hll := HLi.out k
      rw [hA]
      obtain ⟨x, hx⟩ : ∃ i, l[k] = i := ⟨_, rfl⟩
      rw [hx] at hrk hik hnx
      have HR := Lib.hid hrk
      have HX := Lib.hid hik
      have HNx := Lib.hid hnx
      have HLk := Lib.hid hll
      have HZ := Lib.hid (hsz hik)
      have HZ' := Lib.hid (Try.hsizeB x hik)
      clear hr hrk hik hx hnx hll hA
      go_wp2_with (first
        | ((with_reducible show wpList _ _ _ (⟨some 21, _, _, _, _, _⟩ :: _) _ _); refine wpList_load_mid rfl 24 (.tmp 20) rfl b (off + k * 32) rfl (By x) _ HR.out Try.underlying24 rfl HZ.out ?_)
        | ((with_reducible show wpList _ _ _ (⟨none, .store 24 _ _, _, _, _, _⟩ :: _) _ _); refine wpList_store_all rfl 24 (.tmp 6) (.tmp 21) rfl wr.heap.size 24 (By zero32).toArray (By x).toArray rfl rfl (heap_alloc_new wr _) (by rw [List.size_toArray, List.size_toArray, By_length, By_length, HX.out]; rfl) HZ'.out (By_one x) ?_; intro w4 h5 h6 h7; have R4 := Lib.hid (blkR h5); have L4 : Hid (wr.heap.size < w4.heap.size) := h5.lt; have K4 : Hid (Below wr.heap.size wr w4) := (nxAl (nxRf wr) _).trans (h6.below (nxAl (nxRf wr) _).size (fun k hk => by omega)); clear h5 h6 h7)
        | ((with_reducible show wpList _ _ _ (⟨some 23, _, _, _, _, _⟩ :: _) _ _); refine wpList_load_mid rfl 24 (.tmp 6) rfl wr.heap.size 0 rfl (By x) _ R4.out Try.underlying24 rfl HZ.out ?_)
        | (go_at_call 23; refine (whash_s w4 (fun j => g ≤ j) g _ (HW.out.below K4.out) (fun j hj => Nat.le_trans HSz.out (Nat.le_trans K4.out.size hj)) x HX.out (by simp only [lenS, Option.getD_some, List.length_append, leB_length]; have := HLk.out; omega)).mono ?_; rintro e w5 ⟨rfl, hq1, hq2⟩; have W5 : Hid (WrS w5 (fun j => g ≤ j) g (some (leB l.length 2 ++ (l.take (k + 1)).flatten))) := (by rw [HNx.out, ← List.append_assoc]; exact hq1); have Hb5 : Hid (Below g w2 w5) := (Hb.out.trans ((show Below g wr w4 from ⟨K4.out.os, K4.out.tape, K4.out.output, K4.out.size, fun j hj => K4.out.block j (Nat.lt_of_lt_of_le hj HSz.out)⟩))).trans (hq2.below (Nat.le_trans HSz.out K4.out.size) (fun j hj h => by omega)); clear hq1 hq2))
      go_roundw
      case rel => exact ⟨k + 1, by omega, by go_num, W5.out, Hb5.out⟩
      case measure => simp [intOf] <;> omega
    · obtain rfl : k = l.length := by omega
      obtain ⟨L, hL⟩ : ∃ P, leB l.length 2 ++ l.flatten = P := ⟨_, rfl⟩
      have HWe : Hid (WrS wr (fun j => g ≤ j) g (some L)) := by have h := HW.out; rw [List.take_length, hL] at h; exact h
      have HLq : Hid (L.length ≤ 8162) := by
        have h := HLi.out l.length
        rw [List.take_length] at h
        show _ ≤ _
        rw [← hL, List.length_append, leB_length]; omega
      have HPt : Hid (putN (putB (putB (putB (putB (some L) h.p.rt) h.p.ac) h.p.co) h.p.mi) h.p.nonce 8 = some F) := by
        show _ = _
        rw [putTail HF.out, HP.out, hL]
      have hx := HR2.out.below Hb.out HGw.out
      have hH : HdRow wr.drew w.heap.size h := ⟨hx.ps, hx.rt, hx.ac, hx.co, hx.mi, hx.nonce⟩
      have HH0 := Lib.hid hx
      clear hx
      have HWl : Hid (w.heap.size < wr.heap.size) := Nat.lt_of_lt_of_le HGw.out HSz.out
      clear hL HW HP
      go_wp2
      refine wp_region_held_drew (S := fun W => HdRow W w.heap.size h) (by kernel_rfl) hH (fun hHeld => ?_)
      refine wpAnyH_take (i := 0) (oi := ⟨_, _, _, _, _, _⟩) (v := ?_) rfl (by kernel_rfl) (by kernel_rfl) (by kernel_rfl) (fun _ _ _ h => h) (Or.inl ⟨by rfl, ?_⟩) (by assumption) ?_
      rotate_left 1
      · intro W hSw
        try dsimp only at hSw
        go_simp
        try with_reducible rfl
      try simp only [Act.put, List.setIfInBounds_toArray, List.set_cons_zero, List.set_cons_succ]
      refine wpAnyH_take (i := 1) (oi := ⟨_, _, _, _, _, _⟩) (v := ?_) rfl (by kernel_rfl) (by kernel_rfl) (by kernel_rfl) (fun _ _ _ h => h) (Or.inl ⟨by rfl, ?_⟩) (by assumption) ?_
      rotate_left 1
      · intro W hSw
        try dsimp only at hSw
        go_simp
        try with_reducible rfl
      try simp only [Act.put, List.setIfInBounds_toArray, List.set_cons_zero, List.set_cons_succ]
      refine wpAnyH_take (i := 2) (oi := ⟨_, _, _, _, _, _⟩) (v := .agg (By h.p.rt).toArray) rfl (by kernel_rfl) (by kernel_rfl) (by kernel_rfl) (fun _ _ _ h => h) (yieldsIf_load_mid (by rfl) 24 (.tmp 27) rfl (w.heap.size) (1) rfl (By h.p.rt) _ (fun W h => h.rt) Try.underlying24 rfl (hsz HF.out.rt)) (by assumption) ?_
      try simp only [Act.put, List.setIfInBounds_toArray, List.set_cons_zero, List.set_cons_succ]
      refine wpAnyH_take (i := 4) (oi := ⟨_, _, _, _, _, _⟩) (v := ?_) rfl (by kernel_rfl) (by kernel_rfl) (by kernel_rfl) (fun _ _ _ h => h) (Or.inl ⟨by rfl, ?_⟩) (by assumption) ?_
      rotate_left 1
      · intro W hSw
        try dsimp only at hSw
        go_simp
        try with_reducible rfl
      try simp only [Act.put, List.setIfInBounds_toArray, List.set_cons_zero, List.set_cons_succ]
      refine wpAnyH_take (i := 5) (oi := ⟨_, _, _, _, _, _⟩) (v := .agg (By h.p.ac).toArray) rfl (by kernel_rfl) (by kernel_rfl) (by kernel_rfl) (fun _ _ _ h => h) (yieldsIf_load_mid (by rfl) 24 (.tmp 30) rfl (w.heap.size) (33) rfl (By h.p.ac) _ (fun W h => h.ac) Try.underlying24 rfl (hsz HF.out.ac)) (by assumption) ?_
      try simp only [Act.put, List.setIfInBounds_toArray, List.set_cons_zero, List.set_cons_succ]
      refine wpAnyH_take (i := 7) (oi := ⟨_, _, _, _, _, _⟩) (v := ?_) rfl (by kernel_rfl) (by kernel_rfl) (by kernel_rfl) (fun _ _ _ h => h) (Or.inl ⟨by rfl, ?_⟩) (by assumption) ?_
      rotate_left 1
      · intro W hSw
        try dsimp only at hSw
        go_simp
        try with_reducible rfl
      try simp only [Act.put, List.setIfInBounds_toArray, List.set_cons_zero, List.set_cons_succ]
      refine wpAnyH_take (i := 8) (oi := ⟨_, _, _, _, _, _⟩) (v := .agg (By h.p.co).toArray) rfl (by kernel_rfl) (by kernel_rfl) (by kernel_rfl) (fun _ _ _ h => h) (yieldsIf_load_mid (by rfl) 24 (.tmp 33) rfl (w.heap.size) (65) rfl (By h.p.co) _ (fun W h => h.co) Try.underlying24 rfl (hsz HF.out.co)) (by assumption) ?_
      try simp only [Act.put, List.setIfInBounds_toArray, List.set_cons_zero, List.set_cons_succ]
      refine wpAnyH_take (i := 10) (oi := ⟨_, _, _, _, _, _⟩) (v := ?_) rfl (by kernel_rfl) (by kernel_rfl) (by kernel_rfl) (fun _ _ _ h => h) (Or.inl ⟨by rfl, ?_⟩) (by assumption) ?_
      rotate_left 1
      · intro W hSw
        try dsimp only at hSw
        go_simp
        try with_reducible rfl
      try simp only [Act.put, List.setIfInBounds_toArray, List.set_cons_zero, List.set_cons_succ]
      refine wpAnyH_take (i := 11) (oi := ⟨_, _, _, _, _, _⟩) (v := .agg (By h.p.mi).toArray) rfl (by kernel_rfl) (by kernel_rfl) (by kernel_rfl) (fun _ _ _ h => h) (yieldsIf_load_mid (by rfl) 24 (.tmp 36) rfl (w.heap.size) (97) rfl (By h.p.mi) _ (fun W h => h.mi) Try.underlying24 rfl (hsz HF.out.mi)) (by assumption) ?_
      try simp only [Act.put, List.setIfInBounds_toArray, List.set_cons_zero, List.set_cons_succ]
      refine wpAnyH_take (i := 13) (oi := ⟨_, _, _, _, _, _⟩) (v := ?_) rfl (by kernel_rfl) (by kernel_rfl) (by kernel_rfl) (fun _ _ _ h => h) (Or.inl ⟨by rfl, ?_⟩) (by assumption) ?_
      rotate_left 1
      · intro W hSw
        try dsimp only at hSw
        go_simp
        try with_reducible rfl
      try simp only [Act.put, List.setIfInBounds_toArray, List.set_cons_zero, List.set_cons_succ]
      refine wpAnyH_take (i := 14) (oi := ⟨_, _, _, _, _, _⟩) (v := ?_) rfl (by kernel_rfl) (by kernel_rfl) (by kernel_rfl) (fun _ _ _ h => h) (Or.inl ⟨by rfl, ?_⟩) (by assumption) ?_
      rotate_left 1
      · intro W hSw
        have hcw := hSw.nonce
        clear hSw
        go_simp
        try with_reducible rfl
      try simp only [Act.put, List.setIfInBounds_toArray, List.set_cons_zero, List.set_cons_succ]
      refine wpAnyH_ready (rs := [3]) (by kernel_rfl) (by simp) ?_
      refine AllReadyH.cons rfl (fun K hK => ?_) AllReadyH.nil
      go_simp
      go_at_call 23
      refine (whash_s wr.drew (fun j => g ≤ j) g (some L) (show WrS wr.drew _ g _ from HWe.out) (fun j hj => Nat.le_trans HSz.out hj) h.p.rt HF.out.rt (by have h0 : lenS (some L) ≤ 8162 := HLq.out;  have f1 := HF.out.rt; have f2 := HF.out.ac; have f3 := HF.out.co; omega)).mono ?_
      rintro e v1 ⟨rfl, hq1, hq2⟩
      have W1 := Lib.hid hq1
      have Q1 : Hid (Keeps (fun j => g ≤ j) wr v1) := ⟨hq2.os, hq2.tape, hq2.output, hq2.size, hq2.block⟩
      clear hq1 hq2
      refine hK.out _ _ (HH0.out.keep Q1.out HWl.out (fun h => by have h1 : g ≤ w.heap.size := h; have := HGw.out; omega)) (fun hSn => ?_)
      clear hK K
      try simp only [Act.put, List.setIfInBounds_toArray, List.set_cons_zero, List.set_cons_succ]
      refine wpAnyH_ready (rs := [6]) (by kernel_rfl) (by simp) ?_
      refine AllReadyH.cons rfl (fun K hK => ?_) AllReadyH.nil
      go_simp
      go_at_call 23
      refine (whash_s v1 (fun j => g ≤ j) g (putB (some L) h.p.rt) W1.out (fun j hj => Nat.le_trans HSz.out (Nat.le_trans Q1.out.size hj)) h.p.ac HF.out.ac (by have h0 : lenS (some L) ≤ 8162 := HLq.out; have h1 := lenS_putB (some L) h.p.rt; have f1 := HF.out.rt; have f2 := HF.out.ac; have f3 := HF.out.co; omega)).mono ?_
      rintro e v2 ⟨rfl, hq1, hq2⟩
      have W2 := Lib.hid hq1
      have Q2 : Hid (Keeps (fun j => g ≤ j) wr v2) := Q1.out.trans hq2
      clear hq1 hq2
      refine hK.out _ _ (HH0.out.keep Q2.out HWl.out (fun h => by have h1 : g ≤ w.heap.size := h; have := HGw.out; omega)) (fun hSn => ?_)
      clear hK K
      try simp only [Act.put, List.setIfInBounds_toArray, List.set_cons_zero, List.set_cons_succ]
      refine wpAnyH_ready (rs := [9]) (by kernel_rfl) (by simp) ?_
      refine AllReadyH.cons rfl (fun K hK => ?_) AllReadyH.nil
      go_simp
      go_at_call 23
      refine (whash_s v2 (fun j => g ≤ j) g (putB (putB (some L) h.p.rt) h.p.ac) W2.out (fun j hj => Nat.le_trans HSz.out (Nat.le_trans Q2.out.size hj)) h.p.co HF.out.co (by have h0 : lenS (some L) ≤ 8162 := HLq.out; have h1 := lenS_putB (some L) h.p.rt; have h2 := lenS_putB (putB (some L) h.p.rt) h.p.ac; have f1 := HF.out.rt; have f2 := HF.out.ac; have f3 := HF.out.co; omega)).mono ?_
      rintro e v3 ⟨rfl, hq1, hq2⟩
      have W3 := Lib.hid hq1
      have Q3 : Hid (Keeps (fun j => g ≤ j) wr v3) := Q2.out.trans hq2
      clear hq1 hq2
      refine hK.out _ _ (HH0.out.keep Q3.out HWl.out (fun h => by have h1 : g ≤ w.heap.size := h; have := HGw.out; omega)) (fun hSn => ?_)
      clear hK K
      try simp only [Act.put, List.setIfInBounds_toArray, List.set_cons_zero, List.set_cons_succ]
      refine wpAnyH_ready (rs := [12]) (by kernel_rfl) (by simp) ?_
      refine AllReadyH.cons rfl (fun K hK => ?_) AllReadyH.nil
      go_simp
      go_at_call 23
      refine (whash_s v3 (fun j => g ≤ j) g (putB (putB (putB (some L) h.p.rt) h.p.ac) h.p.co) W3.out (fun j hj => Nat.le_trans HSz.out (Nat.le_trans Q3.out.size hj)) h.p.mi HF.out.mi (by have h0 : lenS (some L) ≤ 8162 := HLq.out; have h1 := lenS_putB (some L) h.p.rt; have h2 := lenS_putB (putB (some L) h.p.rt) h.p.ac; have h3 := lenS_putB (putB (putB (some L) h.p.rt) h.p.ac) h.p.co; have f1 := HF.out.rt; have f2 := HF.out.ac; have f3 := HF.out.co; omega)).mono ?_
      rintro e v4 ⟨rfl, hq1, hq2⟩
      have W4 := Lib.hid hq1
      have Q4 : Hid (Keeps (fun j => g ≤ j) wr v4) := Q3.out.trans hq2
      clear hq1 hq2
      refine hK.out _ _ (HH0.out.keep Q4.out HWl.out (fun h => by have h1 : g ≤ w.heap.size := h; have := HGw.out; omega)) (fun hSn => ?_)
      clear hK K
      try simp only [Act.put, List.setIfInBounds_toArray, List.set_cons_zero, List.set_cons_succ]
      refine wpAnyH_ready (rs := [15]) (by kernel_rfl) (by simp) ?_
      refine AllReadyH.cons rfl (fun K hK => ?_) AllReadyH.nil
      go_simp
      go_at_call 24
      refine (number_s v4 (fun j => g ≤ j) g _ W4.out (fun j hj => Nat.le_trans HSz.out (Nat.le_trans Q4.out.size hj)) h.p.nonce 8 HF.out.nonce (by have h0 : lenS (some L) ≤ 8162 := HLq.out; have h1 := lenS_putB (some L) h.p.rt; have h2 := lenS_putB (putB (some L) h.p.rt) h.p.ac; have h3 := lenS_putB (putB (putB (some L) h.p.rt) h.p.ac) h.p.co; have h4 := lenS_putB (putB (putB (putB (some L) h.p.rt) h.p.ac) h.p.co) h.p.mi; have f1 := HF.out.rt; have f2 := HF.out.ac; have f3 := HF.out.co; have f4 := HF.out.mi; omega)).mono ?_
      rw [HPt.out]
      rintro e v5 ⟨rfl, hq1, hq2⟩
      have W5 := Lib.hid hq1
      have Q5 : Hid (Keeps (fun j => g ≤ j) wr v5) := Q4.out.trans hq2
      clear hq1 hq2
      refine hK.out _ _ (HH0.out.keep Q5.out HWl.out (fun h => by have h1 : g ≤ w.heap.size := h; have := HGw.out; omega)) (fun hSn => ?_)
      clear hK K
      try simp only [Act.put, List.setIfInBounds_toArray, List.set_cons_zero, List.set_cons_succ]
      refine wpAnyH_ready (rs := [16]) (by kernel_rfl) (by simp) ?_
      refine AllReadyH.cons rfl (fun K hK => ?_) AllReadyH.nil
      go_simp
      go_at_call 25
      refine (end_s v5 (fun j => g ≤ j) g _ W5.out (by have h := HFl.out; unfold lenS; rw [Option.getD_some]; omega)).mono ?_
      unfold EndPost
      rintro e w8 ⟨⟨A9, c9, rfl, ho9⟩, hb8⟩
      have HO9 := Lib.hid ho9
      have V8 := Lib.hid hb8
      clear ho9 hb8
      refine hK.out _ _ ((HH0.out.keep Q5.out HWl.out (fun h => by have h1 : g ≤ w.heap.size := h; have := HGw.out; omega)).below V8.out (Nat.lt_of_lt_of_le HWl.out Q5.out.size)) (fun hSn => ?_)
      clear hK K
      try simp only [Act.put, List.setIfInBounds_toArray, List.set_cons_zero, List.set_cons_succ]
      refine wpAnyH_take (i := 17) (oi := ⟨_, _, _, _, _, _⟩) (v := ?_) rfl (by kernel_rfl) (by kernel_rfl) (by kernel_rfl) (fun _ _ _ h => h) (Or.inl ⟨by rfl, ?_⟩) (by assumption) ?_
      rotate_left 1
      · intro W hSw
        try dsimp only at hSw
        go_simp
        try with_reducible rfl
      try simp only [Act.put, List.setIfInBounds_toArray, List.set_cons_zero, List.set_cons_succ]
      refine wpAnyH_take (i := 18) (oi := ⟨_, _, _, _, _, _⟩) (v := ?_) rfl (by kernel_rfl) (by kernel_rfl) (by kernel_rfl) (fun _ _ _ h => h) (Or.inl ⟨by rfl, ?_⟩) (by assumption) ?_
      rotate_left 1
      · intro W hSw
        try dsimp only at hSw
        go_simp
        try with_reducible rfl
      try simp only [Act.put, List.setIfInBounds_toArray, List.set_cons_zero, List.set_cons_succ]
      refine wpAnyH_take (i := 19) (oi := ⟨_, _, _, _, _, _⟩) (v := ?_) rfl (by kernel_rfl) (by kernel_rfl) (by kernel_rfl) (fun _ _ _ h => h) (Or.inl ⟨by rfl, ?_⟩) (by assumption) ?_
      rotate_left 1
      · intro W hSw
        try dsimp only at hSw
        go_simp
        try with_reducible rfl
      try simp only [Act.put, List.setIfInBounds_toArray, List.set_cons_zero, List.set_cons_succ]
      refine wpAnyH_take (i := 20) (oi := ⟨_, _, _, _, _, _⟩) (v := ?_) rfl (by kernel_rfl) (by kernel_rfl) (by kernel_rfl) (fun _ _ _ h => h) (Or.inl ⟨by rfl, ?_⟩) (by assumption) ?_
      rotate_left 1
      · intro W hSw
        try dsimp only at hSw
        go_simp
        try with_reducible rfl
      try simp only [Act.put, List.setIfInBounds_toArray, List.set_cons_zero, List.set_cons_succ]
      refine wpAnyH_done (by kernel_rfl) ?_ _
      go_wp2
      go_ret2
      have HB7 : Below w.heap.size w v5 := HBg.out.trans (Q5.out.below HBg.out.size (fun j hj (h : g ≤ j) => by have := HGw.out; omega))
      exact ⟨⟨A9, c9, v5.heap.size, rfl, HB7.size, HO9.out⟩, nxTr HB7 V8.out⟩
end Go.Proofs.Ytjcbihdhkaiidaa
