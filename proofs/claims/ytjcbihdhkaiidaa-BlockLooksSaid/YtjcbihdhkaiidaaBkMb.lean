/-
  block, the document's Same.
-/
import Derived.Test.YtjcbihdhkaiidaaBkB
import Derived.Test.YtjcbihdhkaiidaaBk7
import Derived.Test.YtjcbihdhkaiidaaTr5
namespace Go.Proofs.Ytjcbihdhkaiidaa
open Go.RowKit

def bkD (b : BkR) : HdP × List TxP := (b.h.p, b.txs.map txP)
def BSame (w : World) (a b : BkR) (e : Ending) (w' : World) : Prop := ∃ z : Bool, e = .returned (.bool z) ∧ (z = true ↔ bkD a = bkD b) ∧ Below w.heap.size w w'
theorem bkD_no {a b : BkR} {z : Bool} (hz : z = false) (h : bkD a ≠ bkD b) : z = true ↔ bkD a = bkD b := ⟨fun e => (by rw [hz] at e; cases e), fun e => absurd e h⟩

set_option maxHeartbeats 4000000 in
set_option maxRecDepth 100000 in
theorem rsame6_any (w : World) (a b : BkR) (ka : BkOk w a) (kb : BkOk w b) : Calls Try.prog 7 #[.agg (bkC a).toArray, .agg (bkC b).toArray] w (BSame w a b) := by
  have hb0 : Below w.heap.size w ((w.alloc (.cells (bkC a).toArray 30)).alloc (.cells (bkC b).toArray 30)) := nxAl (nxAl (nxRf w) _) _
  have Hb0 := Lib.hid hb0
  have HRa := Lib.hid (BkRow.of (blkR (vs := bkC a) (show Blk ((w.alloc (.cells (bkC a).toArray 30)).alloc (.cells (bkC b).toArray 30)) w.heap.size 30 (bkC a).toArray from Blk.alloc (heap_alloc_new w _) _)) ka.h.f)
  have HRb := Lib.hid (BkRow.of (blkR (vs := bkC b) (show Blk ((w.alloc (.cells (bkC a).toArray 30)).alloc (.cells (bkC b).toArray 30)) (w.heap.size + 1) 30 (bkC b).toArray from Blk.newAt (by simp) rfl)) kb.h.f)
  have HZa := Lib.hid (hdSz ka.h.f)
  have HZb := Lib.hid (hdSz kb.h.f)
  have KA := Lib.hid (ka.later hb0)
  have KB := Lib.hid (kb.later hb0)
  have TA := Lib.hid ka.t
  have TB := Lib.hid kb.t
  have HL2 : Hid (w.heap.size + 2 = ((w.alloc (.cells (bkC a).toArray 30)).alloc (.cells (bkC b).toArray 30)).heap.size) := by show _ = _; simp
  have HDe : Hid (bkD a = bkD b ↔ a.h.p = b.h.p ∧ a.txs.map txP = b.txs.map txP) := by
    show _ ↔ _
    unfold bkD
    rw [Prod.mk.injEq]
  unfold BSame
  clear hb0 ka kb
  have ENTRY : True := trivial
  by_cases hp : a.h.p = b.h.p
  rotate_left 1
  · have HSE : Hid (decide (a.h.p = b.h.p) = false) := decide_eq_false hp
    have HNo : Hid (bkD a ≠ bkD b) := fun e => hp (HDe.out.1 e).1
    clear hp
    go_enter Try.func7, Try.ntmps7
    go_wp2_with (first
      | ((with_reducible show wpList _ _ _ (⟨some 7, _, _, _, _, _⟩ :: _) _ _); refine wpList_load_mid rfl 27 (.tmp 6) rfl w.heap.size 0 rfl (hdC a.h) _ HRa.out.r Try.underlying27 rfl HZa.out ?_)
      | ((with_reducible show wpList _ _ _ (⟨some 9, _, _, _, _, _⟩ :: _) _ _); refine wpList_load_mid rfl 27 (.tmp 8) rfl (w.heap.size + 1) 0 rfl (hdC b.h) _ HRb.out.r Try.underlying27 rfl HZb.out ?_)
      | (go_at_call 10; refine (sameh_any ((w.alloc (.cells (bkC a).toArray 30)).alloc (.cells (bkC b).toArray 30)) a.h b.h KA.out.h KB.out.h).mono ?_; rw [HSE.out]; rintro e w3 ⟨rfl, hb⟩; have V3 := Lib.hid (nxTr Hb0.out hb); clear hb))
    go_ret
    exact ⟨false, rfl, bkD_no rfl HNo.out, V3.out⟩
  have HSE : Hid (decide (a.h.p = b.h.p) = true) := decide_eq_true hp
  have HPp := Lib.hid hp
  clear hp
  obtain ⟨la, hla⟩ : ∃ l, a.txs = l := ⟨_, rfl⟩
  obtain ⟨lb, hlb⟩ : ∃ l, b.txs = l := ⟨_, rfl⟩
  have HLa := Lib.hid hla
  have HLb := Lib.hid hlb
  have HDd : Hid (bkD a = bkD b ↔ la.map txP = lb.map txP) := by
    show _ ↔ _
    rw [HDe.out, hla, hlb]
    exact ⟨fun h => h.2, fun h => ⟨HPp.out, h⟩⟩
  rw [hla] at TA
  rw [hlb] at TB
  clear hla hlb HDe
  by_cases hl : la.length = lb.length
  rotate_left 1
  · have hq : ((la.length : Int) != (lb.length : Int)) = true := by rw [bne, beq_eq_false_iff_ne.2 (by omega)]; rfl
    have HNo : Hid (bkD a ≠ bkD b) := fun e => hl (by have h := congrArg List.length (HDd.out.1 e); rw [List.length_map, List.length_map] at h; exact h)
    clear hl
    go_enter Try.func7, Try.ntmps7
    go_wp2_with (first
      | ((with_reducible show wpList _ _ _ (⟨some 7, _, _, _, _, _⟩ :: _) _ _); refine wpList_load_mid rfl 27 (.tmp 6) rfl w.heap.size 0 rfl (hdC a.h) _ HRa.out.r Try.underlying27 rfl HZa.out ?_)
      | ((with_reducible show wpList _ _ _ (⟨some 9, _, _, _, _, _⟩ :: _) _ _); refine wpList_load_mid rfl 27 (.tmp 8) rfl (w.heap.size + 1) 0 rfl (hdC b.h) _ HRb.out.r Try.underlying27 rfl HZb.out ?_)
      | (go_at_call 10; refine (sameh_any ((w.alloc (.cells (bkC a).toArray 30)).alloc (.cells (bkC b).toArray 30)) a.h b.h KA.out.h KB.out.h).mono ?_; rw [HSE.out]; rintro e w3 ⟨rfl, hb⟩; have V3 := Lib.hid (nxTr Hb0.out hb); have D3 : Hid (Below ((w.alloc (.cells (bkC a).toArray 30)).alloc (.cells (bkC b).toArray 30)).heap.size ((w.alloc (.cells (bkC a).toArray 30)).alloc (.cells (bkC b).toArray 30)) w3) := hb; have c3a : w3.cell? ⟨w.heap.size, 130, none⟩ = some (.slice a.B la.length a.d) := (by have h := (HRa.out.below hb (by have := HL2.out; omega)).t; rw [HLa.out] at h; exact h); have c3b : w3.cell? ⟨w.heap.size + 1, 130, none⟩ = some (.slice b.B lb.length b.d) := (by have h := (HRb.out.below hb (by have := HL2.out; omega)).t; rw [HLb.out] at h; exact h); clear hb))
    go_ret
    exact ⟨false, rfl, bkD_no rfl HNo.out, V3.out⟩
  have hq : ((la.length : Int) != (lb.length : Int)) = false := by rw [hl, bne, beq_self_eq_true]; rfl
  have HL := Lib.hid hl
  have hlI : (la.length : Int) = (lb.length : Int) := by rw [hl]
  have HLI := Lib.hid hlI
  clear hl hlI
  go_enter Try.func7, Try.ntmps7
  go_wp2_with (first
    | ((with_reducible show wpList _ _ _ (⟨some 7, _, _, _, _, _⟩ :: _) _ _); refine wpList_load_mid rfl 27 (.tmp 6) rfl w.heap.size 0 rfl (hdC a.h) _ HRa.out.r Try.underlying27 rfl HZa.out ?_)
    | ((with_reducible show wpList _ _ _ (⟨some 9, _, _, _, _, _⟩ :: _) _ _); refine wpList_load_mid rfl 27 (.tmp 8) rfl (w.heap.size + 1) 0 rfl (hdC b.h) _ HRb.out.r Try.underlying27 rfl HZb.out ?_)
    | (go_at_call 10; refine (sameh_any ((w.alloc (.cells (bkC a).toArray 30)).alloc (.cells (bkC b).toArray 30)) a.h b.h KA.out.h KB.out.h).mono ?_; rw [HSE.out]; rintro e w3 ⟨rfl, hb⟩; have V3 := Lib.hid (nxTr Hb0.out hb); have D3 : Hid (Below ((w.alloc (.cells (bkC a).toArray 30)).alloc (.cells (bkC b).toArray 30)).heap.size ((w.alloc (.cells (bkC a).toArray 30)).alloc (.cells (bkC b).toArray 30)) w3) := hb; have c3a : w3.cell? ⟨w.heap.size, 130, none⟩ = some (.slice a.B la.length a.d) := (by have h := (HRa.out.below hb (by have := HL2.out; omega)).t; rw [HLa.out] at h; exact h); have c3b : w3.cell? ⟨w.heap.size + 1, 130, none⟩ = some (.slice b.B lb.length b.d) := (by have h := (HRb.out.below hb (by have := HL2.out; omega)).t; rw [HLb.out] at h; exact h); clear hb))
  clear c3a c3b hq
  go_loopw [5] (fun iv wr => ∃ k : Nat, k ≤ la.length ∧ iv = .int .i64 k ∧ Hid (∀ j (h1 : j < la.length) (h2 : j < lb.length), j < k → txP la[j] = txP lb[j]) ∧ Hid (Below ((w.alloc (.cells (bkC a).toArray 30)).alloc (.cells (bkC b).toArray 30)).heap.size ((w.alloc (.cells (bkC a).toArray 30)).alloc (.cells (bkC b).toArray 30)) wr)) (fun iv _ => la.length - (intOf iv).toNat)
  case atStart => exact ⟨0, by omega, rfl, fun j _ _ h => absurd h (Nat.not_lt_zero _), D3.out⟩
  case round =>
    clear V3 D3
    obtain ⟨k, hk, rfl, HE, Hb⟩ := hrel
    have L1 : Hid (w.heap.size < ((w.alloc (.cells (bkC a).toArray 30)).alloc (.cells (bkC b).toArray 30)).heap.size) := by show _ < _; have := HL2.out; omega
    have L2 : Hid (w.heap.size + 1 < ((w.alloc (.cells (bkC a).toArray 30)).alloc (.cells (bkC b).toArray 30)).heap.size) := by show _ < _; have := HL2.out; omega
    have ca : wr.cell? ⟨w.heap.size, 130, none⟩ = some (.slice a.B la.length a.d) := by have h := (HRa.out.below Hb.out L1.out).t; rw [HLa.out] at h; exact h
    have cb : wr.cell? ⟨w.heap.size + 1, 130, none⟩ = some (.slice b.B lb.length b.d) := by have h := (HRb.out.below Hb.out L2.out).t; rw [HLb.out] at h; exact h
    have HBg : Hid (Below w.heap.size w wr) := nxTr Hb0.out Hb.out
    by_cases hlt : k < la.length
    · have hlt' : k < lb.length := by rw [← HL.out]; exact hlt
      have hin : (k : Int) < (la.length : Int) := by omega
      have hin2 : (k : Int) < (lb.length : Int) := by omega
      obtain ⟨ba, oa, hA, hba, hra⟩ := txsC_row TA.out.s (by omega)
      obtain ⟨bb, ob, hB, hbb, hrb⟩ := txsC_row TB.out.s (by omega)
      have hr1 := rngB (hra k hlt) HBg.out hba
      have hr2 := rngB (hrb k hlt') HBg.out hbb
      have ht := (TA.out.each _ (List.getElem_mem hlt)).later HBg.out
      have hu := (TB.out.each _ (List.getElem_mem hlt')).later HBg.out
      rw [hA] at ca
      rw [hB] at cb
      obtain ⟨t, het⟩ : ∃ t, la[k] = t := ⟨_, rfl⟩
      obtain ⟨u, heu⟩ : ∃ t, lb[k] = t := ⟨_, rfl⟩
      rw [het] at hr1 ht
      rw [heu] at hr2 hu
      have HRt := Lib.hid hr1
      have HRu := Lib.hid hr2
      have HT := Lib.hid ht
      have HU := Lib.hid hu
      have HEt : Hid (la[k] = t) := het
      have HEu : Hid (lb[k] = u) := heu
      have Lba : Hid (ba < wr.heap.size) := Nat.lt_of_lt_of_le hba HBg.out.size
      have Lbb : Hid (bb < wr.heap.size) := Nat.lt_of_lt_of_le hbb HBg.out.size
      have Lg1 : Hid (w.heap.size < wr.heap.size) := Nat.lt_of_lt_of_le L1.out Hb.out.size
      have Lg2 : Hid (w.heap.size + 1 < wr.heap.size) := Nat.lt_of_lt_of_le L2.out Hb.out.size
      have HSZt : Hid ((Try.prog.info? 37).map (·.size) = some (txC t).length) := Try.sizeTx
      have HSZu : Hid ((Try.prog.info? 37).map (·.size) = some (txC u).length) := Try.sizeTx
      have CA := Lib.hid ca
      have CB := Lib.hid cb
      have hwk : IntKind.i64.wrap ((k : Int) + 1) = (k : Int) + 1 := by rw [IntKind.wrap_i64]; have := TA.out.m; omega
      clear hA hB hba hra hbb hrb hr1 hr2 ht hu het heu
      go_wp2_with fail
      clear ca cb
      refine wp_region_held_drew (S := fun W => W.cell? ⟨w.heap.size, 130, none⟩ = some (.slice (some ⟨ba, oa, none⟩) la.length a.d) ∧ W.cell? ⟨w.heap.size + 1, 130, none⟩ = some (.slice (some ⟨bb, ob, none⟩) lb.length b.d) ∧ W.rangeAt ba (oa + k * 3) (txC t) ∧ W.rangeAt bb (ob + k * 3) (txC u)) (by kernel_rfl) ⟨CA.out, CB.out, HRt.out, HRu.out⟩ (fun hHeld => ?_)
      refine wpAnyH_take (i := 0) (oi := ⟨_, _, _, _, _, _⟩) (v := ?_) rfl (by kernel_rfl) (by kernel_rfl) (by kernel_rfl) (fun _ _ _ h => h) (Or.inl ⟨by rfl, ?_⟩) (by assumption) ?_
      rotate_left 1
      · intro W hSw
        try dsimp only at hSw
        go_simp
        try with_reducible rfl
      try simp only [Act.put, List.setIfInBounds_toArray, List.set_cons_zero, List.set_cons_succ]
      refine wpAnyH_take (i := 5) (oi := ⟨_, _, _, _, _, _⟩) (v := ?_) rfl (by kernel_rfl) (by kernel_rfl) (by kernel_rfl) (fun _ _ _ h => h) (Or.inl ⟨by rfl, ?_⟩) (by assumption) ?_
      rotate_left 1
      · intro W hSw
        try dsimp only at hSw
        go_simp
        try with_reducible rfl
      try simp only [Act.put, List.setIfInBounds_toArray, List.set_cons_zero, List.set_cons_succ]
      refine wpAnyH_take (i := 1) (oi := ⟨_, _, _, _, _, _⟩) (v := ?_) rfl (by kernel_rfl) (by kernel_rfl) (by kernel_rfl) (fun _ _ _ h => h) (Or.inl ⟨by rfl, ?_⟩) (by assumption) ?_
      rotate_left 1
      · intro W hSw
        have hcw := hSw.1
        clear hSw
        go_simp
        try with_reducible rfl
      try simp only [Act.put, List.setIfInBounds_toArray, List.set_cons_zero, List.set_cons_succ]
      refine wpAnyH_take (i := 6) (oi := ⟨_, _, _, _, _, _⟩) (v := ?_) rfl (by kernel_rfl) (by kernel_rfl) (by kernel_rfl) (fun _ _ _ h => h) (Or.inl ⟨by rfl, ?_⟩) (by assumption) ?_
      rotate_left 1
      · intro W hSw
        have hcw := hSw.2.1
        clear hSw
        go_simp
        try with_reducible rfl
      try simp only [Act.put, List.setIfInBounds_toArray, List.set_cons_zero, List.set_cons_succ]
      refine wpAnyH_take (i := 2) (oi := ⟨_, _, _, _, _, _⟩) (v := ?_) rfl (by kernel_rfl) (by kernel_rfl) (by kernel_rfl) (fun _ _ _ h => h) (Or.inl ⟨by rfl, ?_⟩) (by assumption) ?_
      rotate_left 1
      · intro W hSw
        try dsimp only at hSw
        go_simp
        try with_reducible rfl
      try simp only [Act.put, List.setIfInBounds_toArray, List.set_cons_zero, List.set_cons_succ]
      refine wpAnyH_take (i := 7) (oi := ⟨_, _, _, _, _, _⟩) (v := ?_) rfl (by kernel_rfl) (by kernel_rfl) (by kernel_rfl) (fun _ _ _ h => h) (Or.inl ⟨by rfl, ?_⟩) (by assumption) ?_
      rotate_left 1
      · intro W hSw
        try dsimp only at hSw
        go_simp
        try with_reducible rfl
      try simp only [Act.put, List.setIfInBounds_toArray, List.set_cons_zero, List.set_cons_succ]
      refine wpAnyH_take (i := 3) (oi := ⟨_, _, _, _, _, _⟩) (v := ?_) rfl (by kernel_rfl) (by kernel_rfl) (by kernel_rfl) (fun _ _ _ h => h) (Or.inl ⟨by rfl, ?_⟩) (by assumption) ?_
      rotate_left 1
      · intro W hSw
        try dsimp only at hSw
        go_simp
        try with_reducible rfl
      try simp only [Act.put, List.setIfInBounds_toArray, List.set_cons_zero, List.set_cons_succ]
      refine wpAnyH_take (i := 8) (oi := ⟨_, _, _, _, _, _⟩) (v := ?_) rfl (by kernel_rfl) (by kernel_rfl) (by kernel_rfl) (fun _ _ _ h => h) (Or.inl ⟨by rfl, ?_⟩) (by assumption) ?_
      rotate_left 1
      · intro W hSw
        try dsimp only at hSw
        go_simp
        try with_reducible rfl
      try simp only [Act.put, List.setIfInBounds_toArray, List.set_cons_zero, List.set_cons_succ]
      refine wpAnyH_take (i := 4) (oi := ⟨_, _, _, _, _, _⟩) (v := .agg (txC t).toArray) rfl (by kernel_rfl) (by kernel_rfl) (by kernel_rfl) (fun _ _ _ h => h) (yieldsIf_load_mid (by rfl) 37 (.tmp 31) rfl (ba) (oa + k * 3) rfl (txC t) _ (fun W h => h.2.2.1) Try.underlying37 rfl HSZt.out) (by assumption) ?_
      try simp only [Act.put, List.setIfInBounds_toArray, List.set_cons_zero, List.set_cons_succ]
      refine wpAnyH_take (i := 9) (oi := ⟨_, _, _, _, _, _⟩) (v := .agg (txC u).toArray) rfl (by kernel_rfl) (by kernel_rfl) (by kernel_rfl) (fun _ _ _ h => h) (yieldsIf_load_mid (by rfl) 37 (.tmp 36) rfl (bb) (ob + k * 3) rfl (txC u) _ (fun W h => h.2.2.2) Try.underlying37 rfl HSZu.out) (by assumption) ?_
      try simp only [Act.put, List.setIfInBounds_toArray, List.set_cons_zero, List.set_cons_succ]
      refine wpAnyH_ready (rs := [10]) (by kernel_rfl) (by simp) ?_
      refine AllReadyH.cons rfl (fun K hK => ?_) AllReadyH.nil
      go_simp
      go_at_call 17
      refine (rsame_any wr.drew t u (HT.out.later ⟨rfl, rfl, rfl, Nat.le_refl _, fun _ _ => rfl⟩) (HU.out.later ⟨rfl, rfl, rfl, Nat.le_refl _, fun _ _ => rfl⟩)).mono ?_
      unfold SamePost
      rintro e w5 ⟨z, rfl, hz, hb⟩
      have D5 : Hid (Below wr.heap.size wr w5) := ⟨hb.os, hb.tape, hb.output, hb.size, hb.block⟩
      clear hb
      refine hK.out _ _ ⟨(D5.out.cell (p := ⟨w.heap.size, 130, none⟩) Lg1.out).trans CA.out, (D5.out.cell (p := ⟨w.heap.size + 1, 130, none⟩) Lg2.out).trans CB.out, rngB HRt.out D5.out Lba.out, rngB HRu.out D5.out Lbb.out⟩ (fun hSn => ?_)
      clear hK K
      try simp only [Act.put, List.setIfInBounds_toArray, List.set_cons_zero, List.set_cons_succ]
      refine wpAnyH_take (i := 11) (oi := ⟨_, _, _, _, _, _⟩) (v := ?_) rfl (by kernel_rfl) (by kernel_rfl) (by kernel_rfl) (fun _ _ _ h => h) (Or.inl ⟨by rfl, ?_⟩) (by assumption) ?_
      rotate_left 1
      · intro W hSw
        try dsimp only at hSw
        go_simp
        try with_reducible rfl
      try simp only [Act.put, List.setIfInBounds_toArray, List.set_cons_zero, List.set_cons_succ]
      refine wpAnyH_done (by kernel_rfl) ?_ _
      have HZz := Lib.hid hz
      have Hb5 : Hid (Below ((w.alloc (.cells (bkC a).toArray 30)).alloc (.cells (bkC b).toArray 30)).heap.size ((w.alloc (.cells (bkC a).toArray 30)).alloc (.cells (bkC b).toArray 30)) w5) := nxTr Hb.out D5.out
      clear hz hHeld hSn D5 CA CB HRt HRu
      cases z with
      | true =>
        have HE' : Hid (∀ j (h1 : j < la.length) (h2 : j < lb.length), j < k + 1 → txP la[j] = txP lb[j]) := by
          intro j h1 h2 hj
          by_cases h3 : j < k
          · exact HE.out j h1 h2 h3
          · obtain rfl : j = k := by omega
            rw [HEt.out, HEu.out]; exact HZz.out.1 rfl
        go_wp2
        go_roundw
        case rel => exact ⟨k + 1, by omega, by go_num, HE'.out, Hb5.out⟩
        case measure => simp [intOf] <;> omega
      | false =>
        have HNo : Hid (bkD a ≠ bkD b) := fun e => by
          have h := HDd.out.1 e
          have h1 : (la.map txP)[k]? = (lb.map txP)[k]? := by rw [h]
          rw [List.getElem?_map, List.getElem?_map, List.getElem?_eq_getElem hlt, List.getElem?_eq_getElem hlt', HEt.out, HEu.out] at h1
          have h2 : txP t = txP u := Option.some.inj h1
          have h3 := HZz.out.2 h2
          cases h3
        go_wp2
        go_ret
        exact ⟨false, rfl, bkD_no rfl HNo.out, nxTr Hb0.out Hb5.out⟩
    · obtain rfl : k = la.length := by omega
      have HYes : Hid (bkD a = bkD b) := HDd.out.2 (by
        apply List.ext_getElem
        · rw [List.length_map, List.length_map]; exact HL.out
        · intro i h1 h2
          rw [List.length_map] at h1 h2
          rw [List.getElem_map, List.getElem_map]
          exact HE.out i h1 h2 h1)
      clear hlt
      go_wp2
      go_ret
      exact ⟨true, rfl, ⟨fun _ => HYes.out, fun _ => rfl⟩, HBg.out⟩
end Go.Proofs.Ytjcbihdhkaiidaa
