/-
  tx: asked, Check, May. · tx: May, Out.
-/
import Derived.Test.YtbloomnifhcgbaaGreatDoorTx5
import Derived.LoopN
namespace Go.Proofs.YtbloomnifhcgbaaGreatDoor
open Go.RowKit

set_option maxHeartbeats 1000000 in
set_option maxRecDepth 100000 in
theorem ask5_any (w : World) (g : Nat) (t : TxR) (h : TxAt w g t) (hmax : t.outs.length ≤ 100000) : Calls Tryz.prog 108 #[.pointer (some ⟨g, 0, none⟩)] w fun e w' => e = .returned (.int .i64 (amtE t.outs)) ∧ Below w.heap.size w w' := by
  have HR := Lib.hid (blkR (vs := txC t) h.1)
  have HT := Lib.hid h.2
  have HZ : Hid ((Tryz.prog.info? 66).map (·.size) = some (txC t).length) := Tryz.sizeTx
  have HM := Lib.hid hmax
  clear h hmax
  go_enter Tryz.func108, Tryz.ntmps108
  go_wp2_with (first
    | ((with_reducible show wpList _ _ _ (⟨some 5, _, _, _, _, _⟩ :: _) _ _); refine wpList_load_mid rfl 66 (.tmp 0) rfl g 0 rfl (txC t) _ HR.out Tryz.underlying66 rfl HZ.out ?_)
    | (go_at_call 109; refine (amounts_any w t HT.out HM.out).mono ?_; rintro e w2 ⟨rfl, hb2⟩; have Hb2 := Lib.hid hb2; clear hb2))
  go_ret
  exact ⟨rfl, Hb2.out⟩

/-- What asked answers: five closures. -/
def askF : Nat → Nat
  | 0 => 99
  | 1 => 102
  | 2 => 103
  | 3 => 106
  | _ => 108
def AskedPost (w : World) (t : TxR) (e : Ending) (w' : World) : Prop := ∃ b g, e = .returned (.slice (some ⟨b, 0, none⟩) 5 5) ∧ TxAt w' g t ∧ Below w.heap.size w w' ∧ w.heap.size ≤ g ∧ b < w'.heap.size ∧ (∀ j, j < 5 → w'.cell? ⟨b, j, none⟩ = some (.func (.func (askF j)) #[] #[.pointer (some ⟨g, 0, none⟩)]))
set_option maxHeartbeats 1000000 in
set_option maxRecDepth 100000 in
theorem asked_any (w : World) (t : TxR) (h : TxOk w t) : Calls Tryz.prog 83 #[.agg (txC t).toArray] w (AskedPost w t) := by
  have HT := Lib.hid (TxAt.new h)
  clear h
  have hmf : ∀ (fn : Fn) (first cap : Array Value) (w : World), (Instr.makeFunc fn first cap).run Tryz.prog w = .ok (.func fn first cap) w := fun _ _ _ _ => rfl
  go_enter Tryz.func83, Tryz.ntmps83
  go_wp2
  go_ret
  refine ⟨_, w.heap.size, rfl, HT.out.later (nxAl (nxRf _) _), nxAl (nxAl (nxRf w) _) _, Nat.le_refl _, by simp, fun j hj => ?_⟩
  match j, hj with
  | 0, _ => simp [askF]
  | 1, _ => simp [askF]
  | 2, _ => simp [askF]
  | 3, _ => simp [askF]
  | 4, _ => simp [askF]
theorem amtE_two (l : List OutR) : amtE l = 0 ∨ amtE l = 5 := by
  unfold amtE sumE
  cases l.any (fun o => o.amt == 0)
  · rw [cond_false]; split <;> simp
  · right; rfl
set_option maxHeartbeats 2000000 in
set_option maxRecDepth 100000 in
theorem check_any (w : World) (t : TxR) (h : TxOk w t) : Calls Tryz.prog 58 #[.agg (txC t).toArray] w fun e w' => e = .returned (.int .i64 (checkT t)) ∧ Below w.heap.size w w' := by
  have hA := TxAt.new h
  have HR := Lib.hid (blkR (vs := txC t) hA.1)
  have HT := Lib.hid hA.2
  have HZ : Hid ((Tryz.prog.info? 66).map (·.size) = some (txC t).length) := Tryz.sizeTx
  have Hb0 : Hid (Below w.heap.size w (w.alloc (.cells (txC t).toArray 66))) := Lib.hid (nxAl (nxRf w) _)
  have ht : argE true = 0 := rfl
  have hf : argE false = 2 := rfl
  clear hA h
  cases hc0 : cntB t.ins.length with
  | false =>
    have HC0 := Lib.hid hc0
    have HV : Hid (checkT t = 2) := by
      show _ = _
      have hfm : formB t = false := by unfold formB; simp only [hc0]; rfl
      rw [checkT, hfm, cond_false]
    clear hc0
    go_enter Tryz.func58, Tryz.ntmps58
    go_wp2_with (first
      | ((with_reducible show wpList _ _ _ (⟨some 6, _, _, _, _, _⟩ :: _) _ _); refine wpList_load_mid rfl 66 (.tmp 1) rfl w.heap.size 0 rfl (txC t) _ HR.out Tryz.underlying66 rfl HZ.out ?_)
      | (go_at_call 83; refine (asked_any _ t HT.out).mono ?_; rintro e w1 ⟨b, g, rfl, ht1, hb1, hg1, hbb1, hc1⟩; have H1 := Lib.hid ht1; have V1 : Hid (Below w.heap.size w w1) := nxTr Hb0.out hb1; have HB := Lib.hid hbb1; have c10 := hc1 0 (by omega); have c11 := hc1 1 (by omega); have c12 := hc1 2 (by omega); have c13 := hc1 3 (by omega); have c14 := hc1 4 (by omega); unfold askF at c10 c11 c12 c13 c14; clear ht1 hb1 hg1 hbb1 hc1))
    refine wp_loop_rounds 6 ?_
    rw [rounds_succ]
    go_wp2_with (go_at_call 99; refine (ask1_any w1 g t H1.out).mono ?_; rw [HC0.out, hf]; rintro e w2 ⟨rfl, hb⟩; have V2 : Hid (Below w.heap.size w w2) := nxTr V1.out hb; have H2 := Lib.hid (H1.out.later hb); have c21 : w2.cell? ⟨b, 1, none⟩ = _ := cell_later hb c11; have c22 : w2.cell? ⟨b, 2, none⟩ = _ := cell_later hb c12; have c23 : w2.cell? ⟨b, 3, none⟩ = _ := cell_later hb c13; have c24 : w2.cell? ⟨b, 4, none⟩ = _ := cell_later hb c14; clear hb c10 c11 c12 c13 c14)
    go_ret
    exact ⟨by rw [HV.out]; rfl, V2.out⟩
  | true =>
    have HC0 := Lib.hid hc0
    cases hc1 : cntB t.outs.length with
    | false =>
      have HC1 := Lib.hid hc1
      have HV : Hid (checkT t = 2) := by
        show _ = _
        have hfm : formB t = false := by unfold formB; simp only [hc0, hc1]; rfl
        rw [checkT, hfm, cond_false]
      clear hc0 hc1
      go_enter Tryz.func58, Tryz.ntmps58
      go_wp2_with (first
        | ((with_reducible show wpList _ _ _ (⟨some 6, _, _, _, _, _⟩ :: _) _ _); refine wpList_load_mid rfl 66 (.tmp 1) rfl w.heap.size 0 rfl (txC t) _ HR.out Tryz.underlying66 rfl HZ.out ?_)
        | (go_at_call 83; refine (asked_any _ t HT.out).mono ?_; rintro e w1 ⟨b, g, rfl, ht1, hb1, hg1, hbb1, hc1⟩; have H1 := Lib.hid ht1; have V1 : Hid (Below w.heap.size w w1) := nxTr Hb0.out hb1; have HB := Lib.hid hbb1; have c10 := hc1 0 (by omega); have c11 := hc1 1 (by omega); have c12 := hc1 2 (by omega); have c13 := hc1 3 (by omega); have c14 := hc1 4 (by omega); unfold askF at c10 c11 c12 c13 c14; clear ht1 hb1 hg1 hbb1 hc1))
      refine wp_loop_rounds 6 ?_
      rw [rounds_succ]
      go_wp2_with (go_at_call 99; refine (ask1_any w1 g t H1.out).mono ?_; rw [HC0.out, ht]; rintro e w2 ⟨rfl, hb⟩; have V2 : Hid (Below w.heap.size w w2) := nxTr V1.out hb; have H2 := Lib.hid (H1.out.later hb); have c21 : w2.cell? ⟨b, 1, none⟩ = _ := cell_later hb c11; have c22 : w2.cell? ⟨b, 2, none⟩ = _ := cell_later hb c12; have c23 : w2.cell? ⟨b, 3, none⟩ = _ := cell_later hb c13; have c24 : w2.cell? ⟨b, 4, none⟩ = _ := cell_later hb c14; clear hb c10 c11 c12 c13 c14)
      rw [rounds_succ]
      go_wp2_with (go_at_call 102; refine (ask2_any w2 g t H2.out).mono ?_; rw [HC1.out, hf]; rintro e w3 ⟨rfl, hb⟩; have V3 : Hid (Below w.heap.size w w3) := nxTr V2.out hb; have H3 := Lib.hid (H2.out.later hb); have c32 : w3.cell? ⟨b, 2, none⟩ = _ := cell_later hb c22; have c33 : w3.cell? ⟨b, 3, none⟩ = _ := cell_later hb c23; have c34 : w3.cell? ⟨b, 4, none⟩ = _ := cell_later hb c24; clear hb c21 c22 c23 c24)
      go_ret
      exact ⟨by rw [HV.out]; rfl, V3.out⟩
    | true =>
      have HC1 := Lib.hid hc1
      cases hc2 : (!t.ins.any longB) with
      | false =>
        have HC2 := Lib.hid hc2
        have HV : Hid (checkT t = 2) := by
          show _ = _
          have hfm : formB t = false := by unfold formB; simp only [hc0, hc1, hc2]; rfl
          rw [checkT, hfm, cond_false]
        clear hc0 hc1 hc2
        go_enter Tryz.func58, Tryz.ntmps58
        go_wp2_with (first
          | ((with_reducible show wpList _ _ _ (⟨some 6, _, _, _, _, _⟩ :: _) _ _); refine wpList_load_mid rfl 66 (.tmp 1) rfl w.heap.size 0 rfl (txC t) _ HR.out Tryz.underlying66 rfl HZ.out ?_)
          | (go_at_call 83; refine (asked_any _ t HT.out).mono ?_; rintro e w1 ⟨b, g, rfl, ht1, hb1, hg1, hbb1, hc1⟩; have H1 := Lib.hid ht1; have V1 : Hid (Below w.heap.size w w1) := nxTr Hb0.out hb1; have HB := Lib.hid hbb1; have c10 := hc1 0 (by omega); have c11 := hc1 1 (by omega); have c12 := hc1 2 (by omega); have c13 := hc1 3 (by omega); have c14 := hc1 4 (by omega); unfold askF at c10 c11 c12 c13 c14; clear ht1 hb1 hg1 hbb1 hc1))
        refine wp_loop_rounds 6 ?_
        rw [rounds_succ]
        go_wp2_with (go_at_call 99; refine (ask1_any w1 g t H1.out).mono ?_; rw [HC0.out, ht]; rintro e w2 ⟨rfl, hb⟩; have V2 : Hid (Below w.heap.size w w2) := nxTr V1.out hb; have H2 := Lib.hid (H1.out.later hb); have c21 : w2.cell? ⟨b, 1, none⟩ = _ := cell_later hb c11; have c22 : w2.cell? ⟨b, 2, none⟩ = _ := cell_later hb c12; have c23 : w2.cell? ⟨b, 3, none⟩ = _ := cell_later hb c13; have c24 : w2.cell? ⟨b, 4, none⟩ = _ := cell_later hb c14; clear hb c10 c11 c12 c13 c14)
        rw [rounds_succ]
        go_wp2_with (go_at_call 102; refine (ask2_any w2 g t H2.out).mono ?_; rw [HC1.out, ht]; rintro e w3 ⟨rfl, hb⟩; have V3 : Hid (Below w.heap.size w w3) := nxTr V2.out hb; have H3 := Lib.hid (H2.out.later hb); have c32 : w3.cell? ⟨b, 2, none⟩ = _ := cell_later hb c22; have c33 : w3.cell? ⟨b, 3, none⟩ = _ := cell_later hb c23; have c34 : w3.cell? ⟨b, 4, none⟩ = _ := cell_later hb c24; clear hb c21 c22 c23 c24)
        rw [rounds_succ]
        go_wp2_with (go_at_call 103; refine (ask3_any w3 g t H3.out).mono ?_; rw [HC2.out, hf]; rintro e w4 ⟨rfl, hb⟩; have V4 : Hid (Below w.heap.size w w4) := nxTr V3.out hb; have H4 := Lib.hid (H3.out.later hb); have c43 : w4.cell? ⟨b, 3, none⟩ = _ := cell_later hb c33; have c44 : w4.cell? ⟨b, 4, none⟩ = _ := cell_later hb c34; clear hb c32 c33 c34)
        go_ret
        exact ⟨by rw [HV.out]; rfl, V4.out⟩
      | true =>
        have HC2 := Lib.hid hc2
        cases hc3 : (!twiceB t.ins) with
        | false =>
          have HC3 := Lib.hid hc3
          have HV : Hid (checkT t = 2) := by
            show _ = _
            have hfm : formB t = false := by unfold formB; simp only [hc0, hc1, hc2, hc3]; rfl
            rw [checkT, hfm, cond_false]
          clear hc0 hc1 hc2 hc3
          go_enter Tryz.func58, Tryz.ntmps58
          go_wp2_with (first
            | ((with_reducible show wpList _ _ _ (⟨some 6, _, _, _, _, _⟩ :: _) _ _); refine wpList_load_mid rfl 66 (.tmp 1) rfl w.heap.size 0 rfl (txC t) _ HR.out Tryz.underlying66 rfl HZ.out ?_)
            | (go_at_call 83; refine (asked_any _ t HT.out).mono ?_; rintro e w1 ⟨b, g, rfl, ht1, hb1, hg1, hbb1, hc1⟩; have H1 := Lib.hid ht1; have V1 : Hid (Below w.heap.size w w1) := nxTr Hb0.out hb1; have HB := Lib.hid hbb1; have c10 := hc1 0 (by omega); have c11 := hc1 1 (by omega); have c12 := hc1 2 (by omega); have c13 := hc1 3 (by omega); have c14 := hc1 4 (by omega); unfold askF at c10 c11 c12 c13 c14; clear ht1 hb1 hg1 hbb1 hc1))
          refine wp_loop_rounds 6 ?_
          rw [rounds_succ]
          go_wp2_with (go_at_call 99; refine (ask1_any w1 g t H1.out).mono ?_; rw [HC0.out, ht]; rintro e w2 ⟨rfl, hb⟩; have V2 : Hid (Below w.heap.size w w2) := nxTr V1.out hb; have H2 := Lib.hid (H1.out.later hb); have c21 : w2.cell? ⟨b, 1, none⟩ = _ := cell_later hb c11; have c22 : w2.cell? ⟨b, 2, none⟩ = _ := cell_later hb c12; have c23 : w2.cell? ⟨b, 3, none⟩ = _ := cell_later hb c13; have c24 : w2.cell? ⟨b, 4, none⟩ = _ := cell_later hb c14; clear hb c10 c11 c12 c13 c14)
          rw [rounds_succ]
          go_wp2_with (go_at_call 102; refine (ask2_any w2 g t H2.out).mono ?_; rw [HC1.out, ht]; rintro e w3 ⟨rfl, hb⟩; have V3 : Hid (Below w.heap.size w w3) := nxTr V2.out hb; have H3 := Lib.hid (H2.out.later hb); have c32 : w3.cell? ⟨b, 2, none⟩ = _ := cell_later hb c22; have c33 : w3.cell? ⟨b, 3, none⟩ = _ := cell_later hb c23; have c34 : w3.cell? ⟨b, 4, none⟩ = _ := cell_later hb c24; clear hb c21 c22 c23 c24)
          rw [rounds_succ]
          go_wp2_with (go_at_call 103; refine (ask3_any w3 g t H3.out).mono ?_; rw [HC2.out, ht]; rintro e w4 ⟨rfl, hb⟩; have V4 : Hid (Below w.heap.size w w4) := nxTr V3.out hb; have H4 := Lib.hid (H3.out.later hb); have c43 : w4.cell? ⟨b, 3, none⟩ = _ := cell_later hb c33; have c44 : w4.cell? ⟨b, 4, none⟩ = _ := cell_later hb c34; clear hb c32 c33 c34)
          rw [rounds_succ]
          go_wp2_with (go_at_call 106; refine (ask4_any w4 g t H4.out (by have := of_decide_eq_true HC0.out; omega)).mono ?_; rw [HC3.out, hf]; rintro e w5 ⟨rfl, hb⟩; have V5 : Hid (Below w.heap.size w w5) := nxTr V4.out hb; have H5 := Lib.hid (H4.out.later hb); have c54 : w5.cell? ⟨b, 4, none⟩ = _ := cell_later hb c44; clear hb c43 c44)
          go_ret
          exact ⟨by rw [HV.out]; rfl, V5.out⟩
        | true =>
          have HC3 := Lib.hid hc3
          have hfm : formB t = true := by unfold formB; simp only [hc0, hc1, hc2, hc3]; rfl
          rcases amtE_two t.outs with hz | hz
          · have HZa := Lib.hid hz
            have HV : Hid (checkT t = 0) := by show _ = _; rw [checkT, hfm, cond_true, hz]
            clear hz hfm hc0 hc1 hc2 hc3
            go_enter Tryz.func58, Tryz.ntmps58
            go_wp2_with (first
              | ((with_reducible show wpList _ _ _ (⟨some 6, _, _, _, _, _⟩ :: _) _ _); refine wpList_load_mid rfl 66 (.tmp 1) rfl w.heap.size 0 rfl (txC t) _ HR.out Tryz.underlying66 rfl HZ.out ?_)
              | (go_at_call 83; refine (asked_any _ t HT.out).mono ?_; rintro e w1 ⟨b, g, rfl, ht1, hb1, hg1, hbb1, hc1⟩; have H1 := Lib.hid ht1; have V1 : Hid (Below w.heap.size w w1) := nxTr Hb0.out hb1; have HB := Lib.hid hbb1; have c10 := hc1 0 (by omega); have c11 := hc1 1 (by omega); have c12 := hc1 2 (by omega); have c13 := hc1 3 (by omega); have c14 := hc1 4 (by omega); unfold askF at c10 c11 c12 c13 c14; clear ht1 hb1 hg1 hbb1 hc1))
            refine wp_loop_rounds 6 ?_
            rw [rounds_succ]
            go_wp2_with (go_at_call 99; refine (ask1_any w1 g t H1.out).mono ?_; rw [HC0.out, ht]; rintro e w2 ⟨rfl, hb⟩; have V2 : Hid (Below w.heap.size w w2) := nxTr V1.out hb; have H2 := Lib.hid (H1.out.later hb); have c21 : w2.cell? ⟨b, 1, none⟩ = _ := cell_later hb c11; have c22 : w2.cell? ⟨b, 2, none⟩ = _ := cell_later hb c12; have c23 : w2.cell? ⟨b, 3, none⟩ = _ := cell_later hb c13; have c24 : w2.cell? ⟨b, 4, none⟩ = _ := cell_later hb c14; clear hb c10 c11 c12 c13 c14)
            rw [rounds_succ]
            go_wp2_with (go_at_call 102; refine (ask2_any w2 g t H2.out).mono ?_; rw [HC1.out, ht]; rintro e w3 ⟨rfl, hb⟩; have V3 : Hid (Below w.heap.size w w3) := nxTr V2.out hb; have H3 := Lib.hid (H2.out.later hb); have c32 : w3.cell? ⟨b, 2, none⟩ = _ := cell_later hb c22; have c33 : w3.cell? ⟨b, 3, none⟩ = _ := cell_later hb c23; have c34 : w3.cell? ⟨b, 4, none⟩ = _ := cell_later hb c24; clear hb c21 c22 c23 c24)
            rw [rounds_succ]
            go_wp2_with (go_at_call 103; refine (ask3_any w3 g t H3.out).mono ?_; rw [HC2.out, ht]; rintro e w4 ⟨rfl, hb⟩; have V4 : Hid (Below w.heap.size w w4) := nxTr V3.out hb; have H4 := Lib.hid (H3.out.later hb); have c43 : w4.cell? ⟨b, 3, none⟩ = _ := cell_later hb c33; have c44 : w4.cell? ⟨b, 4, none⟩ = _ := cell_later hb c34; clear hb c32 c33 c34)
            rw [rounds_succ]
            go_wp2_with (go_at_call 106; refine (ask4_any w4 g t H4.out (by have := of_decide_eq_true HC0.out; omega)).mono ?_; rw [HC3.out, ht]; rintro e w5 ⟨rfl, hb⟩; have V5 : Hid (Below w.heap.size w w5) := nxTr V4.out hb; have H5 := Lib.hid (H4.out.later hb); have c54 : w5.cell? ⟨b, 4, none⟩ = _ := cell_later hb c44; clear hb c43 c44)
            rw [rounds_succ]
            go_wp2_with (go_at_call 108; refine (ask5_any w5 g t H5.out (by have := of_decide_eq_true HC1.out; omega)).mono ?_; rw [HZa.out]; rintro e w6 ⟨rfl, hb⟩; have V6 : Hid (Below w.heap.size w w6) := nxTr V5.out hb; have H6 := Lib.hid (H5.out.later hb); clear hb c54)
            rw [rounds_succ]
            go_wp2
            go_ret
            exact ⟨by rw [HV.out]; rfl, V6.out⟩
          · have HZa := Lib.hid hz
            have HV : Hid (checkT t = 5) := by show _ = _; rw [checkT, hfm, cond_true, hz]
            clear hz hfm hc0 hc1 hc2 hc3
            go_enter Tryz.func58, Tryz.ntmps58
            go_wp2_with (first
              | ((with_reducible show wpList _ _ _ (⟨some 6, _, _, _, _, _⟩ :: _) _ _); refine wpList_load_mid rfl 66 (.tmp 1) rfl w.heap.size 0 rfl (txC t) _ HR.out Tryz.underlying66 rfl HZ.out ?_)
              | (go_at_call 83; refine (asked_any _ t HT.out).mono ?_; rintro e w1 ⟨b, g, rfl, ht1, hb1, hg1, hbb1, hc1⟩; have H1 := Lib.hid ht1; have V1 : Hid (Below w.heap.size w w1) := nxTr Hb0.out hb1; have HB := Lib.hid hbb1; have c10 := hc1 0 (by omega); have c11 := hc1 1 (by omega); have c12 := hc1 2 (by omega); have c13 := hc1 3 (by omega); have c14 := hc1 4 (by omega); unfold askF at c10 c11 c12 c13 c14; clear ht1 hb1 hg1 hbb1 hc1))
            refine wp_loop_rounds 6 ?_
            rw [rounds_succ]
            go_wp2_with (go_at_call 99; refine (ask1_any w1 g t H1.out).mono ?_; rw [HC0.out, ht]; rintro e w2 ⟨rfl, hb⟩; have V2 : Hid (Below w.heap.size w w2) := nxTr V1.out hb; have H2 := Lib.hid (H1.out.later hb); have c21 : w2.cell? ⟨b, 1, none⟩ = _ := cell_later hb c11; have c22 : w2.cell? ⟨b, 2, none⟩ = _ := cell_later hb c12; have c23 : w2.cell? ⟨b, 3, none⟩ = _ := cell_later hb c13; have c24 : w2.cell? ⟨b, 4, none⟩ = _ := cell_later hb c14; clear hb c10 c11 c12 c13 c14)
            rw [rounds_succ]
            go_wp2_with (go_at_call 102; refine (ask2_any w2 g t H2.out).mono ?_; rw [HC1.out, ht]; rintro e w3 ⟨rfl, hb⟩; have V3 : Hid (Below w.heap.size w w3) := nxTr V2.out hb; have H3 := Lib.hid (H2.out.later hb); have c32 : w3.cell? ⟨b, 2, none⟩ = _ := cell_later hb c22; have c33 : w3.cell? ⟨b, 3, none⟩ = _ := cell_later hb c23; have c34 : w3.cell? ⟨b, 4, none⟩ = _ := cell_later hb c24; clear hb c21 c22 c23 c24)
            rw [rounds_succ]
            go_wp2_with (go_at_call 103; refine (ask3_any w3 g t H3.out).mono ?_; rw [HC2.out, ht]; rintro e w4 ⟨rfl, hb⟩; have V4 : Hid (Below w.heap.size w w4) := nxTr V3.out hb; have H4 := Lib.hid (H3.out.later hb); have c43 : w4.cell? ⟨b, 3, none⟩ = _ := cell_later hb c33; have c44 : w4.cell? ⟨b, 4, none⟩ = _ := cell_later hb c34; clear hb c32 c33 c34)
            rw [rounds_succ]
            go_wp2_with (go_at_call 106; refine (ask4_any w4 g t H4.out (by have := of_decide_eq_true HC0.out; omega)).mono ?_; rw [HC3.out, ht]; rintro e w5 ⟨rfl, hb⟩; have V5 : Hid (Below w.heap.size w w5) := nxTr V4.out hb; have H5 := Lib.hid (H4.out.later hb); have c54 : w5.cell? ⟨b, 4, none⟩ = _ := cell_later hb c44; clear hb c43 c44)
            rw [rounds_succ]
            go_wp2_with (go_at_call 108; refine (ask5_any w5 g t H5.out (by have := of_decide_eq_true HC1.out; omega)).mono ?_; rw [HZa.out]; rintro e w6 ⟨rfl, hb⟩; have V6 : Hid (Below w.heap.size w w6) := nxTr V5.out hb; have H6 := Lib.hid (H5.out.later hb); clear hb c54)
            go_ret
            exact ⟨by rw [HV.out]; rfl, V6.out⟩
end Go.Proofs.YtbloomnifhcgbaaGreatDoor
namespace Go.Proofs.YtbloomnifhcgbaaGreatDoor
open Go.RowKit

theorem may_any (w : World) (t : TxR) (h : TxOk w t) : Calls Tryz.prog 68 #[.agg (txC t).toArray] w fun e w' => e = .returned (.bool (checkT t == 0)) ∧ Below w.heap.size w w' := by
  have hA := TxAt.new h
  have HR := Lib.hid (blkR (vs := txC t) hA.1)
  have HT := Lib.hid hA.2
  have HZ : Hid ((Tryz.prog.info? 66).map (·.size) = some (txC t).length) := Tryz.sizeTx
  have Hb0 : Hid (Below w.heap.size w (w.alloc (.cells (txC t).toArray 66))) := Lib.hid (nxAl (nxRf w) _)
  obtain ⟨z, hz⟩ : ∃ z, checkT t = z := ⟨_, rfl⟩
  have HZz := Lib.hid hz
  rw [hz]
  clear hA h hz
  go_enter Tryz.func68, Tryz.ntmps68
  go_wp2_with (first
    | ((with_reducible show wpList _ _ _ (⟨some 3, _, _, _, _, _⟩ :: _) _ _); refine wpList_load_mid rfl 66 (.tmp 1) rfl w.heap.size 0 rfl (txC t) _ HR.out Tryz.underlying66 rfl HZ.out ?_)
    | (go_at_call 58; refine (check_any _ t HT.out).mono ?_; rw [HZz.out]; rintro e w2 ⟨rfl, hb2⟩; have Hb2 : Hid (Below w.heap.size w w2) := nxTr Hb0.out hb2; clear hb2))
  go_ret
  exact ⟨rfl, Hb2.out⟩
end Go.Proofs.YtbloomnifhcgbaaGreatDoor
