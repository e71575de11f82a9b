/-
  dag: DagNil's walk.
-/
import Derived.Test.YtndkjmmmneianaaDoorDhD
import Derived.LoopN
namespace Go.Proofs.YtndkjmmmneianaaDoor
open Go.RowKit Go.Shelf

def oneH : Hh := ⟨1 :: List.replicate 31 0, rfl⟩
theorem wpList_neHs {ops : Array Oper} {rest : List Oper} {op : Oper} {a : Act} {w : World} {Q : Exit → Act → World → Prop} (hgd : op.guard = none) (x y : Operand) (ho : op.op = .binOp .neq 23 x y 23)
    (l : Hh) (hx : a.eval x = .agg (hC l).toArray) (hy : a.eval y = .agg (hC l).toArray) (h : wpList Tryd.prog ops Q rest (a.put op.dst (.bool false)) w) : wpList Tryd.prog ops Q (op :: rest) a w := by
  refine wpList_plain hgd fun _ hK => ?_
  have hq : (eqGuard .neq 23 x y (.agg (hC l).toArray) (.agg (hC l).toArray)).run Tryd.prog w = .ok () w := by simp [eqGuard, Tryd.deqgH]
  have he : (l.1 == l.1) = true := beq_self_eq_true _
  unfold Oper.wp execOp
  unfold hC at hx hy hq
  simp only [ho, hx, hy, Sem.run_bind, Sem.run_pure, Result.andThen_ok, hq, run_neq_bytes 32 23 5 Tryd.underlying23 Tryd.underlying5 Tryd.u8size l.1 l.1 l.2 l.2, bne, he]
  exact hK _ _ h
theorem dnil_leave {w W : World} {D1 D2 pb : Nat} (tmps : Array Value) (hp : tmps.getD 0 undef = .pointer (some ⟨pb, 0, none⟩)) (hc : Blk W pb 4 #[.bool true]) (hv : Below w.heap.size w W) (hD1 : W.heap[D1]? = some (.deferred (some []))) (hD2 : W.heap[D2]? = some (.deferred (some []))) (hne : D1 ≠ D2) (hl1 : w.heap.size ≤ D1) (hl2 : w.heap.size ≤ D2) :
    LeavesInM Fence.wide 5 Tryd.prog Tryd.f7 tmps (fun e w' => e = .returned (.bool true) ∧ Below w.heap.size w w') [{ target := .collected D2, args := #[] }, { target := .collected D1, args := #[] }] .returning W := by
  have h1 : (W.putObj D2 (.deferred none)).heap[D1]? = some (.deferred (some [])) := (World.putObj_heap_other hne).trans hD1
  have hc2 := (hc.putW (.deferred none) hD2 rfl).putW (.deferred none) h1 rfl
  have hv1 : Below w.heap.size w (W.putObj D2 (.deferred none)) := hv.grown (grownBy_putObj' W D2 (.deferred none)) hv.size (fun k e => by cases e; exact hl2)
  have hv2 : Below w.heap.size w ((W.putObj D2 (.deferred none)).putObj D1 (.deferred none)) := hv1.grown (grownBy_putObj' _ D1 (.deferred none)) hv1.size (fun k e => by cases e; exact hl1)
  have hcc := hc2.cell 0
  refine ⟨by simp, .inl ⟨_, _, rfl, run_takeDeferred hD2, ⟨by simp, .inl ⟨_, _, rfl, run_takeDeferred h1, ?_⟩⟩⟩⟩
  have hag : ∀ w, (isAgg 4).run Tryd.prog w = .ok false w := fun w => by kernel_rfl
  have hcc2 : ((W.putObj D2 (.deferred none)).putObj D1 (.deferred none)).cell? ⟨pb, 0, none⟩ = some (.bool true) := hcc
  have hld : (loadVar 4 ⟨pb, 0, none⟩).run Tryd.prog ((W.putObj D2 (.deferred none)).putObj D1 (.deferred none)) = .ok (.bool true) ((W.putObj D2 (.deferred none)).putObj D1 (.deferred none)) := by
    unfold loadVar
    simp only [Sem.run_bind, hag, Result.andThen_ok, Bool.false_eq_true, if_false]
    simp [hcc2]
  exact ⟨.bool true, results_cellb Tryd.results7 tmps _ pb (.bool true) hp hld, rfl, hv2⟩
section
attribute [local go_sem] Oper.semAt_some
set_option maxRecDepth 100000 in
set_option maxHeartbeats 8000000 in
theorem dagNil_any (w : World) (hT : TabAt 0 Lib.deBruijn64tab w) :
    Calls Tryd.prog 7 #[] w fun e w' => e = .returned (.bool true) ∧ Below w.heap.size w w' := by
  have h0w : 0 < w.heap.size := World.block_lt_of_cell? _ _ (hT 0 (by decide))
  have qfn : ∀ (W : World) (g : Nat), (binOp .eql 61 (.func (.func 69) #[] #[.pointer (some ⟨g, 0, none⟩)]) .nilFunc).run Tryd.prog W = .ok (.bool false) W := fun W g => by kernel_rfl
  have hbz : ∀ wq : World, (Instr.build 23 #[]).run Tryd.prog wq = .ok (.agg (hC zH).toArray) wq := fun wq => by kernel_rfl
  have hb1 : ∀ wq : World, (Instr.build 23 #[(0, .int .u8 1)]).run Tryd.prog wq = .ok (.agg (hC oneH).toArray) wq := fun wq => by kernel_rfl
  have e0 : (#[.int .u8 0, .int .u8 0, .int .u8 0, .int .u8 0, .int .u8 0, .int .u8 0, .int .u8 0, .int .u8 0, .int .u8 0, .int .u8 0, .int .u8 0, .int .u8 0, .int .u8 0, .int .u8 0, .int .u8 0, .int .u8 0, .int .u8 0, .int .u8 0, .int .u8 0, .int .u8 0, .int .u8 0, .int .u8 0, .int .u8 0, .int .u8 0, .int .u8 0, .int .u8 0, .int .u8 0, .int .u8 0, .int .u8 0, .int .u8 0, .int .u8 0, .int .u8 0] : Array Value) = (hC zH).toArray := rfl
  have e1 : (#[.int .u8 1, .int .u8 0, .int .u8 0, .int .u8 0, .int .u8 0, .int .u8 0, .int .u8 0, .int .u8 0, .int .u8 0, .int .u8 0, .int .u8 0, .int .u8 0, .int .u8 0, .int .u8 0, .int .u8 0, .int .u8 0, .int .u8 0, .int .u8 0, .int .u8 0, .int .u8 0, .int .u8 0, .int .u8 0, .int .u8 0, .int .u8 0, .int .u8 0, .int .u8 0, .int .u8 0, .int .u8 0, .int .u8 0, .int .u8 0, .int .u8 0, .int .u8 0] : Array Value) = (hC oneH).toArray := rfl
  have heg : ∀ (x y : Operand) (wq : World), (eqGuard .neq 23 x y (.agg (hC zH).toArray) (.agg (hC zH).toArray)).run Tryd.prog wq = .ok () wq := fun x y wq => by simp [eqGuard, Tryd.deqgH]
  have hnz : ∀ wq : World, (binOp .neq 23 (.agg (hC zH).toArray) (.agg (hC zH).toArray)).run Tryd.prog wq = .ok (.bool false) wq := fun wq => by
    have h := run_neq_bytes (P := Tryd.prog) (w := wq) 32 23 5 Tryd.underlying23 Tryd.underlying5 Tryd.u8size zH.1 zH.1 zH.2 zH.2
    rw [beq_self_eq_true] at h
    exact h
  obtain ⟨pb, hpb⟩ : ∃ x, w.heap.size = x := ⟨_, rfl⟩
  obtain ⟨pg, hpg⟩ : ∃ x, pb + 1 = x := ⟨_, rfl⟩
  obtain ⟨pl, hpl⟩ : ∃ x, pg + 1 = x := ⟨_, rfl⟩
  obtain ⟨wz, hwz⟩ : ∃ x, (((w.alloc (.cells #[.bool false] 4)).alloc (.cells #[.slice none 0 0, .slice none 0 0, .map none] 58)).alloc (.cells #[.pointer none, .pointer (some ⟨pg, 0, none⟩)] 27)) = x := ⟨_, rfl⟩
  have HVz : Hid (Below w.heap.size w wz) := by rw [← hwz]; exact nxAlloc (nxAlloc (nxAlloc (nxRefl w) _) _) _
  have HB0 : Hid (Blk wz pb 4 #[.bool false]) := by rw [← hwz, ← hpb]; exact Blk.alloc (Blk.alloc (heap_alloc_new w _) _) _
  have HBg : Hid (Blk wz pg 58 #[.slice none 0 0, .slice none 0 0, .map none]) := by rw [← hwz, ← hpg, ← hpb]; exact Blk.alloc (blkNew (by simp) rfl) _
  have HBl : Hid (Blk wz pl 27 #[.pointer none, .pointer (some ⟨pg, 0, none⟩)]) := by rw [← hwz, ← hpl]; exact blkNew (by rw [← hpg, ← hpb]; simp) rfl
  have HPb : Hid (w.heap.size ≤ pb) := Nat.le_of_eq hpb
  obtain ⟨p1, hp1⟩ : ∃ x : Option Addr, none = x := ⟨_, rfl⟩
  obtain ⟨p2, hp2⟩ : ∃ x : Option Addr, some ⟨pg, 0, none⟩ = x := ⟨_, rfl⟩
  have HN1 : Hid (∀ W, Below wz.heap.size wz W → NoG W p1) := fun W hW => .inl hp1.symm
  have HN2 : Hid (∀ W, Below wz.heap.size wz W → NoG W p2) := fun W hW => .inr ⟨pg, hp2.symm, (HBg.out.below hW HBg.out.lt).cell 0⟩
  have HCl1 : Hid (∀ W, Below wz.heap.size wz W → W.cell? ⟨pl, 0, none⟩ = some (.pointer p1)) := fun W hW => by rw [← hp1]; exact (HBl.out.below hW HBl.out.lt).cell 0
  have HCl2 : Hid (∀ W, Below wz.heap.size wz W → W.cell? ⟨pl, 1, none⟩ = some (.pointer p2)) := fun W hW => by rw [← hp2]; exact (HBl.out.below hW HBl.out.lt).cell 1
  have HTb : Hid (∀ W, Below wz.heap.size wz W → TabAt 0 Lib.deBruijn64tab W) := fun W hW => tab_below hT (nxTo HVz.out hW) h0w
  have KZ0 : Hid (Below wz.heap.size wz wz) := nxRefl _
  have HWz := Lib.hid hwz
  have HPa := Lib.hid hpb
  have HPc := Lib.hid hpg
  have HPd := Lib.hid hpl
  clear hT h0w hpb hpg hpl hwz hp1 hp2
  refine (callsIn_wide (n := 5)).1 ?_
  refine callsIn_of_wp_marks Tryd.func7 rfl trivial ?_ rfl
  simp only [Tryd.ntmps7, List.size_toArray, List.length_cons, List.length_nil, Nat.reduceAdd, Nat.reduceSub, Array.replicate_succ, Array.replicate_zero, List.push_toArray, List.append_toArray, List.nil_append, List.cons_append]
  refine wpIn_wide.2 ?_
  go_upto_region 3 with fail
  rw [HPa.out, HPc.out, HPd.out, HWz.out]
  go_wp2_with fail
  refine wp_loop_rounds 3 ?_
  rw [rounds_succ]
  have cl1 : wz.cell? ⟨pl, 0, none⟩ = some (.pointer p1) := HCl1.out _ KZ0.out
  go_wp2_with (first
    | (go_at_call 25; refine (allH_no wz p1 (HN1.out _ KZ0.out)).mono ?_; rintro e wa1 ⟨rfl, hwa⟩; have KA1 : Hid (Below wz.heap.size wz wa1) := (by rw [hwa]; exact nxAlloc (nxRefl _) _); have BA1 : Hid (Blk wa1 wz.heap.size 34 #[.slice none 0 0]) := (by rw [hwa]; exact heap_alloc_new _ _); clear hwa))
  clear cl1
  refine (wpIn_wide (n := 5)).1 ?_
  refine wpIn_rangeW (gf := 69) (lb := #[.pointer (some ⟨wz.heap.size, 0, none⟩)]) rfl (enters_of Tryd.func69 (by kernel_rfl) rfl) 0 wa1.heap.size (Nat.le_refl _) (fun _ _ _ => False)
    (fun _ W => Below wa1.heap.size wa1 W) (fun _ => False) ?seq1 (fun _ _ _ h => h.elim) (fun _ _ _ _ _ _ h => h.elim) (nxRefl _) (fun _ _ _ h b => nxTo h b) (fun k W l o o' h hl hh ho => h.grown (grownBy_putObj' W l o') h.size (fun k e => by cases e; omega)) (fun _ _ _ _ h => h.elim)
    (fun _ => { tmps := #[], defers := [] }) (fun _ _ _ _ _ h => h.elim) (fun _ _ _ _ h => absurd h (Nat.not_lt_zero _)) ?done1 (fun _ _ h => h.elim)
  case seq1 =>
    intro l J Jx W hbW hJ hY hJ0
    exact vals1H_in wa1 wz.heap.size none [] 0 wa1.heap.size BA1.out.lt (BA1.out.cell 0) (.inl rfl) (by simp) (Nat.le_refl _) l J Jx W hbW hJ (fun k vs W1 hk => absurd hk (by simp)) hJ0
  case done1 =>
    intro D1 W1 hI hD hDl
    have KW1 : Hid (Below wz.heap.size wz W1) := nxTo KA1.out hI
    have KZ1 : Hid (Below wz.heap.size wz W1) := nxTo KZ0.out KW1.out
    have HD1 := Lib.hid hD
    have HDl1 : Hid (wz.heap.size ≤ D1) := Nat.le_trans KA1.out.size hDl
    have HDb1 : Hid (D1 < W1.heap.size) := (Array.getElem?_eq_some_iff.1 hD).1
    obtain ⟨wq1, hwq⟩ : ∃ x, x = W1 := ⟨_, rfl⟩
    have Kwq1 : Hid (Below W1.heap.size W1 wq1) := by rw [hwq]; exact nxRefl _
    rw [← hwq]
    clear hI hD hDl hwq BA1
    go_wp2_with (first
      | (go_at_call 26; refine (parents_no wq1 p1 (HN1.out _ (nxTo KZ1.out Kwq1.out)) zH).mono ?_; rintro e wP1 ⟨rfl, hb⟩; have KwP1 : Hid (Below W1.heap.size W1 wP1) := nxTo Kwq1.out hb; clear hb)
      | (go_at_call 27; refine (children_no wP1 p1 (HN1.out _ (nxTo KZ1.out KwP1.out)) zH).mono ?_; rintro e wC1 ⟨rfl, hb⟩; have KwC1 : Hid (Below W1.heap.size W1 wC1) := nxTo KwP1.out hb; clear hb)
      | (go_at_call 23; (show Calls _ _ #[_, .agg (hC oneH).toArray, _] (wC1.alloc (.cells (hC zH).toArray 23)) _); obtain ⟨wD1, hwD⟩ : ∃ x, wC1.alloc (.cells (hC zH).toArray 23) = x := ⟨_, rfl⟩; have KwD1 : Hid (Below W1.heap.size W1 wD1) := nxTo KwC1.out (by rw [← hwD]; exact nxAlloc (nxRefl _) _); rw [hwD]; clear hwD; refine (add_no wD1 p1 (HN1.out _ (nxTo KZ1.out KwD1.out)) oneH _).mono ?_; rintro e wE1 ⟨rfl, hb⟩; have KwE1 : Hid (Below W1.heap.size W1 wE1) := nxTo KwD1.out hb; clear hb)
      | (go_at_call 28; refine (has_no wE1 p1 (HN1.out _ (nxTo KZ1.out KwE1.out)) zH).mono ?_; rintro e wF1 ⟨rfl, hb⟩; have KwF1 : Hid (Below W1.heap.size W1 wF1) := nxTo KwE1.out hb; clear hb)
      | (go_at_call 29; refine (root_no wF1 p1 (HN1.out _ (nxTo KZ1.out KwF1.out))).mono ?_; rintro e wG1 ⟨rfl, hb⟩; have KwG1 : Hid (Below W1.heap.size W1 wG1) := nxTo KwF1.out hb; clear hb)
      | ((with_reducible show wpList _ _ _ (⟨some 54, _, _, _, _, _⟩ :: _) _ _); refine wpList_unguard (by rfl) ?_; refine wpList_neHs rfl (.tmp 52) (.tmp 53) rfl zH rfl rfl ?_)
      | (go_at_call 20; refine (len_no wG1 p1 (HN1.out _ (nxTo KZ1.out KwG1.out))).mono ?_; rintro e wn ⟨rfl, hw⟩; obtain rfl := hw.symm)
      | (go_at_call 30; refine (tips_no wG1 p1 (HN1.out _ (nxTo KZ1.out KwG1.out))).mono ?_; rintro e wH1 ⟨rfl, hb⟩; have KwH1 : Hid (Below W1.heap.size W1 wH1) := nxTo KwG1.out hb; clear hb)
      | (go_at_call 14; refine (before_no wH1 p1 (HN1.out _ (nxTo KZ1.out KwH1.out)) zH zH).mono ?_; rintro e wI1 ⟨rfl, hb⟩; have KwI1 : Hid (Below W1.heap.size W1 wI1) := nxTo KwH1.out hb; clear hb)
      | (go_at_call 17; (show Calls _ _ #[_, .slice (some ⟨wI1.heap.size, 0, none⟩) 1 1] (wI1.alloc (.cells (hC zH).toArray 23)) _); obtain ⟨wJ1, hwJ⟩ : ∃ x, wI1.alloc (.cells (hC zH).toArray 23) = x := ⟨_, rfl⟩; have KwJ1 : Hid (Below W1.heap.size W1 wJ1) := nxTo KwI1.out (by rw [← hwJ]; exact nxAlloc (nxRefl _) _); have BwJ1 : Hid (Blk wJ1 wI1.heap.size 23 (hC zH).toArray) := (by rw [← hwJ]; exact heap_alloc_new _ _); rw [hwJ]; clear hwJ; refine (past_no wJ1 p1 (HN1.out _ (nxTo KZ1.out KwJ1.out)) (some ⟨wI1.heap.size, 0, none⟩) [zH] 1 (by rw [hsC_1]; exact SeesV.blk BwJ1.out) (by simp) (HTb.out _ (nxTo KZ1.out KwJ1.out))).mono ?_; rintro e wK1 ⟨rfl, hb⟩; have KwK1 : Hid (Below W1.heap.size W1 wK1) := nxTo KwJ1.out hb; clear hb)
      | (go_at_call 18; refine (future_no wK1 p1 (HN1.out _ (nxTo KZ1.out KwK1.out)) zH).mono ?_; rintro e wL1 ⟨rfl, hb⟩; have KwL1 : Hid (Below W1.heap.size W1 wL1) := nxTo KwK1.out hb; clear hb)
      | (go_at_call 19; refine (anticone_no wL1 p1 (HN1.out _ (nxTo KZ1.out KwL1.out)) zH).mono ?_; rintro e wM1 ⟨rfl, hb⟩; have KwM1 : Hid (Below W1.heap.size W1 wM1) := nxTo KwL1.out hb; clear hb)
      | (go_at_call 22; refine (copy_no wM1 p1 (HN1.out _ (nxTo KZ1.out KwM1.out))).mono ?_; rintro e wn ⟨rfl, hw⟩; obtain rfl := hw.symm))
    have KX1 : Hid (Below wz.heap.size wz wM1) := nxTo KZ1.out KwM1.out
    rw [rounds_succ]
    have cl2 : wM1.cell? ⟨pl, 1, none⟩ = some (.pointer p2) := HCl2.out _ KX1.out
    go_wp2_with (first
      | (go_at_call 25; refine (allH_no wM1 p2 (HN2.out _ KX1.out)).mono ?_; rintro e wa2 ⟨rfl, hwa⟩; have KA2 : Hid (Below wM1.heap.size wM1 wa2) := (by rw [hwa]; exact nxAlloc (nxRefl _) _); have BA2 : Hid (Blk wa2 wM1.heap.size 34 #[.slice none 0 0]) := (by rw [hwa]; exact heap_alloc_new _ _); clear hwa))
    clear cl2
    refine (wpIn_wide (n := 5)).1 ?_
    refine wpIn_rangeW (gf := 69) (lb := #[.pointer (some ⟨wM1.heap.size, 0, none⟩)]) rfl (enters_of Tryd.func69 (by kernel_rfl) rfl) 0 wa2.heap.size (Nat.le_refl _) (fun _ _ _ => False)
      (fun _ W => Below wa2.heap.size wa2 W) (fun _ => False) ?seq2 (fun _ _ _ h => h.elim) (fun _ _ _ _ _ _ h => h.elim) (nxRefl _) (fun _ _ _ h b => nxTo h b) (fun k W l o o' h hl hh ho => h.grown (grownBy_putObj' W l o') h.size (fun k e => by cases e; omega)) (fun _ _ _ _ h => h.elim)
      (fun _ => { tmps := #[], defers := [] }) (fun _ _ _ _ _ h => h.elim) (fun _ _ _ _ h => absurd h (Nat.not_lt_zero _)) ?done2 (fun _ _ h => h.elim)
    case seq2 =>
      intro l J Jx W hbW hJ hY hJ0
      exact vals1H_in wa2 wM1.heap.size none [] 0 wa2.heap.size BA2.out.lt (BA2.out.cell 0) (.inl rfl) (by simp) (Nat.le_refl _) l J Jx W hbW hJ (fun k vs W1 hk => absurd hk (by simp)) hJ0
    case done2 =>
      intro D2 W2 hI hD hDl
      have KW2 : Hid (Below wM1.heap.size wM1 W2) := nxTo KA2.out hI
      have KZ2 : Hid (Below wz.heap.size wz W2) := nxTo KX1.out KW2.out
      have HD2 := Lib.hid hD
      have HDl2 : Hid (wM1.heap.size ≤ D2) := Nat.le_trans KA2.out.size hDl
      have HDb2 : Hid (D2 < W2.heap.size) := (Array.getElem?_eq_some_iff.1 hD).1
      obtain ⟨wq2, hwq⟩ : ∃ x, x = W2 := ⟨_, rfl⟩
      have Kwq2 : Hid (Below W2.heap.size W2 wq2) := by rw [hwq]; exact nxRefl _
      rw [← hwq]
      clear hI hD hDl hwq BA2
      go_wp2_with (first
        | (go_at_call 26; refine (parents_no wq2 p2 (HN2.out _ (nxTo KZ2.out Kwq2.out)) zH).mono ?_; rintro e wP2 ⟨rfl, hb⟩; have KwP2 : Hid (Below W2.heap.size W2 wP2) := nxTo Kwq2.out hb; clear hb)
        | (go_at_call 27; refine (children_no wP2 p2 (HN2.out _ (nxTo KZ2.out KwP2.out)) zH).mono ?_; rintro e wC2 ⟨rfl, hb⟩; have KwC2 : Hid (Below W2.heap.size W2 wC2) := nxTo KwP2.out hb; clear hb)
        | (go_at_call 23; (show Calls _ _ #[_, .agg (hC oneH).toArray, _] (wC2.alloc (.cells (hC zH).toArray 23)) _); obtain ⟨wD2, hwD⟩ : ∃ x, wC2.alloc (.cells (hC zH).toArray 23) = x := ⟨_, rfl⟩; have KwD2 : Hid (Below W2.heap.size W2 wD2) := nxTo KwC2.out (by rw [← hwD]; exact nxAlloc (nxRefl _) _); rw [hwD]; clear hwD; refine (add_no wD2 p2 (HN2.out _ (nxTo KZ2.out KwD2.out)) oneH _).mono ?_; rintro e wE2 ⟨rfl, hb⟩; have KwE2 : Hid (Below W2.heap.size W2 wE2) := nxTo KwD2.out hb; clear hb)
        | (go_at_call 28; refine (has_no wE2 p2 (HN2.out _ (nxTo KZ2.out KwE2.out)) zH).mono ?_; rintro e wF2 ⟨rfl, hb⟩; have KwF2 : Hid (Below W2.heap.size W2 wF2) := nxTo KwE2.out hb; clear hb)
        | (go_at_call 29; refine (root_no wF2 p2 (HN2.out _ (nxTo KZ2.out KwF2.out))).mono ?_; rintro e wG2 ⟨rfl, hb⟩; have KwG2 : Hid (Below W2.heap.size W2 wG2) := nxTo KwF2.out hb; clear hb)
        | ((with_reducible show wpList _ _ _ (⟨some 54, _, _, _, _, _⟩ :: _) _ _); refine wpList_unguard (by rfl) ?_; refine wpList_neHs rfl (.tmp 52) (.tmp 53) rfl zH rfl rfl ?_)
        | (go_at_call 20; refine (len_no wG2 p2 (HN2.out _ (nxTo KZ2.out KwG2.out))).mono ?_; rintro e wn ⟨rfl, hw⟩; obtain rfl := hw.symm)
        | (go_at_call 30; refine (tips_no wG2 p2 (HN2.out _ (nxTo KZ2.out KwG2.out))).mono ?_; rintro e wH2 ⟨rfl, hb⟩; have KwH2 : Hid (Below W2.heap.size W2 wH2) := nxTo KwG2.out hb; clear hb)
        | (go_at_call 14; refine (before_no wH2 p2 (HN2.out _ (nxTo KZ2.out KwH2.out)) zH zH).mono ?_; rintro e wI2 ⟨rfl, hb⟩; have KwI2 : Hid (Below W2.heap.size W2 wI2) := nxTo KwH2.out hb; clear hb)
        | (go_at_call 17; (show Calls _ _ #[_, .slice (some ⟨wI2.heap.size, 0, none⟩) 1 1] (wI2.alloc (.cells (hC zH).toArray 23)) _); obtain ⟨wJ2, hwJ⟩ : ∃ x, wI2.alloc (.cells (hC zH).toArray 23) = x := ⟨_, rfl⟩; have KwJ2 : Hid (Below W2.heap.size W2 wJ2) := nxTo KwI2.out (by rw [← hwJ]; exact nxAlloc (nxRefl _) _); have BwJ2 : Hid (Blk wJ2 wI2.heap.size 23 (hC zH).toArray) := (by rw [← hwJ]; exact heap_alloc_new _ _); rw [hwJ]; clear hwJ; refine (past_no wJ2 p2 (HN2.out _ (nxTo KZ2.out KwJ2.out)) (some ⟨wI2.heap.size, 0, none⟩) [zH] 1 (by rw [hsC_1]; exact SeesV.blk BwJ2.out) (by simp) (HTb.out _ (nxTo KZ2.out KwJ2.out))).mono ?_; rintro e wK2 ⟨rfl, hb⟩; have KwK2 : Hid (Below W2.heap.size W2 wK2) := nxTo KwJ2.out hb; clear hb)
        | (go_at_call 18; refine (future_no wK2 p2 (HN2.out _ (nxTo KZ2.out KwK2.out)) zH).mono ?_; rintro e wL2 ⟨rfl, hb⟩; have KwL2 : Hid (Below W2.heap.size W2 wL2) := nxTo KwK2.out hb; clear hb)
        | (go_at_call 19; refine (anticone_no wL2 p2 (HN2.out _ (nxTo KZ2.out KwL2.out)) zH).mono ?_; rintro e wM2 ⟨rfl, hb⟩; have KwM2 : Hid (Below W2.heap.size W2 wM2) := nxTo KwL2.out hb; clear hb)
        | (go_at_call 22; refine (copy_no wM2 p2 (HN2.out _ (nxTo KZ2.out KwM2.out))).mono ?_; rintro e wn ⟨rfl, hw⟩; obtain rfl := hw.symm))
      have KX2 : Hid (Below wz.heap.size wz wM2) := nxTo KZ2.out KwM2.out
      rw [rounds_succ]
      have hb0 : Blk wM2 pb 4 #[.bool false] := HB0.out.below KX2.out HB0.out.lt
      go_wp2_with (first
        | (go_at_call 9; refine (known_any wM2).mono ?_; rintro e wX ⟨rfl, hb⟩; have KX := Lib.hid hb; have HBX := Lib.hid (hb0.below hb hb0.lt); have cX : wX.cell? ⟨pb, 0, none⟩ = some (.bool false) := HBX.out.cell 0; have fX : wX.frozen? ⟨pb, 0, none⟩ = false := HBX.out.frozen 0; clear hb))
      have e2 : Below W2.heap.size W2 wX := nxTo KwM2.out KX.out
      have e1 : Below W1.heap.size W1 wX := nxTo KwM1.out (nxTo KW2.out e2)
      have eZ : Below w.heap.size w wX := nxTo HVz.out (nxTo KX2.out KX.out)
      refine dnil_leave (pb := pb) _ rfl (HBX.out.set 0 _) (eZ.setCell (p := ⟨pb, 0, none⟩) HPb.out _) ?_ ?_ ?_ ?_ ?_
      · exact (KeepsOthers.setCell wX ⟨pb, 0, none⟩ _).same _ _ ((e1.block D1 HDb1.out).trans HD1.out) rfl
      · exact (KeepsOthers.setCell wX ⟨pb, 0, none⟩ _).same _ _ ((e2.block D2 HDb2.out).trans HD2.out) rfl
      · have h1 := HDb1.out; have h2 := HDl2.out; have h3 := KwM1.out.size; omega
      · have h1 := HDl1.out; have h3 := HVz.out.size; omega
      · have h1 := HDl2.out; have h2 := KX1.out.size; have h3 := HVz.out.size; omega
end
end Go.Proofs.YtndkjmmmneianaaDoor
