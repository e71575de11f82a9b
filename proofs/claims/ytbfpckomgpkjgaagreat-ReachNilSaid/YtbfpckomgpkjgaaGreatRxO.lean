/-
  reach: ReachNil's walk.
-/
import Derived.Test.YtbfpckomgpkjgaaGreatRxN
import Derived.Test.YtbfpckomgpkjgaaGreatPRnQ22
import Derived.LoopN
namespace Go.Proofs.YtbfpckomgpkjgaaGreat
open Go.RowKit Go.Shelf

def UpNo (w : World) (e : Ending) (w' : World) : Prop := ∃ ge gx gn : Nat, e = .returned (.func (.func 61) #[] #[.pointer (some ⟨ge, 0, none⟩), .pointer (some ⟨gx, 0, none⟩), .pointer (some ⟨gn, 0, none⟩)]) ∧ w'.cell? ⟨ge, 0, none⟩ = some (.int .i64 1) ∧ ge < w'.heap.size ∧ Below w.heap.size w w'
set_option maxRecDepth 100000 in
set_option maxHeartbeats 1000000 in
theorem xUp_no (w : World) (p : Option Addr) (h : NoX w p) (x : Hh) : Calls Tryz.prog 27 #[.pointer p, .agg (hC x).toArray] w (UpNo w) := by
  unfold UpNo
  have hmf : ∀ (fn : Fn) (first cap : Array Value) (w : World), (Instr.makeFunc fn first cap).run Tryz.prog w = .ok (.func fn first cap) w := fun _ _ _ _ => rfl
  have V0 : Hid (Below w.heap.size w ((w.alloc (.cells #[.pointer p] 27)).alloc (.cells (hC x).toArray 23))) := nxAlloc (nxAlloc (nxRefl w) _) _
  have BX : Hid (Blk ((w.alloc (.cells #[.pointer p] 27)).alloc (.cells (hC x).toArray 23)) (w.heap.size + 1) 23 (hC x).toArray) := rxBlk2 w _ _ _
  have BP : Hid (Blk ((w.alloc (.cells #[.pointer p] 27)).alloc (.cells (hC x).toArray 23)) w.heap.size 27 #[.pointer p]) := rxBlk1 w _ _ _
  have HN : Hid (NoX ((w.alloc (.cells #[.pointer p] 27)).alloc (.cells (hC x).toArray 23)) p) := h.below V0.out
  have c0 : ((w.alloc (.cells #[.pointer p] 27)).alloc (.cells (hC x).toArray 23)).cell? ⟨w.heap.size, 0, none⟩ = some (.pointer p) := BP.out.cell 0
  clear h
  go_enter Tryz.func27, Tryz.ntmps27
  go_wp2_with (first
    | ((with_reducible show wpList _ _ _ (⟨some 9, _, _, _, _, _⟩ :: _) _ _); refine wpList_load_mid rfl 23 (.tmp 3) rfl (w.heap.size + 1) 0 rfl (hC x) _ (rxRng BX.out) Tryz.underlying23 rfl (hszL x) ?_)
    | (go_at_call 36; refine (xNumber_no _ p HN.out x).mono ?_; rintro e1 w1 ⟨rfl, hw1⟩; have V1 : Hid (Below w.heap.size w w1) := nxTo V0.out hw1; clear hw1))
  go_ret
  have hB := rxBlk2 w1 (.cells #[.int .i64 0] 3) 41 #[.int .i64 1]
  refine ⟨_, _, _, rfl, hB.cell 0, hB.lt, ?_⟩
  exact nxAlloc (nxAlloc V1.out _) _
theorem up1_no (w : World) (ge gx gn B : Nat) (hge : ge < B) (hc : w.cell? ⟨ge, 0, none⟩ = some (.int .i64 1)) (l : Nat) (J : Nat → World → Prop) (Jx : World → Prop) (W9 : World) (hW : Below B w W9) (hB : B ≤ w.heap.size) (hJ : ∀ k W1 W2, J k W1 → Below W1.heap.size W1 W2 → J k W2) (h0 : J 0 W9) :
    CallsIn Fence.wide (5 - 1) Tryz.prog 61 #[.func (.yield l) #[] #[], .pointer (some ⟨ge, 0, none⟩), .pointer (some ⟨gx, 0, none⟩), .pointer (some ⟨gn, 0, none⟩)] W9 fun e W' => (∃ v, e = .returned v) ∧ ((J 0 W' ∧ Below B W9 W') ∨ Jx W') := by
  have hb9 : Below W9.heap.size W9 (W9.alloc (.cells #[.func (.yield l) #[] #[]] 97)) := nxAlloc (nxRefl _) _
  have c9 : (W9.alloc (.cells #[.func (.yield l) #[] #[]] 97)).cell? ⟨ge, 0, none⟩ = some (.int .i64 1) := (hb9.cell (p := ⟨ge, 0, none⟩) (Nat.lt_of_lt_of_le hge (Nat.le_trans hB hW.size))).trans ((hW.cell (p := ⟨ge, 0, none⟩) hge).trans hc)
  have HJ9 := Lib.hid (hJ 0 _ _ h0 hb9)
  have HV := Lib.hid (hb9.mono (Nat.le_trans hB hW.size))
  clear hW hc hJ h0 hb9
  refine callsIn_of_wp Tryz.func61 rfl trivial ?_ rfl
  simp only [Tryz.ntmps61, List.size_toArray, List.length_cons, List.length_nil, Nat.reduceAdd, Nat.reduceSub, Array.replicate_succ, Array.replicate_zero, List.push_toArray, List.append_toArray, List.nil_append, List.cons_append]
  gi_wp2
  first | (go_end0; exact ⟨⟨_, rfl⟩, .inl ⟨HJ9.out, HV.out⟩⟩) | (refine bodyPost_ret (results_none rfl _ _ _) rfl ?_; exact ⟨⟨_, rfl⟩, .inl ⟨HJ9.out, HV.out⟩⟩)
theorem xnil_leave {w W : World} {D1 D2 pb : Nat} (tmps : Array Value) (hp : tmps.getD 0 undef = .pointer (some ⟨pb, 0, none⟩)) (hc : Blk W pb 4 #[.bool true]) (hv : Below w.heap.size w W) (hD1 : W.heap[D1]? = some (.deferred (some []))) (hD2 : W.heap[D2]? = some (.deferred (some []))) (hne : D1 ≠ D2) (hl1 : w.heap.size ≤ D1) (hl2 : w.heap.size ≤ D2) :
    LeavesInM Fence.wide 5 Tryz.prog Tryz.f7 tmps (fun e w' => e = .returned (.bool true) ∧ Below w.heap.size w w') [{ target := .collected D2, args := #[] }, { target := .collected D1, args := #[] }] .returning W := by
  have h1 : (W.putObj D2 (.deferred none)).heap[D1]? = some (.deferred (some [])) := (World.putObj_heap_other hne).trans hD1
  have hc2 := (hc.putW (.deferred none) hD2 rfl).putW (.deferred none) h1 rfl
  have hv1 : Below w.heap.size w (W.putObj D2 (.deferred none)) := hv.grown (grownBy_putObj' W D2 (.deferred none)) hv.size (fun k e => by cases e; exact hl2)
  have hv2 : Below w.heap.size w ((W.putObj D2 (.deferred none)).putObj D1 (.deferred none)) := hv1.grown (grownBy_putObj' _ D1 (.deferred none)) hv1.size (fun k e => by cases e; exact hl1)
  have hcc := hc2.cell 0
  refine ⟨by simp, .inl ⟨_, _, rfl, run_takeDeferred hD2, ⟨by simp, .inl ⟨_, _, rfl, run_takeDeferred h1, ?_⟩⟩⟩⟩
  have hag : ∀ w, (isAgg 4).run Tryz.prog w = .ok false w := fun w => by kernel_rfl
  have hcc2 : ((W.putObj D2 (.deferred none)).putObj D1 (.deferred none)).cell? ⟨pb, 0, none⟩ = some (.bool true) := hcc
  have hld : (loadVar 4 ⟨pb, 0, none⟩).run Tryz.prog ((W.putObj D2 (.deferred none)).putObj D1 (.deferred none)) = .ok (.bool true) ((W.putObj D2 (.deferred none)).putObj D1 (.deferred none)) := by
    unfold loadVar
    simp only [Sem.run_bind, hag, Result.andThen_ok, Bool.false_eq_true, if_false]
    simp [hcc2]
  exact ⟨.bool true, results_cellb Tryz.results7 tmps _ pb (.bool true) hp hld, rfl, hv2⟩
section
attribute [local go_sem] Oper.semAt_some
set_option maxRecDepth 100000 in
set_option maxHeartbeats 8000000 in
theorem reachNil_any (w : World) : Calls Tryz.prog 7 #[] w fun e w' => e = .returned (.bool true) ∧ Below w.heap.size w w' := by
  have qfn : ∀ (W : World) (a b c : Option Addr), (binOp .eql 66 (.func (.func 61) #[] #[.pointer a, .pointer b, .pointer c]) .nilFunc).run Tryz.prog W = .ok (.bool false) W := fun W a b c => by kernel_rfl
  have hbz : ∀ wq : World, (Instr.build 23 #[]).run Tryz.prog wq = .ok (.agg (hC zH).toArray) wq := fun wq => by kernel_rfl
  have e0 : (#[.int .u8 0, .int .u8 0, .int .u8 0, .int .u8 0, .int .u8 0, .int .u8 0, .int .u8 0, .int .u8 0, .int .u8 0, .int .u8 0, .int .u8 0, .int .u8 0, .int .u8 0, .int .u8 0, .int .u8 0, .int .u8 0, .int .u8 0, .int .u8 0, .int .u8 0, .int .u8 0, .int .u8 0, .int .u8 0, .int .u8 0, .int .u8 0, .int .u8 0, .int .u8 0, .int .u8 0, .int .u8 0, .int .u8 0, .int .u8 0, .int .u8 0, .int .u8 0] : Array Value) = (hC zH).toArray := rfl
  obtain ⟨pb, hpb⟩ : ∃ x, w.heap.size = x := ⟨_, rfl⟩
  obtain ⟨pg, hpg⟩ : ∃ x, pb + 1 = x := ⟨_, rfl⟩
  obtain ⟨pl, hpl⟩ : ∃ x, pg + 1 = x := ⟨_, rfl⟩
  obtain ⟨wz, hwz⟩ : ∃ x, (((w.alloc (.cells #[.bool false] 4)).alloc (.cells #[.pointer none, .pointer none, .slice none 0 0, .map none, .map none] 63)).alloc (.cells #[.pointer none, .pointer (some ⟨pg, 0, none⟩)] 27)) = x := ⟨_, rfl⟩
  have HVz : Hid (Below w.heap.size w wz) := by rw [← hwz]; exact nxAlloc (nxAlloc (nxAlloc (nxRefl w) _) _) _
  have HB0 : Hid (Blk wz pb 4 #[.bool false]) := by rw [← hwz, ← hpb]; exact Blk.alloc (Blk.alloc (heap_alloc_new w _) _) _
  have HBg : Hid (Blk wz pg 63 #[.pointer none, .pointer none, .slice none 0 0, .map none, .map none]) := by rw [← hwz, ← hpg, ← hpb]; exact Blk.alloc (blkNew (by simp) rfl) _
  have HBl : Hid (Blk wz pl 27 #[.pointer none, .pointer (some ⟨pg, 0, none⟩)]) := by rw [← hwz, ← hpl]; exact blkNew (by rw [← hpg, ← hpb]; simp) rfl
  have HPb : Hid (w.heap.size ≤ pb) := Nat.le_of_eq hpb
  obtain ⟨p1, hp1⟩ : ∃ x : Option Addr, none = x := ⟨_, rfl⟩
  obtain ⟨p2, hp2⟩ : ∃ x : Option Addr, some ⟨pg, 0, none⟩ = x := ⟨_, rfl⟩
  have HN1 : Hid (∀ W, Below wz.heap.size wz W → NoX W p1) := fun W hW => .inl hp1.symm
  have HN2 : Hid (∀ W, Below wz.heap.size wz W → NoX W p2) := fun W hW => .inr ⟨pg, hp2.symm, (HBg.out.below hW HBg.out.lt).cell 2⟩
  have HCl1 : Hid (∀ W, Below wz.heap.size wz W → W.cell? ⟨pl, 0, none⟩ = some (.pointer p1)) := fun W hW => by rw [← hp1]; exact (HBl.out.below hW HBl.out.lt).cell 0
  have HCl2 : Hid (∀ W, Below wz.heap.size wz W → W.cell? ⟨pl, 1, none⟩ = some (.pointer p2)) := fun W hW => by rw [← hp2]; exact (HBl.out.below hW HBl.out.lt).cell 1
  have KZ0 : Hid (Below wz.heap.size wz wz) := nxRefl _
  have HWz := Lib.hid hwz
  have HPa := Lib.hid hpb
  have HPc := Lib.hid hpg
  have HPd := Lib.hid hpl
  clear hpb hpg hpl hwz hp1 hp2
  refine (callsIn_wide (n := 5)).1 ?_
  refine callsIn_of_wp_marks Tryz.func7 rfl trivial ?_ rfl
  simp only [Tryz.ntmps7, List.size_toArray, List.length_cons, List.length_nil, Nat.reduceAdd, Nat.reduceSub, Array.replicate_succ, Array.replicate_zero, List.push_toArray, List.append_toArray, List.nil_append, List.cons_append]
  refine wpIn_wide.2 ?_
  go_upto_region 3 with fail
  rw [HPa.out, HPc.out, HPd.out, HWz.out]
  go_wp2_with fail
  refine wp_loop_rounds 3 ?_
  rw [rounds_succ]
  have cl1 : wz.cell? ⟨pl, 0, none⟩ = some (.pointer p1) := HCl1.out _ KZ0.out
  go_wp2_with (first
    | ((with_reducible show wpList _ _ _ (⟨none, .store 23 (.tmp 5) _, _, _, _, _⟩ :: _) _ _); refine wpList_store_all rfl 23 (.tmp 5) (.tmp 26) rfl wz.heap.size 23 (hC zH).toArray (hC zH).toArray rfl rfl (heap_alloc_new wz _) rfl (hszB zH) (hC_one zH) ?_; intro wh1 h5 h6 h7; have BH1 := Lib.hid h5; have KH1 : Hid (Below wz.heap.size wz wh1) := ((nxAlloc (nxRefl wz) (.cells (hC zH).toArray 23)).trans (h6.below (nxAlloc (nxRefl wz) (.cells (hC zH).toArray 23)).size (fun k hk e => by omega))); obtain ⟨ph1, hph⟩ : ∃ zz, wz.heap.size = zz := ⟨_, rfl⟩; rw [hph] at BH1 ⊢; have HPh1 := Lib.hid hph; have HBh1 : Hid (∀ W, Below wh1.heap.size wh1 W → W.rangeAt ph1 0 (hC zH)) := (fun W hW => rngK (rxRng BH1.out) hW BH1.out.lt); have Kwh1 : Hid (Below wh1.heap.size wh1 wh1) := nxRefl _; have KZh1 : Hid (Below wz.heap.size wz wh1) := nxTo KZ0.out KH1.out; clear h5 h6 h7 hph)
    | ((with_reducible show wpList _ _ _ (⟨some 29, _, _, _, _, _⟩ :: _) _ _); refine wpList_load_mid rfl 23 (.tmp 5) rfl ph1 0 rfl (hC zH) _ (HBh1.out _ Kwh1.out) Tryz.underlying23 rfl (hszL zH) ?_)
    | (go_at_call 14; refine (xSelected_no wh1 p1 (HN1.out _ (nxTo KZh1.out Kwh1.out)) zH).mono ?_; rintro e ws1 ⟨rfl, hb⟩; have Kws1 : Hid (Below wh1.heap.size wh1 ws1) := nxTo Kwh1.out hb; clear hb)
    | ((with_reducible show wpList _ _ _ (⟨none, .store 23 (.tmp 6) _, _, _, _, _⟩ :: _) _ _); refine wpList_store_all rfl 23 (.tmp 6) (.tmp 31) rfl ws1.heap.size 23 (hC zH).toArray (hC zH).toArray rfl rfl (heap_alloc_new ws1 _) rfl (hszB zH) (hC_one zH) ?_; intro wt1 h5 h6 h7; have Kwt1 : Hid (Below wh1.heap.size wh1 wt1) := nxTo Kws1.out ((nxAlloc (nxRefl ws1) (.cells (hC zH).toArray 23)).trans (h6.below (nxAlloc (nxRefl ws1) (.cells (hC zH).toArray 23)).size (fun k hk e => by omega))); clear h5 h6 h7)
    | ((with_reducible show wpList _ _ _ (⟨some 35, _, _, _, _, _⟩ :: _) _ _); refine wpList_load_mid rfl 23 (.tmp 5) rfl ph1 0 rfl (hC zH) _ (HBh1.out _ Kwt1.out) Tryz.underlying23 rfl (hszL zH) ?_)
    | (go_at_call 15; refine (xCover_no wt1 p1 (HN1.out _ (nxTo KZh1.out Kwt1.out)) zH).mono ?_; rintro e wc1 ⟨rfl, hb⟩; have Kwc1 : Hid (Below wh1.heap.size wh1 wc1) := nxTo Kwt1.out hb; clear hb)
    | ((with_reducible show wpList _ _ _ (⟨some 41, _, _, _, _, _⟩ :: _) _ _); refine wpList_load_mid rfl 23 (.tmp 5) rfl ph1 0 rfl (hC zH) _ (HBh1.out _ Kwc1.out) Tryz.underlying23 rfl (hszL zH) ?_)
    | ((with_reducible show wpList _ _ _ (⟨some 42, _, _, _, _, _⟩ :: _) _ _); refine wpList_load_mid rfl 23 (.tmp 5) rfl ph1 0 rfl (hC zH) _ (HBh1.out _ Kwc1.out) Tryz.underlying23 rfl (hszL zH) ?_)
    | (go_at_call 22; refine (xNext_no wc1 p1 (HN1.out _ (nxTo KZh1.out Kwc1.out)) zH zH).mono ?_; rintro e wn1 ⟨rfl, hb⟩; have Kwn1 : Hid (Below wh1.heap.size wh1 wn1) := nxTo Kwc1.out hb; clear hb)
    | ((with_reducible show wpList _ _ _ (⟨none, .store 23 (.tmp 10) _, _, _, _, _⟩ :: _) _ _); refine wpList_store_all rfl 23 (.tmp 10) (.tmp 44) rfl wn1.heap.size 23 (hC zH).toArray (hC zH).toArray rfl rfl (heap_alloc_new wn1 _) rfl (hszB zH) (hC_one zH) ?_; intro wo1 h5 h6 h7; have Kwo1 : Hid (Below wh1.heap.size wh1 wo1) := nxTo Kwn1.out ((nxAlloc (nxRefl wn1) (.cells (hC zH).toArray 23)).trans (h6.below (nxAlloc (nxRefl wn1) (.cells (hC zH).toArray 23)).size (fun k hk e => by omega))); clear h5 h6 h7)
    | ((with_reducible show wpList _ _ _ (⟨some 48, _, _, _, _, _⟩ :: _) _ _); refine wpList_load_mid rfl 23 (.tmp 5) rfl ph1 0 rfl (hC zH) _ (HBh1.out _ Kwo1.out) Tryz.underlying23 rfl (hszL zH) ?_)
    | ((with_reducible show wpList _ _ _ (⟨some 49, _, _, _, _, _⟩ :: _) _ _); refine wpList_load_mid rfl 23 (.tmp 5) rfl ph1 0 rfl (hC zH) _ (HBh1.out _ Kwo1.out) Tryz.underlying23 rfl (hszL zH) ?_)
    | (go_at_call 20; refine (xFork_no wo1 p1 (HN1.out _ (nxTo KZh1.out Kwo1.out)) zH zH).mono ?_; rintro e wf1 ⟨rfl, hb⟩; have Kwf1 : Hid (Below wh1.heap.size wh1 wf1) := nxTo Kwo1.out hb; clear hb)
    | ((with_reducible show wpList _ _ _ (⟨none, .store 23 (.tmp 12) _, _, _, _, _⟩ :: _) _ _); refine wpList_store_all rfl 23 (.tmp 12) (.tmp 51) rfl wf1.heap.size 23 (hC zH).toArray (hC zH).toArray rfl rfl (heap_alloc_new wf1 _) rfl (hszB zH) (hC_one zH) ?_; intro wg1 h5 h6 h7; have Kwg1 : Hid (Below wh1.heap.size wh1 wg1) := nxTo Kwf1.out ((nxAlloc (nxRefl wf1) (.cells (hC zH).toArray 23)).trans (h6.below (nxAlloc (nxRefl wf1) (.cells (hC zH).toArray 23)).size (fun k hk e => by omega))); clear h5 h6 h7)
    | ((with_reducible show wpList _ _ _ (⟨some 54, _, _, _, _, _⟩ :: _) _ _); refine wpList_load_mid rfl 23 (.tmp 5) rfl ph1 0 rfl (hC zH) _ (HBh1.out _ Kwg1.out) Tryz.underlying23 rfl (hszL zH) ?_)
    | (go_at_call 27; refine (xUp_no wg1 p1 (HN1.out _ (nxTo KZh1.out Kwg1.out)) zH).mono ?_; unfold UpNo; rintro e wu1 ⟨ge1, gx1, gn1, rfl, hce, hle, hb⟩; have Kwu1 : Hid (Below wh1.heap.size wh1 wu1) := nxTo Kwg1.out hb; have HCe1 := Lib.hid hce; have HLe1 := Lib.hid hle; clear hb hce hle))
  clear cl1
  refine (wpIn_wide (n := 5)).1 ?_
  refine wpIn_rangeW (gf := 61) (lb := #[.pointer (some ⟨ge1, 0, none⟩), .pointer (some ⟨gx1, 0, none⟩), .pointer (some ⟨gn1, 0, none⟩)]) rfl (enters_of Tryz.func61 (by kernel_rfl) rfl) 0 wu1.heap.size (Nat.le_refl _) (fun _ _ _ => False)
    (fun _ W => Below wu1.heap.size wu1 W) (fun _ => False) ?seq1 (fun _ _ _ h => h.elim) (fun _ _ _ _ _ _ h => h.elim) (nxRefl _) (fun _ _ _ h b => nxTo h b) (fun k W l o o' h hl hh ho => h.grown (grownBy_putObj' W l o') h.size (fun k e => by cases e; omega)) (fun _ _ _ _ h => h.elim)
    (fun _ => { tmps := #[], defers := [] }) (fun _ _ _ _ _ h => h.elim) (fun _ _ _ _ h => absurd h (Nat.not_lt_zero _)) ?done1 (fun _ _ h => h.elim)
  case seq1 =>
    intro l J Jx W hbW hJ hY hJ0
    exact up1_no wu1 ge1 gx1 gn1 wu1.heap.size HLe1.out HCe1.out l J Jx W hbW (Nat.le_refl _) hJ hJ0
  case done1 =>
    intro D1 W1 hI hD hDl
    have KW1 : Hid (Below wh1.heap.size wh1 W1) := nxTo Kwu1.out hI
    have HD1 := Lib.hid hD
    have HDl1 : Hid (wz.heap.size ≤ D1) := Nat.le_trans (Nat.le_trans KH1.out.size Kwu1.out.size) hDl
    have HDb1 : Hid (D1 < W1.heap.size) := (Array.getElem?_eq_some_iff.1 hD).1
    obtain ⟨wq1, hwq⟩ : ∃ zz, zz = W1 := ⟨_, rfl⟩
    have Kwq1 : Hid (Below wh1.heap.size wh1 wq1) := by rw [hwq]; exact KW1.out
    have HDq1 : Hid (wq1.heap[D1]? = some (.deferred (some []))) := by rw [hwq]; exact HD1.out
    rw [← hwq]
    have KQ01 : Hid (Below wq1.heap.size wq1 wq1) := nxRefl _
    have HQb1 : Hid (D1 < wq1.heap.size) := by rw [hwq]; exact HDb1.out
    clear hI hD hDl hwq
    go_wp2_with (first
      | ((with_reducible show wpList _ _ _ (⟨some 61, _, _, _, _, _⟩ :: _) _ _); refine wpList_load_mid rfl 23 (.tmp 5) rfl ph1 0 rfl (hC zH) _ (HBh1.out _ Kwq1.out) Tryz.underlying23 rfl (hszL zH) ?_)
      | ((with_reducible show wpList _ _ _ (⟨some 62, _, _, _, _, _⟩ :: _) _ _); refine wpList_load_mid rfl 23 (.tmp 5) rfl ph1 0 rfl (hC zH) _ (HBh1.out _ Kwq1.out) Tryz.underlying23 rfl (hszL zH) ?_)
      | ((with_reducible show wpList _ _ _ (⟨some 63, _, _, _, _, _⟩ :: _) _ _); refine wpList_load_mid rfl 23 (.tmp 5) rfl ph1 0 rfl (hC zH) _ (HBh1.out _ Kwq1.out) Tryz.underlying23 rfl (hszL zH) ?_)
      | ((with_reducible show wpList _ _ _ (⟨some 64, _, _, _, _, _⟩ :: _) _ _); refine wpList_build1 rfl 33 23 (.tmp 63) rfl (hC zH) _ 32 32 Tryz.underlying33 Tryz.dinfoH (by decide) (by decide) (hC_len zH) rfl ?_; obtain ⟨wA1, hzz⟩ : ∃ zz, wq1.alloc (.cells (hC zH).toArray 23) = zz := ⟨_, rfl⟩; have KwA1 : Hid (Below wh1.heap.size wh1 wA1) := nxTo Kwq1.out (by rw [← hzz]; exact nxAlloc (nxRefl _) _); have QA1 : Hid (Below wq1.heap.size wq1 wA1) := (by rw [← hzz]; exact nxAlloc (nxRefl _) _); rw [hzz]; clear hzz)
      | (go_at_call 25; refine (xAdd_no wA1 p1 (HN1.out _ (nxTo KZh1.out KwA1.out)) zH zH _).mono ?_; rintro e wB1 ⟨rfl, hb⟩; have KwB1 : Hid (Below wh1.heap.size wh1 wB1) := nxTo KwA1.out hb; have QB1 : Hid (Below wq1.heap.size wq1 wB1) := nxTo QA1.out hb; clear hb)
      | ((with_reducible show wpList _ _ _ (⟨some 69, _, _, _, _, _⟩ :: _) _ _); refine wpList_unguard (by rfl) ?_; refine wpList_load_mid rfl 23 (.tmp 5) rfl ph1 0 rfl (hC zH) _ (HBh1.out _ KwB1.out) Tryz.underlying23 rfl (hszL zH) ?_)
      | ((with_reducible show wpList _ _ _ (⟨some 70, _, _, _, _, _⟩ :: _) _ _); refine wpList_unguard (by rfl) ?_; refine wpList_load_mid rfl 23 (.tmp 5) rfl ph1 0 rfl (hC zH) _ (HBh1.out _ KwB1.out) Tryz.underlying23 rfl (hszL zH) ?_)
      | (go_at_call 18; refine (xChain_no wB1 p1 (HN1.out _ (nxTo KZh1.out KwB1.out)) zH zH).mono ?_; rintro e wC1 ⟨rfl, hb⟩; have KwC1 : Hid (Below wh1.heap.size wh1 wC1) := nxTo KwB1.out hb; have QC1 : Hid (Below wq1.heap.size wq1 wC1) := nxTo QB1.out hb; clear hb)
      | ((with_reducible show wpList _ _ _ (⟨some 75, _, _, _, _, _⟩ :: _) _ _); refine wpList_unguard (by rfl) ?_; refine wpList_load_mid rfl 23 (.tmp 5) rfl ph1 0 rfl (hC zH) _ (HBh1.out _ KwC1.out) Tryz.underlying23 rfl (hszL zH) ?_)
      | ((with_reducible show wpList _ _ _ (⟨some 76, _, _, _, _, _⟩ :: _) _ _); refine wpList_unguard (by rfl) ?_; refine wpList_load_mid rfl 23 (.tmp 5) rfl ph1 0 rfl (hC zH) _ (HBh1.out _ KwC1.out) Tryz.underlying23 rfl (hszL zH) ?_)
      | (go_at_call 19; refine (xBefore_no wC1 p1 (HN1.out _ (nxTo KZh1.out KwC1.out)) zH zH).mono ?_; rintro e wD1 ⟨rfl, hb⟩; have KwD1 : Hid (Below wh1.heap.size wh1 wD1) := nxTo KwC1.out hb; have KQa1 : Hid (Below wq1.heap.size wq1 wD1) := nxTo QC1.out hb; clear hb)
      | (go_at_call 28; refine (xGraph_no wD1 p1 (HN1.out _ (nxTo KZh1.out KwD1.out))).mono ?_; rintro e wn ⟨rfl, hw⟩; obtain rfl := hw.symm)
      | (go_at_call 29; refine (xDealt_no wD1 p1 (HN1.out _ (nxTo KZh1.out KwD1.out))).mono ?_; rintro e wn ⟨rfl, hw⟩; obtain rfl := hw.symm)
      | (go_at_call 24; refine (xCopy_no wD1 p1 (HN1.out _ (nxTo KZh1.out KwD1.out))).mono ?_; rintro e wn ⟨rfl, hw⟩; obtain rfl := hw.symm))
    have KX1 : Hid (Below wz.heap.size wz wD1) := nxTo KZh1.out KwD1.out
    have KQ1 : Hid (∀ W, Below wD1.heap.size wD1 W → W.heap[D1]? = some (.deferred (some [])) ∧ D1 < wD1.heap.size) := fun W hW => ⟨(nxTo KQa1.out hW).block D1 HQb1.out |>.trans HDq1.out, Nat.lt_of_lt_of_le HQb1.out KQa1.out.size⟩
    rw [rounds_succ]
    have cl2 : wD1.cell? ⟨pl, 1, none⟩ = some (.pointer p2) := HCl2.out _ KX1.out
    go_wp2_with (first
      | ((with_reducible show wpList _ _ _ (⟨none, .store 23 (.tmp 5) _, _, _, _, _⟩ :: _) _ _); refine wpList_store_all rfl 23 (.tmp 5) (.tmp 26) rfl wD1.heap.size 23 (hC zH).toArray (hC zH).toArray rfl rfl (heap_alloc_new wD1 _) rfl (hszB zH) (hC_one zH) ?_; intro wh2 h5 h6 h7; have BH2 := Lib.hid h5; have KH2 : Hid (Below wD1.heap.size wD1 wh2) := ((nxAlloc (nxRefl wD1) (.cells (hC zH).toArray 23)).trans (h6.below (nxAlloc (nxRefl wD1) (.cells (hC zH).toArray 23)).size (fun k hk e => by omega))); obtain ⟨ph2, hph⟩ : ∃ zz, wD1.heap.size = zz := ⟨_, rfl⟩; rw [hph] at BH2 ⊢; have HPh2 := Lib.hid hph; have HBh2 : Hid (∀ W, Below wh2.heap.size wh2 W → W.rangeAt ph2 0 (hC zH)) := (fun W hW => rngK (rxRng BH2.out) hW BH2.out.lt); have Kwh2 : Hid (Below wh2.heap.size wh2 wh2) := nxRefl _; have KZh2 : Hid (Below wz.heap.size wz wh2) := nxTo KX1.out KH2.out; clear h5 h6 h7 hph)
      | ((with_reducible show wpList _ _ _ (⟨some 29, _, _, _, _, _⟩ :: _) _ _); refine wpList_load_mid rfl 23 (.tmp 5) rfl ph2 0 rfl (hC zH) _ (HBh2.out _ Kwh2.out) Tryz.underlying23 rfl (hszL zH) ?_)
      | (go_at_call 14; refine (xSelected_no wh2 p2 (HN2.out _ (nxTo KZh2.out Kwh2.out)) zH).mono ?_; rintro e ws2 ⟨rfl, hb⟩; have Kws2 : Hid (Below wh2.heap.size wh2 ws2) := nxTo Kwh2.out hb; clear hb)
      | ((with_reducible show wpList _ _ _ (⟨none, .store 23 (.tmp 6) _, _, _, _, _⟩ :: _) _ _); refine wpList_store_all rfl 23 (.tmp 6) (.tmp 31) rfl ws2.heap.size 23 (hC zH).toArray (hC zH).toArray rfl rfl (heap_alloc_new ws2 _) rfl (hszB zH) (hC_one zH) ?_; intro wt2 h5 h6 h7; have Kwt2 : Hid (Below wh2.heap.size wh2 wt2) := nxTo Kws2.out ((nxAlloc (nxRefl ws2) (.cells (hC zH).toArray 23)).trans (h6.below (nxAlloc (nxRefl ws2) (.cells (hC zH).toArray 23)).size (fun k hk e => by omega))); clear h5 h6 h7)
      | ((with_reducible show wpList _ _ _ (⟨some 35, _, _, _, _, _⟩ :: _) _ _); refine wpList_load_mid rfl 23 (.tmp 5) rfl ph2 0 rfl (hC zH) _ (HBh2.out _ Kwt2.out) Tryz.underlying23 rfl (hszL zH) ?_)
      | (go_at_call 15; refine (xCover_no wt2 p2 (HN2.out _ (nxTo KZh2.out Kwt2.out)) zH).mono ?_; rintro e wc2 ⟨rfl, hb⟩; have Kwc2 : Hid (Below wh2.heap.size wh2 wc2) := nxTo Kwt2.out hb; clear hb)
      | ((with_reducible show wpList _ _ _ (⟨some 41, _, _, _, _, _⟩ :: _) _ _); refine wpList_load_mid rfl 23 (.tmp 5) rfl ph2 0 rfl (hC zH) _ (HBh2.out _ Kwc2.out) Tryz.underlying23 rfl (hszL zH) ?_)
      | ((with_reducible show wpList _ _ _ (⟨some 42, _, _, _, _, _⟩ :: _) _ _); refine wpList_load_mid rfl 23 (.tmp 5) rfl ph2 0 rfl (hC zH) _ (HBh2.out _ Kwc2.out) Tryz.underlying23 rfl (hszL zH) ?_)
      | (go_at_call 22; refine (xNext_no wc2 p2 (HN2.out _ (nxTo KZh2.out Kwc2.out)) zH zH).mono ?_; rintro e wn2 ⟨rfl, hb⟩; have Kwn2 : Hid (Below wh2.heap.size wh2 wn2) := nxTo Kwc2.out hb; clear hb)
      | ((with_reducible show wpList _ _ _ (⟨none, .store 23 (.tmp 10) _, _, _, _, _⟩ :: _) _ _); refine wpList_store_all rfl 23 (.tmp 10) (.tmp 44) rfl wn2.heap.size 23 (hC zH).toArray (hC zH).toArray rfl rfl (heap_alloc_new wn2 _) rfl (hszB zH) (hC_one zH) ?_; intro wo2 h5 h6 h7; have Kwo2 : Hid (Below wh2.heap.size wh2 wo2) := nxTo Kwn2.out ((nxAlloc (nxRefl wn2) (.cells (hC zH).toArray 23)).trans (h6.below (nxAlloc (nxRefl wn2) (.cells (hC zH).toArray 23)).size (fun k hk e => by omega))); clear h5 h6 h7)
      | ((with_reducible show wpList _ _ _ (⟨some 48, _, _, _, _, _⟩ :: _) _ _); refine wpList_load_mid rfl 23 (.tmp 5) rfl ph2 0 rfl (hC zH) _ (HBh2.out _ Kwo2.out) Tryz.underlying23 rfl (hszL zH) ?_)
      | ((with_reducible show wpList _ _ _ (⟨some 49, _, _, _, _, _⟩ :: _) _ _); refine wpList_load_mid rfl 23 (.tmp 5) rfl ph2 0 rfl (hC zH) _ (HBh2.out _ Kwo2.out) Tryz.underlying23 rfl (hszL zH) ?_)
      | (go_at_call 20; refine (xFork_no wo2 p2 (HN2.out _ (nxTo KZh2.out Kwo2.out)) zH zH).mono ?_; rintro e wf2 ⟨rfl, hb⟩; have Kwf2 : Hid (Below wh2.heap.size wh2 wf2) := nxTo Kwo2.out hb; clear hb)
      | ((with_reducible show wpList _ _ _ (⟨none, .store 23 (.tmp 12) _, _, _, _, _⟩ :: _) _ _); refine wpList_store_all rfl 23 (.tmp 12) (.tmp 51) rfl wf2.heap.size 23 (hC zH).toArray (hC zH).toArray rfl rfl (heap_alloc_new wf2 _) rfl (hszB zH) (hC_one zH) ?_; intro wg2 h5 h6 h7; have Kwg2 : Hid (Below wh2.heap.size wh2 wg2) := nxTo Kwf2.out ((nxAlloc (nxRefl wf2) (.cells (hC zH).toArray 23)).trans (h6.below (nxAlloc (nxRefl wf2) (.cells (hC zH).toArray 23)).size (fun k hk e => by omega))); clear h5 h6 h7)
      | ((with_reducible show wpList _ _ _ (⟨some 54, _, _, _, _, _⟩ :: _) _ _); refine wpList_load_mid rfl 23 (.tmp 5) rfl ph2 0 rfl (hC zH) _ (HBh2.out _ Kwg2.out) Tryz.underlying23 rfl (hszL zH) ?_)
      | (go_at_call 27; refine (xUp_no wg2 p2 (HN2.out _ (nxTo KZh2.out Kwg2.out)) zH).mono ?_; unfold UpNo; rintro e wu2 ⟨ge2, gx2, gn2, rfl, hce, hle, hb⟩; have Kwu2 : Hid (Below wh2.heap.size wh2 wu2) := nxTo Kwg2.out hb; have HCe2 := Lib.hid hce; have HLe2 := Lib.hid hle; clear hb hce hle))
    clear cl2
    refine (wpIn_wide (n := 5)).1 ?_
    refine wpIn_rangeW (gf := 61) (lb := #[.pointer (some ⟨ge2, 0, none⟩), .pointer (some ⟨gx2, 0, none⟩), .pointer (some ⟨gn2, 0, none⟩)]) rfl (enters_of Tryz.func61 (by kernel_rfl) rfl) 0 wu2.heap.size (Nat.le_refl _) (fun _ _ _ => False)
      (fun _ W => Below wu2.heap.size wu2 W) (fun _ => False) ?seq2 (fun _ _ _ h => h.elim) (fun _ _ _ _ _ _ h => h.elim) (nxRefl _) (fun _ _ _ h b => nxTo h b) (fun k W l o o' h hl hh ho => h.grown (grownBy_putObj' W l o') h.size (fun k e => by cases e; omega)) (fun _ _ _ _ h => h.elim)
      (fun _ => { tmps := #[], defers := [] }) (fun _ _ _ _ _ h => h.elim) (fun _ _ _ _ h => absurd h (Nat.not_lt_zero _)) ?done2 (fun _ _ h => h.elim)
    case seq2 =>
      intro l J Jx W hbW hJ hY hJ0
      exact up1_no wu2 ge2 gx2 gn2 wu2.heap.size HLe2.out HCe2.out l J Jx W hbW (Nat.le_refl _) hJ hJ0
    case done2 =>
      intro D2 W2 hI hD hDl
      have KW2 : Hid (Below wh2.heap.size wh2 W2) := nxTo Kwu2.out hI
      have HD2 := Lib.hid hD
      have HDl2 : Hid (wD1.heap.size ≤ D2) := Nat.le_trans (Nat.le_trans KH2.out.size Kwu2.out.size) hDl
      have HDb2 : Hid (D2 < W2.heap.size) := (Array.getElem?_eq_some_iff.1 hD).1
      obtain ⟨wq2, hwq⟩ : ∃ zz, zz = W2 := ⟨_, rfl⟩
      have Kwq2 : Hid (Below wh2.heap.size wh2 wq2) := by rw [hwq]; exact KW2.out
      have HDq2 : Hid (wq2.heap[D2]? = some (.deferred (some []))) := by rw [hwq]; exact HD2.out
      rw [← hwq]
      have KQ02 : Hid (Below wq2.heap.size wq2 wq2) := nxRefl _
      have HQb2 : Hid (D2 < wq2.heap.size) := by rw [hwq]; exact HDb2.out
      clear hI hD hDl hwq
      go_wp2_with (first
        | ((with_reducible show wpList _ _ _ (⟨some 61, _, _, _, _, _⟩ :: _) _ _); refine wpList_load_mid rfl 23 (.tmp 5) rfl ph2 0 rfl (hC zH) _ (HBh2.out _ Kwq2.out) Tryz.underlying23 rfl (hszL zH) ?_)
        | ((with_reducible show wpList _ _ _ (⟨some 62, _, _, _, _, _⟩ :: _) _ _); refine wpList_load_mid rfl 23 (.tmp 5) rfl ph2 0 rfl (hC zH) _ (HBh2.out _ Kwq2.out) Tryz.underlying23 rfl (hszL zH) ?_)
        | ((with_reducible show wpList _ _ _ (⟨some 63, _, _, _, _, _⟩ :: _) _ _); refine wpList_load_mid rfl 23 (.tmp 5) rfl ph2 0 rfl (hC zH) _ (HBh2.out _ Kwq2.out) Tryz.underlying23 rfl (hszL zH) ?_)
        | ((with_reducible show wpList _ _ _ (⟨some 64, _, _, _, _, _⟩ :: _) _ _); refine wpList_build1 rfl 33 23 (.tmp 63) rfl (hC zH) _ 32 32 Tryz.underlying33 Tryz.dinfoH (by decide) (by decide) (hC_len zH) rfl ?_; obtain ⟨wA2, hzz⟩ : ∃ zz, wq2.alloc (.cells (hC zH).toArray 23) = zz := ⟨_, rfl⟩; have KwA2 : Hid (Below wh2.heap.size wh2 wA2) := nxTo Kwq2.out (by rw [← hzz]; exact nxAlloc (nxRefl _) _); have QA2 : Hid (Below wq2.heap.size wq2 wA2) := (by rw [← hzz]; exact nxAlloc (nxRefl _) _); rw [hzz]; clear hzz)
        | (go_at_call 25; refine (xAdd_no wA2 p2 (HN2.out _ (nxTo KZh2.out KwA2.out)) zH zH _).mono ?_; rintro e wB2 ⟨rfl, hb⟩; have KwB2 : Hid (Below wh2.heap.size wh2 wB2) := nxTo KwA2.out hb; have QB2 : Hid (Below wq2.heap.size wq2 wB2) := nxTo QA2.out hb; clear hb)
        | ((with_reducible show wpList _ _ _ (⟨some 69, _, _, _, _, _⟩ :: _) _ _); refine wpList_unguard (by rfl) ?_; refine wpList_load_mid rfl 23 (.tmp 5) rfl ph2 0 rfl (hC zH) _ (HBh2.out _ KwB2.out) Tryz.underlying23 rfl (hszL zH) ?_)
        | ((with_reducible show wpList _ _ _ (⟨some 70, _, _, _, _, _⟩ :: _) _ _); refine wpList_unguard (by rfl) ?_; refine wpList_load_mid rfl 23 (.tmp 5) rfl ph2 0 rfl (hC zH) _ (HBh2.out _ KwB2.out) Tryz.underlying23 rfl (hszL zH) ?_)
        | (go_at_call 18; refine (xChain_no wB2 p2 (HN2.out _ (nxTo KZh2.out KwB2.out)) zH zH).mono ?_; rintro e wC2 ⟨rfl, hb⟩; have KwC2 : Hid (Below wh2.heap.size wh2 wC2) := nxTo KwB2.out hb; have QC2 : Hid (Below wq2.heap.size wq2 wC2) := nxTo QB2.out hb; clear hb)
        | ((with_reducible show wpList _ _ _ (⟨some 75, _, _, _, _, _⟩ :: _) _ _); refine wpList_unguard (by rfl) ?_; refine wpList_load_mid rfl 23 (.tmp 5) rfl ph2 0 rfl (hC zH) _ (HBh2.out _ KwC2.out) Tryz.underlying23 rfl (hszL zH) ?_)
        | ((with_reducible show wpList _ _ _ (⟨some 76, _, _, _, _, _⟩ :: _) _ _); refine wpList_unguard (by rfl) ?_; refine wpList_load_mid rfl 23 (.tmp 5) rfl ph2 0 rfl (hC zH) _ (HBh2.out _ KwC2.out) Tryz.underlying23 rfl (hszL zH) ?_)
        | (go_at_call 19; refine (xBefore_no wC2 p2 (HN2.out _ (nxTo KZh2.out KwC2.out)) zH zH).mono ?_; rintro e wD2 ⟨rfl, hb⟩; have KwD2 : Hid (Below wh2.heap.size wh2 wD2) := nxTo KwC2.out hb; have KQa2 : Hid (Below wq2.heap.size wq2 wD2) := nxTo QC2.out hb; clear hb)
        | (go_at_call 28; refine (xGraph_no wD2 p2 (HN2.out _ (nxTo KZh2.out KwD2.out))).mono ?_; rintro e wn ⟨rfl, hw⟩; obtain rfl := hw.symm)
        | (go_at_call 29; refine (xDealt_no wD2 p2 (HN2.out _ (nxTo KZh2.out KwD2.out))).mono ?_; rintro e wn ⟨rfl, hw⟩; obtain rfl := hw.symm)
        | (go_at_call 24; refine (xCopy_no wD2 p2 (HN2.out _ (nxTo KZh2.out KwD2.out))).mono ?_; rintro e wn ⟨rfl, hw⟩; obtain rfl := hw.symm))
      have KX2 : Hid (Below wz.heap.size wz wD2) := nxTo KZh2.out KwD2.out
      have KQ2 : Hid (∀ W, Below wD2.heap.size wD2 W → W.heap[D2]? = some (.deferred (some [])) ∧ D2 < wD2.heap.size) := fun W hW => ⟨(nxTo KQa2.out hW).block D2 HQb2.out |>.trans HDq2.out, Nat.lt_of_lt_of_le HQb2.out KQa2.out.size⟩
      rw [rounds_succ]
      have hb0 : Blk wD2 pb 4 #[.bool false] := HB0.out.below KX2.out HB0.out.lt
      go_wp2_with (first
        | (go_at_call 9; refine (rx_known wD2).mono ?_; rintro e wX ⟨rfl, hb⟩; have KX := Lib.hid hb; have HBX := Lib.hid (hb0.below hb hb0.lt); have cX : wX.cell? ⟨pb, 0, none⟩ = some (.bool false) := HBX.out.cell 0; have fX : wX.frozen? ⟨pb, 0, none⟩ = false := HBX.out.frozen 0; clear hb))
      have e2 : Below wD2.heap.size wD2 wX := KX.out
      have eZ : Below w.heap.size w wX := nxTo HVz.out (nxTo KX2.out KX.out)
      have d2 := KQ2.out wX e2
      have d1 := KQ1.out wX (nxTo (nxTo KH2.out KwD2.out) e2)
      refine xnil_leave (pb := pb) _ rfl (HBX.out.set 0 _) (eZ.setCell (p := ⟨pb, 0, none⟩) HPb.out _) ?_ ?_ ?_ ?_ ?_
      · exact (KeepsOthers.setCell wX ⟨pb, 0, none⟩ _).same _ _ d1.1 rfl
      · exact (KeepsOthers.setCell wX ⟨pb, 0, none⟩ _).same _ _ d2.1 rfl
      · have h1 := d1.2; have h2 := HDl2.out; omega
      · have h1 := HDl1.out; have h3 := HVz.out.size; omega
      · have h1 := HDl2.out; have h2 := KX1.out.size; have h3 := HVz.out.size; omega
end
end Go.Proofs.YtbfpckomgpkjgaaGreat
