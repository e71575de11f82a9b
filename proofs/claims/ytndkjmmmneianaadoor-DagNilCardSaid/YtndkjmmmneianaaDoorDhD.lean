/-
  dag: what a graph that is not there, or a zero one, answers.
-/
import Derived.Test.YtndkjmmmneianaaDoorDh8
import Derived.Test.YtndkjmmmneianaaDoorDgY
namespace Go.Proofs.YtndkjmmmneianaaDoor
open Go.RowKit Go.Shelf

def NoG (w : World) (p : Option Addr) : Prop := p = none ∨ ∃ g, p = some ⟨g, 0, none⟩ ∧ w.cell? ⟨g, 0, none⟩ = some (.slice none 0 0)
theorem NoG.below {w W : World} {p : Option Addr} (h : NoG w p) (hb : Below w.heap.size w W) : NoG W p := by
  rcases h with h | ⟨g, h1, h2⟩
  · exact .inl h
  · exact .inr ⟨g, h1, (hb.cell (p := ⟨g, 0, none⟩) (World.block_lt_of_cell? _ _ h2)).trans h2⟩
theorem isMade_no (w : World) (p : Option Addr) (h : NoG w p) : Calls Tryd.prog 46 #[.pointer p] w fun e w' => e = .returned (.bool false) ∧ w' = w := by
  rcases h with rfl | ⟨g, rfl, hc⟩
  · go_enter Tryd.func46, Tryd.ntmps46
    go_wp2
    go_ret
    exact ⟨rfl, rfl⟩
  · go_enter Tryd.func46, Tryd.ntmps46
    go_wp2
    go_ret
    exact ⟨rfl, rfl⟩
theorem len_no (w : World) (p : Option Addr) (h : NoG w p) : Calls Tryd.prog 20 #[.pointer p] w fun e w' => e = .returned (.int .i64 0) ∧ w' = w := by
  have H := Lib.hid h
  clear h
  go_enter Tryd.func20, Tryd.ntmps20
  go_wp2_with (go_at_call 46; refine (isMade_no w p H.out).mono ?_; rintro e1 w1 ⟨rfl, hw1⟩; obtain rfl := hw1.symm)
  go_ret
  exact ⟨rfl, rfl⟩
theorem allH_no (w : World) (p : Option Addr) (h : NoG w p) : Calls Tryd.prog 25 #[.pointer p] w fun e w' => e = .returned (.func (.func 69) #[] #[.pointer (some ⟨w.heap.size, 0, none⟩)]) ∧ w' = w.alloc (.cells #[.slice none 0 0] 34) := by
  have H := Lib.hid h
  clear h
  go_enter Tryd.func25, Tryd.ntmps25
  go_wp2_with (first
    | (go_at_call 46; refine (isMade_no w p H.out).mono ?_; rintro e1 w1 ⟨rfl, hw1⟩; obtain rfl := hw1.symm)
    | (go_at_call 54; refine (valuesH_any _ _ _ _).mono ?_; rintro e w4 ⟨rfl, hw4⟩; have H4 := Lib.hid hw4; clear hw4))
  go_ret
  exact ⟨rfl, H4.out⟩
theorem copy_no (w : World) (p : Option Addr) (h : NoG w p) : Calls Tryd.prog 22 #[.pointer p] w fun e w' => e = .returned (.pointer none) ∧ w' = w := by
  have H := Lib.hid h
  clear h
  go_enter Tryd.func22, Tryd.ntmps22
  go_wp2_with (go_at_call 46; refine (isMade_no w p H.out).mono ?_; rintro e1 w1 ⟨rfl, hw1⟩; obtain rfl := hw1.symm)
  go_ret
  exact ⟨rfl, rfl⟩
set_option maxRecDepth 100000 in
set_option maxHeartbeats 1000000 in
theorem root_no (w : World) (p : Option Addr) (h : NoG w p) : Calls Tryd.prog 29 #[.pointer p] w fun e w' => e = .returned (.agg (hC zH).toArray) ∧ Below w.heap.size w w' := by
  have V0 : Hid (Below w.heap.size w (w.alloc (.cells (hC zH).toArray 23))) := nxAlloc (nxRefl w) _
  have B0 : Hid (Blk (w.alloc (.cells (hC zH).toArray 23)) w.heap.size 23 (hC zH).toArray) := heap_alloc_new w _
  have HN : Hid (∀ W, Below w.heap.size w W → NoG W p) := fun W hW => h.below hW
  have hbz : ∀ wq : World, (Instr.build 23 #[]).run Tryd.prog wq = .ok (.agg (hC zH).toArray) wq := fun wq => by kernel_rfl
  clear h
  go_enter Tryd.func29, Tryd.ntmps29
  go_wp2_with (first
    | (go_at_call 46; refine (isMade_no _ p (HN.out _ V0.out)).mono ?_; rintro e1 w1 ⟨rfl, hw1⟩; obtain rfl := hw1.symm)
    | ((with_reducible show wpList _ _ _ (⟨none, .store 23 _ _, _, _, _, _⟩ :: _) _ _); refine wpList_store_all rfl 23 (.tmp 2) (.tmp 6) rfl w.heap.size 23 (hC zH).toArray (hC zH).toArray rfl rfl B0.out rfl (hszB zH) (hC_one zH) ?_; intro w5 h5 h6 h7; have H5 := Lib.hid h5; have Hb5 : Hid (Below w.heap.size w w5) := V0.out.trans (h6.below V0.out.size (fun k hk => by omega)); clear h5 h6 h7))
  refine bodyPost_ret (results_cell_row Tryd.results29 _ _ w.heap.size 23 _ (0, 0) _ rfl H5.out Tryd.underlying23 rfl (hszB zH)) rfl ⟨rfl, Hb5.out⟩
theorem place_no (w : World) (p : Option Addr) (h : NoG w p) (id : Hh) : Calls Tryd.prog 37 #[.pointer p, .agg (hC id).toArray] w fun e w' => e = .returned (.tuple #[.int .i64 0, .bool false]) ∧ Below w.heap.size w w' := by
  have V0 : Hid (Below w.heap.size w (w.alloc (.cells (hC id).toArray 23))) := nxAlloc (nxRefl w) _
  have B0 : Hid (Blk (w.alloc (.cells (hC id).toArray 23)) w.heap.size 23 (hC id).toArray) := heap_alloc_new w _
  have HN : Hid (∀ W, Below w.heap.size w W → NoG W p) := fun W hW => h.below hW
  clear h
  go_enter Tryd.func37, Tryd.ntmps37
  go_wp2_with (first
    | (go_at_call 46; refine (isMade_no _ p (HN.out _ V0.out)).mono ?_; rintro e1 w1 ⟨rfl, hw1⟩; obtain rfl := hw1.symm))
  go_ret2
  exact ⟨rfl, V0.out⟩
theorem has_no (w : World) (p : Option Addr) (h : NoG w p) (id : Hh) : Calls Tryd.prog 28 #[.pointer p, .agg (hC id).toArray] w fun e w' => e = .returned (.bool false) ∧ Below w.heap.size w w' := by
  have V0 : Hid (Below w.heap.size w (w.alloc (.cells (hC id).toArray 23))) := nxAlloc (nxRefl w) _
  have B0 : Hid (Blk (w.alloc (.cells (hC id).toArray 23)) w.heap.size 23 (hC id).toArray) := heap_alloc_new w _
  have HN : Hid (∀ W, Below w.heap.size w W → NoG W p) := fun W hW => h.below hW
  clear h
  go_enter Tryd.func28, Tryd.ntmps28
  go_wp2_with (first
    | ((with_reducible show wpList _ _ _ (⟨some 9, _, _, _, _, _⟩ :: _) _ _); refine wpList_load_mid rfl 23 (.tmp 3) rfl w.heap.size 0 rfl (hC id) _ (kb_range B0.out) Tryd.underlying23 rfl (hszL id) ?_)
    | (go_at_call 37; refine (place_no _ p (HN.out _ V0.out) id).mono ?_; rintro e1 w1 ⟨rfl, hb1⟩; have V1 : Hid (Below w.heap.size w w1) := nxTo V0.out hb1; clear hb1))
  go_ret
  exact ⟨rfl, V1.out⟩
theorem beside_no2 (w : World) (p : Option Addr) (h : NoG w p) (id : Hh) (fv : Value) : Calls Tryd.prog 55 #[.pointer p, .agg (hC id).toArray, fv] w fun e w' => e = .returned (.tuple #[.slice none 0 0, .int .i64 1]) ∧ Below w.heap.size w w' := by
  have V0 : Hid (Below w.heap.size w (w.alloc (.cells (hC id).toArray 23))) := nxAlloc (nxRefl w) _
  have B0 : Hid (Blk (w.alloc (.cells (hC id).toArray 23)) w.heap.size 23 (hC id).toArray) := heap_alloc_new w _
  have HN : Hid (∀ W, Below w.heap.size w W → NoG W p) := fun W hW => h.below hW
  clear h
  go_enter Tryd.func55, Tryd.ntmps55
  go_wp2_with (first
    | ((with_reducible show wpList _ _ _ (⟨some 12, _, _, _, _, _⟩ :: _) _ _); refine wpList_load_mid rfl 23 (.tmp 4) rfl w.heap.size 0 rfl (hC id) _ (kb_range B0.out) Tryd.underlying23 rfl (hszL id) ?_)
    | (go_at_call 37; refine (place_no _ p (HN.out _ V0.out) id).mono ?_; rintro e1 w1 ⟨rfl, hb1⟩; have V1 : Hid (Below w.heap.size w w1) := nxTo V0.out hb1; clear hb1)
    | (go_at_call 46; refine (isMade_no _ p (HN.out _ V1.out)).mono ?_; rintro e2 w2 ⟨rfl, hw2⟩; obtain rfl := hw2.symm))
  go_ret2
  exact ⟨rfl, V1.out⟩
theorem parents_no (w : World) (p : Option Addr) (h : NoG w p) (id : Hh) : Calls Tryd.prog 26 #[.pointer p, .agg (hC id).toArray] w fun e w' => e = .returned (.tuple #[.slice none 0 0, .int .i64 1]) ∧ Below w.heap.size w w' := by
  have V0 : Hid (Below w.heap.size w (w.alloc (.cells (hC id).toArray 23))) := nxAlloc (nxRefl w) _
  have B0 : Hid (Blk (w.alloc (.cells (hC id).toArray 23)) w.heap.size 23 (hC id).toArray) := heap_alloc_new w _
  have HN : Hid (∀ W, Below w.heap.size w W → NoG W p) := fun W hW => h.below hW
  clear h
  go_enter Tryd.func26, Tryd.ntmps26
  go_wp2_with (first
    | ((with_reducible show wpList _ _ _ (⟨some 7, _, _, _, _, _⟩ :: _) _ _); refine wpList_load_mid rfl 23 (.tmp 3) rfl w.heap.size 0 rfl (hC id) _ (kb_range B0.out) Tryd.underlying23 rfl (hszL id) ?_)
    | (go_at_call 55; refine (beside_no2 _ p (HN.out _ V0.out) id _).mono ?_; rintro e1 w1 ⟨rfl, hb1⟩; have V1 : Hid (Below w.heap.size w w1) := nxTo V0.out hb1; clear hb1))
  go_ret2
  exact ⟨rfl, V1.out⟩
theorem children_no (w : World) (p : Option Addr) (h : NoG w p) (id : Hh) : Calls Tryd.prog 27 #[.pointer p, .agg (hC id).toArray] w fun e w' => e = .returned (.tuple #[.slice none 0 0, .int .i64 1]) ∧ Below w.heap.size w w' := by
  have V0 : Hid (Below w.heap.size w (w.alloc (.cells (hC id).toArray 23))) := nxAlloc (nxRefl w) _
  have B0 : Hid (Blk (w.alloc (.cells (hC id).toArray 23)) w.heap.size 23 (hC id).toArray) := heap_alloc_new w _
  have HN : Hid (∀ W, Below w.heap.size w W → NoG W p) := fun W hW => h.below hW
  clear h
  go_enter Tryd.func27, Tryd.ntmps27
  go_wp2_with (first
    | ((with_reducible show wpList _ _ _ (⟨some 7, _, _, _, _, _⟩ :: _) _ _); refine wpList_load_mid rfl 23 (.tmp 3) rfl w.heap.size 0 rfl (hC id) _ (kb_range B0.out) Tryd.underlying23 rfl (hszL id) ?_)
    | (go_at_call 55; refine (beside_no2 _ p (HN.out _ V0.out) id _).mono ?_; rintro e1 w1 ⟨rfl, hb1⟩; have V1 : Hid (Below w.heap.size w w1) := nxTo V0.out hb1; clear hb1))
  go_ret2
  exact ⟨rfl, V1.out⟩
theorem add_no (w : World) (p : Option Addr) (h : NoG w p) (id : Hh) (s : Value) : Calls Tryd.prog 23 #[.pointer p, .agg (hC id).toArray, s] w fun e w' => e = .returned (.int .i64 1) ∧ Below w.heap.size w w' := by
  have V0 : Hid (Below w.heap.size w (w.alloc (.cells (hC id).toArray 23))) := nxAlloc (nxRefl w) _
  have HN : Hid (∀ W, Below w.heap.size w W → NoG W p) := fun W hW => h.below hW
  clear h
  go_enter Tryd.func23, Tryd.ntmps23
  go_wp2_with (go_at_call 46; refine (isMade_no _ p (HN.out _ V0.out)).mono ?_; rintro e1 w1 ⟨rfl, hw1⟩; obtain rfl := hw1.symm)
  go_ret
  exact ⟨rfl, V0.out⟩
set_option maxRecDepth 100000 in
set_option maxHeartbeats 1000000 in
theorem before_no (w : World) (p : Option Addr) (h : NoG w p) (x y : Hh) : Calls Tryd.prog 14 #[.pointer p, .agg (hC x).toArray, .agg (hC y).toArray] w fun e w' => e = .returned (.bool false) ∧ Below w.heap.size w w' := by
  have V0 : Hid (Below w.heap.size w ((w.alloc (.cells (hC x).toArray 23)).alloc (.cells (hC y).toArray 23))) := nxAlloc (nxAlloc (nxRefl w) _) _
  have BX : Hid (Blk ((w.alloc (.cells (hC x).toArray 23)).alloc (.cells (hC y).toArray 23)) w.heap.size 23 (hC x).toArray) := Blk.alloc (heap_alloc_new w _) _
  have BY : Hid (Blk ((w.alloc (.cells (hC x).toArray 23)).alloc (.cells (hC y).toArray 23)) (w.heap.size + 1) 23 (hC y).toArray) := blkNew (by simp) rfl
  have HN : Hid (∀ W, Below w.heap.size w W → NoG W p) := fun W hW => h.below hW
  clear h
  go_enter Tryd.func14, Tryd.ntmps14
  go_wp2_with (first
    | ((with_reducible show wpList _ _ _ (⟨some 13, _, _, _, _, _⟩ :: _) _ _); refine wpList_load_mid rfl 23 (.tmp 4) rfl w.heap.size 0 rfl (hC x) _ (kb_range BX.out) Tryd.underlying23 rfl (hszL x) ?_)
    | (go_at_call 37; (with_reducible show Calls _ _ _ (World.alloc _ _) _); refine (place_no _ p (HN.out _ V0.out) x).mono ?_; rintro e1 w1 ⟨rfl, hb1⟩; have V1 : Hid (Below w.heap.size w w1) := nxTo V0.out hb1; have BY1 := Lib.hid (BY.out.below hb1 BY.out.lt); clear hb1)
    | ((with_reducible show wpList _ _ _ (⟨some 19, _, _, _, _, _⟩ :: _) _ _); refine wpList_load_mid rfl 23 (.tmp 5) rfl (w.heap.size + 1) 0 rfl (hC y) _ (kb_range BY1.out) Tryd.underlying23 rfl (hszL y) ?_)
    | (go_at_call 37; (with_reducible show Calls _ _ _ w1 _); refine (place_no _ p (HN.out _ V1.out) y).mono ?_; rintro e2 w2 ⟨rfl, hb2⟩; have V2 : Hid (Below w.heap.size w w2) := nxTo V1.out hb2; clear hb2))
  go_ret
  exact ⟨rfl, V2.out⟩
theorem where_no (w : World) (p : Option Addr) (fv : Fn) (caps : Array Value) : Calls Tryd.prog 43 #[.pointer p, .func fv #[] caps] w fun e w' => e = .returned (.func (.func 65) #[] #[.pointer (some ⟨w.heap.size, 0, none⟩), .pointer (some ⟨w.heap.size + 1, 0, none⟩)]) ∧ w' = ((w.alloc (.cells #[.pointer p] 27)).alloc (.cells #[.func fv #[] caps] 77)) := by
  have hmf : ∀ (fn : Fn) (first cap : Array Value) (w : World), (Instr.makeFunc fn first cap).run Tryd.prog w = .ok (.func fn first cap) w := fun _ _ _ _ => rfl
  go_enter Tryd.func43, Tryd.ntmps43
  go_wp2
  go_ret
  exact ⟨rfl, rfl⟩
theorem risingN_leave {w W : World} {D : Nat} (tmps : Array Value) (hp : tmps.getD 4 undef = .slice none 0 0) (hv : Below w.heap.size w W) (hD : W.heap[D]? = some (.deferred (some []))) (hDl : w.heap.size ≤ D) :
    LeavesInM Fence.wide 5 Tryd.prog Tryd.f41 tmps (fun e w' => e = .returned (.slice none 0 0) ∧ Below w.heap.size w w') [{ target := .collected D, args := #[] }] .returning W := by
  have h3 : Below w.heap.size w (W.putObj D (.deferred none)) := hv.grown (grownBy_putObj' W D (.deferred none)) hv.size (fun k e => by cases e; omega)
  refine ⟨by simp, .inl ⟨_, _, rfl, run_takeDeferred hD, ?_⟩⟩
  exact ⟨_, results_tmp rfl tmps _ _, by rw [hp], h3⟩
section
attribute [local go_sem] Oper.semAt_some
set_option maxRecDepth 100000 in
set_option maxHeartbeats 4000000 in
/-- rising over an iterator that yields nothing. -/
theorem rising_no (w : World) (p : Option Addr) (gf : Nat) (lb : Array Value) (eg : ∀ args w, (callFunc gf args).run Tryd.prog w = .ok (.enter gf args) w)
    (hit : ∀ W, Below w.heap.size w W → w.heap.size ≤ W.heap.size → ∀ (l : Nat) (J : Nat → World → Prop) (Jx : World → Prop) (W9 : World), Below W.heap.size W W9 → (∀ k W1 W2, J k W1 → Below W1.heap.size W1 W2 → J k W2) →
      J 0 W9 → CallsIn Fence.wide (5 - 1) Tryd.prog gf (#[.func (.yield l) #[] #[]] ++ lb) W9 fun e W' => (∃ v, e = .returned v) ∧ ((J 0 W' ∧ Below w.heap.size W9 W') ∨ Jx W')) :
    Calls Tryd.prog 41 #[.pointer p, .func (.func gf) #[] lb] w fun e w' => e = .returned (.slice none 0 0) ∧ Below w.heap.size w w' := by
  have V2 : Hid (Below w.heap.size w ((w.alloc (.cells #[.pointer p] 27)).alloc (.cells #[.slice none 0 0] 34))) := nxAlloc (nxAlloc (nxRefl w) _) _
  have L2 : Hid (Blk ((w.alloc (.cells #[.pointer p] 27)).alloc (.cells #[.slice none 0 0] 34)) (w.heap.size + 1) 34 #[.slice none 0 0]) := blkNew (by simp) rfl
  have HIt := Lib.hid hit
  have HEg := Lib.hid eg
  clear hit eg
  refine (callsIn_wide (n := 5)).1 ?_
  refine callsIn_of_wp_marks Tryd.func41 rfl trivial ?_ rfl
  simp only [Tryd.ntmps41, List.size_toArray, List.length_cons, List.length_nil, Nat.reduceAdd, Nat.reduceSub, Array.replicate_succ, Array.replicate_zero, List.push_toArray, List.append_toArray, List.nil_append, List.cons_append]
  gi_wp2
  generalize hW2 : ((w.alloc (.cells #[.pointer p] 27)).alloc (.cells #[.slice none 0 0] 34)) = W2 at *
  clear hW2
  have HS2 : Hid (w.heap.size ≤ W2.heap.size) := V2.out.size
  refine wpIn_rangeW (gf := gf) (lb := lb) rfl HEg.out 0 w.heap.size HS2.out (fun _ _ _ => False)
    (fun _ W => Blk W (w.heap.size + 1) 34 #[.slice none 0 0] ∧ Below w.heap.size w W) (fun _ => False) ?seq (fun _ _ _ h => h.elim) (fun _ _ _ _ _ _ h => h.elim) ⟨L2.out, V2.out⟩ (fun k W W' h b => ⟨h.1.below b h.1.lt, nxTo h.2 b⟩) (fun k W l o o' h hl hh ho => ⟨h.1.putW o' hh ho, h.2.grown (grownBy_putObj' W l o') h.2.size (fun k e => by cases e; exact Nat.le_trans HS2.out hl)⟩) (fun _ _ _ _ h => h.elim)
    (fun _ => { tmps := #[], defers := [] }) (fun _ _ _ _ _ h => h.elim) (fun _ _ _ _ h => absurd h (Nat.not_lt_zero _)) ?done (fun _ _ h => h.elim)
  case seq =>
    intro l J Jx W hbW hJ hY hJ0
    exact HIt.out W2 V2.out HS2.out l J Jx W hbW hJ hJ0
  case done =>
    rintro D W ⟨hL, hv⟩ hD hDl
    have HL := Lib.hid hL
    have HV := Lib.hid hv
    have HD := Lib.hid hD
    have cl : W.cell? ⟨w.heap.size + 1, 0, none⟩ = some (.slice none 0 0) := hL.cell 0
    have hso := sort_any W w.heap.size 0 0 none [] (by simp) (by simpa [hsC] using World.ownsRow_nil W w.heap.size 23 32) (by omega)
    have HSo := Lib.hid hso
    clear hL hv hD hso
    gi_wp2_with (first
      | ((with_reducible show Fence.wide.fn 61 ∧ _); refine ⟨trivial, ?_⟩; refine (callsIn_wide.2 HSo.out).mono ?_; rintro e w5 ⟨rfl, ho5, hk5⟩; have L5 : Hid (Blk w5 (w.heap.size + 1) 34 #[.slice none 0 0]) := HL.out.keeps hk5 (by simp); have c5 : w5.cell? ⟨w.heap.size + 1, 0, none⟩ = some (.slice none 0 0) := L5.out.cell 0; have V5 : Hid (Below w.heap.size w w5) := HV.out.trans (hk5.below HV.out.size (fun j hj e => by simp at e)); have D5 : Hid (w5.heap[D]? = some (.deferred (some []))) := (hk5.block D (Array.getElem?_eq_some_iff.1 HD.out).1 (by simp)).trans HD.out; clear ho5 hk5))
    exact risingN_leave _ rfl V5.out D5.out (Nat.le_trans HS2.out hDl)
set_option maxRecDepth 100000 in
set_option maxHeartbeats 4000000 in
theorem where1_no (w : World) (p : Option Addr) (gb ab B : Nat) (hBw : B ≤ w.heap.size) (hgb : gb < B) (hcg : w.cell? ⟨gb, 0, none⟩ = some (.pointer p)) (hN : ∀ W, Below B w W → NoG W p)
    (l : Nat) (J : Nat → World → Prop) (Jx : World → Prop) (W9 : World) (hW : Below B w W9) (h0 : J 0 W9) : CallsIn Fence.wide (5 - 1) Tryd.prog 65 #[.func (.yield l) #[] #[], .pointer (some ⟨gb, 0, none⟩), .pointer (some ⟨ab, 0, none⟩)] W9 fun e W' => (∃ v, e = .returned v) ∧ ((J 0 W' ∧ Below B W9 W') ∨ Jx W') := by
  have HLn := Lib.hid (len_no W9 p (hN W9 hW))
  have c9 : W9.cell? ⟨gb, 0, none⟩ = some (.pointer p) := (hW.cell (p := ⟨gb, 0, none⟩) hgb).trans hcg
  clear hN hW hcg
  refine callsIn_of_wp Tryd.func65 rfl trivial ?_ rfl
  simp only [Tryd.ntmps65, List.size_toArray, List.length_cons, List.length_nil, Nat.reduceAdd, Nat.reduceSub, Array.replicate_succ, Array.replicate_zero, List.push_toArray, List.append_toArray, List.nil_append, List.cons_append]
  gi_wp2_with (first
    | ((with_reducible show Fence.wide.fn 20 ∧ _); refine ⟨trivial, ?_⟩; refine (callsIn_wide.2 HLn.out).mono ?_; rintro e w5 ⟨rfl, hw5⟩; obtain rfl := hw5.symm))
  gi_loopw [7] (fun i wr => i = .int .i64 0 ∧ Hid (J 0 wr) ∧ Hid (Below B W9 wr)) (fun _ _ => 0)
  case atStart => exact ⟨rfl, h0, Below.refl _ _⟩
  case round =>
    obtain ⟨rfl, hJs, hnx⟩ := hrel
    gi_wp2
    go_end0
    exact ⟨⟨_, rfl⟩, .inl ⟨hJs.out, hnx.out⟩⟩
end
theorem ask_no (W4 : World) (p : Option Addr) (h : NoG W4 p) (gb ab : Nat) (hgb : gb < W4.heap.size) (hcg : W4.cell? ⟨gb, 0, none⟩ = some (.pointer p)) :
    Calls Tryd.prog 41 #[.pointer p, .func (.func 65) #[] #[.pointer (some ⟨gb, 0, none⟩), .pointer (some ⟨ab, 0, none⟩)]] W4 fun e w' => e = .returned (.slice none 0 0) ∧ Below W4.heap.size W4 w' := by
  refine rising_no W4 p 65 #[.pointer (some ⟨gb, 0, none⟩), .pointer (some ⟨ab, 0, none⟩)] (enters_of Tryd.func65 (by kernel_rfl) rfl) ?_
  intro W hbw hsz l J Jx W9 hW9 hJ h0
  exact where1_no W p gb ab W4.heap.size hsz hgb ((hbw.cell (p := ⟨gb, 0, none⟩) hgb).trans hcg) (fun W1 h1 => h.below (hbw.trans h1)) l J Jx W9 (hW9.mono hsz) h0
set_option maxRecDepth 100000 in
set_option maxHeartbeats 2000000 in
theorem future_no (w : World) (p : Option Addr) (h : NoG w p) (id : Hh) : Calls Tryd.prog 18 #[.pointer p, .agg (hC id).toArray] w fun e w' => e = .returned (.slice none 0 0) ∧ Below w.heap.size w w' := by
  have V2 : Hid (Below w.heap.size w ((w.alloc (.cells #[.pointer p] 27)).alloc (.cells (hC id).toArray 23))) := nxAlloc (nxAlloc (nxRefl w) _) _
  have G2 : Hid (Blk ((w.alloc (.cells #[.pointer p] 27)).alloc (.cells (hC id).toArray 23)) w.heap.size 27 #[.pointer p]) := Blk.alloc (blkNew rfl rfl) _
  have I2 : Hid (Blk ((w.alloc (.cells #[.pointer p] 27)).alloc (.cells (hC id).toArray 23)) (w.heap.size + 1) 23 (hC id).toArray) := blkNew (by simp) rfl
  have c2 : ((w.alloc (.cells #[.pointer p] 27)).alloc (.cells (hC id).toArray 23)).cell? ⟨w.heap.size, 0, none⟩ = some (.pointer p) := G2.out.cell 0
  have Z1 := Lib.hid (hszL id)
  have HN : Hid (∀ W, Below w.heap.size w W → NoG W p) := fun W hW => h.below hW
  have hmf : ∀ (fn : Fn) (first cap : Array Value) (w : World), (Instr.makeFunc fn first cap).run Tryd.prog w = .ok (.func fn first cap) w := fun _ _ _ _ => rfl
  clear h
  go_enter Tryd.func18, Tryd.ntmps18
  go_wp2_with (first
    | ((with_reducible show wpList _ _ _ (⟨some 9, _, _, _, _, _⟩ :: _) _ _); refine wpList_load_mid rfl 23 (.tmp 3) rfl (w.heap.size + 1) 0 rfl (hC id) _ (fun j v hv => by rw [Nat.zero_add, I2.out.cell j]; simpa using hv) Tryd.underlying23 rfl Z1.out ?_)
    | (go_at_call 37; refine (place_no _ p (HN.out _ V2.out) id).mono ?_; rintro e1 w1 ⟨rfl, hb1⟩; have V1 : Hid (Below w.heap.size w w1) := nxTo V2.out hb1; have G1 := Lib.hid (G2.out.below hb1 G2.out.lt); clear hb1))
  have hlt1 := G1.out.lt
  obtain ⟨W3, hW3⟩ : ∃ x, ((w1.alloc (.cells #[.int .i64 0] 3)).alloc (.cells #[.bool false] 4)) = x := ⟨_, rfl⟩
  have V3 : Hid (Below w1.heap.size w1 W3) := by rw [← hW3]; exact nxAlloc (nxAlloc (nxRefl w1) _) _
  rw [hW3]
  have VW : Hid (Below w.heap.size w W3.drew) := nxDrT (nxTo V1.out V3.out)
  have G3 : Hid (Blk W3.drew w.heap.size 27 #[.pointer p]) := G1.out.below (nxDrT V3.out) hlt1
  have HN3 : Hid (∀ W, Below W3.drew.heap.size W3.drew W → NoG W p) := fun W hW => HN.out W (nxTo VW.out hW)
  obtain ⟨gB, hgB⟩ : ∃ gB, w.heap.size = gB := ⟨_, rfl⟩
  have HB9 := Lib.hid hgB
  rw [hgB] at G3 ⊢
  have HGl : Hid (gB < W3.drew.heap.size) := G3.out.lt
  have HGc : Hid (W3.drew.cell? ⟨gB, 0, none⟩ = some (.pointer p)) := G3.out.cell 0
  clear c2 hgB hW3 G1 G2 I2 V1 V2 V3 HN hlt1
  refine wp_region_held_drew (S := fun W => W.cell? ⟨gB, 0, none⟩ = some (.pointer p)) (by kernel_rfl) HGc.out (fun hHeld => ?_)
  generalize W3.drew = wd at *
  refine wpAnyH_take (i := 0) (oi := ⟨_, _, _, _, _, _⟩) (v := ?_) rfl (by kernel_rfl) (by kernel_rfl) (by kernel_rfl) (fun _ _ _ h => h) (Or.inl ⟨by rfl, ?_⟩) (by assumption) ?_
  rotate_left 1
  · intro W hSw
    try dsimp only at hSw
    have hs1 := hSw
    go_simp
    try with_reducible rfl
  try simp only [Act.put, List.setIfInBounds_toArray, List.set_cons_zero, List.set_cons_succ]
  refine wpAnyH_take (i := 1) (oi := ⟨_, _, _, _, _, _⟩) (v := ?_) rfl (by kernel_rfl) (by kernel_rfl) (by kernel_rfl) (fun _ _ _ h => h) (Or.inl ⟨by rfl, ?_⟩) (by assumption) ?_
  rotate_left 1
  · intro W hSw
    try dsimp only at hSw
    have hs1 := hSw
    go_simp
    try with_reducible rfl
  try simp only [Act.put, List.setIfInBounds_toArray, List.set_cons_zero, List.set_cons_succ]
  refine wpAnyH_take (i := 2) (oi := ⟨_, _, _, _, _, _⟩) (v := ?_) rfl (by kernel_rfl) (by kernel_rfl) (by kernel_rfl) (fun _ _ _ h => h) (Or.inl ⟨by rfl, ?_⟩) (by assumption) ?_
  rotate_left 1
  · intro W hSw
    try dsimp only at hSw
    have hs1 := hSw
    go_simp
    try with_reducible rfl
  try simp only [Act.put, List.setIfInBounds_toArray, List.set_cons_zero, List.set_cons_succ]
  refine wpAnyH_ready (rs := [3]) (by kernel_rfl) (by simp) ?_
  refine AllReadyH.cons rfl (fun K hK => ?_) AllReadyH.nil
  go_simp
  go_at_call 43
  refine (where_no _ p _ _).mono ?_
  rintro e4 w4 ⟨rfl, hw4⟩
  have V4 : Hid (Below wd.heap.size wd w4) := (by rw [hw4]; exact nxAlloc (nxAlloc (nxRefl wd) _) _)
  have G4 : Hid (w4.cell? ⟨wd.heap.size, 0, none⟩ = some (.pointer p)) := (by rw [hw4]; exact (Blk.alloc (blkNew rfl rfl) _ : Blk ((wd.alloc (.cells #[.pointer p] 27)).alloc _) wd.heap.size 27 #[.pointer p]).cell 0)
  have L4 : Hid (wd.heap.size < w4.heap.size) := World.block_lt_of_cell? _ _ G4.out
  have C4 : Hid (w4.cell? ⟨gB, 0, none⟩ = some (.pointer p)) := (V4.out.cell (p := ⟨gB, 0, none⟩) HGl.out).trans HGc.out
  clear hw4
  refine hK.out _ _ C4.out (fun hSn => ?_)
  clear hK K
  try simp only [Act.put, List.setIfInBounds_toArray, List.set_cons_zero, List.set_cons_succ]
  refine wpAnyH_ready (rs := [4]) (by kernel_rfl) (by simp) ?_
  refine AllReadyH.cons rfl (fun K hK => ?_) AllReadyH.nil
  go_simp
  go_at_call 41
  refine (ask_no w4 p (HN3.out w4 V4.out) _ _ L4.out G4.out).mono ?_
  rintro e5 w5 ⟨rfl, hb5⟩
  have V5 := Lib.hid hb5
  have C5 : Hid (w5.cell? ⟨gB, 0, none⟩ = some (.pointer p)) := (V5.out.cell (p := ⟨gB, 0, none⟩) (Nat.lt_of_lt_of_le HGl.out V4.out.size)).trans C4.out
  clear hb5
  refine hK.out _ _ C5.out (fun hSn => ?_)
  clear hK K
  try simp only [Act.put, List.setIfInBounds_toArray, List.set_cons_zero, List.set_cons_succ]
  refine wpAnyH_take (i := 5) (oi := ⟨_, _, _, _, _, _⟩) (v := ?_) rfl (by kernel_rfl) (by kernel_rfl) (by kernel_rfl) (fun _ _ _ h => h) (Or.inl ⟨by rfl, ?_⟩) (by assumption) ?_
  rotate_left 1
  · intro W hSw
    try dsimp only at hSw
    have hs1 := hSw
    go_simp
    try with_reducible rfl
  try simp only [Act.put, List.setIfInBounds_toArray, List.set_cons_zero, List.set_cons_succ]
  refine wpAnyH_done (by kernel_rfl) ?_ _
  go_wp2
  go_ret
  exact ⟨rfl, nxTo VW.out (nxTo V4.out V5.out)⟩
set_option maxRecDepth 100000 in
set_option maxHeartbeats 2000000 in
theorem anticone_no (w : World) (p : Option Addr) (h : NoG w p) (id : Hh) : Calls Tryd.prog 19 #[.pointer p, .agg (hC id).toArray] w fun e w' => e = .returned (.slice none 0 0) ∧ Below w.heap.size w w' := by
  have V2 : Hid (Below w.heap.size w ((w.alloc (.cells #[.pointer p] 27)).alloc (.cells (hC id).toArray 23))) := nxAlloc (nxAlloc (nxRefl w) _) _
  have G2 : Hid (Blk ((w.alloc (.cells #[.pointer p] 27)).alloc (.cells (hC id).toArray 23)) w.heap.size 27 #[.pointer p]) := Blk.alloc (blkNew rfl rfl) _
  have I2 : Hid (Blk ((w.alloc (.cells #[.pointer p] 27)).alloc (.cells (hC id).toArray 23)) (w.heap.size + 1) 23 (hC id).toArray) := blkNew (by simp) rfl
  have c2 : ((w.alloc (.cells #[.pointer p] 27)).alloc (.cells (hC id).toArray 23)).cell? ⟨w.heap.size, 0, none⟩ = some (.pointer p) := G2.out.cell 0
  have Z1 := Lib.hid (hszL id)
  have HN : Hid (∀ W, Below w.heap.size w W → NoG W p) := fun W hW => h.below hW
  have hmf : ∀ (fn : Fn) (first cap : Array Value) (w : World), (Instr.makeFunc fn first cap).run Tryd.prog w = .ok (.func fn first cap) w := fun _ _ _ _ => rfl
  clear h
  go_enter Tryd.func19, Tryd.ntmps19
  go_wp2_with (first
    | ((with_reducible show wpList _ _ _ (⟨some 9, _, _, _, _, _⟩ :: _) _ _); refine wpList_load_mid rfl 23 (.tmp 3) rfl (w.heap.size + 1) 0 rfl (hC id) _ (fun j v hv => by rw [Nat.zero_add, I2.out.cell j]; simpa using hv) Tryd.underlying23 rfl Z1.out ?_)
    | (go_at_call 37; refine (place_no _ p (HN.out _ V2.out) id).mono ?_; rintro e1 w1 ⟨rfl, hb1⟩; have V1 : Hid (Below w.heap.size w w1) := nxTo V2.out hb1; have G1 := Lib.hid (G2.out.below hb1 G2.out.lt); clear hb1))
  have hlt1 := G1.out.lt
  obtain ⟨W3, hW3⟩ : ∃ x, ((w1.alloc (.cells #[.int .i64 0] 3)).alloc (.cells #[.bool false] 4)) = x := ⟨_, rfl⟩
  have V3 : Hid (Below w1.heap.size w1 W3) := by rw [← hW3]; exact nxAlloc (nxAlloc (nxRefl w1) _) _
  rw [hW3]
  have VW : Hid (Below w.heap.size w W3.drew) := nxDrT (nxTo V1.out V3.out)
  have G3 : Hid (Blk W3.drew w.heap.size 27 #[.pointer p]) := G1.out.below (nxDrT V3.out) hlt1
  have HN3 : Hid (∀ W, Below W3.drew.heap.size W3.drew W → NoG W p) := fun W hW => HN.out W (nxTo VW.out hW)
  obtain ⟨gB, hgB⟩ : ∃ gB, w.heap.size = gB := ⟨_, rfl⟩
  have HB9 := Lib.hid hgB
  rw [hgB] at G3 ⊢
  have HGl : Hid (gB < W3.drew.heap.size) := G3.out.lt
  have HGc : Hid (W3.drew.cell? ⟨gB, 0, none⟩ = some (.pointer p)) := G3.out.cell 0
  clear c2 hgB hW3 G1 G2 I2 V1 V2 V3 HN hlt1
  refine wp_region_held_drew (S := fun W => W.cell? ⟨gB, 0, none⟩ = some (.pointer p)) (by kernel_rfl) HGc.out (fun hHeld => ?_)
  generalize W3.drew = wd at *
  refine wpAnyH_take (i := 0) (oi := ⟨_, _, _, _, _, _⟩) (v := ?_) rfl (by kernel_rfl) (by kernel_rfl) (by kernel_rfl) (fun _ _ _ h => h) (Or.inl ⟨by rfl, ?_⟩) (by assumption) ?_
  rotate_left 1
  · intro W hSw
    try dsimp only at hSw
    have hs1 := hSw
    go_simp
    try with_reducible rfl
  try simp only [Act.put, List.setIfInBounds_toArray, List.set_cons_zero, List.set_cons_succ]
  refine wpAnyH_take (i := 1) (oi := ⟨_, _, _, _, _, _⟩) (v := ?_) rfl (by kernel_rfl) (by kernel_rfl) (by kernel_rfl) (fun _ _ _ h => h) (Or.inl ⟨by rfl, ?_⟩) (by assumption) ?_
  rotate_left 1
  · intro W hSw
    try dsimp only at hSw
    have hs1 := hSw
    go_simp
    try with_reducible rfl
  try simp only [Act.put, List.setIfInBounds_toArray, List.set_cons_zero, List.set_cons_succ]
  refine wpAnyH_take (i := 2) (oi := ⟨_, _, _, _, _, _⟩) (v := ?_) rfl (by kernel_rfl) (by kernel_rfl) (by kernel_rfl) (fun _ _ _ h => h) (Or.inl ⟨by rfl, ?_⟩) (by assumption) ?_
  rotate_left 1
  · intro W hSw
    try dsimp only at hSw
    have hs1 := hSw
    go_simp
    try with_reducible rfl
  try simp only [Act.put, List.setIfInBounds_toArray, List.set_cons_zero, List.set_cons_succ]
  refine wpAnyH_ready (rs := [3]) (by kernel_rfl) (by simp) ?_
  refine AllReadyH.cons rfl (fun K hK => ?_) AllReadyH.nil
  go_simp
  go_at_call 43
  refine (where_no _ p _ _).mono ?_
  rintro e4 w4 ⟨rfl, hw4⟩
  have V4 : Hid (Below wd.heap.size wd w4) := (by rw [hw4]; exact nxAlloc (nxAlloc (nxRefl wd) _) _)
  have G4 : Hid (w4.cell? ⟨wd.heap.size, 0, none⟩ = some (.pointer p)) := (by rw [hw4]; exact (Blk.alloc (blkNew rfl rfl) _ : Blk ((wd.alloc (.cells #[.pointer p] 27)).alloc _) wd.heap.size 27 #[.pointer p]).cell 0)
  have L4 : Hid (wd.heap.size < w4.heap.size) := World.block_lt_of_cell? _ _ G4.out
  have C4 : Hid (w4.cell? ⟨gB, 0, none⟩ = some (.pointer p)) := (V4.out.cell (p := ⟨gB, 0, none⟩) HGl.out).trans HGc.out
  clear hw4
  refine hK.out _ _ C4.out (fun hSn => ?_)
  clear hK K
  try simp only [Act.put, List.setIfInBounds_toArray, List.set_cons_zero, List.set_cons_succ]
  refine wpAnyH_ready (rs := [4]) (by kernel_rfl) (by simp) ?_
  refine AllReadyH.cons rfl (fun K hK => ?_) AllReadyH.nil
  go_simp
  go_at_call 41
  refine (ask_no w4 p (HN3.out w4 V4.out) _ _ L4.out G4.out).mono ?_
  rintro e5 w5 ⟨rfl, hb5⟩
  have V5 := Lib.hid hb5
  have C5 : Hid (w5.cell? ⟨gB, 0, none⟩ = some (.pointer p)) := (V5.out.cell (p := ⟨gB, 0, none⟩) (Nat.lt_of_lt_of_le HGl.out V4.out.size)).trans C4.out
  clear hb5
  refine hK.out _ _ C5.out (fun hSn => ?_)
  clear hK K
  try simp only [Act.put, List.setIfInBounds_toArray, List.set_cons_zero, List.set_cons_succ]
  refine wpAnyH_take (i := 5) (oi := ⟨_, _, _, _, _, _⟩) (v := ?_) rfl (by kernel_rfl) (by kernel_rfl) (by kernel_rfl) (fun _ _ _ h => h) (Or.inl ⟨by rfl, ?_⟩) (by assumption) ?_
  rotate_left 1
  · intro W hSw
    try dsimp only at hSw
    have hs1 := hSw
    go_simp
    try with_reducible rfl
  try simp only [Act.put, List.setIfInBounds_toArray, List.set_cons_zero, List.set_cons_succ]
  refine wpAnyH_done (by kernel_rfl) ?_ _
  go_wp2
  go_ret
  exact ⟨rfl, nxTo VW.out (nxTo V4.out V5.out)⟩
set_option maxRecDepth 100000 in
set_option maxHeartbeats 2000000 in
theorem tips_no (w : World) (p : Option Addr) (h : NoG w p) : Calls Tryd.prog 30 #[.pointer p] w fun e w' => e = .returned (.slice none 0 0) ∧ Below w.heap.size w w' := by
  have V1 : Hid (Below w.heap.size w (w.alloc (.cells #[.pointer p] 27))) := nxAlloc (nxRefl w) _
  have G1 : Hid (Blk (w.alloc (.cells #[.pointer p] 27)) w.heap.size 27 #[.pointer p]) := heap_alloc_new w _
  have hmf : ∀ (fn : Fn) (first cap : Array Value) (w : World), (Instr.makeFunc fn first cap).run Tryd.prog w = .ok (.func fn first cap) w := fun _ _ _ _ => rfl
  have VW : Hid (Below w.heap.size w (w.alloc (.cells #[.pointer p] 27)).drew) := nxDrT V1.out
  have HN3 : Hid (∀ W, Below (w.alloc (.cells #[.pointer p] 27)).drew.heap.size (w.alloc (.cells #[.pointer p] 27)).drew W → NoG W p) := fun W hW => h.below (nxTo VW.out hW)
  have G3 : Hid (Blk (w.alloc (.cells #[.pointer p] 27)).drew w.heap.size 27 #[.pointer p]) := G1.out
  clear h
  go_enter Tryd.func30, Tryd.ntmps30
  go_wp2
  obtain ⟨gB, hgB⟩ : ∃ gB, w.heap.size = gB := ⟨_, rfl⟩
  have HB9 := Lib.hid hgB
  rw [hgB] at G3 ⊢
  have HGl : Hid (gB < (w.alloc (.cells #[.pointer p] 27)).drew.heap.size) := G3.out.lt
  have HGc : Hid ((w.alloc (.cells #[.pointer p] 27)).drew.cell? ⟨gB, 0, none⟩ = some (.pointer p)) := G3.out.cell 0
  clear hgB G1 V1
  refine wp_region_held_drew (S := fun W => W.cell? ⟨gB, 0, none⟩ = some (.pointer p)) (by kernel_rfl) HGc.out (fun hHeld => ?_)
  generalize (w.alloc (.cells #[.pointer p] 27)).drew = wd at *
  refine wpAnyH_take (i := 0) (oi := ⟨_, _, _, _, _, _⟩) (v := ?_) rfl (by kernel_rfl) (by kernel_rfl) (by kernel_rfl) (fun _ _ _ h => h) (Or.inl ⟨by rfl, ?_⟩) (by assumption) ?_
  rotate_left 1
  · intro W hSw
    try dsimp only at hSw
    have hs1 := hSw
    go_simp
    try with_reducible rfl
  try simp only [Act.put, List.setIfInBounds_toArray, List.set_cons_zero, List.set_cons_succ]
  refine wpAnyH_take (i := 1) (oi := ⟨_, _, _, _, _, _⟩) (v := ?_) rfl (by kernel_rfl) (by kernel_rfl) (by kernel_rfl) (fun _ _ _ h => h) (Or.inl ⟨by rfl, ?_⟩) (by assumption) ?_
  rotate_left 1
  · intro W hSw
    try dsimp only at hSw
    have hs1 := hSw
    go_simp
    try with_reducible rfl
  try simp only [Act.put, List.setIfInBounds_toArray, List.set_cons_zero, List.set_cons_succ]
  refine wpAnyH_take (i := 2) (oi := ⟨_, _, _, _, _, _⟩) (v := ?_) rfl (by kernel_rfl) (by kernel_rfl) (by kernel_rfl) (fun _ _ _ h => h) (Or.inl ⟨by rfl, ?_⟩) (by assumption) ?_
  rotate_left 1
  · intro W hSw
    try dsimp only at hSw
    have hs1 := hSw
    go_simp
    try with_reducible rfl
  try simp only [Act.put, List.setIfInBounds_toArray, List.set_cons_zero, List.set_cons_succ]
  refine wpAnyH_ready (rs := [3]) (by kernel_rfl) (by simp) ?_
  refine AllReadyH.cons rfl (fun K hK => ?_) AllReadyH.nil
  go_simp
  go_at_call 43
  refine (where_no _ p _ _).mono ?_
  rintro e4 w4 ⟨rfl, hw4⟩
  have V4 : Hid (Below wd.heap.size wd w4) := (by rw [hw4]; exact nxAlloc (nxAlloc (nxRefl wd) _) _)
  have G4 : Hid (w4.cell? ⟨wd.heap.size, 0, none⟩ = some (.pointer p)) := (by rw [hw4]; exact (Blk.alloc (blkNew rfl rfl) _ : Blk ((wd.alloc (.cells #[.pointer p] 27)).alloc _) wd.heap.size 27 #[.pointer p]).cell 0)
  have L4 : Hid (wd.heap.size < w4.heap.size) := World.block_lt_of_cell? _ _ G4.out
  have C4 : Hid (w4.cell? ⟨gB, 0, none⟩ = some (.pointer p)) := (V4.out.cell (p := ⟨gB, 0, none⟩) HGl.out).trans HGc.out
  clear hw4
  refine hK.out _ _ C4.out (fun hSn => ?_)
  clear hK K
  try simp only [Act.put, List.setIfInBounds_toArray, List.set_cons_zero, List.set_cons_succ]
  refine wpAnyH_ready (rs := [4]) (by kernel_rfl) (by simp) ?_
  refine AllReadyH.cons rfl (fun K hK => ?_) AllReadyH.nil
  go_simp
  go_at_call 41
  refine (ask_no w4 p (HN3.out w4 V4.out) _ _ L4.out G4.out).mono ?_
  rintro e5 w5 ⟨rfl, hb5⟩
  have V5 := Lib.hid hb5
  have C5 : Hid (w5.cell? ⟨gB, 0, none⟩ = some (.pointer p)) := (V5.out.cell (p := ⟨gB, 0, none⟩) (Nat.lt_of_lt_of_le HGl.out V4.out.size)).trans C4.out
  clear hb5
  refine hK.out _ _ C5.out (fun hSn => ?_)
  clear hK K
  try simp only [Act.put, List.setIfInBounds_toArray, List.set_cons_zero, List.set_cons_succ]
  refine wpAnyH_take (i := 5) (oi := ⟨_, _, _, _, _, _⟩) (v := ?_) rfl (by kernel_rfl) (by kernel_rfl) (by kernel_rfl) (fun _ _ _ h => h) (Or.inl ⟨by rfl, ?_⟩) (by assumption) ?_
  rotate_left 1
  · intro W hSw
    try dsimp only at hSw
    have hs1 := hSw
    go_simp
    try with_reducible rfl
  try simp only [Act.put, List.setIfInBounds_toArray, List.set_cons_zero, List.set_cons_succ]
  refine wpAnyH_done (by kernel_rfl) ?_ _
  go_wp2
  go_ret
  exact ⟨rfl, nxTo VW.out (nxTo V4.out V5.out)⟩
set_option maxRecDepth 100000 in
set_option maxHeartbeats 2000000 in
theorem past_no (w : World) (p : Option Addr) (h : NoG w p) (A : Option Addr) (ids : List Hh) (c : Nat) (hS : SeesV w w.heap.size A (hsC ids)) (hm : ids.length ≤ 1000000) (hT : TabAt 0 Lib.deBruijn64tab w) :
    Calls Tryd.prog 17 #[.pointer p, .slice A ids.length c] w fun e w' => e = .returned (.slice none 0 0) ∧ Below w.heap.size w w' := by
  have e0 : (#[.int .u8 0, .int .u8 0, .int .u8 0, .int .u8 0, .int .u8 0, .int .u8 0, .int .u8 0, .int .u8 0, .int .u8 0, .int .u8 0, .int .u8 0, .int .u8 0, .int .u8 0, .int .u8 0, .int .u8 0, .int .u8 0, .int .u8 0, .int .u8 0, .int .u8 0, .int .u8 0, .int .u8 0, .int .u8 0, .int .u8 0, .int .u8 0, .int .u8 0, .int .u8 0, .int .u8 0, .int .u8 0, .int .u8 0, .int .u8 0, .int .u8 0, .int .u8 0] : Array Value) = (hC zH).toArray := rfl
  have h0w : 0 < w.heap.size := World.block_lt_of_cell? _ _ (hT 0 (by decide))
  have HT0 := Lib.hid hT
  have H0w := Lib.hid h0w
  have HN : Hid (∀ W, Below w.heap.size w W → NoG W p) := fun W hW => h.below hW
  have HS := Lib.hid hS
  have HM := Lib.hid hm
  have HLn := Lib.hid (len_no w p h)
  have hnr := newRow_any w 0 (by omega)
  have HNr := Lib.hid hnr
  clear h hS hm hT hnr h0w
  go_enter Tryd.func17, Tryd.ntmps17
  go_wp2_with (first
    | (go_at_call 20; refine HLn.out.mono ?_; rintro e w1 ⟨rfl, hw1⟩; obtain rfl := hw1.symm)
    | (go_at_call 39; refine HNr.out.mono ?_; rintro e w2 ⟨rfl, hw2⟩; have V2 : Hid (Below w.heap.size w w2) := (by rw [hw2]; exact nxAlloc (nxRefl _) _); have B2 : Hid (w.heap.size < w2.heap.size) := (by show _ < _; rw [hw2]; simp); clear hw2))
  go_loopw [15] (fun iv wr => ∃ (i : Nat), i ≤ ids.length ∧ iv = .int .i64 i ∧ Hid (w.heap.size < wr.heap.size) ∧ Hid (Below w.heap.size w wr)) (fun iv _ => ids.length - (intOf iv).toNat)
  case atStart => exact ⟨0, by omega, rfl, B2, V2⟩
  case round =>
    obtain ⟨i, hi, rfl, HB, HV⟩ := hrel
    have hm9 := HM.out
    by_cases hlt : i < ids.length
    · obtain ⟨b1, f1, rfl, hb1, hr1⟩ := sees_hash HS.out hlt
      have r1 := rngK (hr1 i hlt) HV.out hb1
      obtain ⟨x, hx⟩ : ∃ x, ids[i] = x := ⟨_, rfl⟩
      rw [hx] at r1
      have HR1 := Lib.hid r1
      have hin : (i : Int) < (ids.length : Int) := by omega
      clear hr1 r1 hx hb1
      go_wp2_with (first
          | ((with_reducible show wpList _ _ _ (⟨some 18, _, _, _, _, _⟩ :: _) _ _); refine wpList_load_mid rfl 23 (.tmp 17) rfl b1 (f1 + i * 32) rfl (hC x) _ HR1.out Tryd.underlying23 rfl (hszL x) ?_)
          | ((with_reducible show wpList _ _ _ (⟨none, .store 23 (.tmp 7) _, _, _, _, _⟩ :: _) _ _); refine wpList_store_all rfl 23 (.tmp 7) (.tmp 18) rfl wr.heap.size 23 (hC zH).toArray (hC x).toArray rfl rfl (blkNew rfl rfl) (by rw [List.size_toArray, List.size_toArray, hC_len, hC_len]) (hszB x) (hC_one x) ?_; intro w5 h5 h6 h7; have X5 := Lib.hid h5; have K5 : Hid (Below wr.heap.size wr w5) := (nxAlloc (nxRefl wr) _).trans (h6.below (nxAlloc (nxRefl wr) (.cells (hC zH).toArray 23)).size (fun j hj e => by omega)); clear h5 h6 h7)
          | ((with_reducible show wpList _ _ _ (⟨some 21, _, _, _, _, _⟩ :: _) _ _); refine wpList_load_mid rfl 23 (.tmp 7) rfl wr.heap.size 0 rfl (hC x) _ (kb_range X5.out) Tryd.underlying23 rfl (hszL x) ?_)
          | (go_at_call 37; refine (place_no w5 p (HN.out w5 (nxTo HV.out K5.out)) x).mono ?_; rintro e w6 ⟨rfl, hb6⟩; have K6 : Hid (Below wr.heap.size wr w6) := nxTo K5.out hb6; clear hb6))
      go_roundw
      case rel => exact ⟨i + 1, by omega, by go_num, Nat.lt_of_lt_of_le HB.out K6.out.size, HV.out.trans (K6.out.mono HV.out.size)⟩
      case measure => simp [intOf] <;> omega
    · obtain rfl : i = ids.length := by omega
      have V3 : Hid (Below wr.heap.size wr (wr.alloc (.cells #[.slice (some ⟨w.heap.size, 0, none⟩) 0 0] 74))) := nxAlloc (nxRefl _) _
      have R3 : Hid (Blk (wr.alloc (.cells #[.slice (some ⟨w.heap.size, 0, none⟩) 0 0] 74)) wr.heap.size 74 #[.slice (some ⟨w.heap.size, 0, none⟩) 0 0]) := heap_alloc_new _ _
      have V3w : Hid (Below w.heap.size w (wr.alloc (.cells #[.slice (some ⟨w.heap.size, 0, none⟩) 0 0] 74))) := HV.out.trans (V3.out.mono HV.out.size)
      have T3 : Hid (TabAt 0 Lib.deBruijn64tab (wr.alloc (.cells #[.slice (some ⟨w.heap.size, 0, none⟩) 0 0] 74))) := tab_below HT0.out V3w.out H0w.out
      have HRs := rising_no (wr.alloc (.cells #[.slice (some ⟨w.heap.size, 0, none⟩) 0 0] 74)) p 63 #[.pointer (some ⟨wr.heap.size, 0, none⟩)] (enters_of Tryd.func63 (by kernel_rfl) rfl) (fun W hbw hsz l J Jx W9 hW9 hJ hJ0 => by
        have := all1_in W wr.heap.size (some ⟨w.heap.size, 0, none⟩) [] 0 _ hsz R3.out.lt ((R3.out.below hbw R3.out.lt).cell 0) (.inl rfl) (fun x hx => by cases hx) (by simp) (tab_below T3.out hbw (Nat.lt_of_lt_of_le H0w.out V3w.out.size)) (Nat.lt_of_lt_of_le H0w.out V3w.out.size) l J Jx W9 (hW9.mono hsz) hJ (fun k vs W1 hk => absurd hk (by simp [allFrom])) hJ0
        simpa [allFrom] using this)
      have HRi := Lib.hid HRs
      clear HRs
      go_wp2_with (first
        | (go_at_call 42; refine (all_any wr (some ⟨w.heap.size, 0, none⟩) 0 0).mono ?_; rintro e w8 ⟨rfl, hw8⟩; obtain rfl := hw8.symm)
        | (go_at_call 41; refine HRi.out.mono ?_; rintro e w9 ⟨rfl, hb9⟩; have V9 := Lib.hid hb9; clear hb9))
      go_ret
      exact ⟨rfl, V3w.out.trans (V9.out.mono V3w.out.size)⟩
end Go.Proofs.YtndkjmmmneianaaDoor
