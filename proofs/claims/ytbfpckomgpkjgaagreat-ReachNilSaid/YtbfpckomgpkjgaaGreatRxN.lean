/-
  reach: indexes that are not there.
-/
import Derived.Test.YtbfpckomgpkjgaaGreatRxH
namespace Go.Proofs.YtbfpckomgpkjgaaGreat
open Go.RowKit Go.Maps

def NoX (w : World) (p : Option Addr) : Prop := p = none ∨ ∃ g, p = some ⟨g, 0, none⟩ ∧ w.cell? ⟨g, 2, none⟩ = some (.slice none 0 0)
theorem NoX.below {w W : World} {p : Option Addr} (h : NoX w p) (hb : Below w.heap.size w W) : NoX W p := by
  rcases h with h | ⟨g, h1, h2⟩
  · exact .inl h
  · exact .inr ⟨g, h1, (hb.cell (p := ⟨g, 2, none⟩) (World.block_lt_of_cell? _ _ h2)).trans h2⟩
theorem xMade_no (w : World) (p : Option Addr) (h : NoX w p) : Calls Tryz.prog 49 #[.pointer p] w fun e w' => e = .returned (.bool false) ∧ w' = w := by
  rcases h with rfl | ⟨g, rfl, hc⟩
  · go_enter Tryz.func49, Tryz.ntmps49
    go_wp2
    go_ret
    exact ⟨rfl, rfl⟩
  · go_enter Tryz.func49, Tryz.ntmps49
    go_wp2
    go_ret
    exact ⟨rfl, rfl⟩
theorem rx_e0 : (#[.int .u8 0, .int .u8 0, .int .u8 0, .int .u8 0, .int .u8 0, .int .u8 0, .int .u8 0, .int .u8 0, .int .u8 0, .int .u8 0, .int .u8 0, .int .u8 0, .int .u8 0, .int .u8 0, .int .u8 0, .int .u8 0, .int .u8 0, .int .u8 0, .int .u8 0, .int .u8 0, .int .u8 0, .int .u8 0, .int .u8 0, .int .u8 0, .int .u8 0, .int .u8 0, .int .u8 0, .int .u8 0, .int .u8 0, .int .u8 0, .int .u8 0, .int .u8 0] : Array Value) = (hC zH).toArray := rfl
theorem rx_resrow {P : Program} {fn : Func} {p u : Tmp} {ty : TypeId} (h : fn.results = #[.cell p ty, .tmp u]) (tmps : Array Value) (w : World) (g : Nat) (t : TypeId) (cs : Array Value) (d : TypeDesc)
    (hp : tmps.getD p undef = .pointer (some ⟨g, 0, none⟩)) (hg : Blk w g t cs) (hu : P.underlying ty = some d) (hd : (match d with | .struct _ | .array _ _ => true | _ => false) = true) (hi : (P.info? ty).map (·.size) = some cs.size)
    (v : Value) (hv : tmps.getD u undef = v) : (results fn tmps).run P w = .ok (.tuple #[.agg cs, v]) w := by
  rw [results_cell_tmp h, hp, hv]
  simp [asAddr, run_loadVar_row w g t ty cs (0, 0) d hg hu hd hi]
theorem xGraph_no (w : World) (p : Option Addr) (h : NoX w p) : Calls Tryz.prog 28 #[.pointer p] w fun e w' => e = .returned (.pointer none) ∧ w' = w := by
  have H := Lib.hid h
  clear h
  go_enter Tryz.func28, Tryz.ntmps28
  go_wp2_with (go_at_call 49; refine (xMade_no w p H.out).mono ?_; rintro e1 w1 ⟨rfl, hw1⟩; obtain rfl := hw1.symm)
  go_ret
  exact ⟨rfl, rfl⟩
theorem xDealt_no (w : World) (p : Option Addr) (h : NoX w p) : Calls Tryz.prog 29 #[.pointer p] w fun e w' => e = .returned (.int .i64 0) ∧ w' = w := by
  have H := Lib.hid h
  clear h
  go_enter Tryz.func29, Tryz.ntmps29
  go_wp2_with (go_at_call 49; refine (xMade_no w p H.out).mono ?_; rintro e1 w1 ⟨rfl, hw1⟩; obtain rfl := hw1.symm)
  go_ret
  exact ⟨rfl, rfl⟩
theorem xCopy_no (w : World) (p : Option Addr) (h : NoX w p) : Calls Tryz.prog 24 #[.pointer p] w fun e w' => e = .returned (.pointer none) ∧ w' = w := by
  have H := Lib.hid h
  clear h
  go_enter Tryz.func24, Tryz.ntmps24
  go_wp2_with (go_at_call 49; refine (xMade_no w p H.out).mono ?_; rintro e1 w1 ⟨rfl, hw1⟩; obtain rfl := hw1.symm)
  go_ret
  exact ⟨rfl, rfl⟩
set_option maxRecDepth 100000 in
theorem xNumber_no (w : World) (p : Option Addr) (h : NoX w p) (x : Hh) : Calls Tryz.prog 36 #[.pointer p, .agg (hC x).toArray] w fun e w' => e = .returned (.tuple #[.int .i64 0, .int .i64 1]) ∧ Below w.heap.size w w' := by
  have V0 : Hid (Below w.heap.size w (w.alloc (.cells (hC x).toArray 23))) := nxAlloc (nxRefl w) _
  have HN : Hid (NoX (w.alloc (.cells (hC x).toArray 23)) p) := h.below V0.out
  clear h
  go_enter Tryz.func36, Tryz.ntmps36
  go_wp2_with (go_at_call 49; refine (xMade_no _ p HN.out).mono ?_; rintro e1 w1 ⟨rfl, hw1⟩; obtain rfl := hw1.symm)
  go_ret2
  exact ⟨rfl, V0.out⟩
set_option maxRecDepth 100000 in
theorem xPair_no (w : World) (p : Option Addr) (h : NoX w p) (a b : Hh) : Calls Tryz.prog 42 #[.pointer p, .agg (hC a).toArray, .agg (hC b).toArray] w fun e w' => e = .returned (.tuple #[.int .i64 0, .int .i64 0, .int .i64 1]) ∧ Below w.heap.size w w' := by
  have V0 : Hid (Below w.heap.size w ((w.alloc (.cells (hC a).toArray 23)).alloc (.cells (hC b).toArray 23))) := nxAlloc (nxAlloc (nxRefl w) _) _
  have BA : Hid (Blk ((w.alloc (.cells (hC a).toArray 23)).alloc (.cells (hC b).toArray 23)) w.heap.size 23 (hC a).toArray) := rxBlk1 w _ _ _
  have HN : Hid (NoX ((w.alloc (.cells (hC a).toArray 23)).alloc (.cells (hC b).toArray 23)) p) := h.below V0.out
  clear h
  go_enter Tryz.func42, Tryz.ntmps42
  go_wp2_with (first
    | ((with_reducible show wpList _ _ _ (⟨some 14, _, _, _, _, _⟩ :: _) _ _); refine wpList_load_mid rfl 23 (.tmp 4) rfl w.heap.size 0 rfl (hC a) _ (rxRng BA.out) Tryz.underlying23 rfl (hszL a) ?_)
    | (go_at_call 36; refine (xNumber_no _ p HN.out a).mono ?_; rintro e1 w1 ⟨rfl, hw1⟩; have V1 : Hid (Below w.heap.size w w1) := nxTo V0.out hw1; clear hw1))
  go_ret3
  exact ⟨rfl, V1.out⟩
set_option maxRecDepth 100000 in
theorem xChain_no (w : World) (p : Option Addr) (h : NoX w p) (a b : Hh) : Calls Tryz.prog 18 #[.pointer p, .agg (hC a).toArray, .agg (hC b).toArray] w fun e w' => e = .returned (.bool false) ∧ Below w.heap.size w w' := by
  have V0 : Hid (Below w.heap.size w ((w.alloc (.cells (hC a).toArray 23)).alloc (.cells (hC b).toArray 23))) := nxAlloc (nxAlloc (nxRefl w) _) _
  have BA : Hid (Blk ((w.alloc (.cells (hC a).toArray 23)).alloc (.cells (hC b).toArray 23)) w.heap.size 23 (hC a).toArray) := rxBlk1 w _ _ _
  have BB : Hid (Blk ((w.alloc (.cells (hC a).toArray 23)).alloc (.cells (hC b).toArray 23)) (w.heap.size + 1) 23 (hC b).toArray) := rxBlk2 w _ _ _
  have HN : Hid (NoX ((w.alloc (.cells (hC a).toArray 23)).alloc (.cells (hC b).toArray 23)) p) := h.below V0.out
  clear h
  go_enter Tryz.func18, Tryz.ntmps18
  go_wp2_with (first
    | ((with_reducible show wpList _ _ _ (⟨some 12, _, _, _, _, _⟩ :: _) _ _); refine wpList_load_mid rfl 23 (.tmp 4) rfl w.heap.size 0 rfl (hC a) _ (rxRng BA.out) Tryz.underlying23 rfl (hszL a) ?_)
    | ((with_reducible show wpList _ _ _ (⟨some 13, _, _, _, _, _⟩ :: _) _ _); refine wpList_load_mid rfl 23 (.tmp 5) rfl (w.heap.size + 1) 0 rfl (hC b) _ (rxRng BB.out) Tryz.underlying23 rfl (hszL b) ?_)
    | (go_at_call 42; refine (xPair_no _ p HN.out a b).mono ?_; rintro e1 w1 ⟨rfl, hw1⟩; have V1 : Hid (Below w.heap.size w w1) := nxTo V0.out hw1; clear hw1))
  go_ret
  exact ⟨rfl, V1.out⟩
set_option maxRecDepth 100000 in
theorem xBefore_no (w : World) (p : Option Addr) (h : NoX w p) (a b : Hh) : Calls Tryz.prog 19 #[.pointer p, .agg (hC a).toArray, .agg (hC b).toArray] w fun e w' => e = .returned (.bool false) ∧ Below w.heap.size w w' := by
  have V0 : Hid (Below w.heap.size w ((w.alloc (.cells (hC a).toArray 23)).alloc (.cells (hC b).toArray 23))) := nxAlloc (nxAlloc (nxRefl w) _) _
  have BA : Hid (Blk ((w.alloc (.cells (hC a).toArray 23)).alloc (.cells (hC b).toArray 23)) w.heap.size 23 (hC a).toArray) := rxBlk1 w _ _ _
  have BB : Hid (Blk ((w.alloc (.cells (hC a).toArray 23)).alloc (.cells (hC b).toArray 23)) (w.heap.size + 1) 23 (hC b).toArray) := rxBlk2 w _ _ _
  have HN : Hid (NoX ((w.alloc (.cells (hC a).toArray 23)).alloc (.cells (hC b).toArray 23)) p) := h.below V0.out
  clear h
  go_enter Tryz.func19, Tryz.ntmps19
  go_wp2_with (first
    | ((with_reducible show wpList _ _ _ (⟨some 12, _, _, _, _, _⟩ :: _) _ _); refine wpList_load_mid rfl 23 (.tmp 4) rfl w.heap.size 0 rfl (hC a) _ (rxRng BA.out) Tryz.underlying23 rfl (hszL a) ?_)
    | ((with_reducible show wpList _ _ _ (⟨some 13, _, _, _, _, _⟩ :: _) _ _); refine wpList_load_mid rfl 23 (.tmp 5) rfl (w.heap.size + 1) 0 rfl (hC b) _ (rxRng BB.out) Tryz.underlying23 rfl (hszL b) ?_)
    | (go_at_call 42; refine (xPair_no _ p HN.out a b).mono ?_; rintro e1 w1 ⟨rfl, hw1⟩; have V1 : Hid (Below w.heap.size w w1) := nxTo V0.out hw1; clear hw1))
  go_ret
  exact ⟨rfl, V1.out⟩
set_option maxRecDepth 100000 in
set_option maxHeartbeats 1000000 in
theorem xCover_no (w : World) (p : Option Addr) (h : NoX w p) (x : Hh) : Calls Tryz.prog 15 #[.pointer p, .agg (hC x).toArray] w fun e w' => e = .returned (.tuple #[.slice none 0 0, .int .i64 1]) ∧ Below w.heap.size w w' := by
  have V0 : Hid (Below w.heap.size w (w.alloc (.cells (hC x).toArray 23))) := nxAlloc (nxRefl w) _
  have B0 : Hid (Blk (w.alloc (.cells (hC x).toArray 23)) w.heap.size 23 (hC x).toArray) := heap_alloc_new w _
  have HN : Hid (NoX (w.alloc (.cells (hC x).toArray 23)) p) := h.below V0.out
  clear h
  go_enter Tryz.func15, Tryz.ntmps15
  go_wp2_with (first
    | ((with_reducible show wpList _ _ _ (⟨some 13, _, _, _, _, _⟩ :: _) _ _); refine wpList_load_mid rfl 23 (.tmp 3) rfl w.heap.size 0 rfl (hC x) _ (rxRng B0.out) Tryz.underlying23 rfl (hszL x) ?_)
    | (go_at_call 36; refine (xNumber_no _ p HN.out x).mono ?_; rintro e1 w1 ⟨rfl, hw1⟩; have V1 : Hid (Below w.heap.size w w1) := nxTo V0.out hw1; clear hw1))
  go_ret2
  exact ⟨rfl, V1.out⟩
set_option maxRecDepth 100000 in
set_option maxHeartbeats 1000000 in
theorem xSelected_no (w : World) (p : Option Addr) (h : NoX w p) (x : Hh) : Calls Tryz.prog 14 #[.pointer p, .agg (hC x).toArray] w fun e w' => e = .returned (.tuple #[.agg (hC zH).toArray, .int .i64 1]) ∧ Below w.heap.size w w' := by
  have hbz : ∀ wq : World, (Instr.build 23 #[]).run Tryz.prog wq = .ok (.agg (hC zH).toArray) wq := fun wq => by kernel_rfl
  obtain ⟨px, hq0⟩ : ∃ zz, w.heap.size = zz := ⟨_, rfl⟩
  obtain ⟨pr, hq1⟩ : ∃ zz, px + 1 = zz := ⟨_, rfl⟩
  obtain ⟨W0, hw0⟩ : ∃ zz, ((w.alloc (.cells (hC x).toArray 23)).alloc (.cells (hC zH).toArray 23)) = zz := ⟨_, rfl⟩
  have V0 : Hid (Below w.heap.size w W0) := by rw [← hw0]; exact nxAlloc (nxAlloc (nxRefl w) _) _
  have Bpx : Hid (Blk W0 px 23 (hC x).toArray) := by rw [← hw0]; exact Blk.alloc (blkNew (by rw [← hq0]; try simp) rfl) _
  have Bpr : Hid (Blk W0 pr 23 (hC zH).toArray) := by rw [← hw0]; exact (blkNew (by rw [← hq1]; rw [← hq0]; try simp) rfl)
  have HQ0 := Lib.hid hq0
  have HQ1 := Lib.hid hq1
  have HW0 := Lib.hid hw0
  clear hw0 hq0 hq1
  have HN : Hid (NoX W0 p) := h.below V0.out
  have HG9 : Hid (w.heap.size ≤ pr) := by show _ ≤ _; have := HQ0.out; have := HQ1.out; omega
  clear h
  go_enter Tryz.func14, Tryz.ntmps14
  go_upto_region 1 with fail
  rw [rx_e0, HQ0.out, HQ1.out, HW0.out]
  go_wp2_with (first
    | ((with_reducible show wpList _ _ _ (⟨some 11, _, _, _, _, _⟩ :: _) _ _); refine wpList_load_mid rfl 23 (.tmp 3) rfl px 0 rfl (hC x) _ (rxRng Bpx.out) Tryz.underlying23 rfl (hszL x) ?_)
    | (go_at_call 36; refine (xNumber_no _ p HN.out x).mono ?_; rintro e1 w1 ⟨rfl, hw1⟩; have V1 : Hid (Below w.heap.size w w1) := nxTo V0.out hw1; have BR := Lib.hid (Bpr.out.below hw1 Bpr.out.lt); clear hw1)
    | ((with_reducible show wpList _ _ _ (⟨none, .store 23 _ _, _, _, _, _⟩ :: _) _ _); refine wpList_store_all rfl 23 (.tmp 4) (.tmp 17) rfl pr 23 (hC zH).toArray (hC zH).toArray rfl rfl BR.out rfl (hszB zH) (hC_one zH) ?_; intro w5 h5 h6 h7; have H5 := Lib.hid h5; have Hb5 : Hid (Below w.heap.size w w5) := V1.out.trans (h6.below V1.out.size (fun k hk => by have := HG9.out; omega)); clear h5 h6 h7))
  refine bodyPost_ret (rx_resrow Tryz.results14 _ _ pr 23 _ _ rfl H5.out Tryz.underlying23 rfl (hszB zH) _ rfl) rfl ⟨rfl, Hb5.out⟩
set_option maxRecDepth 100000 in
set_option maxHeartbeats 1000000 in
theorem xFork_no (w : World) (p : Option Addr) (h : NoX w p) (a b : Hh) : Calls Tryz.prog 20 #[.pointer p, .agg (hC a).toArray, .agg (hC b).toArray] w fun e w' => e = .returned (.tuple #[.agg (hC zH).toArray, .int .i64 1]) ∧ Below w.heap.size w w' := by
  have hbz : ∀ wq : World, (Instr.build 23 #[]).run Tryz.prog wq = .ok (.agg (hC zH).toArray) wq := fun wq => by kernel_rfl
  obtain ⟨pa, hq0⟩ : ∃ zz, w.heap.size = zz := ⟨_, rfl⟩
  obtain ⟨pb, hq1⟩ : ∃ zz, pa + 1 = zz := ⟨_, rfl⟩
  obtain ⟨pr, hq2⟩ : ∃ zz, pb + 1 = zz := ⟨_, rfl⟩
  obtain ⟨W0, hw0⟩ : ∃ zz, (((w.alloc (.cells (hC a).toArray 23)).alloc (.cells (hC b).toArray 23)).alloc (.cells (hC zH).toArray 23)) = zz := ⟨_, rfl⟩
  have V0 : Hid (Below w.heap.size w W0) := by rw [← hw0]; exact nxAlloc (nxAlloc (nxAlloc (nxRefl w) _) _) _
  have Bpa : Hid (Blk W0 pa 23 (hC a).toArray) := by rw [← hw0]; exact Blk.alloc (Blk.alloc (blkNew (by rw [← hq0]; try simp) rfl) _) _
  have Bpb : Hid (Blk W0 pb 23 (hC b).toArray) := by rw [← hw0]; exact Blk.alloc (blkNew (by rw [← hq1]; rw [← hq0]; try simp) rfl) _
  have Bpr : Hid (Blk W0 pr 23 (hC zH).toArray) := by rw [← hw0]; exact (blkNew (by rw [← hq2]; rw [← hq1]; rw [← hq0]; try simp) rfl)
  have HQ0 := Lib.hid hq0
  have HQ1 := Lib.hid hq1
  have HQ2 := Lib.hid hq2
  have HW0 := Lib.hid hw0
  clear hw0 hq0 hq1 hq2
  have HN : Hid (NoX W0 p) := h.below V0.out
  have HG9 : Hid (w.heap.size ≤ pr) := by show _ ≤ _; have := HQ0.out; have := HQ1.out; have := HQ2.out; omega
  clear h
  go_enter Tryz.func20, Tryz.ntmps20
  go_upto_region 1 with fail
  rw [rx_e0, HQ0.out, HQ1.out, HQ2.out, HW0.out]
  go_wp2_with (first
    | ((with_reducible show wpList _ _ _ (⟨some 13, _, _, _, _, _⟩ :: _) _ _); refine wpList_load_mid rfl 23 (.tmp 4) rfl pa 0 rfl (hC a) _ (rxRng Bpa.out) Tryz.underlying23 rfl (hszL a) ?_)
    | ((with_reducible show wpList _ _ _ (⟨some 14, _, _, _, _, _⟩ :: _) _ _); refine wpList_load_mid rfl 23 (.tmp 5) rfl pb 0 rfl (hC b) _ (rxRng Bpb.out) Tryz.underlying23 rfl (hszL b) ?_)
    | (go_at_call 42; refine (xPair_no _ p HN.out a b).mono ?_; rintro e1 w1 ⟨rfl, hw1⟩; have V1 : Hid (Below w.heap.size w w1) := nxTo V0.out hw1; have BR := Lib.hid (Bpr.out.below hw1 Bpr.out.lt); clear hw1)
    | ((with_reducible show wpList _ _ _ (⟨none, .store 23 _ _, _, _, _, _⟩ :: _) _ _); refine wpList_store_all rfl 23 (.tmp 6) (.tmp 21) rfl pr 23 (hC zH).toArray (hC zH).toArray rfl rfl BR.out rfl (hszB zH) (hC_one zH) ?_; intro w5 h5 h6 h7; have H5 := Lib.hid h5; have Hb5 : Hid (Below w.heap.size w w5) := V1.out.trans (h6.below V1.out.size (fun k hk => by have := HG9.out; omega)); clear h5 h6 h7))
  refine bodyPost_ret (rx_resrow Tryz.results20 _ _ pr 23 _ _ rfl H5.out Tryz.underlying23 rfl (hszB zH) _ rfl) rfl ⟨rfl, Hb5.out⟩
set_option maxRecDepth 100000 in
set_option maxHeartbeats 1000000 in
theorem xNext_no (w : World) (p : Option Addr) (h : NoX w p) (a b : Hh) : Calls Tryz.prog 22 #[.pointer p, .agg (hC a).toArray, .agg (hC b).toArray] w fun e w' => e = .returned (.tuple #[.agg (hC zH).toArray, .int .i64 1]) ∧ Below w.heap.size w w' := by
  have hbz : ∀ wq : World, (Instr.build 23 #[]).run Tryz.prog wq = .ok (.agg (hC zH).toArray) wq := fun wq => by kernel_rfl
  obtain ⟨pq, hq0⟩ : ∃ zz, w.heap.size = zz := ⟨_, rfl⟩
  obtain ⟨pa, hq1⟩ : ∃ zz, pq + 1 = zz := ⟨_, rfl⟩
  obtain ⟨pb, hq2⟩ : ∃ zz, pa + 1 = zz := ⟨_, rfl⟩
  obtain ⟨pr, hq3⟩ : ∃ zz, pb + 1 = zz := ⟨_, rfl⟩
  obtain ⟨W0, hw0⟩ : ∃ zz, ((((w.alloc (.cells #[.pointer p] 27)).alloc (.cells (hC a).toArray 23)).alloc (.cells (hC b).toArray 23)).alloc (.cells (hC zH).toArray 23)) = zz := ⟨_, rfl⟩
  have V0 : Hid (Below w.heap.size w W0) := by rw [← hw0]; exact nxAlloc (nxAlloc (nxAlloc (nxAlloc (nxRefl w) _) _) _) _
  have Bpq : Hid (Blk W0 pq 27 #[.pointer p]) := by rw [← hw0]; exact Blk.alloc (Blk.alloc (Blk.alloc (blkNew (by rw [← hq0]; try simp) rfl) _) _) _
  have Bpa : Hid (Blk W0 pa 23 (hC a).toArray) := by rw [← hw0]; exact Blk.alloc (Blk.alloc (blkNew (by rw [← hq1]; rw [← hq0]; try simp) rfl) _) _
  have Bpb : Hid (Blk W0 pb 23 (hC b).toArray) := by rw [← hw0]; exact Blk.alloc (blkNew (by rw [← hq2]; rw [← hq1]; rw [← hq0]; try simp) rfl) _
  have Bpr : Hid (Blk W0 pr 23 (hC zH).toArray) := by rw [← hw0]; exact (blkNew (by rw [← hq3]; rw [← hq2]; rw [← hq1]; rw [← hq0]; try simp) rfl)
  have HQ0 := Lib.hid hq0
  have HQ1 := Lib.hid hq1
  have HQ2 := Lib.hid hq2
  have HQ3 := Lib.hid hq3
  have HW0 := Lib.hid hw0
  clear hw0 hq0 hq1 hq2 hq3
  have HN : Hid (NoX W0 p) := h.below V0.out
  have HG9 : Hid (w.heap.size ≤ pr) := by show _ ≤ _; have := HQ0.out; have := HQ1.out; have := HQ2.out; have := HQ3.out; omega
  have c0 : W0.cell? ⟨pq, 0, none⟩ = some (.pointer p) := Bpq.out.cell 0
  clear h
  go_enter Tryz.func22, Tryz.ntmps22
  go_upto_region 1 with fail
  rw [rx_e0, HQ0.out, HQ1.out, HQ2.out, HQ3.out, HW0.out]
  go_wp2_with (first
    | ((with_reducible show wpList _ _ _ (⟨some 16, _, _, _, _, _⟩ :: _) _ _); refine wpList_load_mid rfl 23 (.tmp 4) rfl pa 0 rfl (hC a) _ (rxRng Bpa.out) Tryz.underlying23 rfl (hszL a) ?_)
    | ((with_reducible show wpList _ _ _ (⟨some 17, _, _, _, _, _⟩ :: _) _ _); refine wpList_load_mid rfl 23 (.tmp 5) rfl pb 0 rfl (hC b) _ (rxRng Bpb.out) Tryz.underlying23 rfl (hszL b) ?_)
    | (go_at_call 42; refine (xPair_no _ p HN.out a b).mono ?_; rintro e1 w1 ⟨rfl, hw1⟩; have V1 : Hid (Below w.heap.size w w1) := nxTo V0.out hw1; have BR := Lib.hid (Bpr.out.below hw1 Bpr.out.lt); have B9 : Blk (w1.alloc (.cells #[.int .i64 0] 3)) w1.heap.size 3 #[.int .i64 0] := heap_alloc_new w1 _; have c9 : (w1.alloc (.cells #[.int .i64 0] 3)).cell? ⟨w1.heap.size, 0, none⟩ = some (.int .i64 0) := B9.cell 0; have f9 : (w1.alloc (.cells #[.int .i64 0] 3)).frozen? ⟨w1.heap.size, 0, none⟩ = false := B9.frozen 0; have V2 : Hid (Below w.heap.size w (w1.alloc (.cells #[.int .i64 0] 3))) := nxAlloc V1.out _; have BR2 : Hid (Blk (w1.alloc (.cells #[.int .i64 0] 3)) pr 23 (hC zH).toArray) := BR.out.alloc _; clear hw1 B9)
    | ((with_reducible show wpList _ _ _ (⟨none, .store 23 _ _, _, _, _, _⟩ :: _) _ _); refine wpList_store_all rfl 23 (.tmp 6) (.tmp 24) rfl pr 23 (hC zH).toArray (hC zH).toArray rfl rfl BR2.out rfl (hszB zH) (hC_one zH) ?_; intro w5 h5 h6 h7; have H5 := Lib.hid h5; have Hb5 : Hid (Below w.heap.size w w5) := V2.out.trans (h6.below V2.out.size (fun k hk => by have := HG9.out; omega)); clear h5 h6 h7))
  refine bodyPost_ret (rx_resrow Tryz.results22 _ _ pr 23 _ _ rfl H5.out Tryz.underlying23 rfl (hszB zH) _ rfl) rfl ⟨rfl, Hb5.out⟩
set_option maxRecDepth 100000 in
set_option maxHeartbeats 1000000 in
theorem xRefused_no (w : World) (p : Option Addr) (h : NoX w p) (a b : Hh) (s : Value) : Calls Tryz.prog 56 #[.pointer p, .agg (hC a).toArray, .agg (hC b).toArray, s] w fun e w' => e = .returned (.int .i64 1) ∧ Below w.heap.size w w' := by
  obtain ⟨pq, hq0⟩ : ∃ zz, w.heap.size = zz := ⟨_, rfl⟩
  obtain ⟨pa, hq1⟩ : ∃ zz, pq + 1 = zz := ⟨_, rfl⟩
  obtain ⟨pb, hq2⟩ : ∃ zz, pa + 1 = zz := ⟨_, rfl⟩
  obtain ⟨W0, hw0⟩ : ∃ zz, (((w.alloc (.cells #[.pointer p] 27)).alloc (.cells (hC a).toArray 23)).alloc (.cells (hC b).toArray 23)) = zz := ⟨_, rfl⟩
  have V0 : Hid (Below w.heap.size w W0) := by rw [← hw0]; exact nxAlloc (nxAlloc (nxAlloc (nxRefl w) _) _) _
  have Bpq : Hid (Blk W0 pq 27 #[.pointer p]) := by rw [← hw0]; exact Blk.alloc (Blk.alloc (blkNew (by rw [← hq0]; try simp) rfl) _) _
  have Bpa : Hid (Blk W0 pa 23 (hC a).toArray) := by rw [← hw0]; exact Blk.alloc (blkNew (by rw [← hq1]; rw [← hq0]; try simp) rfl) _
  have Bpb : Hid (Blk W0 pb 23 (hC b).toArray) := by rw [← hw0]; exact (blkNew (by rw [← hq2]; rw [← hq1]; rw [← hq0]; try simp) rfl)
  have HQ0 := Lib.hid hq0
  have HQ1 := Lib.hid hq1
  have HQ2 := Lib.hid hq2
  have HW0 := Lib.hid hw0
  clear hw0 hq0 hq1 hq2
  have HN : Hid (NoX W0 p) := h.below V0.out
  have c0 : W0.cell? ⟨pq, 0, none⟩ = some (.pointer p) := Bpq.out.cell 0
  clear h
  go_enter Tryz.func56, Tryz.ntmps56
  go_upto_region 1 with fail
  rw [HQ0.out, HQ1.out, HQ2.out, HW0.out]
  go_wp2_with (go_at_call 49; refine (xMade_no _ p HN.out).mono ?_; rintro e1 w1 ⟨rfl, hw1⟩; obtain rfl := hw1.symm)
  go_ret
  exact ⟨rfl, V0.out⟩
set_option maxRecDepth 100000 in
set_option maxHeartbeats 1000000 in
theorem xAdd_no (w : World) (p : Option Addr) (h : NoX w p) (a b : Hh) (s : Value) : Calls Tryz.prog 25 #[.pointer p, .agg (hC a).toArray, .agg (hC b).toArray, s] w fun e w' => e = .returned (.int .i64 1) ∧ Below w.heap.size w w' := by
  obtain ⟨pa, hq0⟩ : ∃ zz, w.heap.size = zz := ⟨_, rfl⟩
  obtain ⟨pb, hq1⟩ : ∃ zz, pa + 1 = zz := ⟨_, rfl⟩
  obtain ⟨W0, hw0⟩ : ∃ zz, ((w.alloc (.cells (hC a).toArray 23)).alloc (.cells (hC b).toArray 23)) = zz := ⟨_, rfl⟩
  have V0 : Hid (Below w.heap.size w W0) := by rw [← hw0]; exact nxAlloc (nxAlloc (nxRefl w) _) _
  have Bpa : Hid (Blk W0 pa 23 (hC a).toArray) := by rw [← hw0]; exact Blk.alloc (blkNew (by rw [← hq0]; try simp) rfl) _
  have Bpb : Hid (Blk W0 pb 23 (hC b).toArray) := by rw [← hw0]; exact (blkNew (by rw [← hq1]; rw [← hq0]; try simp) rfl)
  have HQ0 := Lib.hid hq0
  have HQ1 := Lib.hid hq1
  have HW0 := Lib.hid hw0
  clear hw0 hq0 hq1
  have HN : Hid (NoX W0 p) := h.below V0.out
  clear h
  go_enter Tryz.func25, Tryz.ntmps25
  go_upto_region 1 with fail
  rw [HQ0.out, HQ1.out, HW0.out]
  go_wp2_with (first
    | ((with_reducible show wpList _ _ _ (⟨some 13, _, _, _, _, _⟩ :: _) _ _); refine wpList_load_mid rfl 23 (.tmp 5) rfl pa 0 rfl (hC a) _ (rxRng Bpa.out) Tryz.underlying23 rfl (hszL a) ?_)
    | ((with_reducible show wpList _ _ _ (⟨some 14, _, _, _, _, _⟩ :: _) _ _); refine wpList_load_mid rfl 23 (.tmp 6) rfl pb 0 rfl (hC b) _ (rxRng Bpb.out) Tryz.underlying23 rfl (hszL b) ?_)
    | (go_at_call 56; refine (xRefused_no _ p HN.out a b s).mono ?_; rintro e1 w1 ⟨rfl, hw1⟩; have V1 : Hid (Below w.heap.size w w1) := nxTo V0.out hw1; clear hw1))
  go_ret
  exact ⟨rfl, V1.out⟩
end Go.Proofs.YtbfpckomgpkjgaaGreat
