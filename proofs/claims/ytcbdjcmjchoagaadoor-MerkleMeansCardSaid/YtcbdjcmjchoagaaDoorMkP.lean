/-
  merkle, the law's: known.
-/
import Derived.Test.YtcbdjcmjchoagaaDoorMkO
import Derived.Deep.DeepCutAuto
namespace Go.Proofs.YtcbdjcmjchoagaaDoor
open Go.RowKit

/-- A hash of one byte and noughts. -/
def oneH (x : UInt8) : List UInt8 := x :: List.replicate 31 0
theorem oneH_len (x : UInt8) : (oneH x).length = 32 := by simp [oneH]
theorem run_build1 (wq : World) : (Instr.build 32 #[(0, .int .u8 1)]).run Tryd.prog wq = .ok (.agg (By (oneH 1)).toArray) wq := by kernel_rfl
theorem run_build2 (wq : World) : (Instr.build 32 #[(0, .int .u8 2)]).run Tryd.prog wq = .ok (.agg (By (oneH 2)).toArray) wq := by kernel_rfl
theorem run_build3 (wq : World) : (Instr.build 32 #[(0, .int .u8 3)]).run Tryd.prog wq = .ok (.agg (By (oneH 3)).toArray) wq := by kernel_rfl
theorem exec_build (k : Int) (r : List UInt8) (hr : ∀ wq, (Instr.build 32 #[(0, .int .u8 k)]).run Tryd.prog wq = .ok (.agg (By r).toArray) wq) (ρ : Operand → Value) (x : Operand) (h : ρ x = .int .u8 k) (dst : Option Tmp) (ty : TypeId) (pos : String) (after : Array Edge) (guard : Option (Nat × Bool)) (wq : World) :
    (execOp ρ { dst, op := .build 32 #[(0, x)], type := ty, pos, after, guard }).run Tryd.prog wq = .ok (.value (.agg (By r).toArray)) wq := by
  have e : execOp ρ { dst, op := .build 32 #[(0, x)], type := ty, pos, after, guard } = (do pure (.value (← Instr.build 32 #[(0, ρ x)]))) := by simp only [execOp, List.map_toArray, List.map_cons, List.map_nil]
  rw [e, h, Sem.run_bind, hr]
  rfl
/-- A whole hash, where it lies. -/
theorem blk_range {w : World} {g : Nat} {t : TypeId} {l : List UInt8} (h : Blk w g t (By l).toArray) : w.rangeAt g 0 (By l) := by
  intro j v hv
  rw [Nat.zero_add, h.cell j]
  simpa using hv

/-- The same hash twice. -/
theorem yieldsIf_same {ops : Array Oper} {S : World → Prop} {op : Oper} {a : Act} (hw : Region.wanted op (yielded ops a.tmps) = true) (t : TypeId) (x y : Operand) (ho : op.op = .binOp .eql 32 x y 32)
    (l : List UInt8) (hl : l.length = 32) (hx : a.eval x = .agg (By l).toArray) (hy : a.eval y = .agg (By l).toArray) : YieldsIf Tryd.prog ops S op (.bool true) a :=
  .inl ⟨hw, fun w _ => by
    unfold execOp
    have hq : (eqGuard .eql 32 x y (.agg (By l).toArray) (.agg (By l).toArray)).run Tryd.prog w = .ok () w := by simp [eqGuard, show Tryd.prog.eqGuardType Tryd.prog.depth 32 = false by kernel_rfl]
    simp only [ho, hx, hy, Sem.run_bind, Sem.run_pure, Result.andThen_ok, hq, run_eql_bytes 32 32 5 Tryd.underlying32 Tryd.underlying5 Tryd.u8size l l hl hl, beq_self_eq_true]⟩
theorem fill3 : Instr.fill (fun i => some (i * 32, 32)) ((Array.range (3 * 32)).map ((Value.agg (By zero32).toArray).cells[· % (Value.agg (By zero32).toArray).cells.size]!)) [(0, .agg (By (oneH 1)).toArray), (1, .agg (By (oneH 2)).toArray), (2, .agg (By (oneH 3)).toArray)] = some (By (oneH 1 ++ oneH 2 ++ oneH 3)).toArray := by kernel_rfl
theorem step_build_three {ops : Array Oper} {o : Oper} {a : Act} {w : World} {K : Act → World → Prop} {Q : Exit → Act → World → Prop} {E : Prop} (hw : Region.wanted o (yielded ops a.tmps) = true) (x y z : Operand) (ho : o.op = .buildSlice 22 3 #[(0, x), (1, y), (2, z)])
    (l m n : List UInt8) (el : oneH 1 = l) (em : oneH 2 = m) (en : oneH 3 = n) (hx : a.eval x = .agg (By l).toArray) (hy : a.eval y = .agg (By m).toArray) (hz : a.eval z = .agg (By n).toArray)
    (h : K (a.put o.dst (.slice (some ⟨w.heap.size, 0, none⟩) 3 3)) (w.alloc (.cells (By (l ++ m ++ n)).toArray 32))) :
    if Region.wanted o (yielded ops a.tmps) = true then Oper.wp Tryd.prog o a w K Q else E := by
  rw [if_pos hw]
  obtain ⟨i0, hi, hz0, hz1, hz2⟩ := info_parts Tryd.hinfo
  refine wp_buildSlice 22 32 3 #[(0, x), (1, y), (2, z)] ho (By (l ++ m ++ n)).toArray i0 _ Tryd.underlying22 hi hz0 (by rw [hz1]; omega) (by rw [hz1]; omega) ?_ h
  rw [hz1]
  have e : (#[(0, x), (1, y), (2, z)].map fun (p : Nat × Operand) => (p.1, a.eval p.2)).toList = [(0, .agg (By l).toArray), (1, .agg (By m).toArray), (2, .agg (By n).toArray)] := by simp [hx, hy, hz]
  have hf := fill3
  rw [el, em, en, ← e] at hf
  exact hf
theorem one_sees (w : World) (l : List UInt8) : SeesV (w.alloc (.cells (By l).toArray 32)) (w.alloc (.cells (By l).toArray 32)).heap.size (some ⟨w.heap.size, 0, none⟩) (Hs [l]) := by
  have h := SeesV.blk (heap_alloc_new w _ : Blk (w.alloc (.cells (By l).toArray 32)) w.heap.size 32 (By l).toArray)
  simpa [Hs] using h
theorem three_sees (w : World) (l m n : List UInt8) : SeesV (w.alloc (.cells (By (l ++ m ++ n)).toArray 32)) (w.alloc (.cells (By (l ++ m ++ n)).toArray 32)).heap.size (some ⟨w.heap.size, 0, none⟩) (Hs [l, m, n]) := by
  have h := SeesV.blk (heap_alloc_new w _ : Blk (w.alloc (.cells (By (l ++ m ++ n)).toArray 32)) w.heap.size 32 (By (l ++ m ++ n)).toArray)
  simpa [Hs, By_append] using h
theorem one_32 {l : List UInt8} (h : l.length = 32) : All32 [l] := fun x hx => by obtain rfl := List.mem_singleton.1 hx; exact h
theorem three_32 {l m n : List UInt8} (h : l.length = 32) (k : m.length = 32) (j : n.length = 32) : All32 [l, m, n] := fun x hx => by
  simp at hx
  rcases hx with rfl | rfl | rfl <;> assumption
theorem half_three : half 3 = 2 := half_unique (j := 1) (by decide) (by decide)
theorem left_three (l m n : List UInt8) : leftL [l, m, n] = knotB (knotB (leafB l) (leafB m)) (leafB n) := by
  rw [leftL_two (by simp), show [l, m, n].length = 3 from rfl, half_three]
  show knotB (leftL [l, m]) (leftL [n]) = _
  rw [leftL_one, leftL_two (ids := [l, m]) (by simp), show [l, m].length = 2 from rfl, half_two]
  show knotB (knotB (leftL [l]) (leftL [m])) _ = _
  rw [leftL_one, leftL_one]

theorem nxDrewN {w W : World} (h : Below w.heap.size w W) (n : Nat) : Below w.heap.size w (W.drewN n) := ⟨h.os, h.tape, h.output, h.size, h.block⟩

set_option maxHeartbeats 2000000 in
set_option maxRecDepth 100000 in
theorem known_any (w : World) (hT : Tabs w) : Calls Tryd.prog 8 #[] w fun e w' => e = .returned (.bool true) ∧ Below w.heap.size w w' := by
  have HT := Lib.hid hT
  clear hT
  obtain ⟨ha, eha⟩ : ∃ x, oneH 1 = x := ⟨_, rfl⟩
  obtain ⟨hb, ehb⟩ : ∃ x, oneH 2 = x := ⟨_, rfl⟩
  obtain ⟨hc, ehc⟩ : ∃ x, oneH 3 = x := ⟨_, rfl⟩
  have la : ha.length = 32 := by rw [← eha]; exact oneH_len 1
  have lb : hb.length = 32 := by rw [← ehb]; exact oneH_len 2
  have lc : hc.length = 32 := by rw [← ehc]; exact oneH_len 3
  have R1 := Lib.hid run_build1
  have R2 := Lib.hid run_build2
  have R3 := Lib.hid run_build3
  rw [eha] at R1
  rw [ehb] at R2
  rw [ehc] at R3
  have LA := Lib.hid la
  have LB := Lib.hid lb
  have LC := Lib.hid lc
  have ZA := Lib.hid (Tryd.hsizeB ha la)
  have ZB := Lib.hid (Tryd.hsizeB hb lb)
  have ZC := Lib.hid (Tryd.hsizeB hc lc)
  obtain ⟨x1, ex1⟩ : ∃ x, leafB ha = x := ⟨_, rfl⟩
  have LX := Lib.hid (leafB_len ha)
  rw [ex1] at LX
  have ZX := Lib.hid (Tryd.hsizeB x1 LX.out)
  have EX1 := Lib.hid ex1
  have hzl : zero32.length = 32 := by simp [zero32]
  have HZL := Lib.hid hzl
  have A0 : Hid (Blk (((w.alloc (.cells (By zero32).toArray 32)).alloc (.cells (By zero32).toArray 32)).alloc (.cells (By zero32).toArray 32)) w.heap.size 32 (By zero32).toArray) := Lib.hid (((show Blk (w.alloc _) _ _ _ from heap_alloc_new w _).alloc _).alloc _)
  have B0 : Hid (Blk (((w.alloc (.cells (By zero32).toArray 32)).alloc (.cells (By zero32).toArray 32)).alloc (.cells (By zero32).toArray 32)) (w.heap.size + 1) 32 (By zero32).toArray) := Lib.hid ((Blk.newAt (by simp) rfl).alloc _)
  have C0 : Hid (Blk (((w.alloc (.cells (By zero32).toArray 32)).alloc (.cells (By zero32).toArray 32)).alloc (.cells (By zero32).toArray 32)) (w.heap.size + 1 + 1) 32 (By zero32).toArray) := Lib.hid (Blk.newAt (by simp) rfl)
  have Hb0 : Hid (Below w.heap.size w (((w.alloc (.cells (By zero32).toArray 32)).alloc (.cells (By zero32).toArray 32)).alloc (.cells (By zero32).toArray 32))) := Lib.hid (nxAlloc (nxAlloc (nxAlloc (nxRefl w) _) _) _)
  have Hs0 : Hid (w.heap.size + 1 + 1 < (((w.alloc (.cells (By zero32).toArray 32)).alloc (.cells (By zero32).toArray 32)).alloc (.cells (By zero32).toArray 32)).heap.size) := by show _ < _; simp
  obtain ⟨x2, ex2⟩ : ∃ x, leafB hb = x := ⟨_, rfl⟩
  have LX2 := Lib.hid (leafB_len hb)
  rw [ex2] at LX2
  have EX2 := Lib.hid ex2
  obtain ⟨x3, ex3⟩ : ∃ x, leafB hc = x := ⟨_, rfl⟩
  have LX3 := Lib.hid (leafB_len hc)
  rw [ex3] at LX3
  have EX3 := Lib.hid ex3
  obtain ⟨k2, ek2⟩ : ∃ x, knotB x1 x2 = x := ⟨_, rfl⟩
  have LK2 := Lib.hid (knotB_len x1 x2)
  rw [ek2] at LK2
  have EK2 := Lib.hid ek2
  obtain ⟨x4, ex4⟩ : ∃ x, knotB k2 x3 = x := ⟨_, rfl⟩
  have LX4 := Lib.hid (knotB_len k2 x3)
  rw [ex4] at LX4
  have EX4 := Lib.hid ex4
  have Z4 := Lib.hid (Tryd.hsizeB x4 LX4.out)
  have SA : Hid ((Tryd.prog.info? 32).map (·.size) = some (By ha).length) := by have h := ZA.out; show _ = _; rw [h]; simp
  have SB : Hid ((Tryd.prog.info? 32).map (·.size) = some (By hb).length) := by have h := ZB.out; show _ = _; rw [h]; simp
  have SC : Hid ((Tryd.prog.info? 32).map (·.size) = some (By hc).length) := by have h := ZC.out; show _ = _; rw [h]; simp
  obtain ⟨y1, ey1⟩ : ∃ x, rootL [ha] = x := ⟨_, rfl⟩
  obtain ⟨y3, ey3⟩ : ∃ x, rootL [ha, hb, hc] = x := ⟨_, rfl⟩
  have Y1 := Lib.hid ey1
  have Y3 := Lib.hid ey3
  have Y1t : Hid (shaB (tagB nmRoot (le8 1 ++ x1)) = y1) := by
    show _ = _
    have h := rootL_some (ids := [ha]) (by simp)
    rw [leftL_one, ex1, ey1] at h
    exact h
  have Y3t : Hid (shaB (tagB nmRoot (le8 3 ++ x4)) = y3) := by
    show _ = _
    have h := rootL_some (ids := [ha, hb, hc]) (by simp)
    rw [left_three, ex1, ex2, ex3, ek2, ex4, ey3] at h
    exact h
  have LY1 : Hid (y1.length = 32) := by show _ = _; rw [← ey1]; exact rootL_len _
  have LY3 : Hid (y3.length = 32) := by show _ = _; rw [← ey3]; exact rootL_len _
  have EA := Lib.hid eha
  have EB := Lib.hid ehb
  have EC := Lib.hid ehc
  clear la lb lc hzl eha ehb ehc ex1 ex2 ex3 ek2 ex4 ey1 ey3
  go_enter Tryd.func8, Tryd.ntmps8
  go_upto_region 3 with (first
    | ((with_reducible show wpList _ _ _ (⟨some 6, _, _, _, _, _⟩ :: _) _ _); refine wpList_run rfl _ _ (exec_build 1 ha R1.out _ _ rfl _ _ _ _ _ _) ?_)
    | ((with_reducible show wpList _ _ _ (⟨some 7, _, _, _, _, _⟩ :: _) _ _); refine wpList_run rfl _ _ (exec_build 2 hb R2.out _ _ rfl _ _ _ _ _ _) ?_)
    | ((with_reducible show wpList _ _ _ (⟨some 8, _, _, _, _, _⟩ :: _) _ _); refine wpList_run rfl _ _ (exec_build 3 hc R3.out _ _ rfl _ _ _ _ _ _) ?_)
    | ((with_reducible show wpList _ _ _ (⟨none, .store 32 (.tmp 1) _, _, _, _, _⟩ :: _) _ _); refine wpList_store_all rfl 32 (.tmp 1) (.tmp 6) rfl w.heap.size 32 (By zero32).toArray (By ha).toArray rfl rfl A0.out (by rw [List.size_toArray, List.size_toArray, By_length, By_length, HZL.out, LA.out]) ZA.out (By_one _) ?_; intro w1 h5 h6 h7; have A1 := Lib.hid h5; have B1 := Lib.hid (B0.out.keeps h6 (by omega)); have C1 := Lib.hid (C0.out.keeps h6 (by omega)); have Hb1 : Hid (Below w.heap.size w w1) := Hb0.out.trans (h6.below Hb0.out.size (fun k hk => by omega)); clear h5 h6 h7)
    | ((with_reducible show wpList _ _ _ (⟨none, .store 32 (.tmp 2) _, _, _, _, _⟩ :: _) _ _); refine wpList_store_all rfl 32 (.tmp 2) (.tmp 7) rfl (w.heap.size + 1) 32 (By zero32).toArray (By hb).toArray rfl rfl B1.out (by rw [List.size_toArray, List.size_toArray, By_length, By_length, HZL.out, LB.out]) ZB.out (By_one _) ?_; intro w2 h5 h6 h7; have A2 := Lib.hid (A1.out.keeps h6 (by omega)); have B2 := Lib.hid h5; have C2 := Lib.hid (C1.out.keeps h6 (by omega)); have Hb2 : Hid (Below w.heap.size w w2) := Hb1.out.trans (h6.below Hb1.out.size (fun k hk => by omega)); clear h5 h6 h7)
    | ((with_reducible show wpList _ _ _ (⟨none, .store 32 (.tmp 3) _, _, _, _, _⟩ :: _) _ _); refine wpList_store_all rfl 32 (.tmp 3) (.tmp 8) rfl (w.heap.size + 1 + 1) 32 (By zero32).toArray (By hc).toArray rfl rfl C2.out (by rw [List.size_toArray, List.size_toArray, By_length, By_length, HZL.out, LC.out]) ZC.out (By_one _) ?_; intro w3 h5 h6 h7; have A3 := Lib.hid (A2.out.keeps h6 (by omega)); have B3 := Lib.hid (B2.out.keeps h6 (by omega)); have C3 := Lib.hid h5; have Hb3 : Hid (Below w.heap.size w w3) := Hb2.out.trans (h6.below Hb2.out.size (fun k hk => by omega)); clear h5 h6 h7)
    | ((with_reducible show wpList _ _ _ (⟨some 9, _, _, _, _, _⟩ :: _) _ _); refine wpList_load_row rfl 32 (.tmp 1) rfl w.heap.size rfl 32 (By ha).toArray (0, 0) _ A3.out Tryd.underlying32 rfl ZA.out ?_)
    | (go_at_call 25; refine (rleaf_any _ ha LA.out).mono ?_; rw [EX1.out]; rintro e w4 ⟨rfl, hb4⟩; have A4 := Lib.hid (A3.out.below hb4 A3.out.lt); have B4 := Lib.hid (B3.out.below hb4 B3.out.lt); have C4 := Lib.hid (C3.out.below hb4 C3.out.lt); have Hb4 : Hid (Below w.heap.size w w4) := nxTo Hb3.out hb4; have D4 : Hid (Blk (w4.alloc (.cells (By zero32).toArray 32)) w4.heap.size 32 (By zero32).toArray) := Lib.hid (heap_alloc_new w4 _); clear hb4)
    | ((with_reducible show wpList _ _ _ (⟨none, .store 32 (.tmp 4) _, _, _, _, _⟩ :: _) _ _); refine wpList_store_all rfl 32 (.tmp 4) (.tmp 10) rfl w4.heap.size 32 (By zero32).toArray (By x1).toArray rfl rfl D4.out (by rw [List.size_toArray, List.size_toArray, By_length, By_length, HZL.out, LX.out]) ZX.out (By_one _) ?_; intro w5 h5 h6 h7; have A5 := Lib.hid ((A4.out.alloc _).keeps h6 (by have := A4.out.lt; omega)); have B5 := Lib.hid ((B4.out.alloc _).keeps h6 (by have := B4.out.lt; omega)); have C5 := Lib.hid ((C4.out.alloc _).keeps h6 (by have := C4.out.lt; omega)); have D5 := Lib.hid h5; have Hb5 : Hid (Below w.heap.size w w5) := (nxAlloc Hb4.out _).trans (h6.below (nxAlloc Hb4.out _).size (fun k hk => by have := Hb4.out.size; omega)); clear h5 h6 h7))
  have RA5 := Lib.hid (blk_range A5.out)
  have RB5 := Lib.hid (blk_range B5.out)
  have RC5 := Lib.hid (blk_range C5.out)
  have lA := A5.out.lt
  have lB := B5.out.lt
  have lC := C5.out.lt
  go_frame
  go_cut [5] (fun v wx => ∃ g, v = .pointer (some ⟨g, 0, none⟩) ∧ Hid (Blk wx g 32 (By x4).toArray) ∧ Hid (Below w5.heap.size w5 wx))
  case first =>
    refine wp_region_held_drew (S := fun W => W.rangeAt w.heap.size 0 (By ha) ∧ W.rangeAt (w.heap.size + 1) 0 (By hb) ∧ W.rangeAt (w.heap.size + 1 + 1) 0 (By hc)) (by kernel_rfl) ⟨RA5.out, RB5.out, RC5.out⟩ (fun hHeld => ?_)
    refine wpAnyH_take (i := 0) (oi := ⟨_, _, _, _, _, _⟩) (v := .agg (By ha).toArray) rfl (by kernel_rfl) (by kernel_rfl) (by kernel_rfl) (fun _ _ _ h => h) (yieldsIf_load_mid (by rfl) 32 (.tmp 1) rfl (w.heap.size) (0) rfl (By ha) _ (fun W h => h.1) Tryd.underlying32 rfl SA.out) (by assumption) ?_
    try simp only [Act.put, List.setIfInBounds_toArray, List.set_cons_zero, List.set_cons_succ]
    refine wpAnyH_take (i := 2) (oi := ⟨_, _, _, _, _, _⟩) (v := .agg (By hb).toArray) rfl (by kernel_rfl) (by kernel_rfl) (by kernel_rfl) (fun _ _ _ h => h) (yieldsIf_load_mid (by rfl) 32 (.tmp 2) rfl (w.heap.size + 1) (0) rfl (By hb) _ (fun W h => h.2.1) Tryd.underlying32 rfl SB.out) (by assumption) ?_
    try simp only [Act.put, List.setIfInBounds_toArray, List.set_cons_zero, List.set_cons_succ]
    refine wpAnyH_take (i := 5) (oi := ⟨_, _, _, _, _, _⟩) (v := .agg (By hc).toArray) rfl (by kernel_rfl) (by kernel_rfl) (by kernel_rfl) (fun _ _ _ h => h) (yieldsIf_load_mid (by rfl) 32 (.tmp 3) rfl (w.heap.size + 1 + 1) (0) rfl (By hc) _ (fun W h => h.2.2) Tryd.underlying32 rfl SC.out) (by assumption) ?_
    try simp only [Act.put, List.setIfInBounds_toArray, List.set_cons_zero, List.set_cons_succ]
    refine wpAnyH_ready (rs := [1, 8]) (by kernel_rfl) (by simp) ?_
    refine AllReadyH.cons rfl (fun K hK => ?_) (AllReadyH.cons rfl (fun K hK => ?_) AllReadyH.nil)
    · go_simp
      go_at_call 25
      refine (rleaf_any _ ha LA.out).mono ?_
      rw [EX1.out]
      rintro e v1 ⟨rfl, hb1⟩
      have Hr1 : Hid (Below w5.heap.size w5 v1) := nxUndr hb1
      clear hb1
      refine hK.out _ _ ⟨rng_below RA5.out Hr1.out lA, rng_below RB5.out Hr1.out lB, rng_below RC5.out Hr1.out lC⟩ (fun hSn => ?_)
      clear hK K
      try simp only [Act.put, List.setIfInBounds_toArray, List.set_cons_zero, List.set_cons_succ]
      refine wpAnyH_ready (rs := [3, 8]) (by kernel_rfl) (by simp) ?_
      refine AllReadyH.cons rfl (fun K hK => ?_) (AllReadyH.cons rfl (fun K hK => ?_) AllReadyH.nil)
      · go_simp
        go_at_call 25
        refine (rleaf_any _ hb LB.out).mono ?_
        rw [EX2.out]
        rintro e v2 ⟨rfl, hb2⟩
        have Hr2 : Hid (Below w5.heap.size w5 v2) := nxTo Hr1.out hb2
        clear hb2
        refine hK.out _ _ ⟨rng_below RA5.out Hr2.out lA, rng_below RB5.out Hr2.out lB, rng_below RC5.out Hr2.out lC⟩ (fun hSn => ?_)
        clear hK K
        try simp only [Act.put, List.setIfInBounds_toArray, List.set_cons_zero, List.set_cons_succ]
        refine wpAnyH_ready (rs := [4, 8]) (by kernel_rfl) (by simp) ?_
        refine AllReadyH.cons rfl (fun K hK => ?_) (AllReadyH.cons rfl (fun K hK => ?_) AllReadyH.nil)
        · go_simp
          go_at_call 26
          refine (rknot_any _ x1 x2 LX.out LX2.out).mono ?_
          rw [EK2.out]
          rintro e v3 ⟨rfl, hb3⟩
          have Hr3 : Hid (Below w5.heap.size w5 v3) := nxTo Hr2.out hb3
          clear hb3
          refine hK.out _ _ ⟨rng_below RA5.out Hr3.out lA, rng_below RB5.out Hr3.out lB, rng_below RC5.out Hr3.out lC⟩ (fun hSn => ?_)
          clear hK K
          try simp only [Act.put, List.setIfInBounds_toArray, List.set_cons_zero, List.set_cons_succ]
          refine wpAnyH_ready (rs := [6, 8]) (by kernel_rfl) (by simp) ?_
          refine AllReadyH.cons rfl (fun K hK => ?_) (AllReadyH.cons rfl (fun K hK => ?_) AllReadyH.nil)
          · go_simp
            go_at_call 25
            refine (rleaf_any _ hc LC.out).mono ?_
            rw [EX3.out]
            rintro e v4 ⟨rfl, hb4⟩
            have Hr4 : Hid (Below w5.heap.size w5 v4) := nxTo Hr3.out hb4
            clear hb4
            refine hK.out _ _ ⟨rng_below RA5.out Hr4.out lA, rng_below RB5.out Hr4.out lB, rng_below RC5.out Hr4.out lC⟩ (fun hSn => ?_)
            clear hK K
            try simp only [Act.put, List.setIfInBounds_toArray, List.set_cons_zero, List.set_cons_succ]
            refine wpAnyH_ready (rs := [7, 8]) (by kernel_rfl) (by simp) ?_
            refine AllReadyH.cons rfl (fun K hK => ?_) (AllReadyH.cons rfl (fun K hK => ?_) AllReadyH.nil)
            · go_simp
              go_at_call 26
              refine (rknot_any _ k2 x3 LK2.out LX3.out).mono ?_
              rw [EX4.out]
              rintro e v5 ⟨rfl, hb5⟩
              have Hr5 : Hid (Below w5.heap.size w5 v5) := nxTo Hr4.out hb5
              clear hb5
              refine hK.out _ _ ⟨rng_below RA5.out Hr5.out lA, rng_below RB5.out Hr5.out lB, rng_below RC5.out Hr5.out lC⟩ (fun hSn => ?_)
              clear hK K
              try simp only [Act.put, List.setIfInBounds_toArray, List.set_cons_zero, List.set_cons_succ]
              refine wpAnyH_ready (rs := [8]) (by kernel_rfl) (by simp) ?_
              refine AllReadyH.cons rfl (fun K hK => ?_) AllReadyH.nil
              go_simp
              have HG6 : Hid (Blk (v5.alloc (.cells (By zero32).toArray 32)) v5.heap.size 32 (By zero32).toArray) := Lib.hid (heap_alloc_new v5 _)
              have Hr6 : Hid (Below w5.heap.size w5 (v5.alloc (.cells (By zero32).toArray 32))) := nxAlloc Hr5.out _
              have HGs : Hid (w5.heap.size ≤ v5.heap.size) := Hr5.out.size
              refine hK.out _ (v5.alloc (.cells (By zero32).toArray 32)) ⟨rng_below RA5.out Hr6.out lA, rng_below RB5.out Hr6.out lB, rng_below RC5.out Hr6.out lC⟩ (fun hSn => ?_)
              clear hK K
              try simp only [Act.put, List.setIfInBounds_toArray, List.set_cons_zero, List.set_cons_succ]
              refine wpAnyH_ready (rs := [9]) (by kernel_rfl) (by simp) ?_
              refine AllReadyH.cons rfl (fun K hK => ?_) AllReadyH.nil
              refine step_store_all (o := ⟨none, _, _, _, _, _⟩) rfl 32 (.tmp 5) (.tmp 18) rfl v5.heap.size 32 (By zero32).toArray (By x4).toArray rfl rfl HG6.out (by rw [List.size_toArray, List.size_toArray, By_length, By_length, HZL.out, LX4.out]) Z4.out (By_one _) ?_
              intro v7 h5 h6 h7
              have HV7 := Lib.hid h5
              have Hf7 : Hid (Below w5.heap.size w5 v7) := Hr6.out.trans (h6.below Hr6.out.size (fun k hk => by have := HGs.out; omega))
              clear h5 h6 h7
              refine hK.out _ _ ⟨rng_below RA5.out Hf7.out lA, rng_below RB5.out Hf7.out lB, rng_below RC5.out Hf7.out lC⟩ (fun hSn => ?_)
              clear hK K
              try simp only [Act.put, List.setIfInBounds_toArray, List.set_cons_zero, List.set_cons_succ]
              refine wpAnyH_done (by kernel_rfl) ?_ _
              go_wp2
              go_meet
              exact ⟨v5.heap.size, rfl, HV7, Hf7⟩
            · go_simp
              have HG8 : Hid (Blk (v4.alloc (.cells (By zero32).toArray 32)) v4.heap.size 32 (By zero32).toArray) := Lib.hid (heap_alloc_new v4 _)
              have Hr8 : Hid (Below w5.heap.size w5 (v4.alloc (.cells (By zero32).toArray 32))) := nxAlloc Hr4.out _
              have HGs : Hid (w5.heap.size ≤ v4.heap.size) := Hr4.out.size
              refine hK.out _ (v4.alloc (.cells (By zero32).toArray 32)) ⟨rng_below RA5.out Hr8.out lA, rng_below RB5.out Hr8.out lB, rng_below RC5.out Hr8.out lC⟩ (fun hSn => ?_)
              clear hK K
              try simp only [Act.put, List.setIfInBounds_toArray, List.set_cons_zero, List.set_cons_succ]
              refine wpAnyH_ready (rs := [7]) (by kernel_rfl) (by simp) ?_
              refine AllReadyH.cons rfl (fun K hK => ?_) AllReadyH.nil
              go_simp
              go_at_call 26
              refine (rknot_any _ k2 x3 LK2.out LX3.out).mono ?_
              rw [EX4.out]
              rintro e v9 ⟨rfl, hb9⟩
              have Hr9 : Hid (Below w5.heap.size w5 v9) := nxTo Hr8.out hb9
              have HG9 := Lib.hid (HG8.out.below hb9 HG8.out.lt)
              clear hb9
              refine hK.out _ _ ⟨rng_below RA5.out Hr9.out lA, rng_below RB5.out Hr9.out lB, rng_below RC5.out Hr9.out lC⟩ (fun hSn => ?_)
              clear hK K
              try simp only [Act.put, List.setIfInBounds_toArray, List.set_cons_zero, List.set_cons_succ]
              refine wpAnyH_ready (rs := [9]) (by kernel_rfl) (by simp) ?_
              refine AllReadyH.cons rfl (fun K hK => ?_) AllReadyH.nil
              refine step_store_all (o := ⟨none, _, _, _, _, _⟩) rfl 32 (.tmp 5) (.tmp 18) rfl v4.heap.size 32 (By zero32).toArray (By x4).toArray rfl rfl HG9.out (by rw [List.size_toArray, List.size_toArray, By_length, By_length, HZL.out, LX4.out]) Z4.out (By_one _) ?_
              intro v10 h5 h6 h7
              have HV10 := Lib.hid h5
              have Hf10 : Hid (Below w5.heap.size w5 v10) := Hr9.out.trans (h6.below Hr9.out.size (fun k hk => by have := HGs.out; omega))
              clear h5 h6 h7
              refine hK.out _ _ ⟨rng_below RA5.out Hf10.out lA, rng_below RB5.out Hf10.out lB, rng_below RC5.out Hf10.out lC⟩ (fun hSn => ?_)
              clear hK K
              try simp only [Act.put, List.setIfInBounds_toArray, List.set_cons_zero, List.set_cons_succ]
              refine wpAnyH_done (by kernel_rfl) ?_ _
              go_wp2
              go_meet
              exact ⟨v4.heap.size, rfl, HV10, Hf10⟩
          · go_simp
            have HG11 : Hid (Blk (v3.alloc (.cells (By zero32).toArray 32)) v3.heap.size 32 (By zero32).toArray) := Lib.hid (heap_alloc_new v3 _)
            have Hr11 : Hid (Below w5.heap.size w5 (v3.alloc (.cells (By zero32).toArray 32))) := nxAlloc Hr3.out _
            have HGs : Hid (w5.heap.size ≤ v3.heap.size) := Hr3.out.size
            refine hK.out _ (v3.alloc (.cells (By zero32).toArray 32)) ⟨rng_below RA5.out Hr11.out lA, rng_below RB5.out Hr11.out lB, rng_below RC5.out Hr11.out lC⟩ (fun hSn => ?_)
            clear hK K
            try simp only [Act.put, List.setIfInBounds_toArray, List.set_cons_zero, List.set_cons_succ]
            refine wpAnyH_ready (rs := [6]) (by kernel_rfl) (by simp) ?_
            refine AllReadyH.cons rfl (fun K hK => ?_) AllReadyH.nil
            go_simp
            go_at_call 25
            refine (rleaf_any _ hc LC.out).mono ?_
            rw [EX3.out]
            rintro e v12 ⟨rfl, hb12⟩
            have Hr12 : Hid (Below w5.heap.size w5 v12) := nxTo Hr11.out hb12
            have HG12 := Lib.hid (HG11.out.below hb12 HG11.out.lt)
            clear hb12
            refine hK.out _ _ ⟨rng_below RA5.out Hr12.out lA, rng_below RB5.out Hr12.out lB, rng_below RC5.out Hr12.out lC⟩ (fun hSn => ?_)
            clear hK K
            try simp only [Act.put, List.setIfInBounds_toArray, List.set_cons_zero, List.set_cons_succ]
            refine wpAnyH_ready (rs := [7]) (by kernel_rfl) (by simp) ?_
            refine AllReadyH.cons rfl (fun K hK => ?_) AllReadyH.nil
            go_simp
            go_at_call 26
            refine (rknot_any _ k2 x3 LK2.out LX3.out).mono ?_
            rw [EX4.out]
            rintro e v13 ⟨rfl, hb13⟩
            have Hr13 : Hid (Below w5.heap.size w5 v13) := nxTo Hr12.out hb13
            have HG13 := Lib.hid (HG12.out.below hb13 HG12.out.lt)
            clear hb13
            refine hK.out _ _ ⟨rng_below RA5.out Hr13.out lA, rng_below RB5.out Hr13.out lB, rng_below RC5.out Hr13.out lC⟩ (fun hSn => ?_)
            clear hK K
            try simp only [Act.put, List.setIfInBounds_toArray, List.set_cons_zero, List.set_cons_succ]
            refine wpAnyH_ready (rs := [9]) (by kernel_rfl) (by simp) ?_
            refine AllReadyH.cons rfl (fun K hK => ?_) AllReadyH.nil
            refine step_store_all (o := ⟨none, _, _, _, _, _⟩) rfl 32 (.tmp 5) (.tmp 18) rfl v3.heap.size 32 (By zero32).toArray (By x4).toArray rfl rfl HG13.out (by rw [List.size_toArray, List.size_toArray, By_length, By_length, HZL.out, LX4.out]) Z4.out (By_one _) ?_
            intro v14 h5 h6 h7
            have HV14 := Lib.hid h5
            have Hf14 : Hid (Below w5.heap.size w5 v14) := Hr13.out.trans (h6.below Hr13.out.size (fun k hk => by have := HGs.out; omega))
            clear h5 h6 h7
            refine hK.out _ _ ⟨rng_below RA5.out Hf14.out lA, rng_below RB5.out Hf14.out lB, rng_below RC5.out Hf14.out lC⟩ (fun hSn => ?_)
            clear hK K
            try simp only [Act.put, List.setIfInBounds_toArray, List.set_cons_zero, List.set_cons_succ]
            refine wpAnyH_done (by kernel_rfl) ?_ _
            go_wp2
            go_meet
            exact ⟨v3.heap.size, rfl, HV14, Hf14⟩
        · go_simp
          have HG15 : Hid (Blk (v2.alloc (.cells (By zero32).toArray 32)) v2.heap.size 32 (By zero32).toArray) := Lib.hid (heap_alloc_new v2 _)
          have Hr15 : Hid (Below w5.heap.size w5 (v2.alloc (.cells (By zero32).toArray 32))) := nxAlloc Hr2.out _
          have HGs : Hid (w5.heap.size ≤ v2.heap.size) := Hr2.out.size
          refine hK.out _ (v2.alloc (.cells (By zero32).toArray 32)) ⟨rng_below RA5.out Hr15.out lA, rng_below RB5.out Hr15.out lB, rng_below RC5.out Hr15.out lC⟩ (fun hSn => ?_)
          clear hK K
          try simp only [Act.put, List.setIfInBounds_toArray, List.set_cons_zero, List.set_cons_succ]
          refine wpAnyH_ready (rs := [4]) (by kernel_rfl) (by simp) ?_
          refine AllReadyH.cons rfl (fun K hK => ?_) AllReadyH.nil
          go_simp
          go_at_call 26
          refine (rknot_any _ x1 x2 LX.out LX2.out).mono ?_
          rw [EK2.out]
          rintro e v16 ⟨rfl, hb16⟩
          have Hr16 : Hid (Below w5.heap.size w5 v16) := nxTo Hr15.out hb16
          have HG16 := Lib.hid (HG15.out.below hb16 HG15.out.lt)
          clear hb16
          refine hK.out _ _ ⟨rng_below RA5.out Hr16.out lA, rng_below RB5.out Hr16.out lB, rng_below RC5.out Hr16.out lC⟩ (fun hSn => ?_)
          clear hK K
          try simp only [Act.put, List.setIfInBounds_toArray, List.set_cons_zero, List.set_cons_succ]
          refine wpAnyH_ready (rs := [6]) (by kernel_rfl) (by simp) ?_
          refine AllReadyH.cons rfl (fun K hK => ?_) AllReadyH.nil
          go_simp
          go_at_call 25
          refine (rleaf_any _ hc LC.out).mono ?_
          rw [EX3.out]
          rintro e v17 ⟨rfl, hb17⟩
          have Hr17 : Hid (Below w5.heap.size w5 v17) := nxTo Hr16.out hb17
          have HG17 := Lib.hid (HG16.out.below hb17 HG16.out.lt)
          clear hb17
          refine hK.out _ _ ⟨rng_below RA5.out Hr17.out lA, rng_below RB5.out Hr17.out lB, rng_below RC5.out Hr17.out lC⟩ (fun hSn => ?_)
          clear hK K
          try simp only [Act.put, List.setIfInBounds_toArray, List.set_cons_zero, List.set_cons_succ]
          refine wpAnyH_ready (rs := [7]) (by kernel_rfl) (by simp) ?_
          refine AllReadyH.cons rfl (fun K hK => ?_) AllReadyH.nil
          go_simp
          go_at_call 26
          refine (rknot_any _ k2 x3 LK2.out LX3.out).mono ?_
          rw [EX4.out]
          rintro e v18 ⟨rfl, hb18⟩
          have Hr18 : Hid (Below w5.heap.size w5 v18) := nxTo Hr17.out hb18
          have HG18 := Lib.hid (HG17.out.below hb18 HG17.out.lt)
          clear hb18
          refine hK.out _ _ ⟨rng_below RA5.out Hr18.out lA, rng_below RB5.out Hr18.out lB, rng_below RC5.out Hr18.out lC⟩ (fun hSn => ?_)
          clear hK K
          try simp only [Act.put, List.setIfInBounds_toArray, List.set_cons_zero, List.set_cons_succ]
          refine wpAnyH_ready (rs := [9]) (by kernel_rfl) (by simp) ?_
          refine AllReadyH.cons rfl (fun K hK => ?_) AllReadyH.nil
          refine step_store_all (o := ⟨none, _, _, _, _, _⟩) rfl 32 (.tmp 5) (.tmp 18) rfl v2.heap.size 32 (By zero32).toArray (By x4).toArray rfl rfl HG18.out (by rw [List.size_toArray, List.size_toArray, By_length, By_length, HZL.out, LX4.out]) Z4.out (By_one _) ?_
          intro v19 h5 h6 h7
          have HV19 := Lib.hid h5
          have Hf19 : Hid (Below w5.heap.size w5 v19) := Hr18.out.trans (h6.below Hr18.out.size (fun k hk => by have := HGs.out; omega))
          clear h5 h6 h7
          refine hK.out _ _ ⟨rng_below RA5.out Hf19.out lA, rng_below RB5.out Hf19.out lB, rng_below RC5.out Hf19.out lC⟩ (fun hSn => ?_)
          clear hK K
          try simp only [Act.put, List.setIfInBounds_toArray, List.set_cons_zero, List.set_cons_succ]
          refine wpAnyH_done (by kernel_rfl) ?_ _
          go_wp2
          go_meet
          exact ⟨v2.heap.size, rfl, HV19, Hf19⟩
      · go_simp
        have HG20 : Hid (Blk (v1.alloc (.cells (By zero32).toArray 32)) v1.heap.size 32 (By zero32).toArray) := Lib.hid (heap_alloc_new v1 _)
        have Hr20 : Hid (Below w5.heap.size w5 (v1.alloc (.cells (By zero32).toArray 32))) := nxAlloc Hr1.out _
        have HGs : Hid (w5.heap.size ≤ v1.heap.size) := Hr1.out.size
        refine hK.out _ (v1.alloc (.cells (By zero32).toArray 32)) ⟨rng_below RA5.out Hr20.out lA, rng_below RB5.out Hr20.out lB, rng_below RC5.out Hr20.out lC⟩ (fun hSn => ?_)
        clear hK K
        try simp only [Act.put, List.setIfInBounds_toArray, List.set_cons_zero, List.set_cons_succ]
        refine wpAnyH_ready (rs := [3]) (by kernel_rfl) (by simp) ?_
        refine AllReadyH.cons rfl (fun K hK => ?_) AllReadyH.nil
        go_simp
        go_at_call 25
        refine (rleaf_any _ hb LB.out).mono ?_
        rw [EX2.out]
        rintro e v21 ⟨rfl, hb21⟩
        have Hr21 : Hid (Below w5.heap.size w5 v21) := nxTo Hr20.out hb21
        have HG21 := Lib.hid (HG20.out.below hb21 HG20.out.lt)
        clear hb21
        refine hK.out _ _ ⟨rng_below RA5.out Hr21.out lA, rng_below RB5.out Hr21.out lB, rng_below RC5.out Hr21.out lC⟩ (fun hSn => ?_)
        clear hK K
        try simp only [Act.put, List.setIfInBounds_toArray, List.set_cons_zero, List.set_cons_succ]
        refine wpAnyH_ready (rs := [4]) (by kernel_rfl) (by simp) ?_
        refine AllReadyH.cons rfl (fun K hK => ?_) AllReadyH.nil
        go_simp
        go_at_call 26
        refine (rknot_any _ x1 x2 LX.out LX2.out).mono ?_
        rw [EK2.out]
        rintro e v22 ⟨rfl, hb22⟩
        have Hr22 : Hid (Below w5.heap.size w5 v22) := nxTo Hr21.out hb22
        have HG22 := Lib.hid (HG21.out.below hb22 HG21.out.lt)
        clear hb22
        refine hK.out _ _ ⟨rng_below RA5.out Hr22.out lA, rng_below RB5.out Hr22.out lB, rng_below RC5.out Hr22.out lC⟩ (fun hSn => ?_)
        clear hK K
        try simp only [Act.put, List.setIfInBounds_toArray, List.set_cons_zero, List.set_cons_succ]
        refine wpAnyH_ready (rs := [6]) (by kernel_rfl) (by simp) ?_
        refine AllReadyH.cons rfl (fun K hK => ?_) AllReadyH.nil
        go_simp
        go_at_call 25
        refine (rleaf_any _ hc LC.out).mono ?_
        rw [EX3.out]
        rintro e v23 ⟨rfl, hb23⟩
        have Hr23 : Hid (Below w5.heap.size w5 v23) := nxTo Hr22.out hb23
        have HG23 := Lib.hid (HG22.out.below hb23 HG22.out.lt)
        clear hb23
        refine hK.out _ _ ⟨rng_below RA5.out Hr23.out lA, rng_below RB5.out Hr23.out lB, rng_below RC5.out Hr23.out lC⟩ (fun hSn => ?_)
        clear hK K
        try simp only [Act.put, List.setIfInBounds_toArray, List.set_cons_zero, List.set_cons_succ]
        refine wpAnyH_ready (rs := [7]) (by kernel_rfl) (by simp) ?_
        refine AllReadyH.cons rfl (fun K hK => ?_) AllReadyH.nil
        go_simp
        go_at_call 26
        refine (rknot_any _ k2 x3 LK2.out LX3.out).mono ?_
        rw [EX4.out]
        rintro e v24 ⟨rfl, hb24⟩
        have Hr24 : Hid (Below w5.heap.size w5 v24) := nxTo Hr23.out hb24
        have HG24 := Lib.hid (HG23.out.below hb24 HG23.out.lt)
        clear hb24
        refine hK.out _ _ ⟨rng_below RA5.out Hr24.out lA, rng_below RB5.out Hr24.out lB, rng_below RC5.out Hr24.out lC⟩ (fun hSn => ?_)
        clear hK K
        try simp only [Act.put, List.setIfInBounds_toArray, List.set_cons_zero, List.set_cons_succ]
        refine wpAnyH_ready (rs := [9]) (by kernel_rfl) (by simp) ?_
        refine AllReadyH.cons rfl (fun K hK => ?_) AllReadyH.nil
        refine step_store_all (o := ⟨none, _, _, _, _, _⟩) rfl 32 (.tmp 5) (.tmp 18) rfl v1.heap.size 32 (By zero32).toArray (By x4).toArray rfl rfl HG24.out (by rw [List.size_toArray, List.size_toArray, By_length, By_length, HZL.out, LX4.out]) Z4.out (By_one _) ?_
        intro v25 h5 h6 h7
        have HV25 := Lib.hid h5
        have Hf25 : Hid (Below w5.heap.size w5 v25) := Hr24.out.trans (h6.below Hr24.out.size (fun k hk => by have := HGs.out; omega))
        clear h5 h6 h7
        refine hK.out _ _ ⟨rng_below RA5.out Hf25.out lA, rng_below RB5.out Hf25.out lB, rng_below RC5.out Hf25.out lC⟩ (fun hSn => ?_)
        clear hK K
        try simp only [Act.put, List.setIfInBounds_toArray, List.set_cons_zero, List.set_cons_succ]
        refine wpAnyH_done (by kernel_rfl) ?_ _
        go_wp2
        go_meet
        exact ⟨v1.heap.size, rfl, HV25, Hf25⟩
    · go_simp
      have HG26 : Hid (Blk (w5.drew.alloc (.cells (By zero32).toArray 32)) w5.heap.size 32 (By zero32).toArray) := Lib.hid (heap_alloc_new w5.drew _)
      have Hr26 : Hid (Below w5.heap.size w5 (w5.drew.alloc (.cells (By zero32).toArray 32))) := Lib.hid ((nxDrewN (nxRefl w5) 1).alloc (Nat.le_refl _) _)
      have HGs : Hid (w5.heap.size ≤ w5.heap.size) := Nat.le_refl _
      refine hK.out _ (w5.drew.alloc (.cells (By zero32).toArray 32)) ⟨rng_below RA5.out Hr26.out lA, rng_below RB5.out Hr26.out lB, rng_below RC5.out Hr26.out lC⟩ (fun hSn => ?_)
      clear hK K
      try simp only [Act.put, List.setIfInBounds_toArray, List.set_cons_zero, List.set_cons_succ]
      refine wpAnyH_ready (rs := [1]) (by kernel_rfl) (by simp) ?_
      refine AllReadyH.cons rfl (fun K hK => ?_) AllReadyH.nil
      go_simp
      go_at_call 25
      refine (rleaf_any _ ha LA.out).mono ?_
      rw [EX1.out]
      rintro e v27 ⟨rfl, hb27⟩
      have Hr27 : Hid (Below w5.heap.size w5 v27) := nxTo Hr26.out hb27
      have HG27 := Lib.hid (HG26.out.below hb27 HG26.out.lt)
      clear hb27
      refine hK.out _ _ ⟨rng_below RA5.out Hr27.out lA, rng_below RB5.out Hr27.out lB, rng_below RC5.out Hr27.out lC⟩ (fun hSn => ?_)
      clear hK K
      try simp only [Act.put, List.setIfInBounds_toArray, List.set_cons_zero, List.set_cons_succ]
      refine wpAnyH_ready (rs := [3]) (by kernel_rfl) (by simp) ?_
      refine AllReadyH.cons rfl (fun K hK => ?_) AllReadyH.nil
      go_simp
      go_at_call 25
      refine (rleaf_any _ hb LB.out).mono ?_
      rw [EX2.out]
      rintro e v28 ⟨rfl, hb28⟩
      have Hr28 : Hid (Below w5.heap.size w5 v28) := nxTo Hr27.out hb28
      have HG28 := Lib.hid (HG27.out.below hb28 HG27.out.lt)
      clear hb28
      refine hK.out _ _ ⟨rng_below RA5.out Hr28.out lA, rng_below RB5.out Hr28.out lB, rng_below RC5.out Hr28.out lC⟩ (fun hSn => ?_)
      clear hK K
      try simp only [Act.put, List.setIfInBounds_toArray, List.set_cons_zero, List.set_cons_succ]
      refine wpAnyH_ready (rs := [4]) (by kernel_rfl) (by simp) ?_
      refine AllReadyH.cons rfl (fun K hK => ?_) AllReadyH.nil
      go_simp
      go_at_call 26
      refine (rknot_any _ x1 x2 LX.out LX2.out).mono ?_
      rw [EK2.out]
      rintro e v29 ⟨rfl, hb29⟩
      have Hr29 : Hid (Below w5.heap.size w5 v29) := nxTo Hr28.out hb29
      have HG29 := Lib.hid (HG28.out.below hb29 HG28.out.lt)
      clear hb29
      refine hK.out _ _ ⟨rng_below RA5.out Hr29.out lA, rng_below RB5.out Hr29.out lB, rng_below RC5.out Hr29.out lC⟩ (fun hSn => ?_)
      clear hK K
      try simp only [Act.put, List.setIfInBounds_toArray, List.set_cons_zero, List.set_cons_succ]
      refine wpAnyH_ready (rs := [6]) (by kernel_rfl) (by simp) ?_
      refine AllReadyH.cons rfl (fun K hK => ?_) AllReadyH.nil
      go_simp
      go_at_call 25
      refine (rleaf_any _ hc LC.out).mono ?_
      rw [EX3.out]
      rintro e v30 ⟨rfl, hb30⟩
      have Hr30 : Hid (Below w5.heap.size w5 v30) := nxTo Hr29.out hb30
      have HG30 := Lib.hid (HG29.out.below hb30 HG29.out.lt)
      clear hb30
      refine hK.out _ _ ⟨rng_below RA5.out Hr30.out lA, rng_below RB5.out Hr30.out lB, rng_below RC5.out Hr30.out lC⟩ (fun hSn => ?_)
      clear hK K
      try simp only [Act.put, List.setIfInBounds_toArray, List.set_cons_zero, List.set_cons_succ]
      refine wpAnyH_ready (rs := [7]) (by kernel_rfl) (by simp) ?_
      refine AllReadyH.cons rfl (fun K hK => ?_) AllReadyH.nil
      go_simp
      go_at_call 26
      refine (rknot_any _ k2 x3 LK2.out LX3.out).mono ?_
      rw [EX4.out]
      rintro e v31 ⟨rfl, hb31⟩
      have Hr31 : Hid (Below w5.heap.size w5 v31) := nxTo Hr30.out hb31
      have HG31 := Lib.hid (HG30.out.below hb31 HG30.out.lt)
      clear hb31
      refine hK.out _ _ ⟨rng_below RA5.out Hr31.out lA, rng_below RB5.out Hr31.out lB, rng_below RC5.out Hr31.out lC⟩ (fun hSn => ?_)
      clear hK K
      try simp only [Act.put, List.setIfInBounds_toArray, List.set_cons_zero, List.set_cons_succ]
      refine wpAnyH_ready (rs := [9]) (by kernel_rfl) (by simp) ?_
      refine AllReadyH.cons rfl (fun K hK => ?_) AllReadyH.nil
      refine step_store_all (o := ⟨none, _, _, _, _, _⟩) rfl 32 (.tmp 5) (.tmp 18) rfl w5.heap.size 32 (By zero32).toArray (By x4).toArray rfl rfl HG31.out (by rw [List.size_toArray, List.size_toArray, By_length, By_length, HZL.out, LX4.out]) Z4.out (By_one _) ?_
      intro v32 h5 h6 h7
      have HV32 := Lib.hid h5
      have Hf32 : Hid (Below w5.heap.size w5 v32) := Hr31.out.trans (h6.below Hr31.out.size (fun k hk => by have := HGs.out; omega))
      clear h5 h6 h7
      refine hK.out _ _ ⟨rng_below RA5.out Hf32.out lA, rng_below RB5.out Hf32.out lB, rng_below RC5.out Hf32.out lC⟩ (fun hSn => ?_)
      clear hK K
      try simp only [Act.put, List.setIfInBounds_toArray, List.set_cons_zero, List.set_cons_succ]
      refine wpAnyH_done (by kernel_rfl) ?_ _
      go_wp2
      go_meet
      exact ⟨w5.heap.size, rfl, HV32, Hf32⟩
  case rest =>
    obtain ⟨g, rfl, HG, Hr⟩ := hcut
    have HRc : Hid (Below w.heap.size w wc) := Hb5.out.trans (Hr.out.mono Hb5.out.size)
    have RAc : Hid (wc.rangeAt w.heap.size 0 (By ha)) := rng_below RA5.out Hr.out lA
    have RBc : Hid (wc.rangeAt (w.heap.size + 1) 0 (By hb)) := rng_below RB5.out Hr.out lB
    have RCc : Hid (wc.rangeAt (w.heap.size + 1 + 1) 0 (By hc)) := rng_below RC5.out Hr.out lC
    have D6 := Lib.hid (D5.out.below Hr.out D5.out.lt)
    have lA := Nat.lt_of_lt_of_le lA Hr.out.size
    have lB := Nat.lt_of_lt_of_le lB Hr.out.size
    have lC := Nat.lt_of_lt_of_le lC Hr.out.size
    go_wp2
    refine wp_region_held_drew (S := fun W => W.rangeAt w.heap.size 0 (By ha) ∧ W.rangeAt (w.heap.size + 1) 0 (By hb) ∧ W.rangeAt (w.heap.size + 1 + 1) 0 (By hc)) (by kernel_rfl) ⟨RAc.out, RBc.out, RCc.out⟩ (fun hHeld => ?_)
    refine wpAnyH_take (i := 0) (oi := ⟨_, _, _, _, _, _⟩) (v := .agg (By ha).toArray) rfl (by kernel_rfl) (by kernel_rfl) (by kernel_rfl) (fun _ _ _ h => h) (yieldsIf_load_mid (by rfl) 32 (.tmp 1) rfl (w.heap.size) (0) rfl (By ha) _ (fun W h => h.1) Tryd.underlying32 rfl SA.out) (by assumption) ?_
    try simp only [Act.put, List.setIfInBounds_toArray, List.set_cons_zero, List.set_cons_succ]
    refine wpAnyH_take (i := 3) (oi := ⟨_, _, _, _, _, _⟩) (v := ?_) rfl (by kernel_rfl) (by kernel_rfl) (by kernel_rfl) (fun _ _ _ h => h) (Or.inl ⟨by rfl, ?_⟩) (by assumption) ?_
    rotate_left 1
    · intro W hSw
      try dsimp only at hSw
      go_simp
      try with_reducible rfl
    try simp only [Act.put, List.setIfInBounds_toArray, List.set_cons_zero, List.set_cons_succ]
    refine wpAnyH_ready (rs := [1]) (by kernel_rfl) (by simp) ?_
    refine AllReadyH.cons rfl (fun K hK => ?_) AllReadyH.nil
    refine step_build_hash (o := ⟨some 20, _, _, _, _, _⟩) rfl (.tmp 19) rfl ha rfl LA.out ?_
    have hs1 := one_sees wc.drew ha
    have HS1 := Lib.hid hs1
    have Hq1 : Hid (Below wc.heap.size wc (wc.drew.alloc (.cells (By ha).toArray 32))) := Lib.hid ((nxDrewN (nxRefl wc) 1).alloc (Nat.le_refl _) _)
    generalize wc.drew.alloc (.cells (By ha).toArray 32) = q1 at *
    clear hs1
    refine hK.out _ _ ⟨rng_below RAc.out Hq1.out lA, rng_below RBc.out Hq1.out lB, rng_below RCc.out Hq1.out lC⟩ (fun hSn => ?_)
    clear hK K
    try simp only [Act.put, List.setIfInBounds_toArray, List.set_cons_zero, List.set_cons_succ]
    refine wpAnyH_ready (rs := [2]) (by kernel_rfl) (by simp) ?_
    refine AllReadyH.cons rfl (fun K hK => ?_) AllReadyH.nil
    go_simp
    go_at_call 11
    refine (root_any _ (HT.out.later (HRc.out.trans (Hq1.out.mono HRc.out.size))) (some ⟨wc.heap.size, 0, none⟩) 1 1 [ha] rfl (one_32 LA.out) HS1.out (by omega)).mono ?_
    rw [Y1.out]
    rintro e q2 ⟨rfl, hb2⟩
    have Hq2 : Hid (Below wc.heap.size wc q2) := nxTo Hq1.out hb2
    clear hb2
    refine hK.out _ _ ⟨rng_below RAc.out Hq2.out lA, rng_below RBc.out Hq2.out lB, rng_below RCc.out Hq2.out lC⟩ (fun hSn => ?_)
    clear hK K
    try simp only [Act.put, List.setIfInBounds_toArray, List.set_cons_zero, List.set_cons_succ]
    refine wpAnyH_ready (rs := [4]) (by kernel_rfl) (by simp) ?_
    refine AllReadyH.cons rfl (fun K hK => ?_) AllReadyH.nil
    go_simp
    go_at_call 27
    refine (rtop_any _ 1 (by omega) (some ⟨w4.heap.size, 0, none⟩) 32 32 x1 LX.out.symm (Sees.blk (D6.out.below Hq2.out D6.out.lt)) (by omega)).mono ?_
    rw [Y1t.out]
    rintro e q3 ⟨rfl, hb3⟩
    have Hq3 : Hid (Below wc.heap.size wc q3) := nxTo Hq2.out hb3
    clear hb3
    refine hK.out _ _ ⟨rng_below RAc.out Hq3.out lA, rng_below RBc.out Hq3.out lB, rng_below RCc.out Hq3.out lC⟩ (fun hSn => ?_)
    clear hK K
    try simp only [Act.put, List.setIfInBounds_toArray, List.set_cons_zero, List.set_cons_succ]
    refine wpAnyH_take (i := 5) (oi := ⟨_, _, _, _, _, _⟩) (v := .bool true) rfl (by kernel_rfl) (by kernel_rfl) (by kernel_rfl) (fun _ _ _ h => h) (yieldsIf_same (by rfl) 32 (.tmp 21) (.tmp 23) rfl y1 LY1.out rfl rfl) (by assumption) ?_
    try simp only [Act.put, List.setIfInBounds_toArray, List.set_cons_zero, List.set_cons_succ]
    refine wpAnyH_take (i := 6) (oi := ⟨_, _, _, _, _, _⟩) (v := ?_) rfl (by kernel_rfl) (by kernel_rfl) (by kernel_rfl) (fun _ _ _ h => h) (Or.inl ⟨by rfl, ?_⟩) (by assumption) ?_
    rotate_left 1
    · intro W hSw
      try dsimp only at hSw
      go_simp
      try with_reducible rfl
    try simp only [Act.put, List.setIfInBounds_toArray, List.set_cons_zero, List.set_cons_succ]
    refine wpAnyH_take (i := 7) (oi := ⟨_, _, _, _, _, _⟩) (v := .agg (By ha).toArray) rfl (by kernel_rfl) (by kernel_rfl) (by kernel_rfl) (fun _ _ _ h => h) (yieldsIf_load_mid (by rfl) 32 (.tmp 1) rfl (w.heap.size) (0) rfl (By ha) _ (fun W h => h.1) Tryd.underlying32 rfl SA.out) (by assumption) ?_
    try simp only [Act.put, List.setIfInBounds_toArray, List.set_cons_zero, List.set_cons_succ]
    refine wpAnyH_take (i := 8) (oi := ⟨_, _, _, _, _, _⟩) (v := .agg (By hb).toArray) rfl (by kernel_rfl) (by kernel_rfl) (by kernel_rfl) (fun _ _ _ h => h) (yieldsIf_load_mid (by rfl) 32 (.tmp 2) rfl (w.heap.size + 1) (0) rfl (By hb) _ (fun W h => h.2.1) Tryd.underlying32 rfl SB.out) (by assumption) ?_
    try simp only [Act.put, List.setIfInBounds_toArray, List.set_cons_zero, List.set_cons_succ]
    refine wpAnyH_take (i := 9) (oi := ⟨_, _, _, _, _, _⟩) (v := .agg (By hc).toArray) rfl (by kernel_rfl) (by kernel_rfl) (by kernel_rfl) (fun _ _ _ h => h) (yieldsIf_load_mid (by rfl) 32 (.tmp 3) rfl (w.heap.size + 1 + 1) (0) rfl (By hc) _ (fun W h => h.2.2) Tryd.underlying32 rfl SC.out) (by assumption) ?_
    try simp only [Act.put, List.setIfInBounds_toArray, List.set_cons_zero, List.set_cons_succ]
    refine wpAnyH_take (i := 12) (oi := ⟨_, _, _, _, _, _⟩) (v := ?_) rfl (by kernel_rfl) (by kernel_rfl) (by kernel_rfl) (fun _ _ _ h => h) (Or.inl ⟨by rfl, ?_⟩) (by assumption) ?_
    rotate_left 1
    · intro W hSw
      try dsimp only at hSw
      go_simp
      try with_reducible rfl
    try simp only [Act.put, List.setIfInBounds_toArray, List.set_cons_zero, List.set_cons_succ]
    refine wpAnyH_ready (rs := [10]) (by kernel_rfl) (by simp) ?_
    refine AllReadyH.cons rfl (fun K hK => ?_) AllReadyH.nil
    refine step_build_three (o := ⟨some 29, _, _, _, _, _⟩) (by rfl) (.tmp 26) (.tmp 27) (.tmp 28) rfl ha hb hc EA.out EB.out EC.out rfl rfl rfl ?_
    have hs3 := three_sees q3 ha hb hc
    have HS3 := Lib.hid hs3
    have Hq4 : Hid (Below wc.heap.size wc (q3.alloc (.cells (By (ha ++ hb ++ hc)).toArray 32))) := nxAlloc Hq3.out _
    generalize q3.alloc (.cells (By (ha ++ hb ++ hc)).toArray 32) = q4 at *
    clear hs3
    refine hK.out _ _ ⟨rng_below RAc.out Hq4.out lA, rng_below RBc.out Hq4.out lB, rng_below RCc.out Hq4.out lC⟩ (fun hSn => ?_)
    clear hK K
    try simp only [Act.put, List.setIfInBounds_toArray, List.set_cons_zero, List.set_cons_succ]
    refine wpAnyH_ready (rs := [11]) (by kernel_rfl) (by simp) ?_
    refine AllReadyH.cons rfl (fun K hK => ?_) AllReadyH.nil
    go_simp
    go_at_call 11
    refine (root_any _ (HT.out.later (HRc.out.trans (Hq4.out.mono HRc.out.size))) (some ⟨q3.heap.size, 0, none⟩) 3 3 [ha, hb, hc] rfl (three_32 LA.out LB.out LC.out) HS3.out (by omega)).mono ?_
    rw [Y3.out]
    rintro e q5 ⟨rfl, hb5⟩
    have Hq5 : Hid (Below wc.heap.size wc q5) := nxTo Hq4.out hb5
    clear hb5
    refine hK.out _ _ ⟨rng_below RAc.out Hq5.out lA, rng_below RBc.out Hq5.out lB, rng_below RCc.out Hq5.out lC⟩ (fun hSn => ?_)
    clear hK K
    try simp only [Act.put, List.setIfInBounds_toArray, List.set_cons_zero, List.set_cons_succ]
    refine wpAnyH_ready (rs := [13]) (by kernel_rfl) (by simp) ?_
    refine AllReadyH.cons rfl (fun K hK => ?_) AllReadyH.nil
    go_simp
    go_at_call 27
    refine (rtop_any _ 3 (by omega) (some ⟨g, 0, none⟩) 32 32 x4 LX4.out.symm (Sees.blk (HG.out.below Hq5.out HG.out.lt)) (by omega)).mono ?_
    rw [Y3t.out]
    rintro e q6 ⟨rfl, hb6⟩
    have Hq6 : Hid (Below wc.heap.size wc q6) := nxTo Hq5.out hb6
    clear hb6
    refine hK.out _ _ ⟨rng_below RAc.out Hq6.out lA, rng_below RBc.out Hq6.out lB, rng_below RCc.out Hq6.out lC⟩ (fun hSn => ?_)
    clear hK K
    try simp only [Act.put, List.setIfInBounds_toArray, List.set_cons_zero, List.set_cons_succ]
    refine wpAnyH_take (i := 14) (oi := ⟨_, _, _, _, _, _⟩) (v := .bool true) rfl (by kernel_rfl) (by kernel_rfl) (by kernel_rfl) (fun _ _ _ h => h) (yieldsIf_same (by rfl) 32 (.tmp 30) (.tmp 32) rfl y3 LY3.out rfl rfl) (by assumption) ?_
    try simp only [Act.put, List.setIfInBounds_toArray, List.set_cons_zero, List.set_cons_succ]
    refine wpAnyH_take (i := 15) (oi := ⟨_, _, _, _, _, _⟩) (v := ?_) rfl (by kernel_rfl) (by kernel_rfl) (by kernel_rfl) (fun _ _ _ h => h) (Or.inl ⟨by rfl, ?_⟩) (by assumption) ?_
    rotate_left 1
    · intro W hSw
      try dsimp only at hSw
      go_simp
      try with_reducible rfl
    try simp only [Act.put, List.setIfInBounds_toArray, List.set_cons_zero, List.set_cons_succ]
    refine wpAnyH_take (i := 16) (oi := ⟨_, _, _, _, _, _⟩) (v := ?_) rfl (by kernel_rfl) (by kernel_rfl) (by kernel_rfl) (fun _ _ _ h => h) (Or.inl ⟨by rfl, ?_⟩) (by assumption) ?_
    rotate_left 1
    · intro W hSw
      try dsimp only at hSw
      go_simp
      try with_reducible rfl
    try simp only [Act.put, List.setIfInBounds_toArray, List.set_cons_zero, List.set_cons_succ]
    refine wpAnyH_done (by kernel_rfl) ?_ _
    go_wp2
    go_ret
    exact ⟨rfl, HRc.out.trans (Hq6.out.mono HRc.out.size)⟩
end Go.Proofs.YtcbdjcmjchoagaaDoor
