/-
  disk: the document's own disk: a log that is cut.
  disk: the document's own disk in memory; the logs as they are read.
  disk: the document's own disk: New, burn, SetFuse.
-/
import Derived.Test.YthamlphebnhcpaaDoorRf1
namespace Go.Proofs.YthamlphebnhcpaaDoor
open Go.RowKit

theorem yieldsIf_minR {P : Program} {ops : Array Oper} {S : World → Prop} {o : Oper} {a : Act} (hw : Region.wanted o (yielded ops a.tmps) = true) (x y : Operand) (ho : o.op = .call { callee := .builtin .min, args := #[x, y], argTypes := #[3, 3] })
    (c m n : Int) (hx : a.eval x = .int .i64 c) (hy : a.eval y = .int .i64 m) (hn : (if m < c then m else c) = n) : YieldsIf P ops S o (.int .i64 n) a :=
  .inl ⟨hw, fun w _ => by
    unfold execOp
    have hr : (Builtin.min_ #[3, 3] o.type #[.int .i64 c, .int .i64 m]).run P w = .ok (.int .i64 n) w := by
      rw [← hn]
      by_cases hmc : m < c
      · rw [if_pos hmc]; simp [Builtin.min_, Builtin.min2, hmc]
      · rw [if_neg hmc]; simp [Builtin.min_, Builtin.min2, hmc]
    simp only [ho, resolve, invoke, builtin, Sem.run_bind, Sem.run_pure, Result.andThen_ok, List.map_toArray, List.map_cons, List.map_nil, hx, hy, hr]⟩
set_option maxHeartbeats 2000000 in
set_option maxRecDepth 100000 in
theorem done_cut (w : World) (rows : List RowM) (p : PutR) (hn : rows.length = 16) (hi : p.log < 16) (hr : SeenR w (rows.getD p.log noRow)) (hc : p.cut = true) (h0 : 0 ≤ p.n) (hl : (rows.getD p.log noRow).l.length ≤ 100000000) :
    Calls Tryd.prog 55 #[.agg (rowsC rows).toArray, .agg (putC p).toArray] w fun e w' => ∃ r, e = .returned (.agg (rowsC (rows.set p.log r)).toArray) ∧ DoneTo w rows p w' r := by
  obtain ⟨log, pn, cut, pA, pc, b⟩ := p
  dsimp only at hi hr h0 hc hl
  subst hc
  obtain ⟨r, hrr⟩ : ∃ r, rows.getD log noRow = r := ⟨_, rfl⟩
  rw [hrr] at hr hl
  have HR : Hid (rows.getD log noRow = r) := hrr
  clear hrr
  obtain ⟨ll, hll⟩ : ∃ n, r.l.length = n := ⟨_, rfl⟩
  have HLl : Hid (r.l.length = ll) := hll
  obtain ⟨W1, hW1⟩ : ∃ W, w.alloc (.cells (rowsC rows).toArray 50) = W := ⟨_, rfl⟩
  obtain ⟨W2, hW2⟩ : ∃ W, W1.alloc (.cells (putC ⟨log, pn, true, pA, pc, b⟩).toArray 97) = W := ⟨_, rfl⟩
  have hz1 : W1.heap.size = w.heap.size + 1 := by rw [← hW1]; simp
  have hz2 : W2.heap.size = w.heap.size + 1 + 1 := by rw [← hW2]; simp [hz1]
  have hB1 : Blk W1 w.heap.size 50 (rowsC rows).toArray := by rw [← hW1]; exact heap_alloc_new w _
  have hB2 : Blk W2 w.heap.size 50 (rowsC rows).toArray := by rw [← hW2]; exact hB1.alloc _
  have hP2 : Blk W2 (w.heap.size + 1) 97 (putC ⟨log, pn, true, pA, pc, b⟩).toArray := by rw [← hW2, ← hz1]; exact heap_alloc_new W1 _
  have c2 : W2.cell? ⟨w.heap.size + 1, 2, none⟩ = some (.bool true) := hP2.cell 2
  have hv2 : Below w.heap.size w W2 := by rw [← hW2, ← hW1]; exact nxAlloc (nxAlloc (nxRefl w) _) _
  go_enter Tryd.func55, Tryd.ntmps55
  go_upto_region 2 with fail
  have hB3 : Blk (W2.alloc (.cells (Array.replicate 16 (Value.slice none 0 0)) 50)) w.heap.size 50 (rowsC rows).toArray := hB2.alloc _
  have hP3 : Blk (W2.alloc (.cells (Array.replicate 16 (Value.slice none 0 0)) 50)) (w.heap.size + 1) 97 (putC ⟨log, pn, true, pA, pc, b⟩).toArray := hP2.alloc _
  have hZ3 : Blk (W2.alloc (.cells (Array.replicate 16 (Value.slice none 0 0)) 50)) (w.heap.size + 1 + 1) 50 (Array.replicate 16 (Value.slice none 0 0)) := by rw [← hz2]; exact heap_alloc_new W2 _
  have hv3 : Below w.heap.size w (W2.alloc (.cells (Array.replicate 16 (Value.slice none 0 0)) 50)) := nxAlloc hv2 _
  have hz3 : (W2.alloc (.cells (Array.replicate 16 (Value.slice none 0 0)) 50)).heap.size = w.heap.size + 1 + 1 + 1 := by simp [hz2]
  show Code.wp _ _ _ _ (W2.alloc (.cells (Array.replicate 16 (Value.slice none 0 0)) 50))
  generalize W2.alloc (.cells (Array.replicate 16 (Value.slice none 0 0)) 50) = W3 at hB3 hP3 hZ3 hv3 hz3 ⊢
  have HC1 : Hid (W3.cell? ⟨w.heap.size + 1, 0, none⟩ = some (.int .i64 (log : Int))) := hP3.cell 0
  have HC2 : Hid (W3.cell? ⟨w.heap.size + 1, 1, none⟩ = some (.int .i64 pn)) := hP3.cell 1
  have HC3 : Hid (W3.cell? ⟨w.heap.size, log, none⟩ = some (.slice r.A ll r.c)) := (hB3.cell log).trans (by rw [List.getElem?_toArray, rowsC_at (by omega), HR.out, ← hll]; rfl)
  have B3 := Lib.hid hB3
  have P3 := Lib.hid hP3
  have Z3 := Lib.hid hZ3
  have V3 := Lib.hid hv3
  have E3 := Lib.hid hz3
  have SR : Hid (Sees W3 W3.heap.size r.A r.l) := (hr.s.later hv3).more hv3.size
  have HL := Lib.hid hl
  obtain ⟨i0, hi0, hz0, hz1, hz2⟩ := infoD Tryd.u8info
  have HI0 := Lib.hid hi0
  have hi2 : (log : Int) < 16 := by omega
  clear hB1 hB2 hP2 c2 hv2 hW1 hW2 hB3 hP3 hZ3 hv3 hz3 hl hi0
  obtain ⟨q, hq, hqn⟩ : ∃ q : Nat, q ≤ ll ∧ (if (ll : Int) < pn then (ll : Int) else pn) = (q : Int) ∧ r.l.take q = r.l.take pn.toNat := by
    by_cases h : (ll : Int) < pn
    · exact ⟨ll, Nat.le_refl _, if_pos h, by rw [List.take_of_length_le (by omega), List.take_of_length_le (by omega)]⟩
    · exact ⟨pn.toNat, by omega, by rw [if_neg h]; omega, rfl⟩
  obtain ⟨hqm, hqt⟩ := hqn
  obtain ⟨A1, hs1, hsl⟩ := low_sliceD ((hr.s.later V3.out).more V3.out.size) hr.c hr.m q (by omega)
  rw [hll] at hsl
  have S1 := Lib.hid hs1
  have HQt := Lib.hid hqt
  have HQl : Hid ((r.l.take q).length = q) := by show _ = _; rw [List.length_take]; omega
  have HQm := Lib.hid hqm
  have HQ := Lib.hid hq
  clear hs1 hqt hr hll hqm hq h0
  refine wp_region_K (fun W => W.cell? ⟨w.heap.size + 1, 0, none⟩ = some (.int .i64 (log : Int)) ∧ W.cell? ⟨w.heap.size + 1, 1, none⟩ = some (.int .i64 pn) ∧ W.cell? ⟨w.heap.size, log, none⟩ = some (.slice r.A ll r.c)) 17 (by kernel_rfl) ⟨HC1.out, HC2.out, HC3.out⟩ (fun hSn => ?_)
  refine wpAnyK_pure (i := 0) (oi := ⟨_, _, _, _, _, _⟩) (v := ?_) rfl (by kernel_rfl) (by kernel_rfl) (by kernel_rfl) rfl (fun _ _ _ h => h) (Or.inl ⟨by rfl, ?_⟩) hSn ?_
  rotate_left 1
  · intro W hSw
    go_simp
    try with_reducible rfl
  replace hSn := (KT.set (i := 0) (by decide)).2 hSn
  try simp only [Act.put, List.setIfInBounds_toArray, List.set_cons_zero, List.set_cons_succ]
  refine wpAnyK_chain (i := 1) [16, 17] (oi := ⟨_, _, _, _, _, _⟩) (v := ?_) rfl (by kernel_rfl) (by kernel_rfl) (by kernel_rfl) rfl (by kernel_rfl) (by kernel_rfl) (by kernel_rfl) (fun _ _ _ h => h) (Or.inl ⟨by rfl, ?_⟩) hSn ?_
  rotate_left 1
  · intro W hSw
    try dsimp only at hSw
    obtain ⟨hs1, hs2, hs3⟩ := hSw
    go_simp
    try with_reducible rfl
  replace hSn := (KT.set (i := 1) (by decide)).2 hSn
  try simp only [Act.put, List.setIfInBounds_toArray, List.set_cons_zero, List.set_cons_succ]
  refine wpAnyK_pure (i := 2) (oi := ⟨_, _, _, _, _, _⟩) (v := ?_) rfl (by kernel_rfl) (by kernel_rfl) (by kernel_rfl) rfl (fun _ _ _ h => h) (Or.inl ⟨by rfl, ?_⟩) hSn ?_
  rotate_left 1
  · intro W hSw
    go_simp
    try with_reducible rfl
  replace hSn := (KT.set (i := 2) (by decide)).2 hSn
  try simp only [Act.put, List.setIfInBounds_toArray, List.set_cons_zero, List.set_cons_succ]
  refine wpAnyK_chain (i := 3) [4, 5, 14, 15, 17] (oi := ⟨_, _, _, _, _, _⟩) (v := ?_) rfl (by kernel_rfl) (by kernel_rfl) (by kernel_rfl) rfl (by kernel_rfl) (by kernel_rfl) (by kernel_rfl) (fun _ _ _ h => h) (Or.inl ⟨by rfl, ?_⟩) hSn ?_
  rotate_left 1
  · intro W hSw
    try dsimp only at hSw
    obtain ⟨hs1, hs2, hs3⟩ := hSw
    go_simp
    try with_reducible rfl
  replace hSn := (KT.set (i := 3) (by decide)).2 hSn
  try simp only [Act.put, List.setIfInBounds_toArray, List.set_cons_zero, List.set_cons_succ]
  refine wpAnyK_pure (i := 4) (oi := ⟨_, _, _, _, _, _⟩) (v := ?_) rfl (by kernel_rfl) (by kernel_rfl) (by kernel_rfl) rfl (fun _ _ _ h => h) (Or.inl ⟨by rfl, ?_⟩) hSn ?_
  rotate_left 1
  · intro W hSw
    go_simp
    try with_reducible rfl
  replace hSn := (KT.set (i := 4) (by decide)).2 hSn
  try simp only [Act.put, List.setIfInBounds_toArray, List.set_cons_zero, List.set_cons_succ]
  refine wpAnyK_chain (i := 5) [14, 15, 17] (oi := ⟨_, _, _, _, _, _⟩) (v := ?_) rfl (by kernel_rfl) (by kernel_rfl) (by kernel_rfl) rfl (by kernel_rfl) (by kernel_rfl) (by kernel_rfl) (fun _ _ _ h => h) (Or.inl ⟨by rfl, ?_⟩) hSn ?_
  rotate_left 1
  · intro W hSw
    try dsimp only at hSw
    obtain ⟨hs1, hs2, hs3⟩ := hSw
    go_simp
    try with_reducible rfl
  replace hSn := (KT.set (i := 5) (by decide)).2 hSn
  try simp only [Act.put, List.setIfInBounds_toArray, List.set_cons_zero, List.set_cons_succ]
  refine wpAnyK_pure (i := 6) (oi := ⟨_, _, _, _, _, _⟩) (v := ?_) rfl (by kernel_rfl) (by kernel_rfl) (by kernel_rfl) rfl (fun _ _ _ h => h) (Or.inl ⟨by rfl, ?_⟩) hSn ?_
  rotate_left 1
  · intro W hSw
    go_simp
    try with_reducible rfl
  replace hSn := (KT.set (i := 6) (by decide)).2 hSn
  try simp only [Act.put, List.setIfInBounds_toArray, List.set_cons_zero, List.set_cons_succ]
  refine wpAnyK_chain (i := 7) [13, 14, 15, 17] (oi := ⟨_, _, _, _, _, _⟩) (v := ?_) rfl (by kernel_rfl) (by kernel_rfl) (by kernel_rfl) rfl (by kernel_rfl) (by kernel_rfl) (by kernel_rfl) (fun _ _ _ h => h) (Or.inl ⟨by rfl, ?_⟩) hSn ?_
  rotate_left 1
  · intro W hSw
    try dsimp only at hSw
    obtain ⟨hs1, hs2, hs3⟩ := hSw
    go_simp
    try with_reducible rfl
  replace hSn := (KT.set (i := 7) (by decide)).2 hSn
  try simp only [Act.put, List.setIfInBounds_toArray, List.set_cons_zero, List.set_cons_succ]
  refine wpAnyK_pure (i := 8) (oi := ⟨_, _, _, _, _, _⟩) (v := ?_) rfl (by kernel_rfl) (by kernel_rfl) (by kernel_rfl) rfl (fun _ _ _ h => h) (Or.inl ⟨by rfl, ?_⟩) hSn ?_
  rotate_left 1
  · intro W hSw
    go_simp
    try with_reducible rfl
  replace hSn := (KT.set (i := 8) (by decide)).2 hSn
  try simp only [Act.put, List.setIfInBounds_toArray, List.set_cons_zero, List.set_cons_succ]
  refine wpAnyK_chain (i := 9) [10, 11, 12, 13, 14, 15, 17] (oi := ⟨_, _, _, _, _, _⟩) (v := ?_) rfl (by kernel_rfl) (by kernel_rfl) (by kernel_rfl) rfl (by kernel_rfl) (by kernel_rfl) (by kernel_rfl) (fun _ _ _ h => h) (Or.inl ⟨by rfl, ?_⟩) hSn ?_
  rotate_left 1
  · intro W hSw
    try dsimp only at hSw
    obtain ⟨hs1, hs2, hs3⟩ := hSw
    go_simp
    try with_reducible rfl
  replace hSn := (KT.set (i := 9) (by decide)).2 hSn
  try simp only [Act.put, List.setIfInBounds_toArray, List.set_cons_zero, List.set_cons_succ]
  refine wpAnyK_pure (i := 10) (oi := ⟨_, _, _, _, _, _⟩) (v := ?_) rfl (by kernel_rfl) (by kernel_rfl) (by kernel_rfl) rfl (fun _ _ _ h => h) (Or.inl ⟨by rfl, ?_⟩) hSn ?_
  rotate_left 1
  · intro W hSw
    go_simp
    try with_reducible rfl
  replace hSn := (KT.set (i := 10) (by decide)).2 hSn
  try simp only [Act.put, List.setIfInBounds_toArray, List.set_cons_zero, List.set_cons_succ]
  refine wpAnyK_chain (i := 11) [12, 13, 14, 15, 17] (oi := ⟨_, _, _, _, _, _⟩) (v := ?_) rfl (by kernel_rfl) (by kernel_rfl) (by kernel_rfl) rfl (by kernel_rfl) (by kernel_rfl) (by kernel_rfl) (fun _ _ _ h => h) (Or.inl ⟨by rfl, ?_⟩) hSn ?_
  rotate_left 1
  · intro W hSw
    try dsimp only at hSw
    obtain ⟨hs1, hs2, hs3⟩ := hSw
    go_simp
    try with_reducible rfl
  replace hSn := (KT.set (i := 11) (by decide)).2 hSn
  try simp only [Act.put, List.setIfInBounds_toArray, List.set_cons_zero, List.set_cons_succ]
  refine wpAnyK_pure (i := 12) (oi := ⟨_, _, _, _, _, _⟩) (v := ?_) rfl (by kernel_rfl) (by kernel_rfl) (by kernel_rfl) rfl (fun _ _ _ h => h) (Or.inl ⟨by rfl, ?_⟩) hSn ?_
  rotate_left 1
  · intro W hSw
    go_simp
    try with_reducible rfl
  replace hSn := (KT.set (i := 12) (by decide)).2 hSn
  try simp only [Act.put, List.setIfInBounds_toArray, List.set_cons_zero, List.set_cons_succ]
  refine wpAnyK_pure (i := 13) (oi := ⟨_, _, _, _, _, _⟩) (v := .int .i64 (q : Int)) rfl (by kernel_rfl) (by kernel_rfl) (by kernel_rfl) rfl (fun _ _ _ h => h) (yieldsIf_minR (by rfl) (.tmp 14) (.tmp 19) rfl pn (ll : Int) (q : Int) rfl rfl HQm.out) hSn ?_
  replace hSn := (KT.set (i := 13) (by decide)).2 hSn
  try simp only [Act.put, List.setIfInBounds_toArray, List.set_cons_zero, List.set_cons_succ]
  refine wpAnyK_pure (i := 14) (oi := ⟨_, _, _, _, _, _⟩) (v := ?_) rfl (by kernel_rfl) (by kernel_rfl) (by kernel_rfl) rfl (fun _ _ _ h => h) (Or.inl ⟨by rfl, ?_⟩) hSn ?_
  rotate_left 1
  · intro W hSw
    go_simp
    try with_reducible rfl
  replace hSn := (KT.set (i := 14) (by decide)).2 hSn
  try simp only [Act.put, List.setIfInBounds_toArray, List.set_cons_zero, List.set_cons_succ]
  clear hSn
  refine wpAnyK_ready (rs := [15]) (by kernel_rfl) (by simp) ?_
  refine AllReadyK.cons rfl (fun K hK => ?_) AllReadyK.nil
  refine step_append_seesD (o := ⟨some 22, _, _, _, _, _⟩) rfl (.const (.slice none 0 0)) (.tmp 21) 39 rfl W3.heap.size 5 i0 _ Tryd.underlying39 HI0.out hz0 hz1 hz2 rfl (.slice none 0 0) 0 [] rfl (World.ownsRow_nil _ _ _ _) W3.heap.size A1 q r.c (r.l.take q) rfl HQl.out.symm S1.out (by have := HL.out; have := HLl.out; have := HQ.out; omega) (Nat.le_refl _) ?_
  intro v5 w5 h1 h2 h3
  simp only [Nat.zero_add, List.nil_append] at h1
  obtain ⟨A5, c5, rfl⟩ := own_form h1
  have O5 := Lib.hid h1
  have K5 : Hid (Keeps (fun j => W3.heap.size ≤ j) W3 w5) := Keeps.grown (Keeps.refl _ W3).drew h2 (fun k e => by cases e)
  clear h1 h2 h3
  have hw3 := E3.out
  have c51 := (K5.out.cell (p := ⟨w.heap.size + 1, 0, none⟩) P3.out.lt (by show ¬ W3.heap.size ≤ w.heap.size + 1; omega)).trans HC1.out
  have c52 := (K5.out.cell (p := ⟨w.heap.size + 1, 1, none⟩) P3.out.lt (by show ¬ W3.heap.size ≤ w.heap.size + 1; omega)).trans HC2.out
  have c53 := (K5.out.cell (p := ⟨w.heap.size, log, none⟩) B3.out.lt (by show ¬ W3.heap.size ≤ w.heap.size; omega)).trans HC3.out
  have B5 : Hid (Blk w5 w.heap.size 50 (rowsC rows).toArray) := B3.out.keeps K5.out (by omega)
  have Z5 : Hid (Blk w5 (w.heap.size + 1 + 1) 50 (Array.replicate 16 (Value.slice none 0 0))) := Z3.out.keeps K5.out (by omega)
  refine hK.out _ _ (fun _ => ⟨c51, c52, c53⟩) (fun hSn => ?_)
  clear hK K
  try simp only [Act.put, List.setIfInBounds_toArray, List.set_cons_zero, List.set_cons_succ]
  have f53 : w5.frozen? ⟨w.heap.size, log, none⟩ = false := B5.out.frozen _
  refine wpAnyK_pure (i := 16) (oi := ⟨_, _, _, _, _, _⟩) (v := ?_) rfl (by kernel_rfl) (by kernel_rfl) (by kernel_rfl) rfl (fun _ _ _ h => h) (Or.inl ⟨by rfl, ?_⟩) hSn ?_
  rotate_left 1
  · intro W hSw
    go_simp
    try with_reducible rfl
  replace hSn := (KT.set (i := 16) (by decide)).2 hSn
  try simp only [Act.put, List.setIfInBounds_toArray, List.set_cons_zero, List.set_cons_succ]
  clear hSn
  refine wpAnyK_ready (rs := [17]) (by kernel_rfl) (by simp) ?_
  refine AllReadyK.cons rfl (fun K hK => ?_) AllReadyK.nil
  go_simp
  refine hK.out _ _ (fun h => absurd h (by decide +kernel)) (fun hSn => ?_)
  clear hK K
  try simp only [Act.put, List.setIfInBounds_toArray, List.set_cons_zero, List.set_cons_succ]
  refine wpAnyK_done (by kernel_rfl) ?_ _
  have hlen : (r.l.take q).length = q := HQl.out
  have hv : (⟨A5, c5, r.l.take q⟩ : RowM).v = .slice A5 q c5 := by show Value.slice A5 (r.l.take q).length c5 = _; rw [hlen]
  have B6 : Hid (Blk (w5.setCell ⟨w.heap.size, log, none⟩ (.slice A5 q c5)) w.heap.size 50 (rowsC (rows.set log ⟨A5, c5, r.l.take q⟩)).toArray) := by
    have h := B5.out.set log (.slice A5 q c5)
    rw [← hv, rowsC_set, hv] at h
    exact h
  have Z6 : Hid (Blk (w5.setCell ⟨w.heap.size, log, none⟩ (.slice A5 q c5)) (w.heap.size + 1 + 1) 50 (Array.replicate 16 (Value.slice none 0 0))) := Z5.out.far (by show w.heap.size + 1 + 1 ≠ w.heap.size; omega) _
  have K6 : Hid (Keeps (fun j => W3.heap.size ≤ j ∨ j = w.heap.size) W3 (w5.setCell ⟨w.heap.size, log, none⟩ (.slice A5 q c5))) := Keeps.setCell (S := fun j => W3.heap.size ≤ j ∨ j = w.heap.size) (p := ⟨w.heap.size, log, none⟩) (K5.out.mono (fun j _ h => Or.inl h)) (.inr rfl) _
  have O6 : Hid ((w5.setCell ⟨w.heap.size, log, none⟩ (.slice A5 q c5)).ownsRow W3.heap.size 5 1 (.slice A5 q c5) q (By (r.l.take q))) := own_store O5.out B5.out (by decide) _ _
  have HRn : Hid ((rowsC (rows.set log ⟨A5, c5, r.l.take q⟩)).length = 16) := by show _ = _; rw [rowsC_len, List.length_set, hn]
  generalize w5.setCell ⟨w.heap.size, log, none⟩ (.slice A5 q c5) = w6 at B6 Z6 K6 O6 ⊢
  clear c51 c52 c53 f53 hSn
  have HSz : Hid ((Tryd.prog.info? 50).map (·.size) = some (rowsC (rows.set log ⟨A5, c5, r.l.take q⟩)).length) := by show _ = _; rw [HRn.out]; exact Tryd.rowsSize
  have HSa : Hid ((Tryd.prog.info? 50).map (·.size) = some (rowsC (rows.set log ⟨A5, c5, r.l.take q⟩)).toArray.size) := by show _ = _; rw [List.size_toArray, HRn.out]; exact Tryd.rowsSize
  have HSb : Hid ((Array.replicate 16 (Value.slice none 0 0)).size = (rowsC (rows.set log ⟨A5, c5, r.l.take q⟩)).toArray.size) := by show _ = _; rw [Array.size_replicate]; exact HRn.out.symm
  go_wp2_with (first
    | ((with_reducible show wpList _ _ _ (⟨some 35, _, _, _, _, _⟩ :: _) _ _); refine wpList_load_mid rfl 50 (.tmp 2) rfl w.heap.size 0 rfl (rowsC (rows.set log ⟨A5, c5, r.l.take q⟩)) _ (blk_rangeR B6.out) Tryd.underlying50 rfl HSz.out ?_)
    | ((with_reducible show wpList _ _ _ (⟨none, _, _, _, _, _⟩ :: _) _ _); refine wpList_store_wholeD rfl 50 (.tmp 4) (.tmp 35) rfl (w.heap.size + 1 + 1) 50 (Array.replicate 16 (Value.slice none 0 0)) (rowsC (rows.set log ⟨A5, c5, r.l.take q⟩)).toArray rfl rfl Z6.out HSb.out HSa.out (rowsC_one _) ?_; intro w7 h5 h6 h7; have B7 := Lib.hid h5; have K7 := Lib.hid h6; clear h5 h6 h7))
  refine bodyPost_ret (results_cell_row Tryd.results55 _ _ (w.heap.size + 1 + 1) 50 _ (0, 0) _ rfl B7.out Tryd.underlying50 rfl HSa.out) rfl ⟨⟨A5, c5, r.l.take q⟩, rfl, ?_⟩
  have hw3 := E3.out
  have hK6 := K6.out.size
  have V6 : Below w.heap.size w w6 := V3.out.trans (K6.out.below V3.out.size (fun j hj h => by rcases h with h | h <;> omega))
  refine ⟨?_, ?_, fun j hj => ?_, V6.trans (K7.out.below V6.size (fun j hj h => by omega))⟩
  · show r.l.take q = doneL (rows.getD log noRow).l _
    rw [HR.out]; exact HQt.out
  · have h6 : RowM.own w6 ⟨A5, c5, r.l.take q⟩ := by
      show World.ownsRow _ _ _ _ _ _ _
      rw [hv, show (⟨A5, c5, r.l.take q⟩ : RowM).l.length = q from hlen, show By (⟨A5, c5, r.l.take q⟩ : RowM).l = By (r.l.take q) from rfl]
      exact own_lessR O6.out (Nat.zero_le _)
    exact RowM.keep h6 K7.out (fun j hj e => by have := (O6.out.lt j (by rw [own_blkD]; exact hj)).1; omega)
  · have := (O6.out.lt j (by rw [own_blkD]; exact hj)).1
    omega
end Go.Proofs.YthamlphebnhcpaaDoor

namespace Go.Proofs.YthamlphebnhcpaaDoor
open Go.RowKit

structure RfM where
  rows : List RowM
  A : Option Addr
  c : Nat
  W : List PutR
  fuse : Int
  dead : Bool
def PutR.row (p : PutR) : RowM := ⟨p.A, p.c, p.b⟩
def PutR.d (p : PutR) : StD := if p.cut then .cut p.log p.n.toNat else .put p.log p.b
def putsC (W : List PutR) : List Value := (W.map putC).flatten
def rfC (m : RfM) : List Value := rowsC m.rows ++ [.slice m.A m.W.length m.c, .int .i64 m.fuse, .bool m.dead]
/-- The blocks that the document's disk may change. -/
def footR (g : Nat) (m : RfM) (j : Nat) : Prop := j = g ∨ m.A.map (·.block) = some j
structure RfOk (w : World) (g : Nat) (m : RfM) : Prop where
  b : Blk w g 57 (rfC m).toArray
  n : m.rows.length = 16
  o : ∀ r ∈ m.rows, r.own w
  ww : w.ownsRow 0 97 4 (.slice m.A m.W.length m.c) m.W.length (putsC m.W)
  p : ∀ p ∈ m.W, p.log < 16 ∧ (p.cut = true → 0 ≤ p.n) ∧ p.row.own w
def dataR (m : RfM) : List (List UInt8) := m.rows.map (·.l)
theorem rfC_len {m : RfM} (n : m.rows.length = 16) : (rfC m).length = 19 := by rw [rfC, List.length_append, rowsC_len, n]; rfl
theorem RfOk.cW {w : World} {g : Nat} {m : RfM} (h : RfOk w g m) : w.cell? ⟨g, 16, none⟩ = some (.slice m.A m.W.length m.c) := by
  rw [h.b.cell, List.getElem?_toArray, rfC, List.getElem?_append_right (by rw [rowsC_len, h.n]; omega), rowsC_len, h.n]; rfl
theorem RfOk.cF {w : World} {g : Nat} {m : RfM} (h : RfOk w g m) : w.cell? ⟨g, 17, none⟩ = some (.int .i64 m.fuse) := by
  rw [h.b.cell, List.getElem?_toArray, rfC, List.getElem?_append_right (by rw [rowsC_len, h.n]; omega), rowsC_len, h.n]; rfl
theorem RfOk.cD {w : World} {g : Nat} {m : RfM} (h : RfOk w g m) : w.cell? ⟨g, 18, none⟩ = some (.bool m.dead) := by
  rw [h.b.cell, List.getElem?_toArray, rfC, List.getElem?_append_right (by rw [rowsC_len, h.n]; omega), rowsC_len, h.n]; rfl
theorem RfOk.rows {w : World} {g : Nat} {m : RfM} (h : RfOk w g m) : w.rangeAt g 0 (rowsC m.rows) := fun i v hv => by
  have hi := (List.getElem?_eq_some_iff.1 hv).1
  rw [Nat.zero_add, h.b.cell, List.getElem?_toArray, rfC, List.getElem?_append_left hi]
  exact hv
theorem putC_len (p : PutR) : (putC p).length = 4 := rfl
theorem RfOk.put {w : World} {g : Nat} {m : RfM} (h : RfOk w g m) (h0 : 0 < m.W.length) : ∃ b off, m.A = some ⟨b, off, none⟩ ∧ b < w.heap.size ∧ ∀ k (hk : k < m.W.length), w.rangeAt b (off + k * 4) (putC m.W[k]) := by
  obtain ⟨b, off, hA, hb, hr⟩ := SeesV.rowD (n := 4) (SeesV.own h.ww) (by intro r hr; obtain ⟨i, _, rfl⟩ := List.mem_map.1 hr; rfl) (by omega) (by simpa using h0)
  exact ⟨b, off, hA, hb, fun k hk => by have h := hr k (by simpa using hk); rw [List.getElem_map] at h; exact h⟩
theorem rngL {w W : World} {b o : Nat} {cs : List Value} (h : w.rangeAt b o cs) (hb : Below w.heap.size w W) (hl : b < w.heap.size) : W.rangeAt b o cs := fun i v hv => by
  have h1 := h i v hv
  exact (World.cell?_of_block (hb.block b hl)).trans h1
theorem RfOk.later {S : Nat → Prop} {w w' : World} {g : Nat} {m : RfM} (h : RfOk w g m) (k : Keeps S w w') (hf : ∀ j, footR g m j → ¬ S j) (hr : ∀ r : RowM, (r ∈ m.rows ∨ ∃ p ∈ m.W, p.row = r) → ∀ j, r.bk = some j → ¬ S j) : RfOk w' g m :=
  ⟨h.b.keeps k (hf g (.inl rfl)), h.n, fun r hm => RowM.keep (h.o r hm) k (hr r (.inl hm)), own_keep h.ww k (fun j e => hf j (.inr (by rw [own_blkD] at e; exact e))),
    fun p hp => ⟨(h.p p hp).1, (h.p p hp).2.1, RowM.keep (h.p p hp).2.2 k (hr p.row (.inr ⟨p, hp, rfl⟩))⟩⟩
theorem RfOk.below {w w' : World} {g : Nat} {m : RfM} (h : RfOk w g m) (b : Below w.heap.size w w') : RfOk w' g m :=
  h.later (Keeps.of_below b (fun _ => False)) (fun _ _ h => h) (fun _ _ _ _ h => h)
/-- A step done. -/
theorem done_any (w : World) (rows : List RowM) (p : PutR) (hn : rows.length = 16) (hi : p.log < 16) (hr : ∀ r ∈ rows, r.own w) (hp : p.row.own w) (h0 : p.cut = true → 0 ≤ p.n) (hl : ∀ r ∈ rows, r.l.length ≤ 16777216) (hb : p.cut = false → p.b.length ≤ 50000000) :
    Calls Tryd.prog 55 #[.agg (rowsC rows).toArray, .agg (putC p).toArray] w fun e w' => ∃ r, e = .returned (.agg (rowsC (rows.set p.log r)).toArray) ∧ DoneTo w rows p w' r := by
  have hm : rows.getD p.log noRow ∈ rows := by
    rw [List.getD_eq_getElem?_getD, List.getElem?_eq_getElem (by omega)]
    exact List.getElem_mem _
  have h1 := hl _ hm
  cases hc : p.cut with
  | false => exact done_put w rows p hn hi (SeenR.own (hr _ hm)) (RowM.sees hp) hc (by have := hb hc; omega)
  | true => exact done_cut w rows p hn hi (SeenR.own (hr _ hm)) hc (h0 hc) (by omega)
theorem done_data {w w' : World} {rows : List RowM} {p : PutR} {r : RowM} (h : DoneTo w rows p w' r) (hi : p.log < rows.length) : (rows.set p.log r).map (·.l) = doS 0 (rows.map (·.l)) p.d := by
  have e : (rows.getD p.log noRow).l = rowD (rows.map (·.l)) p.log := by
    unfold rowD
    rw [List.getD_eq_getElem?_getD, List.getD_eq_getElem?_getD, List.getElem?_map, List.getElem?_eq_getElem hi]
    rfl
  rw [List.map_set, h.l, e]
  unfold PutR.d doneL
  split <;> simp [doS]
theorem Tryd.putSize : (Tryd.prog.info? 97).map (·.size) = some 4 := by kernel_rfl
theorem doS_leR {X : List (List UInt8)} {s : StD} (hn : X.length = 16) (h : okS X s) (hm : ∀ k, (rowD X k).length ≤ 16777216) : ∀ k, (rowD (doS 0 X s) k).length ≤ 16777216 := by
  intro k
  cases s with
  | put i b =>
    obtain ⟨h1, h2⟩ := h
    rw [doS, rowD_set (by omega)]
    split
    · rw [List.length_append, Nat.zero_add]; exact h2
    · exact hm k
  | cut i n =>
    obtain ⟨h1, h2⟩ := h
    rw [doS, rowD_set (by omega)]
    split
    · rw [List.length_take]; have := hm (0 + i); omega
    · exact hm k
theorem doAll_leR {W : List StD} : ∀ {X : List (List UInt8)}, okW X W → (∀ k, (rowD X k).length ≤ 16777216) → X.length = 16 → ∀ k, (rowD (doAll 0 X W) k).length ≤ 16777216 := by
  induction W with
  | nil => intro X _ hm _; exact hm
  | cons s r ih => intro X h hm hn; exact ih h.2 (doS_leR hn h.1 hm) (by rw [doS_len]; exact hn)
theorem partAll {a b : List Value} (h : a.length = b.length) : (a.toArray.toList.take 0 ++ b.toArray.toList ++ a.toArray.toList.drop (0 + b.toArray.size)).toArray = b.toArray := by
  have e : a.drop (0 + b.length) = [] := List.drop_eq_nil_of_le (by omega)
  show (List.take 0 a ++ b ++ a.drop (0 + b.length)).toArray = _
  rw [e]
  simp
/-- What Now answers. -/
structure NowTo (w : World) (m : RfM) (w' : World) (rows : List RowM) : Prop where
  n : rows.length = 16
  l : rows.map (·.l) = doAll 0 (dataR m) (m.W.map PutR.d)
  o : ∀ r ∈ rows, r.own w'
  v : Below w.heap.size w w'
  a : ∀ r ∈ rows, r ∈ m.rows ∨ ∀ j, r.bk = some j → w.heap.size ≤ j
/-- On the way. -/
structure NowAt (w wr : World) (m : RfM) (k : Nat) (rows : List RowM) : Prop where
  n : rows.length = 16
  l : rows.map (·.l) = doAll 0 (dataR m) ((m.W.map PutR.d).take k)
  o : ∀ r ∈ rows, r.own wr
  b : Blk wr (w.heap.size + 1) 50 (rowsC rows).toArray
  z : Blk wr w.heap.size 50 (Array.replicate 16 (Value.slice none 0 0))
  v : Below w.heap.size w wr
  a : ∀ r ∈ rows, r ∈ m.rows ∨ ∀ j, r.bk = some j → w.heap.size ≤ j

set_option maxHeartbeats 2000000 in
set_option maxRecDepth 100000 in
theorem now_any (w : World) (g : Nat) (m : RfM) (h : RfOk w g m) (hw : okW (dataR m) (m.W.map PutR.d)) (hW : m.W.length ≤ 1000) (hm : ∀ k, (rowD (dataR m) k).length ≤ 16777216) :
    Calls Tryd.prog 49 #[ptrD g] w fun e w' => ∃ rows, e = .returned (.agg (rowsC rows).toArray) ∧ NowTo w m w' rows := by
  have H := Lib.hid h
  have HW := Lib.hid hw
  have HWl := Lib.hid hW
  have HM := Lib.hid hm
  have HSz : Hid ((Tryd.prog.info? 50).map (·.size) = some (rowsC m.rows).length) := by show _ = _; rw [rowsC_len, h.n]; exact Tryd.rowsSize
  have HSa : Hid ((Tryd.prog.info? 50).map (·.size) = some (rowsC m.rows).toArray.size) := HSz.out
  have HSb : Hid ((Array.replicate 16 (Value.slice none 0 0)).size = (rowsC m.rows).toArray.size) := by show _ = _; rw [Array.size_replicate]; show 16 = (rowsC m.rows).length; rw [rowsC_len, h.n]
  have HV1 : Hid (Below w.heap.size w (w.alloc (.cells (Array.replicate 16 (Value.slice none 0 0)) 50))) := nxAlloc (nxRefl w) _
  have HR1 : Hid ((w.alloc (.cells (Array.replicate 16 (Value.slice none 0 0)) 50)).rangeAt g 0 (rowsC m.rows)) := rngL h.rows HV1.out h.b.lt
  have HZ1 : Hid (Blk (w.alloc (.cells (Array.replicate 16 (Value.slice none 0 0)) 50)) w.heap.size 50 (Array.replicate 16 (Value.slice none 0 0))) := heap_alloc_new w _
  clear h hw hW hm
  unfold ptrD
  go_enter Tryd.func49, Tryd.ntmps49
  go_wp2_with (first
    | ((with_reducible show wpList _ _ _ (⟨some 8, _, _, _, _, _⟩ :: _) _ _); refine wpList_load_mid rfl 50 (.tmp 7) rfl g 0 rfl (rowsC m.rows) _ HR1.out Tryd.underlying50 rfl HSz.out ?_)
    | ((with_reducible show wpList _ _ _ (⟨none, _, _, _, _, _⟩ :: _) _ _); (show wpList _ _ _ _ _ ((w.alloc (.cells (Array.replicate 16 (Value.slice none 0 0)) 50)).alloc (.cells (Array.replicate 16 (Value.slice none 0 0)) 50))); refine wpList_store_wholeD rfl 50 (.tmp 3) (.tmp 8) rfl (w.heap.size + 1) 50 (Array.replicate 16 (Value.slice none 0 0)) (rowsC m.rows).toArray rfl rfl (blk_newD (by simp)) HSb.out HSa.out (rowsC_one _) ?_; intro w2 h5 h6 h7; have B2 := Lib.hid h5; have K2 := Lib.hid h6; clear h5 h6 h7))
  have NA0 : Hid (NowAt w w2 m 0 m.rows) := by
    have hv := (nxAlloc HV1.out (.cells (Array.replicate 16 (Value.slice none 0 0)) 50)).trans (K2.out.below (nxAlloc HV1.out (.cells (Array.replicate 16 (Value.slice none 0 0)) 50)).size (fun j hj e => by omega))
    exact ⟨H.out.n, rfl, fun r hr => RowM.keep (H.out.o r hr) (Keeps.of_below hv (fun _ => False)) (fun _ _ h => h), B2.out, (HZ1.out.alloc _).keeps K2.out (by omega), hv, fun r hr => .inl hr⟩
  go_loopw [4] (fun iv wr => ∃ (k : Nat) (rows : List RowM), k ≤ m.W.length ∧ iv = .int .i64 k ∧ Hid (NowAt w wr m k rows)) (fun iv _ => m.W.length - (intOf iv).toNat)
  case atStart => exact ⟨0, m.rows, Nat.zero_le _, rfl, NA0.out⟩
  case round =>
    obtain ⟨k, rows, hk, rfl, NA⟩ := hrel
    have HR : Hid (RfOk wr g m) := H.out.below NA.out.v
    have c16 : wr.cell? ⟨g, 16, none⟩ = some (.slice m.A m.W.length m.c) := HR.out.cW
    have hl1000 : m.W.length ≤ 1000 := HWl.out
    by_cases hlt : k < m.W.length
    · have hin : (k : Int) < (m.W.length : Int) := by omega
      have hwk : IntKind.i64.wrap ((k : Int) + 1) = (k : Int) + 1 := by rw [IntKind.wrap_i64]; omega
      obtain ⟨pb, poff, hA, hpb, hpr⟩ := HR.out.put (by omega)
      obtain ⟨p, hp⟩ : ∃ p, m.W[k] = p := ⟨_, rfl⟩
      have hc := hpr k hlt
      rw [hp] at hc
      have HP : Hid (p.log < 16 ∧ (p.cut = true → 0 ≤ p.n) ∧ p.row.own wr) := HR.out.p p (by rw [← hp]; exact List.getElem_mem hlt)
      have HPk : Hid ((m.W.map PutR.d).take (k + 1) = (m.W.map PutR.d).take k ++ [p.d]) := by
        show _ = _
        rw [List.take_add_one, List.getElem?_map, List.getElem?_eq_getElem hlt, hp]; rfl
      have HOk : Hid (okS (rows.map (·.l)) p.d) := by
        have h1 : okW (dataR m) ((m.W.map PutR.d).take k ++ (m.W.map PutR.d).drop k) := by rw [List.take_append_drop]; exact HW.out
        have h2 := (okW_app.1 h1).2
        rw [List.drop_eq_getElem_cons (by simpa using hlt), List.getElem_map, hp] at h2
        show okS _ _
        rw [NA.out.l]
        exact h2.1
      have HLk : Hid (∀ r ∈ rows, r.l.length ≤ 16777216) := fun r hr => by
        have h1 : okW (dataR m) ((m.W.map PutR.d).take k ++ (m.W.map PutR.d).drop k) := by rw [List.take_append_drop]; exact HW.out
        obtain ⟨i, hi, rfl⟩ := List.getElem_of_mem hr
        have h3 := doAll_leR (okW_app.1 h1).1 HM.out (by show (m.rows.map (·.l)).length = 16; rw [List.length_map]; exact H.out.n) i
        rw [← NA.out.l] at h3
        unfold rowD at h3
        rw [List.getD_eq_getElem?_getD, List.getElem?_map, List.getElem?_eq_getElem hi] at h3
        exact h3
      have HSk : Hid ((Tryd.prog.info? 50).map (·.size) = some (rowsC rows).length) := by show _ = _; rw [rowsC_len, NA.out.n]; exact Tryd.rowsSize
      have HPs : Hid ((Tryd.prog.info? 97).map (·.size) = some (putC p).length) := Tryd.putSize
      have HRr : Hid (wr.rangeAt (w.heap.size + 1) 0 (rowsC rows)) := blk_rangeR NA.out.b
      have HC := Lib.hid hc
      have HPb := Lib.hid hpb
      have HGl : Hid (g < wr.heap.size) := HR.out.b.lt
      rw [hA] at c16
      have hdr : Keeps (fun _ => False) wr wr.drew := (Keeps.refl _ wr).drew
      have HPb2 : Hid (p.cut = false → p.b.length ≤ 50000000) := fun hc => by
        have h1 := HOk.out
        unfold PutR.d at h1
        rw [hc] at h1
        have h2 : _ ≤ _ := h1.2
        omega
      clear hpr hc hp hpb
      go_upto_region 5 with fail
      refine wp_region_K (fun W => W.rangeAt (w.heap.size + 1) 0 (rowsC rows) ∧ W.cell? ⟨g, 16, none⟩ = some (.slice (some ⟨pb, poff, none⟩) m.W.length m.c) ∧ W.rangeAt pb (poff + k * 4) (putC p)) 9 (by kernel_rfl) ⟨HRr.out, c16, HC.out⟩ (fun hSn => ?_)
      refine wpAnyK_chain (i := 0) [8, 9] (oi := ⟨_, _, _, _, _, _⟩) (v := .agg (rowsC rows).toArray) rfl (by kernel_rfl) (by kernel_rfl) (by kernel_rfl) rfl (by kernel_rfl) (by kernel_rfl) (by kernel_rfl) (fun _ _ _ h => h) (yieldsIf_load_mid (by rfl) 50 (.tmp 3) rfl (w.heap.size + 1) 0 rfl (rowsC rows) _ (fun W h => h.1) Tryd.underlying50 rfl HSk.out) hSn ?_
      replace hSn := (KT.set (i := 0) (by decide)).2 hSn
      try simp only [Act.put, List.setIfInBounds_toArray, List.set_cons_zero, List.set_cons_succ]
      refine wpAnyK_pure (i := 1) (oi := ⟨_, _, _, _, _, _⟩) (v := ?_) rfl (by kernel_rfl) (by kernel_rfl) (by kernel_rfl) rfl (fun _ _ _ h => h) (Or.inl ⟨by rfl, ?_⟩) hSn ?_
      rotate_left 1
      · intro W hSw
        go_simp
        try with_reducible rfl
      replace hSn := (KT.set (i := 1) (by decide)).2 hSn
      try simp only [Act.put, List.setIfInBounds_toArray, List.set_cons_zero, List.set_cons_succ]
      refine wpAnyK_pure (i := 2) (oi := ⟨_, _, _, _, _, _⟩) (v := ?_) rfl (by kernel_rfl) (by kernel_rfl) (by kernel_rfl) rfl (fun _ _ _ h => h) (Or.inl ⟨by rfl, ?_⟩) hSn ?_
      rotate_left 1
      · intro W hSw
        go_simp
        try with_reducible rfl
      replace hSn := (KT.set (i := 2) (by decide)).2 hSn
      try simp only [Act.put, List.setIfInBounds_toArray, List.set_cons_zero, List.set_cons_succ]
      refine wpAnyK_pure (i := 3) (oi := ⟨_, _, _, _, _, _⟩) (v := ?_) rfl (by kernel_rfl) (by kernel_rfl) (by kernel_rfl) rfl (fun _ _ _ h => h) (Or.inl ⟨by rfl, ?_⟩) hSn ?_
      rotate_left 1
      · intro W hSw
        go_simp
        try with_reducible rfl
      replace hSn := (KT.set (i := 3) (by decide)).2 hSn
      try simp only [Act.put, List.setIfInBounds_toArray, List.set_cons_zero, List.set_cons_succ]
      refine wpAnyK_chain (i := 4) [6, 7, 8, 9] (oi := ⟨_, _, _, _, _, _⟩) (v := ?_) rfl (by kernel_rfl) (by kernel_rfl) (by kernel_rfl) rfl (by kernel_rfl) (by kernel_rfl) (by kernel_rfl) (fun _ _ _ h => h) (Or.inl ⟨by rfl, ?_⟩) hSn ?_
      rotate_left 1
      · intro W hSw
        try dsimp only at hSw
        obtain ⟨hs1, hs2, hs3⟩ := hSw
        go_simp
        try with_reducible rfl
      replace hSn := (KT.set (i := 4) (by decide)).2 hSn
      try simp only [Act.put, List.setIfInBounds_toArray, List.set_cons_zero, List.set_cons_succ]
      refine wpAnyK_pure (i := 5) (oi := ⟨_, _, _, _, _, _⟩) (v := ?_) rfl (by kernel_rfl) (by kernel_rfl) (by kernel_rfl) rfl (fun _ _ _ h => h) (Or.inl ⟨by rfl, ?_⟩) hSn ?_
      rotate_left 1
      · intro W hSw
        go_simp
        try with_reducible rfl
      replace hSn := (KT.set (i := 5) (by decide)).2 hSn
      try simp only [Act.put, List.setIfInBounds_toArray, List.set_cons_zero, List.set_cons_succ]
      refine wpAnyK_pure (i := 6) (oi := ⟨_, _, _, _, _, _⟩) (v := ?_) rfl (by kernel_rfl) (by kernel_rfl) (by kernel_rfl) rfl (fun _ _ _ h => h) (Or.inl ⟨by rfl, ?_⟩) hSn ?_
      rotate_left 1
      · intro W hSw
        go_simp
        try with_reducible rfl
      replace hSn := (KT.set (i := 6) (by decide)).2 hSn
      try simp only [Act.put, List.setIfInBounds_toArray, List.set_cons_zero, List.set_cons_succ]
      refine wpAnyK_chain (i := 7) [8, 9] (oi := ⟨_, _, _, _, _, _⟩) (v := .agg (putC p).toArray) rfl (by kernel_rfl) (by kernel_rfl) (by kernel_rfl) rfl (by kernel_rfl) (by kernel_rfl) (by kernel_rfl) (fun _ _ _ h => h) (yieldsIf_load_mid (by rfl) 97 (.tmp 24) rfl pb (poff + k * 4) rfl (putC p) _ (fun W h => h.2.2) Tryd.underlying97 rfl HPs.out) hSn ?_
      replace hSn := (KT.set (i := 7) (by decide)).2 hSn
      try simp only [Act.put, List.setIfInBounds_toArray, List.set_cons_zero, List.set_cons_succ]
      clear hSn
      refine wpAnyK_ready (rs := [8]) (by kernel_rfl) (by simp) ?_
      refine AllReadyK.cons rfl (fun K hK => ?_) AllReadyK.nil
      go_simp
      go_at_call 55
      refine (done_any wr.drew rows p NA.out.n HP.out.1 (fun r hr => RowM.keep (NA.out.o r hr) hdr (fun _ _ h => h)) (RowM.keep HP.out.2.2 hdr (fun _ _ h => h)) HP.out.2.1 HLk.out HPb2.out).mono ?_
      rintro e w5 ⟨r, rfl, hD⟩
      have D5 := Lib.hid hD
      clear hD
      have V5 : Hid (Below wr.heap.size wr w5) := ⟨D5.out.v.os, D5.out.v.tape, D5.out.v.output, D5.out.v.size, D5.out.v.block⟩
      have hg5 := HGl.out
      have B5 : Hid (Blk w5 (w.heap.size + 1) 50 (rowsC rows).toArray) := NA.out.b.below V5.out NA.out.b.lt
      have hS5 : w5.rangeAt (w.heap.size + 1) 0 (rowsC rows) ∧ w5.cell? ⟨g, 16, none⟩ = some (.slice (some ⟨pb, poff, none⟩) m.W.length m.c) ∧ w5.rangeAt pb (poff + k * 4) (putC p) := ⟨blk_rangeR B5.out, (V5.out.cell (p := ⟨g, 16, none⟩) hg5).trans c16, rngL HC.out V5.out HPb.out⟩
      refine hK.out _ _ (fun _ => hS5) (fun hSn => ?_)
      clear hK K
      try simp only [Act.put, List.setIfInBounds_toArray, List.set_cons_zero, List.set_cons_succ]
      clear hSn
      refine wpAnyK_ready (rs := [9]) (by kernel_rfl) (by simp) ?_
      refine AllReadyK.cons rfl (fun K hK => ?_) AllReadyK.nil
      refine step_store_partD (o := ⟨none, _, _, _, _, _⟩) rfl 50 (.tmp 3) (.tmp 26) rfl (w.heap.size + 1) 0 50 (rowsC rows).toArray (rowsC (rows.set p.log r)).toArray (rowsC (rows.set p.log r)).toArray (.agg (rowsC (rows.set p.log r)).toArray) rfl rfl rfl B5.out (by rw [List.size_toArray, List.size_toArray, rowsC_len, rowsC_len, List.length_set]; omega) (by rw [List.size_toArray, rowsC_len, List.length_set, NA.out.n]; exact Tryd.rowsSize) (rowsC_one _) (partAll (by rw [rowsC_len, rowsC_len, List.length_set])) ?_
      intro w6 h5 h6 h7
      have B6 := Lib.hid h5
      have K6 := Lib.hid h6
      clear h5 h6 h7
      refine hK.out _ _ (fun h => absurd h (by decide +kernel)) (fun hSn => ?_)
      clear hK K
      try simp only [Act.put, List.setIfInBounds_toArray, List.set_cons_zero, List.set_cons_succ]
      refine wpAnyK_done (by kernel_rfl) ?_ _
      have NA1 : Hid (NowAt w w6 m (k + 1) (rows.set p.log r)) := by
        have hzr : w.heap.size + 1 < wr.heap.size := NA.out.b.lt
        have hz5 : wr.heap.size ≤ w5.heap.size := V5.out.size
        refine ⟨by rw [List.length_set]; exact NA.out.n, ?_, fun r2 hr2 => ?_, B6.out, (NA.out.z.below V5.out NA.out.z.lt).keeps K6.out (by omega), ?_, fun r2 hr2 => ?_⟩
        · rw [done_data D5.out (by rw [NA.out.n]; exact HP.out.1), NA.out.l, HPk.out, doAll_app]; rfl
        · rcases List.mem_or_eq_of_mem_set hr2 with h1 | rfl
          · refine RowM.keep (RowM.keep (NA.out.o r2 h1) (Keeps.of_below V5.out (fun _ => False)) (fun _ _ h => h)) K6.out (fun j hj e => ?_)
            have h3 := NA.out.b.notOwn (NA.out.o r2 h1) (by decide)
            rw [RowM.v, own_blkD] at h3
            exact h3 (by rw [← e]; exact hj.symm)
          · refine RowM.keep D5.out.o K6.out (fun j hj e => ?_)
            have h3 : wr.heap.size ≤ j := D5.out.n j hj
            omega
        · have h1 : Below w.heap.size w w5 := nxTrD NA.out.v V5.out
          exact h1.trans (K6.out.below h1.size (fun j hj e => by omega))
        · rcases List.mem_or_eq_of_mem_set hr2 with h1 | rfl
          · exact NA.out.a r2 h1
          · exact .inr (fun j hj => by have h3 : wr.heap.size ≤ j := D5.out.n j hj; omega)
      go_wp2
      go_roundw
      case rel => exact ⟨k + 1, _, by omega, by go_num, NA1.out⟩
      case measure => simp [intOf] <;> omega
    · obtain rfl : k = m.W.length := by omega
      have HSk : Hid ((Tryd.prog.info? 50).map (·.size) = some (rowsC rows).length) := by show _ = _; rw [rowsC_len, NA.out.n]; exact Tryd.rowsSize
      have HSk2 : Hid ((Tryd.prog.info? 50).map (·.size) = some (rowsC rows).toArray.size) := HSk.out
      have HSk3 : Hid ((Array.replicate 16 (Value.slice none 0 0)).size = (rowsC rows).toArray.size) := by show _ = _; rw [Array.size_replicate]; show 16 = (rowsC rows).length; rw [rowsC_len, NA.out.n]
      go_wp2_with (first
        | ((with_reducible show wpList _ _ _ (⟨some 27, _, _, _, _, _⟩ :: _) _ _); refine wpList_load_mid rfl 50 (.tmp 3) rfl (w.heap.size + 1) 0 rfl (rowsC rows) _ (blk_rangeR NA.out.b) Tryd.underlying50 rfl HSk.out ?_)
        | ((with_reducible show wpList _ _ _ (⟨none, _, _, _, _, _⟩ :: _) _ _); refine wpList_store_wholeD rfl 50 (.tmp 2) (.tmp 27) rfl w.heap.size 50 (Array.replicate 16 (Value.slice none 0 0)) (rowsC rows).toArray rfl rfl NA.out.z HSk3.out HSk2.out (rowsC_one _) ?_; intro w7 h5 h6 h7; have B7 := Lib.hid h5; have K7 := Lib.hid h6; clear h5 h6 h7))
      refine bodyPost_ret (results_cell_row Tryd.results49 _ _ w.heap.size 50 _ (0, 0) _ rfl B7.out Tryd.underlying50 rfl HSk2.out) rfl ⟨rows, rfl, NA.out.n, ?_, fun r hr => ?_, ?_, NA.out.a⟩
      · rw [NA.out.l, List.take_of_length_le (by simp)]
      · refine RowM.keep (NA.out.o r hr) K7.out (fun j hj e => ?_)
        have h3 := NA.out.z.notOwn (NA.out.o r hr) (by decide)
        rw [RowM.v, own_blkD] at h3
        exact h3 (by rw [← e]; exact hj.symm)
      · exact NA.out.v.trans (K7.out.below NA.out.v.size (fun j hj e => by omega))
end Go.Proofs.YthamlphebnhcpaaDoor

namespace Go.Proofs.YthamlphebnhcpaaDoor
open Go.RowKit

/-- All blocks of the document's disk. -/
def allR (g : Nat) (m : RfM) (j : Nat) : Prop := footR g m j ∨ ∃ r : RowM, (r ∈ m.rows ∨ ∃ p ∈ m.W, p.row = r) ∧ r.bk = some j
structure RfTo (w : World) (g : Nat) (m : RfM) (w' : World) (m' : RfM) : Prop where
  ok : RfOk w' g m'
  ft : ∀ j, footR g m' j → footR g m j ∨ w.heap.size ≤ j
  al : ∀ j, allR g m' j → allR g m j ∨ w.heap.size ≤ j
  k : Keeps (footR g m) w w'
theorem RfTo.refl {w : World} {g : Nat} {m : RfM} (h : RfOk w g m) : RfTo w g m w m := ⟨h, fun _ h => .inl h, fun _ h => .inl h, Keeps.refl _ _⟩
theorem RfTo.below {w w' : World} {g : Nat} {m : RfM} (h : RfOk w g m) (b : Below w.heap.size w w') : RfTo w g m w' m := ⟨h.below b, fun _ h => .inl h, fun _ h => .inl h, Keeps.of_below b _⟩
theorem RfTo.trans {w w1 w2 : World} {g : Nat} {m m1 m2 : RfM} (h : RfTo w g m w1 m1) (k : RfTo w1 g m1 w2 m2) : RfTo w g m w2 m2 := by
  refine ⟨k.ok, fun j hj => ?_, fun j hj => ?_, ?_⟩
  · rcases k.ft j hj with h1 | h1
    · exact h.ft j h1
    · exact .inr (Nat.le_trans h.k.size h1)
  · rcases k.al j hj with h1 | h1
    · exact h.al j h1
    · exact .inr (Nat.le_trans h.k.size h1)
  · refine ⟨k.k.os.trans h.k.os, k.k.tape.trans h.k.tape, k.k.output.trans h.k.output, Nat.le_trans h.k.size k.k.size, fun b hb hn => ?_⟩
    refine (k.k.block b (Nat.lt_of_lt_of_le hb h.k.size) (fun h1 => ?_)).trans (h.k.block b hb hn)
    rcases h.ft b h1 with h2 | h2
    · exact hn h2
    · omega
/-- Own rows of bytes lie off what the disk changes. -/
theorem RfOk.off {w : World} {g : Nat} {m : RfM} (h : RfOk w g m) {r : RowM} (hr : r.own w) {j : Nat} (hj : r.bk = some j) : ¬ footR g m j := by
  rintro (rfl | h1)
  · have h3 := h.b.notOwn hr (by decide)
    rw [RowM.v, own_blkD] at h3
    exact h3 hj.symm
  · exact own_apart hr h.ww (by decide) j (by rw [RowM.v, own_blkD]; exact hj) (by rw [own_blkD]; exact h1)
theorem rfC_setF {m : RfM} (n : m.rows.length = 16) (f : Int) : (rfC m).toArray.setIfInBounds 17 (.int .i64 f) = (rfC { m with fuse := f }).toArray := by
  have h : (rowsC m.rows).length = 16 := by rw [rowsC_len, n]
  simp only [rfC, List.setIfInBounds_toArray]
  rw [List.set_append_right _ _ (by omega), h]; rfl
theorem rfC_setD {m : RfM} (n : m.rows.length = 16) (z : Bool) : (rfC m).toArray.setIfInBounds 18 (.bool z) = (rfC { m with dead := z }).toArray := by
  have h : (rowsC m.rows).length = 16 := by rw [rowsC_len, n]
  simp only [rfC, List.setIfInBounds_toArray]
  rw [List.set_append_right _ _ (by omega), h]; rfl
theorem RfTo.cells {w w' : World} {g : Nat} {m : RfM} (h : RfOk w g m) {f : Int} {z : Bool} (hb : Blk w' g 57 (rfC { m with fuse := f, dead := z }).toArray) (hK : Keeps (fun j => j = g) w w') : RfTo w g m w' { m with fuse := f, dead := z } := by
  refine ⟨⟨hb, h.n, fun r hr => RowM.keep (h.o r hr) hK (fun j e he => ?_), own_keep h.ww hK (fun j e he => ?_), fun p hp => ⟨(h.p p hp).1, (h.p p hp).2.1, RowM.keep (h.p p hp).2.2 hK (fun j e he => ?_)⟩⟩, fun j hj => .inl hj, fun j hj => .inl hj, hK.mono (fun j _ hj => .inl hj)⟩
  · exact h.off (h.o r hr) e (.inl he)
  · subst he
    exact h.b.notOwn h.ww (by decide) e.symm
  · exact h.off (h.p p hp).2.2 e (.inl he)
/-- The same data. -/
structure RelR (D : DkD) (m : RfM) : Prop where
  x : ∀ i, i < 16 → rowD D.X i = rowD (dataR m) i
  w : D.W = m.W.map PutR.d
  f : D.fuse = m.fuse
  d : D.dead = m.dead
def burnR (m : RfM) : RfM × Int := if m.dead = true then (m, 20) else if m.fuse = 0 then ({ m with fuse := m.fuse, dead := true }, 19) else if 0 < m.fuse then ({ m with fuse := m.fuse - 1, dead := m.dead }, 0) else (m, 0)
theorem RelR.burn {D : DkD} {m : RfM} (h : RelR D m) (hf : -1 ≤ D.fuse) (hd : D.dead = false) : RelR (burnD D).1 (burnR m).1 ∧ (burnR m).2 = (burnD D).2 := by
  have h1 := h.f
  have h2 : m.dead = false := by rw [← h.d]; exact hd
  have e : burnR m = if m.fuse = 0 then ({ m with fuse := m.fuse, dead := true }, 19) else if 0 < m.fuse then ({ m with fuse := m.fuse - 1, dead := m.dead }, 0) else (m, 0) := by
    unfold burnR; rw [h2]; rfl
  rw [e]
  unfold burnD
  by_cases ha : D.fuse = -1
  · have e1 : (D.fuse == -1) = true := by rw [ha]; rfl
    rw [e1, if_neg (by omega), if_neg (by omega)]
    exact ⟨h, rfl⟩
  · have e1 : (D.fuse == -1) = false := by simpa using ha
    rw [e1]
    by_cases hb : D.fuse = 0
    · have e2 : (D.fuse == 0) = true := by rw [hb]; rfl
      rw [e2, if_pos (by omega)]
      exact ⟨⟨h.x, h.w, h.f, rfl⟩, rfl⟩
    · have e2 : (D.fuse == 0) = false := by simpa using hb
      rw [e2, if_neg (by omega), if_pos (by omega)]
      exact ⟨⟨h.x, h.w, by show D.fuse - 1 = m.fuse - 1; rw [h1], h.d⟩, rfl⟩
/-- A step's answer is not looked at. -/
def RPost (w : World) (g : Nat) (m : RfM) (D : DkD) (e : Ending) (w' : World) : Prop := ∃ n m', e = .returned (.int .i64 n) ∧ RfTo w g m w' m' ∧ RelR D m'

/-- A step's answer, too. -/
def RPostS (w : World) (g : Nat) (m : RfM) (R : DkD × Int) (e : Ending) (w' : World) : Prop := ∃ n m', e = .returned (.int .i64 n) ∧ n = R.2 ∧ RfTo w g m w' m' ∧ RelR R.1 m'
theorem RPostS.is {w w' : World} {g : Nat} {m : RfM} {R : DkD × Int} {n : Int} (m' : RfM) (t : RfTo w g m w' m') (r : RelR R.1 m') (hn : n = R.2) : RPostS w g m R (.returned (.int .i64 n)) w' := ⟨n, m', rfl, hn, t, r⟩
theorem RPostS.weak {w w' : World} {g : Nat} {m : RfM} {R : DkD × Int} {e : Ending} (h : RPostS w g m R e w') : RPost w g m R.1 e w' := by
  obtain ⟨n, m', h1, -, h2, h3⟩ := h
  exact ⟨n, m', h1, h2, h3⟩
theorem RPost.is {w w' : World} {g : Nat} {m : RfM} {D : DkD} {n : Int} (m' : RfM) (t : RfTo w g m w' m') (r : RelR D m') : RPost w g m D (.returned (.int .i64 n)) w' := ⟨n, m', rfl, t, r⟩
theorem rnew_any (w : World) : Calls Tryd.prog 7 #[] w fun e w' => ∃ g m, e = .returned (ptrD g) ∧ RfOk w' g m ∧ (∀ j, allR g m j → w.heap.size ≤ j) ∧ RelR newD m ∧ Below w.heap.size w w' := by
  have HB : Hid (Blk (w.alloc (.cells (rfC ⟨List.replicate 16 noRow, none, 0, [], -1, false⟩).toArray 57)) w.heap.size 57 (rfC ⟨List.replicate 16 noRow, none, 0, [], -1, false⟩).toArray) := heap_alloc_new w _
  have hbd : ∀ wq, (Instr.build 57 #[(2, .int .i64 (-1))]).run Tryd.prog wq = .ok (.agg (rfC ⟨List.replicate 16 noRow, none, 0, [], -1, false⟩).toArray) wq := fun wq => by kernel_rfl
  go_enter Tryd.func7, Tryd.ntmps7
  go_wp2
  go_ret
  have hno : ∀ r ∈ List.replicate 16 noRow, r = noRow := fun r hr => List.eq_of_mem_replicate hr
  refine ⟨w.heap.size, ⟨List.replicate 16 noRow, none, 0, [], -1, false⟩, rfl, ⟨HB.out, rfl, fun r hr => by rw [hno r hr]; exact noRow_own _, World.ownsRow_nil _ _ _ _, fun p hp => by cases hp⟩, fun j hj => ?_, ⟨fun i hi => ?_, rfl, rfl, rfl⟩, nxAlloc (nxRefl w) _⟩
  · rcases hj with (rfl | h) | ⟨r, h | ⟨p, hp, _⟩, hb⟩
    · exact Nat.le_refl _
    · cases h
    · rw [hno r h] at hb; cases hb
    · cases hp
  · have h1 : rowD newD.X i = [] := by unfold rowD newD; rw [List.getD_eq_getElem?_getD, List.getElem?_replicate]; split <;> rfl
    rw [h1]
    unfold rowD dataR
    rw [List.getD_eq_getElem?_getD, List.getElem?_map, List.getElem?_replicate, if_pos hi]
    rfl
theorem rburn_any (w : World) (g : Nat) (m : RfM) (h : RfOk w g m) (hf : m.fuse < 9223372036854775808) : Calls Tryd.prog 52 #[ptrD g] w fun e w' => e = .returned (.int .i64 (burnR m).2) ∧ RfTo w g m w' (burnR m).1 := by
  have H := Lib.hid h
  have c17 := h.cF
  have c18 := h.cD
  have f17 : w.frozen? ⟨g, 17, none⟩ = false := h.b.frozen _
  have f18 : w.frozen? ⟨g, 18, none⟩ = false := h.b.frozen _
  obtain ⟨R, hR⟩ : ∃ R, burnR m = R := ⟨_, rfl⟩
  have HR := Lib.hid hR
  rw [hR]
  unfold ptrD
  clear h hR
  by_cases hd : m.dead = true
  · rw [hd] at c18
    have HRn : Hid (R = (m, 20)) := by show _ = _; rw [← HR.out, burnR, if_pos hd]
    go_enter Tryd.func52, Tryd.ntmps52
    go_wp2
    go_ret
    exact ⟨by rw [HRn.out] <;> rfl, by rw [HRn.out]; exact RfTo.refl H.out⟩
  · have hd2 : m.dead = false := by simpa using hd
    rw [hd2] at c18
    by_cases h0 : m.fuse = 0
    · rw [h0] at c17
      have HRn : Hid (R = ({ m with fuse := m.fuse, dead := true }, 19)) := by show _ = _; rw [← HR.out, burnR, if_neg hd, if_pos h0]
      have HK : Hid (Keeps (fun j => j = g) w (w.setCell ⟨g, 18, none⟩ (.bool true))) := Keeps.setCell (S := fun j => j = g) (p := ⟨g, 18, none⟩) (Keeps.refl _ _) rfl _
      go_enter Tryd.func52, Tryd.ntmps52
      go_wp2
      go_ret
      refine ⟨by rw [HRn.out] <;> rfl, by rw [HRn.out]; exact RfTo.cells H.out (by have h := H.out.b.set 18 (.bool true); rw [rfC_setD H.out.n] at h; exact h) HK.out⟩
    · by_cases h1 : 0 < m.fuse
      · have HRn : Hid (R = ({ m with fuse := m.fuse - 1, dead := m.dead }, 0)) := by show _ = _; rw [← HR.out, burnR, if_neg hd, if_neg h0, if_pos h1]
        have hwf : IntKind.i64.wrap (m.fuse - 1) = m.fuse - 1 := by rw [IntKind.wrap_i64]; omega
        have HK : Hid (Keeps (fun j => j = g) w (w.setCell ⟨g, 17, none⟩ (.int .i64 (m.fuse - 1)))) := Keeps.setCell (S := fun j => j = g) (p := ⟨g, 17, none⟩) (Keeps.refl _ _) rfl _
        have hd0 : decide (m.fuse = 0) = false := decide_eq_false h0
        have hd1 : decide (0 < m.fuse) = true := decide_eq_true h1
        go_enter Tryd.func52, Tryd.ntmps52
        go_wp2
        go_ret
        refine ⟨by rw [HRn.out] <;> rfl, by rw [HRn.out]; exact RfTo.cells H.out (by have h := H.out.b.set 17 (.int .i64 (m.fuse - 1)); rw [rfC_setF H.out.n] at h; exact h) HK.out⟩
      · have HRn : Hid (R = (m, 0)) := by show _ = _; rw [← HR.out, burnR, if_neg hd, if_neg h0, if_neg h1]
        have hd0 : decide (m.fuse = 0) = false := decide_eq_false h0
        have hd1 : decide (0 < m.fuse) = false := decide_eq_false h1
        go_enter Tryd.func52, Tryd.ntmps52
        go_wp2
        go_ret
        exact ⟨by rw [HRn.out] <;> rfl, by rw [HRn.out]; exact RfTo.refl H.out⟩
theorem rsetFuse_anyS (w : World) (g : Nat) (m : RfM) (D : DkD) (h : RfOk w g m) (hD : RelR D m) (n : Int) : Calls Tryd.prog 30 #[ptrD g, .int .i64 n] w (RPostS w g m (fuseD D n)) := by
  have H := Lib.hid h
  have c17 := h.cF
  have f17 : w.frozen? ⟨g, 17, none⟩ = false := h.b.frozen _
  have HDD := Lib.hid hD
  unfold ptrD
  clear h hD
  by_cases h0 : n < 0
  · have e0 : decide (n < 0) = true := decide_eq_true h0
    have HF : Hid (fuseD D n = (D, 2)) := by show _ = _; unfold fuseD; rw [e0]; rfl
    rw [HF.out]
    go_enter Tryd.func30, Tryd.ntmps30
    go_wp2
    go_ret
    exact RPostS.is m (RfTo.refl H.out) HDD.out rfl
  · have e0 : decide (n < 0) = false := decide_eq_false h0
    have HF : Hid (fuseD D n = ({ D with fuse := n }, 0)) := by show _ = _; unfold fuseD; rw [e0]; rfl
    rw [HF.out]
    have HK : Hid (Keeps (fun j => j = g) w (w.setCell ⟨g, 17, none⟩ (.int .i64 n))) := Keeps.setCell (S := fun j => j = g) (p := ⟨g, 17, none⟩) (Keeps.refl _ _) rfl _
    go_enter Tryd.func30, Tryd.ntmps30
    go_wp2
    go_ret
    exact RPostS.is { m with fuse := n, dead := m.dead } (RfTo.cells H.out (by have h := H.out.b.set 17 (.int .i64 n); rw [rfC_setF H.out.n] at h; exact h) HK.out) ⟨HDD.out.x, HDD.out.w, rfl, HDD.out.d⟩ rfl
theorem rsetFuse_any (w : World) (g : Nat) (m : RfM) (D : DkD) (h : RfOk w g m) (hD : RelR D m) (n : Int) : Calls Tryd.prog 30 #[ptrD g, .int .i64 n] w (RPost w g m (fuseD D n).1) :=
  (rsetFuse_anyS w g m D h hD n).mono fun _ _ h => h.weak
end Go.Proofs.YthamlphebnhcpaaDoor
