/-
  disk: the document's own disk: a log that is cut.
-/
import Derived.Test.YtlepajddekblcaaDoorRf1
namespace Go.Proofs.YtlepajddekblcaaDoor
open Go.RowKit

theorem yieldsIf_minR {P : Program} {ops : Array Oper} {S : World → Prop} {o : Oper} {a : Act} (hw : Region.wanted o (yielded ops a.tmps) = true) (x y : Operand) (ho : o.op = .call { callee := .builtin .min, args := #[x, y], argTypes := #[3, 3] })
    (c m n : Int) (hx : a.eval x = .int .i64 c) (hy : a.eval y = .int .i64 m) (hn : (if m < c then m else c) = n) : YieldsIf P ops S o (.int .i64 n) a :=
  .inl ⟨hw, fun w _ => by
    unfold execOp
    have hr : (Builtin.min_ #[3, 3] o.type #[.int .i64 c, .int .i64 m]).run P w = .ok (.int .i64 n) w := by
      rw [← hn]
      by_cases hmc : m < c
      · rw [if_pos hmc]; simp [Builtin.min_, Builtin.min2, hmc]
      · rw [if_neg hmc]; simp [Builtin.min_, Builtin.min2, hmc]
    simp only [ho, resolve, invoke, builtin, Sem.run_bind, Sem.run_pure, Result.andThen_ok, List.map_toArray, List.map_cons, List.map_nil, hx, hy, hr]⟩
set_option maxHeartbeats 2000000 in
set_option maxRecDepth 100000 in
theorem done_cut (w : World) (rows : List RowM) (p : PutR) (hn : rows.length = 16) (hi : p.log < 16) (hr : SeenR w (rows.getD p.log noRow)) (hc : p.cut = true) (h0 : 0 ≤ p.n) (hl : (rows.getD p.log noRow).l.length ≤ 100000000) :
    Calls Tryd.prog 76 #[.agg (rowsC rows).toArray, .agg (putC p).toArray] w fun e w' => ∃ r, e = .returned (.agg (rowsC (rows.set p.log r)).toArray) ∧ DoneTo w rows p w' r := by
  obtain ⟨log, pn, cut, pA, pc, b⟩ := p
  dsimp only at hi hr h0 hc hl
  subst hc
  obtain ⟨r, hrr⟩ : ∃ r, rows.getD log noRow = r := ⟨_, rfl⟩
  rw [hrr] at hr hl
  have HR : Hid (rows.getD log noRow = r) := hrr
  clear hrr
  obtain ⟨ll, hll⟩ : ∃ n, r.l.length = n := ⟨_, rfl⟩
  have HLl : Hid (r.l.length = ll) := hll
  obtain ⟨W1, hW1⟩ : ∃ W, w.alloc (.cells (rowsC rows).toArray 79) = W := ⟨_, rfl⟩
  obtain ⟨W2, hW2⟩ : ∃ W, W1.alloc (.cells (putC ⟨log, pn, true, pA, pc, b⟩).toArray 128) = W := ⟨_, rfl⟩
  have hz1 : W1.heap.size = w.heap.size + 1 := by rw [← hW1]; simp
  have hz2 : W2.heap.size = w.heap.size + 1 + 1 := by rw [← hW2]; simp [hz1]
  have hB1 : Blk W1 w.heap.size 79 (rowsC rows).toArray := by rw [← hW1]; exact heap_alloc_new w _
  have hB2 : Blk W2 w.heap.size 79 (rowsC rows).toArray := by rw [← hW2]; exact hB1.alloc _
  have hP2 : Blk W2 (w.heap.size + 1) 128 (putC ⟨log, pn, true, pA, pc, b⟩).toArray := by rw [← hW2, ← hz1]; exact heap_alloc_new W1 _
  have c2 : W2.cell? ⟨w.heap.size + 1, 2, none⟩ = some (.bool true) := hP2.cell 2
  have hv2 : Below w.heap.size w W2 := by rw [← hW2, ← hW1]; exact nxAlloc (nxAlloc (nxRefl w) _) _
  go_enter Tryd.func76, Tryd.ntmps76
  go_upto_region 2 with fail
  have hB3 : Blk (W2.alloc (.cells (Array.replicate 16 (Value.slice none 0 0)) 79)) w.heap.size 79 (rowsC rows).toArray := hB2.alloc _
  have hP3 : Blk (W2.alloc (.cells (Array.replicate 16 (Value.slice none 0 0)) 79)) (w.heap.size + 1) 128 (putC ⟨log, pn, true, pA, pc, b⟩).toArray := hP2.alloc _
  have hZ3 : Blk (W2.alloc (.cells (Array.replicate 16 (Value.slice none 0 0)) 79)) (w.heap.size + 1 + 1) 79 (Array.replicate 16 (Value.slice none 0 0)) := by rw [← hz2]; exact heap_alloc_new W2 _
  have hv3 : Below w.heap.size w (W2.alloc (.cells (Array.replicate 16 (Value.slice none 0 0)) 79)) := nxAlloc hv2 _
  have hz3 : (W2.alloc (.cells (Array.replicate 16 (Value.slice none 0 0)) 79)).heap.size = w.heap.size + 1 + 1 + 1 := by simp [hz2]
  show Code.wp _ _ _ _ (W2.alloc (.cells (Array.replicate 16 (Value.slice none 0 0)) 79))
  generalize W2.alloc (.cells (Array.replicate 16 (Value.slice none 0 0)) 79) = W3 at hB3 hP3 hZ3 hv3 hz3 ⊢
  have HC1 : Hid (W3.cell? ⟨w.heap.size + 1, 0, none⟩ = some (.int .i64 (log : Int))) := hP3.cell 0
  have HC2 : Hid (W3.cell? ⟨w.heap.size + 1, 1, none⟩ = some (.int .i64 pn)) := hP3.cell 1
  have HC3 : Hid (W3.cell? ⟨w.heap.size, log, none⟩ = some (.slice r.A ll r.c)) := (hB3.cell log).trans (by rw [List.getElem?_toArray, rowsC_at (by omega), HR.out, ← hll]; rfl)
  have B3 := Lib.hid hB3
  have P3 := Lib.hid hP3
  have Z3 := Lib.hid hZ3
  have V3 := Lib.hid hv3
  have E3 := Lib.hid hz3
  have SR : Hid (Sees W3 W3.heap.size r.A r.l) := (hr.s.later hv3).more hv3.size
  have HL := Lib.hid hl
  obtain ⟨i0, hi0, hz0, hz1, hz2⟩ := infoD Tryd.u8info
  have HI0 := Lib.hid hi0
  have hi2 : (log : Int) < 16 := by omega
  clear hB1 hB2 hP2 c2 hv2 hW1 hW2 hB3 hP3 hZ3 hv3 hz3 hl hi0
  obtain ⟨q, hq, hqn⟩ : ∃ q : Nat, q ≤ ll ∧ (if (ll : Int) < pn then (ll : Int) else pn) = (q : Int) ∧ r.l.take q = r.l.take pn.toNat := by
    by_cases h : (ll : Int) < pn
    · exact ⟨ll, Nat.le_refl _, if_pos h, by rw [List.take_of_length_le (by omega), List.take_of_length_le (by omega)]⟩
    · exact ⟨pn.toNat, by omega, by rw [if_neg h]; omega, rfl⟩
  obtain ⟨hqm, hqt⟩ := hqn
  obtain ⟨A1, hs1, hsl⟩ := low_sliceD ((hr.s.later V3.out).more V3.out.size) hr.c hr.m q (by omega)
  rw [hll] at hsl
  have S1 := Lib.hid hs1
  have HQt := Lib.hid hqt
  have HQl : Hid ((r.l.take q).length = q) := by show _ = _; rw [List.length_take]; omega
  have HQm := Lib.hid hqm
  have HQ := Lib.hid hq
  clear hs1 hqt hr hll hqm hq h0
  refine wp_region_K (fun W => W.cell? ⟨w.heap.size + 1, 0, none⟩ = some (.int .i64 (log : Int)) ∧ W.cell? ⟨w.heap.size + 1, 1, none⟩ = some (.int .i64 pn) ∧ W.cell? ⟨w.heap.size, log, none⟩ = some (.slice r.A ll r.c)) 17 (by kernel_rfl) ⟨HC1.out, HC2.out, HC3.out⟩ (fun hSn => ?_)
  refine wpAnyK_pure (i := 0) (oi := ⟨_, _, _, _, _, _⟩) (v := ?_) rfl (by kernel_rfl) (by kernel_rfl) (by kernel_rfl) rfl (fun _ _ _ h => h) (Or.inl ⟨by rfl, ?_⟩) hSn ?_
  rotate_left 1
  · intro W hSw
    go_simp
    try with_reducible rfl
  replace hSn := (KT.set (i := 0) (by decide)).2 hSn
  try simp only [Act.put, List.setIfInBounds_toArray, List.set_cons_zero, List.set_cons_succ]
  refine wpAnyK_chain (i := 1) [16, 17] (oi := ⟨_, _, _, _, _, _⟩) (v := ?_) rfl (by kernel_rfl) (by kernel_rfl) (by kernel_rfl) rfl (by kernel_rfl) (by kernel_rfl) (by kernel_rfl) (fun _ _ _ h => h) (Or.inl ⟨by rfl, ?_⟩) hSn ?_
  rotate_left 1
  · intro W hSw
    try dsimp only at hSw
    obtain ⟨hs1, hs2, hs3⟩ := hSw
    go_simp
    try with_reducible rfl
  replace hSn := (KT.set (i := 1) (by decide)).2 hSn
  try simp only [Act.put, List.setIfInBounds_toArray, List.set_cons_zero, List.set_cons_succ]
  refine wpAnyK_pure (i := 2) (oi := ⟨_, _, _, _, _, _⟩) (v := ?_) rfl (by kernel_rfl) (by kernel_rfl) (by kernel_rfl) rfl (fun _ _ _ h => h) (Or.inl ⟨by rfl, ?_⟩) hSn ?_
  rotate_left 1
  · intro W hSw
    go_simp
    try with_reducible rfl
  replace hSn := (KT.set (i := 2) (by decide)).2 hSn
  try simp only [Act.put, List.setIfInBounds_toArray, List.set_cons_zero, List.set_cons_succ]
  refine wpAnyK_chain (i := 3) [4, 5, 14, 15, 17] (oi := ⟨_, _, _, _, _, _⟩) (v := ?_) rfl (by kernel_rfl) (by kernel_rfl) (by kernel_rfl) rfl (by kernel_rfl) (by kernel_rfl) (by kernel_rfl) (fun _ _ _ h => h) (Or.inl ⟨by rfl, ?_⟩) hSn ?_
  rotate_left 1
  · intro W hSw
    try dsimp only at hSw
    obtain ⟨hs1, hs2, hs3⟩ := hSw
    go_simp
    try with_reducible rfl
  replace hSn := (KT.set (i := 3) (by decide)).2 hSn
  try simp only [Act.put, List.setIfInBounds_toArray, List.set_cons_zero, List.set_cons_succ]
  refine wpAnyK_pure (i := 4) (oi := ⟨_, _, _, _, _, _⟩) (v := ?_) rfl (by kernel_rfl) (by kernel_rfl) (by kernel_rfl) rfl (fun _ _ _ h => h) (Or.inl ⟨by rfl, ?_⟩) hSn ?_
  rotate_left 1
  · intro W hSw
    go_simp
    try with_reducible rfl
  replace hSn := (KT.set (i := 4) (by decide)).2 hSn
  try simp only [Act.put, List.setIfInBounds_toArray, List.set_cons_zero, List.set_cons_succ]
  refine wpAnyK_chain (i := 5) [14, 15, 17] (oi := ⟨_, _, _, _, _, _⟩) (v := ?_) rfl (by kernel_rfl) (by kernel_rfl) (by kernel_rfl) rfl (by kernel_rfl) (by kernel_rfl) (by kernel_rfl) (fun _ _ _ h => h) (Or.inl ⟨by rfl, ?_⟩) hSn ?_
  rotate_left 1
  · intro W hSw
    try dsimp only at hSw
    obtain ⟨hs1, hs2, hs3⟩ := hSw
    go_simp
    try with_reducible rfl
  replace hSn := (KT.set (i := 5) (by decide)).2 hSn
  try simp only [Act.put, List.setIfInBounds_toArray, List.set_cons_zero, List.set_cons_succ]
  refine wpAnyK_pure (i := 6) (oi := ⟨_, _, _, _, _, _⟩) (v := ?_) rfl (by kernel_rfl) (by kernel_rfl) (by kernel_rfl) rfl (fun _ _ _ h => h) (Or.inl ⟨by rfl, ?_⟩) hSn ?_
  rotate_left 1
  · intro W hSw
    go_simp
    try with_reducible rfl
  replace hSn := (KT.set (i := 6) (by decide)).2 hSn
  try simp only [Act.put, List.setIfInBounds_toArray, List.set_cons_zero, List.set_cons_succ]
  refine wpAnyK_chain (i := 7) [13, 14, 15, 17] (oi := ⟨_, _, _, _, _, _⟩) (v := ?_) rfl (by kernel_rfl) (by kernel_rfl) (by kernel_rfl) rfl (by kernel_rfl) (by kernel_rfl) (by kernel_rfl) (fun _ _ _ h => h) (Or.inl ⟨by rfl, ?_⟩) hSn ?_
  rotate_left 1
  · intro W hSw
    try dsimp only at hSw
    obtain ⟨hs1, hs2, hs3⟩ := hSw
    go_simp
    try with_reducible rfl
  replace hSn := (KT.set (i := 7) (by decide)).2 hSn
  try simp only [Act.put, List.setIfInBounds_toArray, List.set_cons_zero, List.set_cons_succ]
  refine wpAnyK_pure (i := 8) (oi := ⟨_, _, _, _, _, _⟩) (v := ?_) rfl (by kernel_rfl) (by kernel_rfl) (by kernel_rfl) rfl (fun _ _ _ h => h) (Or.inl ⟨by rfl, ?_⟩) hSn ?_
  rotate_left 1
  · intro W hSw
    go_simp
    try with_reducible rfl
  replace hSn := (KT.set (i := 8) (by decide)).2 hSn
  try simp only [Act.put, List.setIfInBounds_toArray, List.set_cons_zero, List.set_cons_succ]
  refine wpAnyK_chain (i := 9) [10, 11, 12, 13, 14, 15, 17] (oi := ⟨_, _, _, _, _, _⟩) (v := ?_) rfl (by kernel_rfl) (by kernel_rfl) (by kernel_rfl) rfl (by kernel_rfl) (by kernel_rfl) (by kernel_rfl) (fun _ _ _ h => h) (Or.inl ⟨by rfl, ?_⟩) hSn ?_
  rotate_left 1
  · intro W hSw
    try dsimp only at hSw
    obtain ⟨hs1, hs2, hs3⟩ := hSw
    go_simp
    try with_reducible rfl
  replace hSn := (KT.set (i := 9) (by decide)).2 hSn
  try simp only [Act.put, List.setIfInBounds_toArray, List.set_cons_zero, List.set_cons_succ]
  refine wpAnyK_pure (i := 10) (oi := ⟨_, _, _, _, _, _⟩) (v := ?_) rfl (by kernel_rfl) (by kernel_rfl) (by kernel_rfl) rfl (fun _ _ _ h => h) (Or.inl ⟨by rfl, ?_⟩) hSn ?_
  rotate_left 1
  · intro W hSw
    go_simp
    try with_reducible rfl
  replace hSn := (KT.set (i := 10) (by decide)).2 hSn
  try simp only [Act.put, List.setIfInBounds_toArray, List.set_cons_zero, List.set_cons_succ]
  refine wpAnyK_chain (i := 11) [12, 13, 14, 15, 17] (oi := ⟨_, _, _, _, _, _⟩) (v := ?_) rfl (by kernel_rfl) (by kernel_rfl) (by kernel_rfl) rfl (by kernel_rfl) (by kernel_rfl) (by kernel_rfl) (fun _ _ _ h => h) (Or.inl ⟨by rfl, ?_⟩) hSn ?_
  rotate_left 1
  · intro W hSw
    try dsimp only at hSw
    obtain ⟨hs1, hs2, hs3⟩ := hSw
    go_simp
    try with_reducible rfl
  replace hSn := (KT.set (i := 11) (by decide)).2 hSn
  try simp only [Act.put, List.setIfInBounds_toArray, List.set_cons_zero, List.set_cons_succ]
  refine wpAnyK_pure (i := 12) (oi := ⟨_, _, _, _, _, _⟩) (v := ?_) rfl (by kernel_rfl) (by kernel_rfl) (by kernel_rfl) rfl (fun _ _ _ h => h) (Or.inl ⟨by rfl, ?_⟩) hSn ?_
  rotate_left 1
  · intro W hSw
    go_simp
    try with_reducible rfl
  replace hSn := (KT.set (i := 12) (by decide)).2 hSn
  try simp only [Act.put, List.setIfInBounds_toArray, List.set_cons_zero, List.set_cons_succ]
  refine wpAnyK_pure (i := 13) (oi := ⟨_, _, _, _, _, _⟩) (v := .int .i64 (q : Int)) rfl (by kernel_rfl) (by kernel_rfl) (by kernel_rfl) rfl (fun _ _ _ h => h) (yieldsIf_minR (by rfl) (.tmp 14) (.tmp 19) rfl pn (ll : Int) (q : Int) rfl rfl HQm.out) hSn ?_
  replace hSn := (KT.set (i := 13) (by decide)).2 hSn
  try simp only [Act.put, List.setIfInBounds_toArray, List.set_cons_zero, List.set_cons_succ]
  refine wpAnyK_pure (i := 14) (oi := ⟨_, _, _, _, _, _⟩) (v := ?_) rfl (by kernel_rfl) (by kernel_rfl) (by kernel_rfl) rfl (fun _ _ _ h => h) (Or.inl ⟨by rfl, ?_⟩) hSn ?_
  rotate_left 1
  · intro W hSw
    go_simp
    try with_reducible rfl
  replace hSn := (KT.set (i := 14) (by decide)).2 hSn
  try simp only [Act.put, List.setIfInBounds_toArray, List.set_cons_zero, List.set_cons_succ]
  clear hSn
  refine wpAnyK_ready (rs := [15]) (by kernel_rfl) (by simp) ?_
  refine AllReadyK.cons rfl (fun K hK => ?_) AllReadyK.nil
  refine step_append_seesD (o := ⟨some 22, _, _, _, _, _⟩) rfl (.const (.slice none 0 0)) (.tmp 21) 23 rfl W3.heap.size 5 i0 _ Tryd.underlying23 HI0.out hz0 hz1 hz2 rfl (.slice none 0 0) 0 [] rfl (World.ownsRow_nil _ _ _ _) W3.heap.size A1 q r.c (r.l.take q) rfl HQl.out.symm S1.out (by have := HL.out; have := HLl.out; have := HQ.out; omega) (Nat.le_refl _) ?_
  intro v5 w5 h1 h2 h3
  simp only [Nat.zero_add, List.nil_append] at h1
  obtain ⟨A5, c5, rfl⟩ := own_form h1
  have O5 := Lib.hid h1
  have K5 : Hid (Keeps (fun j => W3.heap.size ≤ j) W3 w5) := Keeps.grown (Keeps.refl _ W3).drew h2 (fun k e => by cases e)
  clear h1 h2 h3
  have hw3 := E3.out
  have c51 := (K5.out.cell (p := ⟨w.heap.size + 1, 0, none⟩) P3.out.lt (by show ¬ W3.heap.size ≤ w.heap.size + 1; omega)).trans HC1.out
  have c52 := (K5.out.cell (p := ⟨w.heap.size + 1, 1, none⟩) P3.out.lt (by show ¬ W3.heap.size ≤ w.heap.size + 1; omega)).trans HC2.out
  have c53 := (K5.out.cell (p := ⟨w.heap.size, log, none⟩) B3.out.lt (by show ¬ W3.heap.size ≤ w.heap.size; omega)).trans HC3.out
  have B5 : Hid (Blk w5 w.heap.size 79 (rowsC rows).toArray) := B3.out.keeps K5.out (by omega)
  have Z5 : Hid (Blk w5 (w.heap.size + 1 + 1) 79 (Array.replicate 16 (Value.slice none 0 0))) := Z3.out.keeps K5.out (by omega)
  refine hK.out _ _ (fun _ => ⟨c51, c52, c53⟩) (fun hSn => ?_)
  clear hK K
  try simp only [Act.put, List.setIfInBounds_toArray, List.set_cons_zero, List.set_cons_succ]
  have f53 : w5.frozen? ⟨w.heap.size, log, none⟩ = false := B5.out.frozen _
  refine wpAnyK_pure (i := 16) (oi := ⟨_, _, _, _, _, _⟩) (v := ?_) rfl (by kernel_rfl) (by kernel_rfl) (by kernel_rfl) rfl (fun _ _ _ h => h) (Or.inl ⟨by rfl, ?_⟩) hSn ?_
  rotate_left 1
  · intro W hSw
    go_simp
    try with_reducible rfl
  replace hSn := (KT.set (i := 16) (by decide)).2 hSn
  try simp only [Act.put, List.setIfInBounds_toArray, List.set_cons_zero, List.set_cons_succ]
  clear hSn
  refine wpAnyK_ready (rs := [17]) (by kernel_rfl) (by simp) ?_
  refine AllReadyK.cons rfl (fun K hK => ?_) AllReadyK.nil
  go_simp
  refine hK.out _ _ (fun h => absurd h (by decide +kernel)) (fun hSn => ?_)
  clear hK K
  try simp only [Act.put, List.setIfInBounds_toArray, List.set_cons_zero, List.set_cons_succ]
  refine wpAnyK_done (by kernel_rfl) ?_ _
  have hlen : (r.l.take q).length = q := HQl.out
  have hv : (⟨A5, c5, r.l.take q⟩ : RowM).v = .slice A5 q c5 := by show Value.slice A5 (r.l.take q).length c5 = _; rw [hlen]
  have B6 : Hid (Blk (w5.setCell ⟨w.heap.size, log, none⟩ (.slice A5 q c5)) w.heap.size 79 (rowsC (rows.set log ⟨A5, c5, r.l.take q⟩)).toArray) := by
    have h := B5.out.set log (.slice A5 q c5)
    rw [← hv, rowsC_set, hv] at h
    exact h
  have Z6 : Hid (Blk (w5.setCell ⟨w.heap.size, log, none⟩ (.slice A5 q c5)) (w.heap.size + 1 + 1) 79 (Array.replicate 16 (Value.slice none 0 0))) := Z5.out.far (by show w.heap.size + 1 + 1 ≠ w.heap.size; omega) _
  have K6 : Hid (Keeps (fun j => W3.heap.size ≤ j ∨ j = w.heap.size) W3 (w5.setCell ⟨w.heap.size, log, none⟩ (.slice A5 q c5))) := Keeps.setCell (S := fun j => W3.heap.size ≤ j ∨ j = w.heap.size) (p := ⟨w.heap.size, log, none⟩) (K5.out.mono (fun j _ h => Or.inl h)) (.inr rfl) _
  have O6 : Hid ((w5.setCell ⟨w.heap.size, log, none⟩ (.slice A5 q c5)).ownsRow W3.heap.size 5 1 (.slice A5 q c5) q (By (r.l.take q))) := own_store O5.out B5.out (by decide) _ _
  have HRn : Hid ((rowsC (rows.set log ⟨A5, c5, r.l.take q⟩)).length = 16) := by show _ = _; rw [rowsC_len, List.length_set, hn]
  generalize w5.setCell ⟨w.heap.size, log, none⟩ (.slice A5 q c5) = w6 at B6 Z6 K6 O6 ⊢
  clear c51 c52 c53 f53 hSn
  have HSz : Hid ((Tryd.prog.info? 79).map (·.size) = some (rowsC (rows.set log ⟨A5, c5, r.l.take q⟩)).length) := by show _ = _; rw [HRn.out]; exact Tryd.rowsSize
  have HSa : Hid ((Tryd.prog.info? 79).map (·.size) = some (rowsC (rows.set log ⟨A5, c5, r.l.take q⟩)).toArray.size) := by show _ = _; rw [List.size_toArray, HRn.out]; exact Tryd.rowsSize
  have HSb : Hid ((Array.replicate 16 (Value.slice none 0 0)).size = (rowsC (rows.set log ⟨A5, c5, r.l.take q⟩)).toArray.size) := by show _ = _; rw [Array.size_replicate]; exact HRn.out.symm
  go_wp2_with (first
    | ((with_reducible show wpList _ _ _ (⟨some 35, _, _, _, _, _⟩ :: _) _ _); refine wpList_load_mid rfl 79 (.tmp 2) rfl w.heap.size 0 rfl (rowsC (rows.set log ⟨A5, c5, r.l.take q⟩)) _ (blk_rangeR B6.out) Tryd.underlying79 rfl HSz.out ?_)
    | ((with_reducible show wpList _ _ _ (⟨none, _, _, _, _, _⟩ :: _) _ _); refine wpList_store_wholeD rfl 79 (.tmp 4) (.tmp 35) rfl (w.heap.size + 1 + 1) 79 (Array.replicate 16 (Value.slice none 0 0)) (rowsC (rows.set log ⟨A5, c5, r.l.take q⟩)).toArray rfl rfl Z6.out HSb.out HSa.out (rowsC_one _) ?_; intro w7 h5 h6 h7; have B7 := Lib.hid h5; have K7 := Lib.hid h6; clear h5 h6 h7))
  refine bodyPost_ret (results_cell_row Tryd.results76 _ _ (w.heap.size + 1 + 1) 79 _ (0, 0) _ rfl B7.out Tryd.underlying79 rfl HSa.out) rfl ⟨⟨A5, c5, r.l.take q⟩, rfl, ?_⟩
  have hw3 := E3.out
  have hK6 := K6.out.size
  have V6 : Below w.heap.size w w6 := V3.out.trans (K6.out.below V3.out.size (fun j hj h => by rcases h with h | h <;> omega))
  refine ⟨?_, ?_, fun j hj => ?_, V6.trans (K7.out.below V6.size (fun j hj h => by omega))⟩
  · show r.l.take q = doneL (rows.getD log noRow).l _
    rw [HR.out]; exact HQt.out
  · have h6 : RowM.own w6 ⟨A5, c5, r.l.take q⟩ := by
      show World.ownsRow _ _ _ _ _ _ _
      rw [hv, show (⟨A5, c5, r.l.take q⟩ : RowM).l.length = q from hlen, show By (⟨A5, c5, r.l.take q⟩ : RowM).l = By (r.l.take q) from rfl]
      exact own_lessR O6.out (Nat.zero_le _)
    exact RowM.keep h6 K7.out (fun j hj e => by have := (O6.out.lt j (by rw [own_blkD]; exact hj)).1; omega)
  · have := (O6.out.lt j (by rw [own_blkD]; exact hj)).1
    omega
end Go.Proofs.YtlepajddekblcaaDoor
