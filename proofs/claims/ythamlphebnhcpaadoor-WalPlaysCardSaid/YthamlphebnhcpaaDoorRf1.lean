/-
  disk: the document's own disk: what a step makes of logs.
-/
import Derived.Test.YthamlphebnhcpaaDoorDkG
import Derived.Deep.MidRow
namespace Go.Proofs.YthamlphebnhcpaaDoor
open Go.RowKit

/-- A step that waits, in the document's disk. -/
structure PutR where
  log : Nat
  n : Int
  cut : Bool
  A : Option Addr
  c : Nat
  b : List UInt8
def putC (p : PutR) : List Value := [.int .i64 (p.log : Int), .int .i64 p.n, .bool p.cut, .slice p.A p.b.length p.c]
/-- A row that is looked at. -/
structure SeenR (w : World) (r : RowM) : Prop where
  s : Sees w w.heap.size r.A r.l
  c : r.l.length ≤ r.c
  m : r.c ≤ maxLen
theorem SeenR.own {w : World} {r : RowM} (h : r.own w) : SeenR w r := ⟨RowM.sees h, (RowM.len h).1, (RowM.len h).2⟩
theorem SeenR.later {w w' : World} {r : RowM} (h : SeenR w r) (b : Below w.heap.size w w') : SeenR w' r := ⟨(h.s.later b).more b.size, h.c, h.m⟩
def doneL (l : List UInt8) (p : PutR) : List UInt8 := if p.cut then l.take p.n.toNat else l ++ p.b
/-- What a step leaves. -/
structure DoneTo (w : World) (rows : List RowM) (p : PutR) (w' : World) (r : RowM) : Prop where
  l : r.l = doneL (rows.getD p.log noRow).l p
  o : r.own w'
  n : ∀ j, r.bk = some j → w.heap.size ≤ j
  v : Below w.heap.size w w'
def rowsC (rows : List RowM) : List Value := rows.map RowM.v
theorem rowsC_len (rows : List RowM) : (rowsC rows).length = rows.length := List.length_map _
theorem rowsC_at {rows : List RowM} {i : Nat} (h : i < rows.length) : (rowsC rows)[i]? = some (rows.getD i noRow).v := by
  rw [rowsC, List.getElem?_map, List.getElem?_eq_getElem h, List.getD_eq_getElem?_getD, List.getElem?_eq_getElem h]
  rfl
theorem rowsC_one (rows : List RowM) : ∀ v ∈ (rowsC rows).toArray.toList, v.oneCell' = true := by
  intro v hv
  obtain ⟨r, _, rfl⟩ := List.mem_map.1 hv
  rfl
theorem rowsC_set (rows : List RowM) (i : Nat) (r : RowM) : (rowsC rows).toArray.setIfInBounds i r.v = (rowsC (rows.set i r)).toArray := by
  simp [rowsC, List.map_set]
theorem own_lessR {w : World} {b b' size n : Nat} {e : TypeId} {v : Value} {xs : List Value} (h : w.ownsRow b' e size v n xs) (hb : b ≤ b') : w.ownsRow b e size v n xs := by
  refine ⟨h.1, ?_⟩
  rcases h.2 with h2 | ⟨g, cap, cur, hv, hg, r⟩
  · exact .inl h2
  · exact .inr ⟨g, cap, cur, hv, Nat.le_trans hb hg, r⟩
theorem blk_rangeR {w : World} {g : Nat} {t : TypeId} {cs : List Value} (h : Blk w g t cs.toArray) : w.rangeAt g 0 cs := by
  intro i v hv
  rw [Nat.zero_add, h.cell]
  simpa using hv
theorem Tryd.rowsSize : (Tryd.prog.info? 50).map (·.size) = some 16 := by kernel_rfl
theorem Tryd.slSize : (Tryd.prog.info? 39).map (·.size) = some 1 := by kernel_rfl

set_option maxHeartbeats 2000000 in
set_option maxRecDepth 100000 in
theorem done_put (w : World) (rows : List RowM) (p : PutR) (hn : rows.length = 16) (hi : p.log < 16) (hr : SeenR w (rows.getD p.log noRow)) (hb : Sees w w.heap.size p.A p.b) (hc : p.cut = false) (hl : (rows.getD p.log noRow).l.length + p.b.length ≤ 100000000) :
    Calls Tryd.prog 55 #[.agg (rowsC rows).toArray, .agg (putC p).toArray] w fun e w' => ∃ r, e = .returned (.agg (rowsC (rows.set p.log r)).toArray) ∧ DoneTo w rows p w' r := by
  obtain ⟨log, pn, cut, pA, pc, b⟩ := p
  dsimp only at hi hr hb hc hl
  subst hc
  obtain ⟨r, hrr⟩ : ∃ r, rows.getD log noRow = r := ⟨_, rfl⟩
  rw [hrr] at hr hl
  have HR : Hid (rows.getD log noRow = r) := hrr
  clear hrr
  obtain ⟨ll, hll⟩ : ∃ n, r.l.length = n := ⟨_, rfl⟩
  have HLl : Hid (r.l.length = ll) := hll
  obtain ⟨W1, hW1⟩ : ∃ W, w.alloc (.cells (rowsC rows).toArray 50) = W := ⟨_, rfl⟩
  obtain ⟨W2, hW2⟩ : ∃ W, W1.alloc (.cells (putC ⟨log, pn, false, pA, pc, b⟩).toArray 97) = W := ⟨_, rfl⟩
  have hz1 : W1.heap.size = w.heap.size + 1 := by rw [← hW1]; simp
  have hz2 : W2.heap.size = w.heap.size + 1 + 1 := by rw [← hW2]; simp [hz1]
  have hB1 : Blk W1 w.heap.size 50 (rowsC rows).toArray := by rw [← hW1]; exact heap_alloc_new w _
  have hB2 : Blk W2 w.heap.size 50 (rowsC rows).toArray := by rw [← hW2]; exact hB1.alloc _
  have hP2 : Blk W2 (w.heap.size + 1) 97 (putC ⟨log, pn, false, pA, pc, b⟩).toArray := by rw [← hW2, ← hz1]; exact heap_alloc_new W1 _
  have c2 : W2.cell? ⟨w.heap.size + 1, 2, none⟩ = some (.bool false) := hP2.cell 2
  have hv2 : Below w.heap.size w W2 := by rw [← hW2, ← hW1]; exact nxAlloc (nxAlloc (nxRefl w) _) _
  go_enter Tryd.func55, Tryd.ntmps55
  go_upto_region 3 with fail
  have hB3 : Blk (W2.alloc (.cells (Array.replicate 16 (Value.slice none 0 0)) 50)) w.heap.size 50 (rowsC rows).toArray := hB2.alloc _
  have hP3 : Blk (W2.alloc (.cells (Array.replicate 16 (Value.slice none 0 0)) 50)) (w.heap.size + 1) 97 (putC ⟨log, pn, false, pA, pc, b⟩).toArray := hP2.alloc _
  have hZ3 : Blk (W2.alloc (.cells (Array.replicate 16 (Value.slice none 0 0)) 50)) (w.heap.size + 1 + 1) 50 (Array.replicate 16 (Value.slice none 0 0)) := by rw [← hz2]; exact heap_alloc_new W2 _
  have hv3 : Below w.heap.size w (W2.alloc (.cells (Array.replicate 16 (Value.slice none 0 0)) 50)) := nxAlloc hv2 _
  have hz3 : (W2.alloc (.cells (Array.replicate 16 (Value.slice none 0 0)) 50)).heap.size = w.heap.size + 1 + 1 + 1 := by simp [hz2]
  show Code.wp _ _ _ _ (W2.alloc (.cells (Array.replicate 16 (Value.slice none 0 0)) 50))
  generalize W2.alloc (.cells (Array.replicate 16 (Value.slice none 0 0)) 50) = W3 at hB3 hP3 hZ3 hv3 hz3 ⊢
  have HC1 : Hid (W3.cell? ⟨w.heap.size + 1, 0, none⟩ = some (.int .i64 (log : Int))) := hP3.cell 0
  have HC2 : Hid (W3.cell? ⟨w.heap.size + 1, 3, none⟩ = some (.slice pA b.length pc)) := hP3.cell 3
  have HC3 : Hid (W3.cell? ⟨w.heap.size, log, none⟩ = some (.slice r.A ll r.c)) := (hB3.cell log).trans (by rw [List.getElem?_toArray, rowsC_at (by omega), HR.out, ← hll]; rfl)
  have B3 := Lib.hid hB3
  have P3 := Lib.hid hP3
  have Z3 := Lib.hid hZ3
  have V3 := Lib.hid hv3
  have E3 := Lib.hid hz3
  have SR : Hid (Sees W3 W3.heap.size r.A r.l) := (hr.s.later hv3).more hv3.size
  have SB : Hid (Sees W3 W3.heap.size pA b) := (hb.later hv3).more hv3.size
  have HL := Lib.hid hl
  obtain ⟨i0, hi0, hz0, hz1, hz2⟩ := infoD Tryd.u8info
  have HI0 := Lib.hid hi0
  have hi2 : (log : Int) < 16 := by omega
  clear hB1 hB2 hP2 c2 hv2 hW1 hW2 hB3 hP3 hZ3 hv3 hz3 hr hb hl hi0 hll
  refine wp_region_K (fun W => W.cell? ⟨w.heap.size + 1, 0, none⟩ = some (.int .i64 (log : Int)) ∧ W.cell? ⟨w.heap.size + 1, 3, none⟩ = some (.slice pA b.length pc) ∧ W.cell? ⟨w.heap.size, log, none⟩ = some (.slice r.A ll r.c)) 11 (by kernel_rfl) ⟨HC1.out, HC2.out, HC3.out⟩ (fun hSn => ?_)
  refine wpAnyK_pure (i := 0) (oi := ⟨_, _, _, _, _, _⟩) (v := ?_) rfl (by kernel_rfl) (by kernel_rfl) (by kernel_rfl) rfl (fun _ _ _ h => h) (Or.inl ⟨by rfl, ?_⟩) hSn ?_
  rotate_left 1
  · intro W hSw
    go_simp
    try with_reducible rfl
  replace hSn := (KT.set (i := 0) (by decide)).2 hSn
  try simp only [Act.put, List.setIfInBounds_toArray, List.set_cons_zero, List.set_cons_succ]
  refine wpAnyK_chain (i := 1) [10, 11] (oi := ⟨_, _, _, _, _, _⟩) (v := ?_) rfl (by kernel_rfl) (by kernel_rfl) (by kernel_rfl) rfl (by kernel_rfl) (by kernel_rfl) (by kernel_rfl) (fun _ _ _ h => h) (Or.inl ⟨by rfl, ?_⟩) hSn ?_
  rotate_left 1
  · intro W hSw
    try dsimp only at hSw
    obtain ⟨hs1, hs2, hs3⟩ := hSw
    go_simp
    try with_reducible rfl
  replace hSn := (KT.set (i := 1) (by decide)).2 hSn
  try simp only [Act.put, List.setIfInBounds_toArray, List.set_cons_zero, List.set_cons_succ]
  refine wpAnyK_pure (i := 2) (oi := ⟨_, _, _, _, _, _⟩) (v := ?_) rfl (by kernel_rfl) (by kernel_rfl) (by kernel_rfl) rfl (fun _ _ _ h => h) (Or.inl ⟨by rfl, ?_⟩) hSn ?_
  rotate_left 1
  · intro W hSw
    go_simp
    try with_reducible rfl
  replace hSn := (KT.set (i := 2) (by decide)).2 hSn
  try simp only [Act.put, List.setIfInBounds_toArray, List.set_cons_zero, List.set_cons_succ]
  refine wpAnyK_chain (i := 3) [4, 5, 6, 9, 11] (oi := ⟨_, _, _, _, _, _⟩) (v := ?_) rfl (by kernel_rfl) (by kernel_rfl) (by kernel_rfl) rfl (by kernel_rfl) (by kernel_rfl) (by kernel_rfl) (fun _ _ _ h => h) (Or.inl ⟨by rfl, ?_⟩) hSn ?_
  rotate_left 1
  · intro W hSw
    try dsimp only at hSw
    obtain ⟨hs1, hs2, hs3⟩ := hSw
    go_simp
    try with_reducible rfl
  replace hSn := (KT.set (i := 3) (by decide)).2 hSn
  try simp only [Act.put, List.setIfInBounds_toArray, List.set_cons_zero, List.set_cons_succ]
  refine wpAnyK_pure (i := 4) (oi := ⟨_, _, _, _, _, _⟩) (v := ?_) rfl (by kernel_rfl) (by kernel_rfl) (by kernel_rfl) rfl (fun _ _ _ h => h) (Or.inl ⟨by rfl, ?_⟩) hSn ?_
  rotate_left 1
  · intro W hSw
    go_simp
    try with_reducible rfl
  replace hSn := (KT.set (i := 4) (by decide)).2 hSn
  try simp only [Act.put, List.setIfInBounds_toArray, List.set_cons_zero, List.set_cons_succ]
  refine wpAnyK_chain (i := 5) [6, 9, 11] (oi := ⟨_, _, _, _, _, _⟩) (v := ?_) rfl (by kernel_rfl) (by kernel_rfl) (by kernel_rfl) rfl (by kernel_rfl) (by kernel_rfl) (by kernel_rfl) (fun _ _ _ h => h) (Or.inl ⟨by rfl, ?_⟩) hSn ?_
  rotate_left 1
  · intro W hSw
    try dsimp only at hSw
    obtain ⟨hs1, hs2, hs3⟩ := hSw
    go_simp
    try with_reducible rfl
  replace hSn := (KT.set (i := 5) (by decide)).2 hSn
  try simp only [Act.put, List.setIfInBounds_toArray, List.set_cons_zero, List.set_cons_succ]
  refine wpAnyK_pure (i := 7) (oi := ⟨_, _, _, _, _, _⟩) (v := ?_) rfl (by kernel_rfl) (by kernel_rfl) (by kernel_rfl) rfl (fun _ _ _ h => h) (Or.inl ⟨by rfl, ?_⟩) hSn ?_
  rotate_left 1
  · intro W hSw
    go_simp
    try with_reducible rfl
  replace hSn := (KT.set (i := 7) (by decide)).2 hSn
  try simp only [Act.put, List.setIfInBounds_toArray, List.set_cons_zero, List.set_cons_succ]
  refine wpAnyK_chain (i := 8) [9, 11] (oi := ⟨_, _, _, _, _, _⟩) (v := ?_) rfl (by kernel_rfl) (by kernel_rfl) (by kernel_rfl) rfl (by kernel_rfl) (by kernel_rfl) (by kernel_rfl) (fun _ _ _ h => h) (Or.inl ⟨by rfl, ?_⟩) hSn ?_
  rotate_left 1
  · intro W hSw
    try dsimp only at hSw
    obtain ⟨hs1, hs2, hs3⟩ := hSw
    go_simp
    try with_reducible rfl
  replace hSn := (KT.set (i := 8) (by decide)).2 hSn
  try simp only [Act.put, List.setIfInBounds_toArray, List.set_cons_zero, List.set_cons_succ]
  clear hSn
  refine wpAnyK_ready (rs := [6]) (by kernel_rfl) (by simp) ?_
  refine AllReadyK.cons rfl (fun K hK => ?_) AllReadyK.nil
  refine step_append_seesD (o := ⟨some 30, _, _, _, _, _⟩) rfl (.const (.slice none 0 0)) (.tmp 29) 39 rfl W3.heap.size 5 i0 _ Tryd.underlying39 HI0.out hz0 hz1 hz2 rfl (.slice none 0 0) 0 [] rfl (World.ownsRow_nil _ _ _ _) W3.heap.size r.A ll r.c r.l rfl HLl.out.symm SR.out (by have := HL.out; have := HLl.out; omega) (Nat.le_refl _) ?_
  intro v4 w4 h1 h2 h3
  simp only [Nat.zero_add, List.nil_append] at h1
  obtain ⟨A4, c4, rfl⟩ := own_form h1
  have O4 := Lib.hid h1
  have K4 : Hid (Keeps (fun _ => False) W3 w4) := Keeps.grown (Keeps.refl _ W3).drew h2 (fun k e => by cases e)
  clear h1 h2 h3
  have c41 := (K4.out.cell (p := ⟨w.heap.size + 1, 0, none⟩) P3.out.lt (fun h => h)).trans HC1.out
  have c42 := (K4.out.cell (p := ⟨w.heap.size + 1, 3, none⟩) P3.out.lt (fun h => h)).trans HC2.out
  have c43 := (K4.out.cell (p := ⟨w.heap.size, log, none⟩) B3.out.lt (fun h => h)).trans HC3.out
  have SB4 : Hid (Sees w4 w4.heap.size pA b) := ((SB.out.keeps K4.out (fun _ _ _ h => h)).more K4.out.size)
  refine hK.out _ _ (fun _ => ⟨c41, c42, c43⟩) (fun hSn => ?_)
  clear hK K
  try simp only [Act.put, List.setIfInBounds_toArray, List.set_cons_zero, List.set_cons_succ]
  clear hSn
  refine wpAnyK_ready (rs := [9]) (by kernel_rfl) (by simp) ?_
  refine AllReadyK.cons rfl (fun K hK => ?_) AllReadyK.nil
  refine step_append_seesD (o := ⟨some 33, _, _, _, _, _⟩) rfl (.tmp 30) (.tmp 32) 39 rfl W3.heap.size 5 i0 _ Tryd.underlying39 HI0.out hz0 hz1 hz2 rfl (.slice A4 ll c4) ll (By r.l) rfl O4.out w4.heap.size pA b.length pc b rfl rfl SB4.out (by have := HL.out; have := HLl.out; omega) K4.out.size ?_
  intro v5 w5 h1 h2 h3
  obtain ⟨A5, c5, rfl⟩ := own_form h1
  have O5 := Lib.hid h1
  have K5 : Hid (Keeps (fun j => W3.heap.size ≤ j) W3 w5) := (K4.out.mono (fun _ _ h => h.elim)).trans (Keeps.grown (Keeps.refl _ w4) h2 (fun k e => (O4.out.lt k e).1))
  clear h1 h2 h3
  have hw3 := E3.out
  have c51 := (K5.out.cell (p := ⟨w.heap.size + 1, 0, none⟩) P3.out.lt (by show ¬ W3.heap.size ≤ w.heap.size + 1; omega)).trans HC1.out
  have c52 := (K5.out.cell (p := ⟨w.heap.size + 1, 3, none⟩) P3.out.lt (by show ¬ W3.heap.size ≤ w.heap.size + 1; omega)).trans HC2.out
  have c53 := (K5.out.cell (p := ⟨w.heap.size, log, none⟩) B3.out.lt (by show ¬ W3.heap.size ≤ w.heap.size; omega)).trans HC3.out
  have B5 : Hid (Blk w5 w.heap.size 50 (rowsC rows).toArray) := B3.out.keeps K5.out (by omega)
  have Z5 : Hid (Blk w5 (w.heap.size + 1 + 1) 50 (Array.replicate 16 (Value.slice none 0 0))) := Z3.out.keeps K5.out (by omega)
  refine hK.out _ _ (fun _ => ⟨c51, c52, c53⟩) (fun hSn => ?_)
  clear hK K
  try simp only [Act.put, List.setIfInBounds_toArray, List.set_cons_zero, List.set_cons_succ]
  have f53 : w5.frozen? ⟨w.heap.size, log, none⟩ = false := B5.out.frozen _
  refine wpAnyK_pure (i := 10) (oi := ⟨_, _, _, _, _, _⟩) (v := ?_) rfl (by kernel_rfl) (by kernel_rfl) (by kernel_rfl) rfl (fun _ _ _ h => h) (Or.inl ⟨by rfl, ?_⟩) hSn ?_
  rotate_left 1
  · intro W hSw
    go_simp
    try with_reducible rfl
  replace hSn := (KT.set (i := 10) (by decide)).2 hSn
  try simp only [Act.put, List.setIfInBounds_toArray, List.set_cons_zero, List.set_cons_succ]
  clear hSn
  refine wpAnyK_ready (rs := [11]) (by kernel_rfl) (by simp) ?_
  refine AllReadyK.cons rfl (fun K hK => ?_) AllReadyK.nil
  go_simp
  refine hK.out _ _ (fun h => absurd h (by decide +kernel)) (fun hSn => ?_)
  clear hK K
  try simp only [Act.put, List.setIfInBounds_toArray, List.set_cons_zero, List.set_cons_succ]
  refine wpAnyK_done (by kernel_rfl) ?_ _
  have hlen : (r.l ++ b).length = ll + b.length := by rw [List.length_append, HLl.out]
  have hv : (⟨A5, c5, r.l ++ b⟩ : RowM).v = .slice A5 (ll + b.length) c5 := by rw [← hlen]; rfl
  have B6 : Hid (Blk (w5.setCell ⟨w.heap.size, log, none⟩ (.slice A5 (ll + b.length) c5)) w.heap.size 50 (rowsC (rows.set log ⟨A5, c5, r.l ++ b⟩)).toArray) := by
    have h := B5.out.set log (.slice A5 (ll + b.length) c5)
    rw [← hv, rowsC_set, hv] at h
    exact h
  have Z6 : Hid (Blk (w5.setCell ⟨w.heap.size, log, none⟩ (.slice A5 (ll + b.length) c5)) (w.heap.size + 1 + 1) 50 (Array.replicate 16 (Value.slice none 0 0))) := Z5.out.far (by show w.heap.size + 1 + 1 ≠ w.heap.size; omega) _
  have K6 : Hid (Keeps (fun j => W3.heap.size ≤ j ∨ j = w.heap.size) W3 (w5.setCell ⟨w.heap.size, log, none⟩ (.slice A5 (ll + b.length) c5))) := Keeps.setCell (S := fun j => W3.heap.size ≤ j ∨ j = w.heap.size) (p := ⟨w.heap.size, log, none⟩) (K5.out.mono (fun j _ h => Or.inl h)) (.inr rfl) _
  have O6 : Hid ((w5.setCell ⟨w.heap.size, log, none⟩ (.slice A5 (ll + b.length) c5)).ownsRow W3.heap.size 5 1 (.slice A5 (ll + b.length) c5) (ll + b.length) (By r.l ++ By b)) := own_store O5.out B5.out (by decide) _ _
  have HRn : Hid ((rowsC (rows.set log ⟨A5, c5, r.l ++ b⟩)).length = 16) := by show _ = _; rw [rowsC_len, List.length_set, hn]
  generalize w5.setCell ⟨w.heap.size, log, none⟩ (.slice A5 (ll + b.length) c5) = w6 at B6 Z6 K6 O6 ⊢
  clear c41 c42 c43 c51 c52 c53 f53 hSn
  have HSz : Hid ((Tryd.prog.info? 50).map (·.size) = some (rowsC (rows.set log ⟨A5, c5, r.l ++ b⟩)).length) := by show _ = _; rw [HRn.out]; exact Tryd.rowsSize
  have HSa : Hid ((Tryd.prog.info? 50).map (·.size) = some (rowsC (rows.set log ⟨A5, c5, r.l ++ b⟩)).toArray.size) := by show _ = _; rw [List.size_toArray, HRn.out]; exact Tryd.rowsSize
  have HSb : Hid ((Array.replicate 16 (Value.slice none 0 0)).size = (rowsC (rows.set log ⟨A5, c5, r.l ++ b⟩)).toArray.size) := by show _ = _; rw [Array.size_replicate]; exact HRn.out.symm
  go_wp2_with (first
    | ((with_reducible show wpList _ _ _ (⟨some 35, _, _, _, _, _⟩ :: _) _ _); refine wpList_load_mid rfl 50 (.tmp 2) rfl w.heap.size 0 rfl (rowsC (rows.set log ⟨A5, c5, r.l ++ b⟩)) _ (blk_rangeR B6.out) Tryd.underlying50 rfl HSz.out ?_)
    | ((with_reducible show wpList _ _ _ (⟨none, _, _, _, _, _⟩ :: _) _ _); refine wpList_store_wholeD rfl 50 (.tmp 4) (.tmp 35) rfl (w.heap.size + 1 + 1) 50 (Array.replicate 16 (Value.slice none 0 0)) (rowsC (rows.set log ⟨A5, c5, r.l ++ b⟩)).toArray rfl rfl Z6.out HSb.out HSa.out (rowsC_one _) ?_; intro w7 h5 h6 h7; have B7 := Lib.hid h5; have K7 := Lib.hid h6; clear h5 h6 h7))
  refine bodyPost_ret (results_cell_row Tryd.results55 _ _ (w.heap.size + 1 + 1) 50 _ (0, 0) _ rfl B7.out Tryd.underlying50 rfl HSa.out) rfl ⟨⟨A5, c5, r.l ++ b⟩, rfl, ?_⟩
  have hw3 := E3.out
  have hK6 := K6.out.size
  have V6 : Below w.heap.size w w6 := V3.out.trans (K6.out.below V3.out.size (fun j hj h => by rcases h with h | h <;> omega))
  refine ⟨?_, ?_, fun j hj => ?_, V6.trans (K7.out.below V6.size (fun j hj h => by omega))⟩
  · show r.l ++ b = doneL (rows.getD log noRow).l _
    rw [HR.out]; rfl
  · have h6 : RowM.own w6 ⟨A5, c5, r.l ++ b⟩ := by
      show World.ownsRow _ _ _ _ _ _ _
      rw [hv, show (⟨A5, c5, r.l ++ b⟩ : RowM).l.length = ll + b.length from hlen, show By (⟨A5, c5, r.l ++ b⟩ : RowM).l = By r.l ++ By b from By_append _ _]
      exact own_lessR O6.out (Nat.zero_le _)
    exact RowM.keep h6 K7.out (fun j hj e => by have := (O6.out.lt j (by rw [own_blkD]; exact hj)).1; omega)
  · have := (O6.out.lt j (by rw [own_blkD]; exact hj)).1
    omega
end Go.Proofs.YthamlphebnhcpaaDoor
