/-
  dag: both graphs are the same.
-/
import Derived.Test.YtndkjmmmneianaaDoorDh7
import Derived.LoopN
namespace Go.Proofs.YtndkjmmmneianaaDoor
open Go.RowKit Go.Shelf

theorem name_actIn {F : Fence} {n : Nat} {P : Program} {c : Code} {Q : Exit → Act → World → Prop} {a : Act} {w : World} (h : ∀ a0, a0 = a → c.wpIn F n P Q a0 w) : c.wpIn F n P Q a w := h a rfl
theorem nxDrN8 {w W : World} (h : Below w.heap.size w W) (n : Nat) : Below w.heap.size w (W.drewN n) := ⟨h.os, h.tape, h.output, h.size, h.block⟩
theorem wp_noQD {P : Program} {c : Code} {K : Act → World → Prop} {Q' : Exit → Act → World → Prop} {a : Act} {w : World} (h : c.wp P (Exit.then K (fun _ _ _ => False)) a w) : c.wp P (Exit.then K Q') a w :=
  wp_mono h (by intro e a' w' hq; cases e <;> first | exact hq | exact hq.elim)
theorem results_cellb {P : Program} {fn : Func} {p : Tmp} {ty : TypeId} (h : fn.results = #[.cell p ty]) (tmps : Array Value) (w : World) (g : Nat) (v : Value) (hp : tmps.getD p undef = .pointer (some ⟨g, 0, none⟩)) (hl : (loadVar ty ⟨g, 0, none⟩).run P w = .ok v w) :
    (results fn tmps).run P w = .ok v w := by
  have hp' : tmps[p]?.getD undef = .pointer (some ⟨g, 0, none⟩) := by simpa using hp
  simp [results, h, hp', asAddr, hl]
theorem same_leave {w W : World} {D1 D2 pb : Nat} (tmps : Array Value) (hp : tmps.getD 4 undef = .pointer (some ⟨pb, 0, none⟩)) (hc : Blk W pb 4 #[.bool true]) (hv : Below w.heap.size w W) (hD1 : W.heap[D1]? = some (.deferred (some []))) (hD2 : W.heap[D2]? = some (.deferred (some []))) (hne : D1 ≠ D2) (hl1 : w.heap.size ≤ D1) (hl2 : w.heap.size ≤ D2) :
    LeavesInM Fence.wide 5 Tryd.prog Tryd.f11 tmps (fun e w' => e = .returned (.bool true) ∧ Below w.heap.size w w') [{ target := .collected D2, args := #[] }, { target := .collected D1, args := #[] }] .returning W := by
  have h1 : (W.putObj D2 (.deferred none)).heap[D1]? = some (.deferred (some [])) := (World.putObj_heap_other hne).trans hD1
  have hc2 := (hc.putW (.deferred none) hD2 rfl).putW (.deferred none) h1 rfl
  have hv1 : Below w.heap.size w (W.putObj D2 (.deferred none)) := hv.grown (grownBy_putObj' W D2 (.deferred none)) hv.size (fun k e => by cases e; exact hl2)
  have hv2 : Below w.heap.size w ((W.putObj D2 (.deferred none)).putObj D1 (.deferred none)) := hv1.grown (grownBy_putObj' _ D1 (.deferred none)) hv1.size (fun k e => by cases e; exact hl1)
  have hcc := hc2.cell 0
  refine ⟨by simp, .inl ⟨_, _, rfl, run_takeDeferred hD2, ⟨by simp, .inl ⟨_, _, rfl, run_takeDeferred h1, ?_⟩⟩⟩⟩
  have hag : ∀ w, (isAgg 4).run Tryd.prog w = .ok false w := fun w => by kernel_rfl
  have hcc2 : ((W.putObj D2 (.deferred none)).putObj D1 (.deferred none)).cell? ⟨pb, 0, none⟩ = some (.bool true) := hcc
  have hld : (loadVar 4 ⟨pb, 0, none⟩).run Tryd.prog ((W.putObj D2 (.deferred none)).putObj D1 (.deferred none)) = .ok (.bool true) ((W.putObj D2 (.deferred none)).putObj D1 (.deferred none)) := by
    unfold loadVar
    simp only [Sem.run_bind, hag, Result.andThen_ok, Bool.false_eq_true, if_false]
    simp [hcc2]
  exact ⟨.bool true, results_cellb Tryd.results11 tmps _ pb (.bool true) hp hld, rfl, hv2⟩
theorem RGd.nodes {w : World} {base : Nat} {r : RGm} {G : Gr} (h : RGd w base r G) (h0 : 0 < G.length) : ∃ b f, w.cell? ⟨r.q, 0, none⟩ = some (.slice (some ⟨b, f, none⟩) G.length r.c) ∧ b < w.heap.size ∧ ∀ i, i < G.length → w.rangeAt b (f + i * 33) (hC (idG G i)) := by
  obtain ⟨b, f, A, c, h1, h2, _, _, _⟩ := h.node h0
  refine ⟨b, f, h1, h2, fun i hi => ?_⟩
  obtain ⟨b', f', A', c', h1', _, h3, _, _⟩ := h.node hi
  rw [h1] at h1'
  injection h1' with h1'
  injection h1' with h1'
  injection h1' with h1'
  injection h1' with e1 e2
  subst e1
  subst e2
  exact h3
section
attribute [local go_sem] Oper.semAt_some
set_option maxRecDepth 100000 in
set_option maxHeartbeats 8000000 in
theorem same_any (w : World) (base : Nat) (m : GrM) (G : Gr) (r : RGm) (h : Two w base m G r) (hmx : G.length ≤ 1000) (hT : TabAt 0 Lib.deBruijn64tab w) :
    Calls Tryd.prog 11 #[.pointer (some ⟨m.q, 0, none⟩), .pointer (some ⟨r.q, 0, none⟩)] w fun e w' => e = .returned (.bool true) ∧ Below w.heap.size w w' := by
  have h0w : 0 < w.heap.size := World.block_lt_of_cell? _ _ (hT 0 (by decide))
  have qfn : ∀ (W : World) (g : Nat), (binOp .eql 61 (.func (.func 69) #[] #[.pointer (some ⟨g, 0, none⟩)]) .nilFunc).run Tryd.prog W = .ok (.bool false) W := fun W g => by kernel_rfl
  obtain ⟨wb, hwb⟩ : ∃ x, (w.alloc (.cells #[.pointer (some ⟨r.q, 0, none⟩)] 28)).alloc (.cells #[.bool false] 4) = x := ⟨_, rfl⟩
  have V0 : Hid (Below w.heap.size w wb) := by rw [← hwb]; exact nxAlloc (nxAlloc (nxRefl w) _) _
  have B3 : Hid (Blk wb w.heap.size 28 #[.pointer (some ⟨r.q, 0, none⟩)]) := by rw [← hwb]; exact Blk.alloc (heap_alloc_new w _) _
  have B4 : Hid (Blk wb (w.heap.size + 1) 4 #[.bool false]) := by rw [← hwb]; exact blkNew (by simp) rfl
  obtain ⟨b, f, hcq, hbs, hnd⟩ := RGd.nodes (⟨h.d, h.rel, h.i.ok, hmx⟩ : RGd w base r G) h.i.ne
  have hrq : r.q < w.heap.size := World.block_lt_of_cell? _ _ hcq
  obtain ⟨pw, hpw⟩ : ∃ x, w.heap.size = x := ⟨_, rfl⟩
  obtain ⟨pb, hpb⟩ : ∃ x, pw + 1 = x := ⟨_, rfl⟩
  have HPb : Hid (w.heap.size ≤ pb) := by show _ ≤ _; omega
  rw [hpw] at B3
  rw [hpw, hpb] at B4
  have HWb := Lib.hid hwb
  have HPw := Lib.hid hpw
  have HPp := Lib.hid hpb
  have HMx := Lib.hid hmx
  have HIs : Hid (GrIs m G) := h.i
  have HIl : Hid (m.ids.length = G.length) := h.i.ilen
  have HIm : Hid (m.ids.length ≤ 1000000) := by show _ ≤ _; rw [h.i.ilen]; omega
  have HIx : Hid (∀ k (hk : k < m.ids.length), idG G k = m.ids[k]) := fun k hk => by rw [idG_at (by rw [← h.i.ilen]; exact hk)]; simp only [h.i.ids, List.getElem_map]
  obtain ⟨x0, hx0⟩ : ∃ x, idG G 0 = x := ⟨_, rfl⟩
  obtain ⟨T, hTe⟩ : ∃ x, risH (selL G (fun i => decide ((risH (selL G (fun k => decide (idG G i ∈ psG G k)) G.length)).length = 0)) G.length) = x := ⟨_, rfl⟩
  have HTe : Hid (srtH (((List.range G.length).filter (tipB G)).map (idG G)) = T) := (tip_same h.i.ok).trans hTe
  have HTd := Lib.hid hTe
  have HTl : Hid (T.length ≤ 1000) := by show _ ≤ _; rw [← hTe]; exact Nat.le_trans (risH_le _) (Nat.le_trans (selL_le _ _ _) hmx)
  have HNe : Hid (0 < G.length) := h.i.ne
  have hroot : ∀ W, Below w.heap.size w W → Calls Tryd.prog 29 #[.pointer (some ⟨m.q, 0, none⟩)] W fun e w' => e = .returned (.agg (hC x0).toArray) ∧ Below W.heap.size W w' := fun W hW => by
    have h1 := root_any W base m (h.later hW).g (by rw [h.i.ilen]; exact h.i.ne)
    rw [← HIx.out 0 (by rw [h.i.ilen]; exact h.i.ne), hx0] at h1
    exact h1
  have hlen : ∀ W, Below w.heap.size w W → Calls Tryd.prog 20 #[.pointer (some ⟨m.q, 0, none⟩)] W fun e w' => e = .returned (.int .i64 (G.length : Int)) ∧ w' = W := fun W hW => by
    have h1 := len_any W base m (h.later hW).g (by rw [h.i.ilen]; exact h.i.ne)
    rw [h.i.ilen] at h1
    exact h1
  obtain ⟨rb, hrb⟩ : ∃ x, wb.heap.size = x := ⟨_, rfl⟩
  obtain ⟨w1, hw1⟩ : ∃ x, wb.alloc (.cells #[.slice m.iA G.length m.ic] 34) = x := ⟨_, rfl⟩
  have V1 : Hid (Below wb.heap.size wb w1) := by rw [← hw1]; exact nxAlloc (nxRefl _) _
  have B5 : Hid (Blk w1 rb 34 #[.slice m.iA G.length m.ic]) := by rw [← hw1, ← hrb]; exact heap_alloc_new _ _
  have VD : Hid (Below w.heap.size w w1.drew) := nxDrT (nxTo V0.out V1.out)
  have VB : Hid (Below wb.heap.size wb w1.drew) := nxDrT V1.out
  have HW1 := Lib.hid hw1
  have HRb0 := Lib.hid hrb
  have hT0 := h
  have hAll := allH_any wb base m G (h.later V0.out).g h.i
  have HAll := Lib.hid hAll
  have HVw : Hid (Below w.heap.size w w1.drew) := VD.out
  have hge0 : 0 < G.length := h.i.ne
  have hin0 : (0 : Int) < (G.length : Int) := by omega
  have HS2 : Hid (∀ W, Below w1.drew.heap.size w1.drew W → W.cell? ⟨pw, 0, none⟩ = some (.pointer (some ⟨r.q, 0, none⟩)) ∧ W.cell? ⟨r.q, 0, none⟩ = some (.slice (some ⟨b, f, none⟩) G.length r.c) ∧ W.rangeAt b f (hC x0)) := fun W hW => by
    have k1 : Below wb.heap.size wb W := nxTo VB.out hW
    have k2 : Below w.heap.size w W := nxTo VD.out hW
    refine ⟨(B3.out.below k1 B3.out.lt).cell 0, (k2.cell (p := ⟨r.q, 0, none⟩) hrq).trans hcq, rngK ?_ k2 hbs⟩
    have := hnd 0 h.i.ne
    rw [Nat.zero_mul, Nat.add_zero, hx0] at this
    exact this
  have HNode : Hid (∀ W, Below w1.drew.heap.size w1.drew W → ∀ k, k < G.length → W.rangeAt b (f + k * 33) (hC (idG G k))) := fun W hW k hk => rngK (hnd k hk) (nxTo VD.out hW) hbs
  have HTw : Hid (∀ W, Below w1.drew.heap.size w1.drew W → Two W base m G r) := fun W hW => h.later (nxTo VD.out hW)
  have HTb : Hid (∀ W, Below w1.drew.heap.size w1.drew W → TabAt 0 Lib.deBruijn64tab W) := fun W hW => tab_below hT (nxTo VD.out hW) h0w
  have HRg : Hid (∀ W, Below w1.drew.heap.size w1.drew W → RGd W base r G) := fun W hW => ⟨(HTw.out W hW).d, h.rel, h.i.ok, hmx⟩
  have HRoot : Hid (∀ W, Below w1.drew.heap.size w1.drew W → Calls Tryd.prog 29 #[.pointer (some ⟨m.q, 0, none⟩)] W fun e w' => e = .returned (.agg (hC x0).toArray) ∧ Below W.heap.size W w') := fun W hW => hroot W (nxTo VD.out hW)
  have HLen : Hid (∀ W, Below w1.drew.heap.size w1.drew W → Calls Tryd.prog 20 #[.pointer (some ⟨m.q, 0, none⟩)] W fun e w' => e = .returned (.int .i64 (G.length : Int)) ∧ w' = W) := fun W hW => hlen W (nxTo VD.out hW)
  have B5d : Hid (Blk w1.drew rb 34 #[.slice m.iA G.length m.ic]) := B5.out
  have HRl : Hid (∀ W, Below w1.drew.heap.size w1.drew W → rb < W.heap.size) := fun W hW => Nat.lt_of_lt_of_le B5.out.lt hW.size
  have HRb : Hid (∀ W, Below w1.drew.heap.size w1.drew W → W.cell? ⟨rb, 0, none⟩ = some (.slice m.iA m.ids.length m.ic)) := fun W hW => by rw [HIl.out]; exact (B5d.out.below hW B5d.out.lt).cell 0
  have HIds : Hid (∀ W, Below w1.drew.heap.size w1.drew W → ∀ W', Below W.heap.size W W' → SeesV W' W.heap.size m.iA (hsC m.ids)) := fun W hW W' hW' => (SeesV.own (HTw.out W hW).g.ids).below hW'
  have HB4 : Hid (∀ W, Below w1.drew.heap.size w1.drew W → Blk W pb 4 #[.bool false]) := fun W hW => B4.out.below (nxTo VB.out hW) B4.out.lt
  have KK : Hid (Below w1.drew.heap.size w1.drew w1.drew) := nxRefl _
  clear h hT h0w hwb hpw hpb hcq hbs hnd hrq hmx hx0 hTe hroot hlen hrb hw1 hT0 hAll B3 B4 B5 B5d V0 V1 VB
  refine (callsIn_wide (n := 5)).1 ?_
  refine callsIn_of_wp_marks Tryd.func11 rfl trivial ?_ rfl
  simp only [Tryd.ntmps11, List.size_toArray, List.length_cons, List.length_nil, Nat.reduceAdd, Nat.reduceSub, Array.replicate_succ, Array.replicate_zero, List.push_toArray, List.append_toArray, List.nil_append, List.cons_append]
  refine wpIn_wide.2 ?_
  go_upto_region 1 with fail
  rw [HWb.out, HPw.out, HPp.out]
  go_wp2_with (first
    | (go_at_call 25; refine HAll.out.mono ?_; rw [HRb0.out, HW1.out]; rintro e wn ⟨rfl, hwn⟩; obtain rfl := hwn.symm; clear HAll))
  refine wp_noQD ?_
  refine wp_region_held_drew (S := fun W => W.cell? ⟨pw, 0, none⟩ = some (.pointer (some ⟨r.q, 0, none⟩)) ∧ W.cell? ⟨r.q, 0, none⟩ = some (.slice (some ⟨b, f, none⟩) G.length r.c) ∧ W.rangeAt b f (hC x0)) (by kernel_rfl) (HS2.out _ KK.out) (fun hHeld => ?_)
  generalize w1.drew = wd at *
  refine wpAnyH_take (i := 0) (oi := ⟨_, _, _, _, _, _⟩) (v := ?_) rfl (by kernel_rfl) (by kernel_rfl) (by kernel_rfl) (fun _ _ _ h => h) (Or.inl ⟨by rfl, ?_⟩) (by assumption) ?_
  rotate_left 1
  · intro W hSw
    try dsimp only at hSw
    obtain ⟨hs1, hs2, hs3⟩ := hSw
    go_simp
    try with_reducible rfl
  try simp only [Act.put, List.setIfInBounds_toArray, List.set_cons_zero, List.set_cons_succ]
  refine wpAnyH_take (i := 1) (oi := ⟨_, _, _, _, _, _⟩) (v := ?_) rfl (by kernel_rfl) (by kernel_rfl) (by kernel_rfl) (fun _ _ _ h => h) (Or.inl ⟨by rfl, ?_⟩) (by assumption) ?_
  rotate_left 1
  · intro W hSw
    try dsimp only at hSw
    obtain ⟨hs1, hs2, hs3⟩ := hSw
    go_simp
    try with_reducible rfl
  try simp only [Act.put, List.setIfInBounds_toArray, List.set_cons_zero, List.set_cons_succ]
  refine wpAnyH_take (i := 2) (oi := ⟨_, _, _, _, _, _⟩) (v := ?_) rfl (by kernel_rfl) (by kernel_rfl) (by kernel_rfl) (fun _ _ _ h => h) (Or.inl ⟨by rfl, ?_⟩) (by assumption) ?_
  rotate_left 1
  · intro W hSw
    try dsimp only at hSw
    obtain ⟨hs1, hs2, hs3⟩ := hSw
    go_simp
    try with_reducible rfl
  try simp only [Act.put, List.setIfInBounds_toArray, List.set_cons_zero, List.set_cons_succ]
  refine wpAnyH_take (i := 3) (oi := ⟨_, _, _, _, _, _⟩) (v := ?_) rfl (by kernel_rfl) (by kernel_rfl) (by kernel_rfl) (fun _ _ _ h => h) (Or.inl ⟨by rfl, ?_⟩) (by assumption) ?_
  rotate_left 1
  · intro W hSw
    try dsimp only at hSw
    obtain ⟨hs1, hs2, hs3⟩ := hSw
    go_simp
    try with_reducible rfl
  try simp only [Act.put, List.setIfInBounds_toArray, List.set_cons_zero, List.set_cons_succ]
  refine wpAnyH_take (i := 5) (oi := ⟨_, _, _, _, _, _⟩) (v := ?_) rfl (by kernel_rfl) (by kernel_rfl) (by kernel_rfl) (fun _ _ _ h => h) (Or.inl ⟨by rfl, ?_⟩) (by assumption) ?_
  rotate_left 1
  · intro W hSw
    try dsimp only at hSw
    obtain ⟨hs1, hs2, hs3⟩ := hSw
    go_simp
    try with_reducible rfl
  try simp only [Act.put, List.setIfInBounds_toArray, List.set_cons_zero, List.set_cons_succ]
  refine wpAnyH_take (i := 6) (oi := ⟨_, _, _, _, _, _⟩) (v := ?_) rfl (by kernel_rfl) (by kernel_rfl) (by kernel_rfl) (fun _ _ _ h => h) (Or.inl ⟨by rfl, ?_⟩) (by assumption) ?_
  rotate_left 1
  · intro W hSw
    try dsimp only at hSw
    obtain ⟨hs1, hs2, hs3⟩ := hSw
    go_simp
    try with_reducible rfl
  try simp only [Act.put, List.setIfInBounds_toArray, List.set_cons_zero, List.set_cons_succ]
  refine wpAnyH_take (i := 7) (oi := ⟨_, _, _, _, _, _⟩) (v := ?_) rfl (by kernel_rfl) (by kernel_rfl) (by kernel_rfl) (fun _ _ _ h => h) (Or.inl ⟨by rfl, ?_⟩) (by assumption) ?_
  rotate_left 1
  · intro W hSw
    try dsimp only at hSw
    obtain ⟨hs1, hs2, hs3⟩ := hSw
    go_simp
    try with_reducible rfl
  try simp only [Act.put, List.setIfInBounds_toArray, List.set_cons_zero, List.set_cons_succ]
  refine wpAnyH_take (i := 8) (oi := ⟨_, _, _, _, _, _⟩) (v := ?_) rfl (by kernel_rfl) (by kernel_rfl) (by kernel_rfl) (fun _ _ _ h => h) (Or.inl ⟨by rfl, ?_⟩) (by assumption) ?_
  rotate_left 1
  · intro W hSw
    try dsimp only at hSw
    obtain ⟨hs1, hs2, hs3⟩ := hSw
    go_simp
    try with_reducible rfl
  try simp only [Act.put, List.setIfInBounds_toArray, List.set_cons_zero, List.set_cons_succ]
  refine wpAnyH_take (i := 9) (oi := ⟨_, _, _, _, _, _⟩) (v := ?_) rfl (by kernel_rfl) (by kernel_rfl) (by kernel_rfl) (fun _ _ _ h => h) (Or.inl ⟨by rfl, ?_⟩) (by assumption) ?_
  rotate_left 1
  · intro W hSw
    try dsimp only at hSw
    obtain ⟨hs1, hs2, hs3⟩ := hSw
    go_simp
    try with_reducible rfl
  try simp only [Act.put, List.setIfInBounds_toArray, List.set_cons_zero, List.set_cons_succ]
  refine wpAnyH_ready (rs := [4]) (by kernel_rfl) (by simp) ?_
  refine AllReadyH.cons rfl (fun K hK => ?_) AllReadyH.nil
  go_simp
  go_at_call 20
  refine (HLen.out _ KK.out).mono ?_
  rintro e wA ⟨rfl, hw⟩
  obtain rfl := hw.symm
  refine hK.out _ _ (HS2.out _ KK.out) (fun hSn => ?_)
  clear hK K
  try simp only [Act.put, List.setIfInBounds_toArray, List.set_cons_zero, List.set_cons_succ]
  refine wpAnyH_take (i := 10) (oi := ⟨_, _, _, _, _, _⟩) (v := ?_) rfl (by kernel_rfl) (by kernel_rfl) (by kernel_rfl) (fun _ _ _ h => h) (Or.inl ⟨by rfl, ?_⟩) (by assumption) ?_
  rotate_left 1
  · intro W hSw
    try dsimp only at hSw
    obtain ⟨hs1, hs2, hs3⟩ := hSw
    go_simp
    try with_reducible rfl
  try simp only [Act.put, List.setIfInBounds_toArray, List.set_cons_zero, List.set_cons_succ]
  refine wpAnyH_take (i := 11) (oi := ⟨_, _, _, _, _, _⟩) (v := ?_) rfl (by kernel_rfl) (by kernel_rfl) (by kernel_rfl) (fun _ _ _ h => h) (Or.inl ⟨by rfl, ?_⟩) (by assumption) ?_
  rotate_left 1
  · intro W hSw
    try dsimp only at hSw
    obtain ⟨hs1, hs2, hs3⟩ := hSw
    go_simp
    try with_reducible rfl
  try simp only [Act.put, List.setIfInBounds_toArray, List.set_cons_zero, List.set_cons_succ]
  refine wpAnyH_take (i := 12) (oi := ⟨_, _, _, _, _, _⟩) (v := ?_) rfl (by kernel_rfl) (by kernel_rfl) (by kernel_rfl) (fun _ _ _ h => h) (Or.inl ⟨by rfl, ?_⟩) (by assumption) ?_
  rotate_left 1
  · intro W hSw
    try dsimp only at hSw
    obtain ⟨hs1, hs2, hs3⟩ := hSw
    go_simp
    try with_reducible rfl
  try simp only [Act.put, List.setIfInBounds_toArray, List.set_cons_zero, List.set_cons_succ]
  refine wpAnyH_take (i := 13) (oi := ⟨_, _, _, _, _, _⟩) (v := ?_) rfl (by kernel_rfl) (by kernel_rfl) (by kernel_rfl) (fun _ _ _ h => h) (Or.inl ⟨by rfl, ?_⟩) (by assumption) ?_
  rotate_left 1
  · intro W hSw
    try dsimp only at hSw
    obtain ⟨hs1, hs2, hs3⟩ := hSw
    go_simp
    try with_reducible rfl
  try simp only [Act.put, List.setIfInBounds_toArray, List.set_cons_zero, List.set_cons_succ]
  refine wpAnyH_take (i := 15) (oi := ⟨_, _, _, _, _, _⟩) (v := ?_) rfl (by kernel_rfl) (by kernel_rfl) (by kernel_rfl) (fun _ _ _ h => h) (Or.inl ⟨by rfl, ?_⟩) (by assumption) ?_
  rotate_left 1
  · intro W hSw
    try dsimp only at hSw
    obtain ⟨hs1, hs2, hs3⟩ := hSw
    go_simp
    try with_reducible rfl
  try simp only [Act.put, List.setIfInBounds_toArray, List.set_cons_zero, List.set_cons_succ]
  refine wpAnyH_take (i := 16) (oi := ⟨_, _, _, _, _, _⟩) (v := ?_) rfl (by kernel_rfl) (by kernel_rfl) (by kernel_rfl) (fun _ _ _ h => h) (Or.inl ⟨by rfl, ?_⟩) (by assumption) ?_
  rotate_left 1
  · intro W hSw
    try dsimp only at hSw
    obtain ⟨hs1, hs2, hs3⟩ := hSw
    go_simp
    try with_reducible rfl
  try simp only [Act.put, List.setIfInBounds_toArray, List.set_cons_zero, List.set_cons_succ]
  refine wpAnyH_take (i := 17) (oi := ⟨_, _, _, _, _, _⟩) (v := ?_) rfl (by kernel_rfl) (by kernel_rfl) (by kernel_rfl) (fun _ _ _ h => h) (Or.inl ⟨by rfl, ?_⟩) (by assumption) ?_
  rotate_left 1
  · intro W hSw
    try dsimp only at hSw
    obtain ⟨hs1, hs2, hs3⟩ := hSw
    go_simp
    try with_reducible rfl
  try simp only [Act.put, List.setIfInBounds_toArray, List.set_cons_zero, List.set_cons_succ]
  refine wpAnyH_take (i := 18) (oi := ⟨_, _, _, _, _, _⟩) (v := ?_) rfl (by kernel_rfl) (by kernel_rfl) (by kernel_rfl) (fun _ _ _ h => h) (Or.inl ⟨by rfl, ?_⟩) (by assumption) ?_
  rotate_left 1
  · intro W hSw
    try dsimp only at hSw
    obtain ⟨hs1, hs2, hs3⟩ := hSw
    go_simp
    try with_reducible rfl
  try simp only [Act.put, List.setIfInBounds_toArray, List.set_cons_zero, List.set_cons_succ]
  refine wpAnyH_take (i := 19) (oi := ⟨_, _, _, _, _, _⟩) (v := ?_) rfl (by kernel_rfl) (by kernel_rfl) (by kernel_rfl) (fun _ _ _ h => h) (Or.inl ⟨by rfl, ?_⟩) (by assumption) ?_
  rotate_left 1
  · intro W hSw
    try dsimp only at hSw
    obtain ⟨hs1, hs2, hs3⟩ := hSw
    go_simp
    try with_reducible rfl
  try simp only [Act.put, List.setIfInBounds_toArray, List.set_cons_zero, List.set_cons_succ]
  refine wpAnyH_take (i := 20) (oi := ⟨_, _, _, _, _, _⟩) (v := ?_) rfl (by kernel_rfl) (by kernel_rfl) (by kernel_rfl) (fun _ _ _ h => h) (Or.inl ⟨by rfl, ?_⟩) (by assumption) ?_
  rotate_left 1
  · intro W hSw
    try dsimp only at hSw
    obtain ⟨hs1, hs2, hs3⟩ := hSw
    go_simp
    try with_reducible rfl
  try simp only [Act.put, List.setIfInBounds_toArray, List.set_cons_zero, List.set_cons_succ]
  refine wpAnyH_take (i := 21) (oi := ⟨_, _, _, _, _, _⟩) (v := .agg (hC x0).toArray) rfl (by kernel_rfl) (by kernel_rfl) (by kernel_rfl) (fun _ _ _ h => h) (yieldsIf_load_mid (by rfl) 23 (.tmp 32) rfl b f rfl (hC x0) _ (fun W hS => hS.2.2) Tryd.underlying23 rfl (hszL x0)) (by assumption) ?_
  try simp only [Act.put, List.setIfInBounds_toArray, List.set_cons_zero, List.set_cons_succ]
  refine wpAnyH_ready (rs := [14]) (by kernel_rfl) (by simp) ?_
  refine AllReadyH.cons rfl (fun K hK => ?_) AllReadyH.nil
  go_simp
  go_at_call 29
  refine (HRoot.out _ KK.out).mono ?_
  rintro e wB ⟨rfl, hb⟩
  replace KK := Lib.hid (nxTo KK.out hb)
  clear hb
  refine hK.out _ _ (HS2.out _ KK.out) (fun hSn => ?_)
  clear hK K
  try simp only [Act.put, List.setIfInBounds_toArray, List.set_cons_zero, List.set_cons_succ]
  refine wpAnyH_take (i := 22) (oi := ⟨_, _, _, _, _, _⟩) (v := .bool (!true)) rfl (by kernel_rfl) (by kernel_rfl) (by kernel_rfl) (fun _ _ _ h => h) (yieldsIf_neH (by rfl) 23 (.tmp 26) (.tmp 33) rfl x0 x0 rfl rfl true (decide_eq_true rfl)) (by assumption) ?_
  try simp only [Act.put, List.setIfInBounds_toArray, List.set_cons_zero, List.set_cons_succ]
  refine wpAnyH_take (i := 23) (oi := ⟨_, _, _, _, _, _⟩) (v := ?_) rfl (by kernel_rfl) (by kernel_rfl) (by kernel_rfl) (fun _ _ _ h => h) (Or.inl ⟨by rfl, ?_⟩) (by assumption) ?_
  rotate_left 1
  · intro W hSw
    try dsimp only at hSw
    obtain ⟨hs1, hs2, hs3⟩ := hSw
    go_simp
    try with_reducible rfl
  try simp only [Act.put, List.setIfInBounds_toArray, List.set_cons_zero, List.set_cons_succ]
  refine wpAnyH_take (i := 24) (oi := ⟨_, _, _, _, _, _⟩) (v := ?_) rfl (by kernel_rfl) (by kernel_rfl) (by kernel_rfl) (fun _ _ _ h => h) (Or.inl ⟨by rfl, ?_⟩) (by assumption) ?_
  rotate_left 1
  · intro W hSw
    try dsimp only at hSw
    obtain ⟨hs1, hs2, hs3⟩ := hSw
    go_simp
    try with_reducible rfl
  try simp only [Act.put, List.setIfInBounds_toArray, List.set_cons_zero, List.set_cons_succ]
  refine wpAnyH_take (i := 25) (oi := ⟨_, _, _, _, _, _⟩) (v := ?_) rfl (by kernel_rfl) (by kernel_rfl) (by kernel_rfl) (fun _ _ _ h => h) (Or.inl ⟨by rfl, ?_⟩) (by assumption) ?_
  rotate_left 1
  · intro W hSw
    try dsimp only at hSw
    obtain ⟨hs1, hs2, hs3⟩ := hSw
    go_simp
    try with_reducible rfl
  try simp only [Act.put, List.setIfInBounds_toArray, List.set_cons_zero, List.set_cons_succ]
  refine wpAnyH_take (i := 27) (oi := ⟨_, _, _, _, _, _⟩) (v := ?_) rfl (by kernel_rfl) (by kernel_rfl) (by kernel_rfl) (fun _ _ _ h => h) (Or.inl ⟨by rfl, ?_⟩) (by assumption) ?_
  rotate_left 1
  · intro W hSw
    try dsimp only at hSw
    obtain ⟨hs1, hs2, hs3⟩ := hSw
    go_simp
    try with_reducible rfl
  try simp only [Act.put, List.setIfInBounds_toArray, List.set_cons_zero, List.set_cons_succ]
  refine wpAnyH_ready (rs := [26]) (by kernel_rfl) (by simp) ?_
  refine AllReadyH.cons rfl (fun K hK => ?_) AllReadyH.nil
  go_simp
  go_at_call 30
  refine (tips_any _ base m G (HTw.out _ KK.out).g HIs.out).mono ?_
  unfold ListPost
  rw [HTe.out]
  rintro e wC ⟨AC, cC, rfl, ho, hb⟩
  have SC : Hid (SeesV wC wC.heap.size AC (hsC T)) := SeesV.own ho
  replace KK := Lib.hid (nxTo KK.out hb)
  clear ho hb
  refine hK.out _ _ (HS2.out _ KK.out) (fun hSn => ?_)
  clear hK K
  try simp only [Act.put, List.setIfInBounds_toArray, List.set_cons_zero, List.set_cons_succ]
  refine wpAnyH_ready (rs := [28]) (by kernel_rfl) (by simp) ?_
  refine AllReadyH.cons rfl (fun K hK => ?_) AllReadyH.nil
  go_simp
  go_at_call 32
  refine (rtips_any _ base r G (HRg.out _ KK.out)).mono ?_
  unfold ListPost
  rw [HTd.out]
  rintro e wD ⟨AD, cD, rfl, ho, hb⟩
  have SD : Hid (SeesV wD wD.heap.size AD (hsC T)) := SeesV.own ho
  replace SC := Lib.hid ((SC.out.below hb).more hb.size)
  replace KK := Lib.hid (nxTo KK.out hb)
  clear ho hb
  refine hK.out _ _ (HS2.out _ KK.out) (fun hSn => ?_)
  clear hK K
  try simp only [Act.put, List.setIfInBounds_toArray, List.set_cons_zero, List.set_cons_succ]
  refine wpAnyH_ready (rs := [29]) (by kernel_rfl) (by simp) ?_
  refine AllReadyH.cons rfl (fun K hK => ?_) AllReadyH.nil
  go_simp
  go_at_call 16
  refine (requal_any _ AC AD T T cC cD SC.out SD.out (by have := HTl.out; omega)).mono ?_
  rw [show decide (T = T) = true from decide_eq_true rfl]
  rintro e wE ⟨rfl, hb⟩
  replace KK := Lib.hid (nxTo KK.out hb)
  clear hb
  refine hK.out _ _ (HS2.out _ KK.out) (fun hSn => ?_)
  clear hK K
  try simp only [Act.put, List.setIfInBounds_toArray, List.set_cons_zero, List.set_cons_succ]
  refine wpAnyH_take (i := 30) (oi := ⟨_, _, _, _, _, _⟩) (v := ?_) rfl (by kernel_rfl) (by kernel_rfl) (by kernel_rfl) (fun _ _ _ h => h) (Or.inl ⟨by rfl, ?_⟩) (by assumption) ?_
  rotate_left 1
  · intro W hSw
    try dsimp only at hSw
    obtain ⟨hs1, hs2, hs3⟩ := hSw
    go_simp
    try with_reducible rfl
  try simp only [Act.put, List.setIfInBounds_toArray, List.set_cons_zero, List.set_cons_succ]
  refine wpAnyH_take (i := 31) (oi := ⟨_, _, _, _, _, _⟩) (v := ?_) rfl (by kernel_rfl) (by kernel_rfl) (by kernel_rfl) (fun _ _ _ h => h) (Or.inl ⟨by rfl, ?_⟩) (by assumption) ?_
  rotate_left 1
  · intro W hSw
    try dsimp only at hSw
    obtain ⟨hs1, hs2, hs3⟩ := hSw
    go_simp
    try with_reducible rfl
  try simp only [Act.put, List.setIfInBounds_toArray, List.set_cons_zero, List.set_cons_succ]
  refine wpAnyH_done (by kernel_rfl) ?_ _
  go_wp2_with fail
  refine wp_loop_rounds 3 ?_
  rw [rounds_succ]
  go_wp2_with fail
  obtain ⟨u1, hu1⟩ : ∃ x, wE.alloc (.cells #[.int .i64 0] 3) = x := ⟨_, rfl⟩
  have KU1 : Hid (Below wE.heap.size wE u1) := by rw [← hu1]; exact nxAlloc (nxRefl _) _
  have BU1 : Hid (Blk u1 wE.heap.size 3 #[.int .i64 0]) := by rw [← hu1]; exact heap_alloc_new _ _
  rw [hu1]
  obtain ⟨pi1, hpi1⟩ : ∃ x, wE.heap.size = x := ⟨_, rfl⟩
  have HP1 : Hid (wE.heap.size ≤ pi1) := Nat.le_of_eq hpi1
  rw [hpi1] at BU1 ⊢
  clear hu1 hpi1
  refine (wpIn_wide (n := 5)).1 ?_
  refine name_actIn fun a0 ha0 => ?_
  refine wpIn_rangeW2 (gf := 69) (lb := #[.pointer (some ⟨rb, 0, none⟩)]) (by rw [ha0]; rfl) (enters_of Tryd.func69 (by kernel_rfl) rfl) m.ids.length wE.heap.size KU1.out.size (fun k vs _ => ∃ x, k < m.ids.length ∧ idG G k = x ∧ vs = #[.agg (hC x).toArray])
    (fun k W => Blk W pi1 3 #[.int .i64 (k : Int)] ∧ Below wE.heap.size wE W) (fun _ => False) ?seq1 ?size1 (fun _ _ _ _ _ _ h _ => h) ⟨BU1.out, KU1.out⟩ (fun k W W' h b => ⟨h.1.below b h.1.lt, nxTo h.2 b⟩) (fun k W l o o' h hl hh ho => ⟨h.1.putW o' hh ho, h.2.grown (grownBy_putObj' W l o') h.2.size (fun k e => by cases e; exact Nat.le_trans KU1.out.size hl)⟩) (fun W l o o' h _ _ _ => h)
    (fun k vs a1 W => ∃ x p8, k < m.ids.length ∧ idG G k = x ∧ vs = #[.agg (hC x).toArray] ∧ a1 = { tmps := (a0.tmps.setIfInBounds 49 (.agg (hC x).toArray)).setIfInBounds 8 (.pointer (some ⟨p8, 0, none⟩)), defers := [] } ∧ Blk W p8 23 (hC x).toArray ∧ Blk W pi1 3 #[.int .i64 (k : Int)] ∧ Below wE.heap.size wE W) ?assign1 ?hRp1 ?body1 ?done1 (fun _ _ h => h.elim)
  case seq1 =>
    intro l J Jx W hbW hJ hY hJ0
    have hv : Below wd.heap.size wd u1 := nxTo KK.out KU1.out
    refine vals1H_in u1 rb m.iA m.ids m.ic wE.heap.size (HRl.out _ KK.out) (HRb.out _ hv) (HIds.out _ KK.out _ KU1.out) HIm.out KU1.out.size l J Jx W (hbW.mono KU1.out.size) hJ ?_ hJ0
    rintro k vs W1 hk ⟨hk2, rfl⟩ hj hb
    exact hY k _ W1 hk ⟨_, hk, HIx.out k hk, rfl⟩ hj hb
  case size1 =>
    rintro k vs W ⟨x, _, _, rfl⟩
    rfl
  case assign1 =>
    rintro l k vs W hkN ⟨x, hk, hx, rfl⟩ ⟨hB7, hV⟩
    have HB7 := Lib.hid hB7
    have HV := Lib.hid hV
    have HF : Hid (∀ f, (Fence.wide.inRound l).fn f) := fun _ => trivial
    subst ha0
    clear hB7 hV
    gi_wp2_with (first
      | ((with_reducible show wpListIn _ _ _ _ _ (⟨none, .store 23 (.tmp 8) _, _, _, _, _⟩ :: _) _ _); refine gi_store_all HF.out rfl 23 (.tmp 8) (.tmp 49) rfl W.heap.size 23 (hC zH).toArray (hC x).toArray rfl rfl (blkNew rfl rfl) (by rw [List.size_toArray, List.size_toArray, hC_len, hC_len]) (hszB x) (hC_one x) ?_; intro w5 h5 h6 h7; have X5 := Lib.hid h5; have K5 : Hid (Below W.heap.size W w5) := (nxAlloc (nxRefl W) _).trans (h6.below (nxAlloc (nxRefl W) (.cells (hC zH).toArray 23)).size (fun j hj e => by omega)); have O5 : Hid (KeepsOthers W w5) := (KeepsOthers.alloc W (.cells (hC zH).toArray 23)).trans (h6.others (fun j hj o ho => by subst hj; rw [heap_alloc_new] at ho; cases ho; rfl)); clear h5 h6 h7))
    refine ⟨O5.out, K5.out.mono HV.out.size, x, W.heap.size, hk, hx, rfl, rfl, X5.out, HB7.out.below K5.out HB7.out.lt, nxTo HV.out K5.out⟩
  case hRp1 =>
    rintro k vs a1 W l o o' ⟨x, p8, hk, hx, rfl, rfl, hB8, hB7, hV⟩ hl hh ho
    exact ⟨x, p8, hk, hx, rfl, rfl, hB8.putW o' hh ho, hB7.putW o' hh ho, hV.grown (grownBy_putObj' W l o') hV.size (fun k e => by cases e; exact Nat.le_trans KU1.out.size hl)⟩
  case body1 =>
    rintro l k vs a1 W hkN ⟨x, p8, hk, hx, rfl, rfl, hB8, hB7, hV⟩
    subst ha0
    have HB7 := Lib.hid hB7
    have HV := Lib.hid hV
    have VW : Hid (Below wd.heap.size wd W) := nxTo KK.out hV
    have c7 : W.cell? ⟨pi1, 0, none⟩ = some (.int .i64 (k : Int)) := hB7.cell 0
    obtain ⟨cw, cq, _⟩ := HS2.out W VW.out
    have hkG : k < G.length := by have := HIl.out; omega
    have R8 : Hid (W.rangeAt p8 0 (hC x)) := kb_range hB8
    have R9 : Hid (W.rangeAt b (f + k * 33) (hC x)) := by have := HNode.out W VW.out k hkG; rw [hx] at this; exact this
    have Z8 := Lib.hid (hszL x)
    have hin : (k : Int) < (G.length : Int) := by omega
    have hge : ¬ (G.length : Int) ≤ (k : Int) := by omega
    have hge2 : ¬ G.length ≤ k := by omega
    have hge3 : decide (G.length ≤ k) = false := decide_eq_false hge2
    have hbq : (!(x == x)) = false := by rw [beq_self_eq_true]; rfl
    have hk64 : wrap64 ((k : Int) + 1) = ((k + 1 : Nat) : Int) := by rw [IntWalk.wrap64_in _ (by have := HIm.out; omega)]; push_cast; rfl
    have HQ := Lib.hid hbq
    have HK64 := Lib.hid hk64
    clear hB8 hB7 hV hx hk hkN hkG hbq hk64
    dsimp only
    simp only [List.setIfInBounds_toArray, List.set_cons_zero, List.set_cons_succ]
    gi_wp2
    refine wpIn_round_quiet (by kernel_rfl) (by kernel_rfl) (by kernel_rfl) ?_
    repeat (go_big_quiet_step (fail))
    go_big_quiet_want
    refine quiet_load_mid 23 (.tmp 8) rfl p8 0 rfl (hC x) _ (fun w' hw' => by obtain ⟨q, rfl⟩ := hw'; exact R8.out) Tryd.underlying23 rfl Z8.out ?_
    go_big_quiet_on
    try simp only [Act.put, List.setIfInBounds_toArray, List.set_cons_zero, List.set_cons_succ]
    repeat (go_big_quiet_step (fail))
    go_big_quiet_want
    refine quiet_load_mid 23 (.tmp 65) rfl b (f + k * 33) rfl (hC x) _ (fun w' hw' => by obtain ⟨q, rfl⟩ := hw'; exact R9.out) Tryd.underlying23 rfl Z8.out ?_
    go_big_quiet_on
    try simp only [Act.put, List.setIfInBounds_toArray, List.set_cons_zero, List.set_cons_succ]
    go_big_quiet_want
    refine quiet_neq_hash 23 5 (.tmp 58) (.tmp 66) rfl Tryd.underlying23 Tryd.underlying5 Tryd.u8size Tryd.deqgH x x rfl rfl ?_
    go_big_quiet_on
    try simp only [Act.put, List.setIfInBounds_toArray, List.set_cons_zero, List.set_cons_succ]
    rw [HQ.out]
    repeat (go_big_quiet_step (fail))
    refine wpQuiet_nil ?_
    intro _ hw'
    obtain ⟨nq, rfl⟩ := hw'
    have KO : Hid (KeepsOthers W (W.drewN nq)) := ⟨Nat.le_refl _, fun _ _ h _ => h⟩
    have BO : Hid (Below wE.heap.size W (W.drewN nq)) := ⟨rfl, rfl, rfl, Nat.le_refl _, fun _ _ => rfl⟩
    have B7 : Hid (Blk (W.drewN nq) pi1 3 #[.int .i64 (k : Int)]) := HB7.out
    obtain ⟨Wd, hWd⟩ : ∃ x, W.drewN nq = x := ⟨_, rfl⟩
    rw [hWd] at KO BO B7 ⊢
    clear hWd c7 cw cq
    have ciz : Wd.cell? ⟨pi1, 0, none⟩ = some (.int .i64 (k : Int)) := B7.out.cell 0
    have fiz : Wd.frozen? ⟨pi1, 0, none⟩ = false := B7.out.frozen 0
    gi_wp2
    rw [HK64.out]
    exact ⟨KO.out.trans (KeepsOthers.setCell _ _ _), BO.out.setCell (p := ⟨pi1, 0, none⟩) HP1.out _, B7.out.set 0 _, (HV.out.trans BO.out).setCell (p := ⟨pi1, 0, none⟩) HP1.out _⟩
  case done1 =>
    rintro D1 W1 ⟨hB7, hV⟩ hD hDl
    subst ha0
    have KW1 : Hid (Below wE.heap.size wE W1) := hV
    have VW : Hid (Below wd.heap.size wd W1) := nxTo KK.out hV
    have c7 : W1.cell? ⟨pi1, 0, none⟩ = some (.int .i64 (G.length : Int)) := by rw [← HIl.out]; exact hB7.cell 0
    obtain ⟨cw, cq, _⟩ := HS2.out W1 VW.out
    have HD1 := Lib.hid hD
    have HDl1 : Hid (wE.heap.size ≤ D1) := Nat.le_trans KU1.out.size hDl
    have HDb1 : Hid (D1 < W1.heap.size) := (Array.getElem?_eq_some_iff.1 hD).1
    clear hB7 hV hD hDl
    go_wp2_with fail
    go_quiet (fail)
    have KX1 : Hid (Below wd.heap.size wd (W1.drewN nq)) := nxDrN8 VW.out _
    have J1 : Hid (Below W1.heap.size W1 (W1.drewN nq)) := nxDrN8 (nxRefl _) _
    obtain ⟨x1, hx1⟩ : ∃ x, W1.drewN nq = x := ⟨_, rfl⟩
    rw [hx1] at KX1 J1 ⊢
    clear hx1 c7 cw cq VW
    go_wp2_with fail
    rw [rounds_succ]
    go_wp2_with fail
    obtain ⟨u2, hu2⟩ : ∃ x, x1.alloc (.cells #[.int .i64 0] 3) = x := ⟨_, rfl⟩
    have KU2 : Hid (Below x1.heap.size x1 u2) := by rw [← hu2]; exact nxAlloc (nxRefl _) _
    have BU2 : Hid (Blk u2 x1.heap.size 3 #[.int .i64 0]) := by rw [← hu2]; exact heap_alloc_new _ _
    rw [hu2]
    obtain ⟨pi2, hpi2⟩ : ∃ x, x1.heap.size = x := ⟨_, rfl⟩
    have HP2 : Hid (x1.heap.size ≤ pi2) := Nat.le_of_eq hpi2
    rw [hpi2] at BU2 ⊢
    clear hu2 hpi2
    refine (wpIn_wide (n := 5)).1 ?_
    refine name_actIn fun a0 ha0 => ?_
    refine wpIn_rangeW2 (gf := 69) (lb := #[.pointer (some ⟨rb, 0, none⟩)]) (by rw [ha0]; rfl) (enters_of Tryd.func69 (by kernel_rfl) rfl) m.ids.length x1.heap.size KU2.out.size (fun k vs _ => ∃ x, k < m.ids.length ∧ idG G k = x ∧ vs = #[.agg (hC x).toArray])
      (fun k W => Blk W pi2 3 #[.int .i64 (k : Int)] ∧ Below x1.heap.size x1 W) (fun _ => False) ?seq2 ?size2 (fun _ _ _ _ _ _ h _ => h) ⟨BU2.out, KU2.out⟩ (fun k W W' h b => ⟨h.1.below b h.1.lt, nxTo h.2 b⟩) (fun k W l o o' h hl hh ho => ⟨h.1.putW o' hh ho, h.2.grown (grownBy_putObj' W l o') h.2.size (fun k e => by cases e; exact Nat.le_trans KU2.out.size hl)⟩) (fun W l o o' h _ _ _ => h)
      (fun k vs a1 W => ∃ x p8, k < m.ids.length ∧ idG G k = x ∧ vs = #[.agg (hC x).toArray] ∧ a1 = { tmps := (a0.tmps.setIfInBounds 49 (.agg (hC x).toArray)).setIfInBounds 8 (.pointer (some ⟨p8, 0, none⟩)), defers := [] } ∧ Blk W p8 23 (hC x).toArray ∧ Blk W pi2 3 #[.int .i64 (k : Int)] ∧ Below x1.heap.size x1 W) ?assign2 ?hRp2 ?body2 ?done2 (fun _ _ h => h.elim)
    case seq2 =>
      intro l J Jx W hbW hJ hY hJ0
      have hv : Below wd.heap.size wd u2 := nxTo KX1.out KU2.out
      refine vals1H_in u2 rb m.iA m.ids m.ic x1.heap.size (HRl.out _ KX1.out) (HRb.out _ hv) (HIds.out _ KX1.out _ KU2.out) HIm.out KU2.out.size l J Jx W (hbW.mono KU2.out.size) hJ ?_ hJ0
      rintro k vs W1 hk ⟨hk2, rfl⟩ hj hb
      exact hY k _ W1 hk ⟨_, hk, HIx.out k hk, rfl⟩ hj hb
    case size2 =>
      rintro k vs W ⟨x, _, _, rfl⟩
      rfl
    case assign2 =>
      rintro l k vs W hkN ⟨x, hk, hx, rfl⟩ ⟨hB7, hV⟩
      have HB7 := Lib.hid hB7
      have HV := Lib.hid hV
      have HF : Hid (∀ f, (Fence.wide.inRound l).fn f) := fun _ => trivial
      subst ha0
      clear hB7 hV
      gi_wp2_with (first
        | ((with_reducible show wpListIn _ _ _ _ _ (⟨none, .store 23 (.tmp 8) _, _, _, _, _⟩ :: _) _ _); refine gi_store_all HF.out rfl 23 (.tmp 8) (.tmp 49) rfl W.heap.size 23 (hC zH).toArray (hC x).toArray rfl rfl (blkNew rfl rfl) (by rw [List.size_toArray, List.size_toArray, hC_len, hC_len]) (hszB x) (hC_one x) ?_; intro w5 h5 h6 h7; have X5 := Lib.hid h5; have K5 : Hid (Below W.heap.size W w5) := (nxAlloc (nxRefl W) _).trans (h6.below (nxAlloc (nxRefl W) (.cells (hC zH).toArray 23)).size (fun j hj e => by omega)); have O5 : Hid (KeepsOthers W w5) := (KeepsOthers.alloc W (.cells (hC zH).toArray 23)).trans (h6.others (fun j hj o ho => by subst hj; rw [heap_alloc_new] at ho; cases ho; rfl)); clear h5 h6 h7))
      refine ⟨O5.out, K5.out.mono HV.out.size, x, W.heap.size, hk, hx, rfl, rfl, X5.out, HB7.out.below K5.out HB7.out.lt, nxTo HV.out K5.out⟩
    case hRp2 =>
      rintro k vs a1 W l o o' ⟨x, p8, hk, hx, rfl, rfl, hB8, hB7, hV⟩ hl hh ho
      exact ⟨x, p8, hk, hx, rfl, rfl, hB8.putW o' hh ho, hB7.putW o' hh ho, hV.grown (grownBy_putObj' W l o') hV.size (fun k e => by cases e; exact Nat.le_trans KU2.out.size hl)⟩
    case body2 =>
      rintro l k vs a1 W hkN ⟨x, p8, hk, hx, rfl, rfl, hB8, hB7, hV⟩
      subst ha0
      have HB7 := Lib.hid hB7
      have HV := Lib.hid hV
      have VW : Hid (Below wd.heap.size wd W) := nxTo KX1.out hV
      have c7 : W.cell? ⟨pi2, 0, none⟩ = some (.int .i64 (k : Int)) := hB7.cell 0
      obtain ⟨cw, cq, _⟩ := HS2.out W VW.out
      have hkG : k < G.length := by have := HIl.out; omega
      have R8 : Hid (W.rangeAt p8 0 (hC x)) := kb_range hB8
      have R9 : Hid (W.rangeAt b (f + k * 33) (hC x)) := by have := HNode.out W VW.out k hkG; rw [hx] at this; exact this
      have Z8 := Lib.hid (hszL x)
      have hin : (k : Int) < (G.length : Int) := by omega
      have hge : ¬ (G.length : Int) ≤ (k : Int) := by omega
      have hge2 : ¬ G.length ≤ k := by omega
      have hge3 : decide (G.length ≤ k) = false := decide_eq_false hge2
      have hbq : (!(x == x)) = false := by rw [beq_self_eq_true]; rfl
      have hk64 : wrap64 ((k : Int) + 1) = ((k + 1 : Nat) : Int) := by rw [IntWalk.wrap64_in _ (by have := HIm.out; omega)]; push_cast; rfl
      have HQ := Lib.hid hbq
      have HK64 := Lib.hid hk64
      clear hB8 hB7 hV hx hk hkN hkG hbq hk64
      dsimp only
      simp only [List.setIfInBounds_toArray, List.set_cons_zero, List.set_cons_succ]
      gi_wp2
      refine wpIn_round_quiet (by kernel_rfl) (by kernel_rfl) (by kernel_rfl) ?_
      repeat (go_big_quiet_step (fail))
      go_big_quiet_want
      refine quiet_load_mid 23 (.tmp 8) rfl p8 0 rfl (hC x) _ (fun w' hw' => by obtain ⟨q, rfl⟩ := hw'; exact R8.out) Tryd.underlying23 rfl Z8.out ?_
      go_big_quiet_on
      try simp only [Act.put, List.setIfInBounds_toArray, List.set_cons_zero, List.set_cons_succ]
      repeat (go_big_quiet_step (fail))
      go_big_quiet_want
      refine quiet_load_mid 23 (.tmp 65) rfl b (f + k * 33) rfl (hC x) _ (fun w' hw' => by obtain ⟨q, rfl⟩ := hw'; exact R9.out) Tryd.underlying23 rfl Z8.out ?_
      go_big_quiet_on
      try simp only [Act.put, List.setIfInBounds_toArray, List.set_cons_zero, List.set_cons_succ]
      go_big_quiet_want
      refine quiet_neq_hash 23 5 (.tmp 58) (.tmp 66) rfl Tryd.underlying23 Tryd.underlying5 Tryd.u8size Tryd.deqgH x x rfl rfl ?_
      go_big_quiet_on
      try simp only [Act.put, List.setIfInBounds_toArray, List.set_cons_zero, List.set_cons_succ]
      rw [HQ.out]
      repeat (go_big_quiet_step (fail))
      refine wpQuiet_nil ?_
      intro _ hw'
      obtain ⟨nq, rfl⟩ := hw'
      have KO : Hid (KeepsOthers W (W.drewN nq)) := ⟨Nat.le_refl _, fun _ _ h _ => h⟩
      have BO : Hid (Below x1.heap.size W (W.drewN nq)) := ⟨rfl, rfl, rfl, Nat.le_refl _, fun _ _ => rfl⟩
      have B7 : Hid (Blk (W.drewN nq) pi2 3 #[.int .i64 (k : Int)]) := HB7.out
      obtain ⟨Wd, hWd⟩ : ∃ x, W.drewN nq = x := ⟨_, rfl⟩
      rw [hWd] at KO BO B7 ⊢
      clear hWd c7 cw cq
      have ciz : Wd.cell? ⟨pi2, 0, none⟩ = some (.int .i64 (k : Int)) := B7.out.cell 0
      have fiz : Wd.frozen? ⟨pi2, 0, none⟩ = false := B7.out.frozen 0
      gi_wp2
      rw [HK64.out]
      exact ⟨KO.out.trans (KeepsOthers.setCell _ _ _), BO.out.setCell (p := ⟨pi2, 0, none⟩) HP2.out _, B7.out.set 0 _, (HV.out.trans BO.out).setCell (p := ⟨pi2, 0, none⟩) HP2.out _⟩
    case done2 =>
      rintro D2 W2 ⟨hB7, hV⟩ hD hDl
      subst ha0
      have KW2 : Hid (Below x1.heap.size x1 W2) := hV
      have VW : Hid (Below wd.heap.size wd W2) := nxTo KX1.out hV
      have c7 : W2.cell? ⟨pi2, 0, none⟩ = some (.int .i64 (G.length : Int)) := by rw [← HIl.out]; exact hB7.cell 0
      obtain ⟨cw, cq, _⟩ := HS2.out W2 VW.out
      have HD2 := Lib.hid hD
      have HDl2 : Hid (x1.heap.size ≤ D2) := Nat.le_trans KU2.out.size hDl
      have HDb2 : Hid (D2 < W2.heap.size) := (Array.getElem?_eq_some_iff.1 hD).1
      clear hB7 hV hD hDl
      go_wp2_with fail
      go_quiet (fail)
      have KX2 : Hid (Below wd.heap.size wd (W2.drewN nq)) := nxDrN8 VW.out _
      have J2 : Hid (Below W2.heap.size W2 (W2.drewN nq)) := nxDrN8 (nxRefl _) _
      obtain ⟨x2, hx2⟩ : ∃ x, W2.drewN nq = x := ⟨_, rfl⟩
      rw [hx2] at KX2 J2 ⊢
      clear hx2 c7 cw cq VW
      go_wp2_with fail
      rw [rounds_succ]
      go_wp2_with fail
      clear qfn
      obtain ⟨z0, hz0⟩ : ∃ x, x2 = x := ⟨_, rfl⟩
      rw [hz0] at KX2 J2 ⊢
      clear hz0
      go_loopw [9] (fun iv wr => ∃ i : Nat, i ≤ G.length ∧ iv = .int .i64 i ∧ Hid (Below z0.heap.size z0 wr)) (fun iv _ => G.length - (intOf iv).toNat)
      case atStart => exact ⟨0, Nat.zero_le _, rfl, nxRefl _⟩
      case round =>
        obtain ⟨i, hi, rfl, HK⟩ := hrel
        have hm9 := HMx.out
        have VW : Hid (Below wd.heap.size wd wr) := nxTo KX2.out HK.out
        obtain ⟨cw, cq, _⟩ := HS2.out wr VW.out
        by_cases hlt : i < G.length
        · have hin : (i : Int) < (G.length : Int) := by omega
          obtain ⟨x, hx⟩ : ∃ x, idG G i = x := ⟨_, rfl⟩
          have HN3 : Hid (∀ W, Below wr.heap.size wr W → W.rangeAt b (f + i * 33) (hC x)) := fun W hW => by rw [← hx]; exact HNode.out W (nxTo VW.out hW) i hlt
          clear hx
          have VD : Hid (Below wr.heap.size wr wr.drew) := nxDrT (nxRefl _)
          go_wp2_with fail
          have HS3 : Hid (∀ W, Below wr.drew.heap.size wr.drew W → W.cell? ⟨pw, 0, none⟩ = some (.pointer (some ⟨r.q, 0, none⟩)) ∧ W.cell? ⟨r.q, 0, none⟩ = some (.slice (some ⟨b, f, none⟩) G.length r.c) ∧ W.rangeAt b (f + i * 33) (hC x)) := fun W hW => ⟨(HS2.out W (nxTo VW.out (nxTo VD.out hW))).1, (HS2.out W (nxTo VW.out (nxTo VD.out hW))).2.1, HN3.out W (nxTo VD.out hW)⟩
          have HLk : Hid (∀ W, Below wr.drew.heap.size wr.drew W → ∀ id, Calls Tryd.prog 12 #[.pointer (some ⟨m.q, 0, none⟩), .pointer (some ⟨r.q, 0, none⟩), .agg (hC id).toArray] W fun e w' => e = .returned (.bool true) ∧ Below W.heap.size W w') := fun W hW id => looks_any W base m G r (HTw.out W (nxTo VW.out (nxTo VD.out hW))) HMx.out (HTb.out W (nxTo VW.out (nxTo VD.out hW))) id
          have KK : Hid (Below wr.drew.heap.size wr.drew wr.drew) := nxRefl _
          refine wp_noQD ?_
          refine wp_region_held_drew (S := fun W => W.cell? ⟨pw, 0, none⟩ = some (.pointer (some ⟨r.q, 0, none⟩)) ∧ W.cell? ⟨r.q, 0, none⟩ = some (.slice (some ⟨b, f, none⟩) G.length r.c) ∧ W.rangeAt b (f + i * 33) (hC x)) (by kernel_rfl) (HS3.out _ KK.out) (fun hHeld => ?_)
          generalize wr.drew = wq at *
          refine wpAnyH_take (i := 0) (oi := ⟨_, _, _, _, _, _⟩) (v := ?_) rfl (by kernel_rfl) (by kernel_rfl) (by kernel_rfl) (fun _ _ _ h => h) (Or.inl ⟨by rfl, ?_⟩) (by assumption) ?_
          rotate_left 1
          · intro W hSw
            try dsimp only at hSw
            obtain ⟨hs1, hs2, hs3⟩ := hSw
            go_simp
            try with_reducible rfl
          try simp only [Act.put, List.setIfInBounds_toArray, List.set_cons_zero, List.set_cons_succ]
          refine wpAnyH_take (i := 1) (oi := ⟨_, _, _, _, _, _⟩) (v := ?_) rfl (by kernel_rfl) (by kernel_rfl) (by kernel_rfl) (fun _ _ _ h => h) (Or.inl ⟨by rfl, ?_⟩) (by assumption) ?_
          rotate_left 1
          · intro W hSw
            try dsimp only at hSw
            obtain ⟨hs1, hs2, hs3⟩ := hSw
            go_simp
            try with_reducible rfl
          try simp only [Act.put, List.setIfInBounds_toArray, List.set_cons_zero, List.set_cons_succ]
          refine wpAnyH_take (i := 2) (oi := ⟨_, _, _, _, _, _⟩) (v := ?_) rfl (by kernel_rfl) (by kernel_rfl) (by kernel_rfl) (fun _ _ _ h => h) (Or.inl ⟨by rfl, ?_⟩) (by assumption) ?_
          rotate_left 1
          · intro W hSw
            try dsimp only at hSw
            obtain ⟨hs1, hs2, hs3⟩ := hSw
            go_simp
            try with_reducible rfl
          try simp only [Act.put, List.setIfInBounds_toArray, List.set_cons_zero, List.set_cons_succ]
          refine wpAnyH_take (i := 3) (oi := ⟨_, _, _, _, _, _⟩) (v := ?_) rfl (by kernel_rfl) (by kernel_rfl) (by kernel_rfl) (fun _ _ _ h => h) (Or.inl ⟨by rfl, ?_⟩) (by assumption) ?_
          rotate_left 1
          · intro W hSw
            try dsimp only at hSw
            obtain ⟨hs1, hs2, hs3⟩ := hSw
            go_simp
            try with_reducible rfl
          try simp only [Act.put, List.setIfInBounds_toArray, List.set_cons_zero, List.set_cons_succ]
          refine wpAnyH_take (i := 4) (oi := ⟨_, _, _, _, _, _⟩) (v := ?_) rfl (by kernel_rfl) (by kernel_rfl) (by kernel_rfl) (fun _ _ _ h => h) (Or.inl ⟨by rfl, ?_⟩) (by assumption) ?_
          rotate_left 1
          · intro W hSw
            try dsimp only at hSw
            obtain ⟨hs1, hs2, hs3⟩ := hSw
            go_simp
            try with_reducible rfl
          try simp only [Act.put, List.setIfInBounds_toArray, List.set_cons_zero, List.set_cons_succ]
          refine wpAnyH_take (i := 5) (oi := ⟨_, _, _, _, _, _⟩) (v := ?_) rfl (by kernel_rfl) (by kernel_rfl) (by kernel_rfl) (fun _ _ _ h => h) (Or.inl ⟨by rfl, ?_⟩) (by assumption) ?_
          rotate_left 1
          · intro W hSw
            try dsimp only at hSw
            obtain ⟨hs1, hs2, hs3⟩ := hSw
            go_simp
            try with_reducible rfl
          try simp only [Act.put, List.setIfInBounds_toArray, List.set_cons_zero, List.set_cons_succ]
          refine wpAnyH_take (i := 6) (oi := ⟨_, _, _, _, _, _⟩) (v := ?_) rfl (by kernel_rfl) (by kernel_rfl) (by kernel_rfl) (fun _ _ _ h => h) (Or.inl ⟨by rfl, ?_⟩) (by assumption) ?_
          rotate_left 1
          · intro W hSw
            try dsimp only at hSw
            obtain ⟨hs1, hs2, hs3⟩ := hSw
            go_simp
            try with_reducible rfl
          try simp only [Act.put, List.setIfInBounds_toArray, List.set_cons_zero, List.set_cons_succ]
          refine wpAnyH_take (i := 7) (oi := ⟨_, _, _, _, _, _⟩) (v := ?_) rfl (by kernel_rfl) (by kernel_rfl) (by kernel_rfl) (fun _ _ _ h => h) (Or.inl ⟨by rfl, ?_⟩) (by assumption) ?_
          rotate_left 1
          · intro W hSw
            try dsimp only at hSw
            obtain ⟨hs1, hs2, hs3⟩ := hSw
            go_simp
            try with_reducible rfl
          try simp only [Act.put, List.setIfInBounds_toArray, List.set_cons_zero, List.set_cons_succ]
          refine wpAnyH_take (i := 8) (oi := ⟨_, _, _, _, _, _⟩) (v := ?_) rfl (by kernel_rfl) (by kernel_rfl) (by kernel_rfl) (fun _ _ _ h => h) (Or.inl ⟨by rfl, ?_⟩) (by assumption) ?_
          rotate_left 1
          · intro W hSw
            try dsimp only at hSw
            obtain ⟨hs1, hs2, hs3⟩ := hSw
            go_simp
            try with_reducible rfl
          try simp only [Act.put, List.setIfInBounds_toArray, List.set_cons_zero, List.set_cons_succ]
          refine wpAnyH_take (i := 9) (oi := ⟨_, _, _, _, _, _⟩) (v := .agg (hC x).toArray) rfl (by kernel_rfl) (by kernel_rfl) (by kernel_rfl) (fun _ _ _ h => h) (yieldsIf_load_mid (by rfl) 23 (.tmp 95) rfl b (f + i * 33) rfl (hC x) _ (fun W hS => hS.2.2) Tryd.underlying23 rfl (hszL x)) (by assumption) ?_
          try simp only [Act.put, List.setIfInBounds_toArray, List.set_cons_zero, List.set_cons_succ]
          refine wpAnyH_ready (rs := [10]) (by kernel_rfl) (by simp) ?_
          refine AllReadyH.cons rfl (fun K hK => ?_) AllReadyH.nil
          go_simp
          go_at_call 12
          refine (HLk.out _ KK.out x).mono ?_
          rintro e wF ⟨rfl, hb⟩
          replace KK := Lib.hid (nxTo KK.out hb)
          clear hb
          refine hK.out _ _ (HS3.out _ KK.out) (fun hSn => ?_)
          clear hK K
          try simp only [Act.put, List.setIfInBounds_toArray, List.set_cons_zero, List.set_cons_succ]
          refine wpAnyH_take (i := 11) (oi := ⟨_, _, _, _, _, _⟩) (v := ?_) rfl (by kernel_rfl) (by kernel_rfl) (by kernel_rfl) (fun _ _ _ h => h) (Or.inl ⟨by rfl, ?_⟩) (by assumption) ?_
          rotate_left 1
          · intro W hSw
            try dsimp only at hSw
            obtain ⟨hs1, hs2, hs3⟩ := hSw
            go_simp
            try with_reducible rfl
          try simp only [Act.put, List.setIfInBounds_toArray, List.set_cons_zero, List.set_cons_succ]
          refine wpAnyH_done (by kernel_rfl) ?_ _
          go_wp2_with fail
          go_roundw
          case rel => exact ⟨i + 1, by omega, by go_num, nxTo HK.out (nxTo VD.out KK.out)⟩
          case measure => simp [intOf] <;> omega
        · obtain rfl : i = G.length := by omega
          have hb4 := HB4.out wr VW.out
          have HB5 := Lib.hid hb4
          have c4 : wr.cell? ⟨pb, 0, none⟩ = some (.bool false) := hb4.cell 0
          have f4 : wr.frozen? ⟨pb, 0, none⟩ = false := hb4.frozen 0
          clear hb4
          go_wp2_with fail
          have e2 : Below W2.heap.size W2 wr := nxTo J2.out HK.out
          have e1 : Below W1.heap.size W1 wr := nxTo J1.out (nxTo KW2.out e2)
          refine same_leave (pb := pb) _ rfl (HB5.out.set 0 _) ((nxTo HVw.out VW.out).setCell (p := ⟨pb, 0, none⟩) HPb.out _) ?_ ?_ ?_ ?_ ?_
          · exact (KeepsOthers.setCell wr ⟨pb, 0, none⟩ _).same _ _ ((e1.block D1 HDb1.out).trans HD1.out) rfl
          · exact (KeepsOthers.setCell wr ⟨pb, 0, none⟩ _).same _ _ ((e2.block D2 HDb2.out).trans HD2.out) rfl
          · have h1 := HDb1.out; have h2 := HDl2.out; have h3 := J1.out.size; omega
          · have h1 := HDl1.out; have h2 := KK.out.size; have h3 := HVw.out.size; omega
          · have h1 := HDl2.out; have h2 := KX1.out.size; have h3 := HVw.out.size; omega
end
end Go.Proofs.YtndkjmmmneianaaDoor
