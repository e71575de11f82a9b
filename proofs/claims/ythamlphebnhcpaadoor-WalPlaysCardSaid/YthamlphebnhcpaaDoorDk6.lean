/-
  disk: a step is done, and waits; steps are settled.
-/
import Derived.Test.YthamlphebnhcpaaDoorDk4
namespace Go.Proofs.YthamlphebnhcpaaDoor
open Go.RowKit

theorem step_build_oneD {P : Program} {ops : Array Oper} {o : Oper} {a : Act} {w : World} {K : Act → World → Prop} {Q : Exit → Act → World → Prop} {F : Prop} (hg : o.guard = none) (T E : TypeId) (x : Operand) (ho : o.op = .buildSlice T 1 #[(0, x)])
    (cs : List Value) (z : Value) (sz by_ : Nat) (hu : P.underlying T = some (.slice E)) (hi : (P.info? E).map (fun i => (i.zero, i.size, i.bytes)) = some (some z, sz, by_)) (h0 : 0 < sz) (h1 : sz ≤ 1000) (hc : cs.length = sz) (hx : a.eval x = .agg cs.toArray)
    (h : K (a.put o.dst (.slice (some ⟨w.heap.size, 0, none⟩) 1 1)) (w.alloc (.cells cs.toArray E))) : if Region.wanted o (yielded ops a.tmps) = true then Oper.wp P o a w K Q else F := by
  have hw : Region.wanted o (yielded ops a.tmps) = true := by simp [Region.wanted, hg]
  rw [if_pos hw]
  obtain ⟨i0, hi0, hz, hs, _⟩ := infoD hi
  refine wp_buildSlice T E 1 #[(0, x)] ho cs.toArray i0 z hu hi0 hz (by rw [hs]; omega) (by rw [hs]; omega) ?_ h
  rw [hs]
  have e : (#[(0, x)].map fun (p : Nat × Operand) => (p.1, a.eval p.2)).toList = [(0, .agg cs.toArray)] := by simp [hx]
  have hf := fill_one sz ((Array.range (1 * sz)).map (z.cells[· % z.cells.size]!)).toList cs (by simp) hc
  rw [Array.toArray_toList] at hf
  rw [e]; exact hf
theorem blkRD {w : World} {g : Nat} {t : TypeId} {vs : List Value} (h : Blk w g t vs.toArray) : w.rangeAt g 0 vs := by
  intro j v hv
  rw [Nat.zero_add, h.cell j]
  simpa using hv
theorem stC_one (s : StM) : ∀ u ∈ s.c, u.oneCell' = true := by
  intro u hu
  cases s <;> simp [StM.c, StM.whole, StM.torn] at hu <;> rcases hu with rfl | rfl <;> rfl
theorem stsC_one (W : List StM) : ∀ u ∈ stsC W, u.oneCell' = true := by
  intro u hu
  obtain ⟨r, hr, hu⟩ := List.mem_flatten.1 hu
  obtain ⟨s, _, rfl⟩ := List.mem_map.1 hr
  exact stC_one s u hu
theorem stsC_snoc (W : List StM) (s : StM) : stsC (W ++ [s]) = stsC W ++ s.c := by simp [stsC]
theorem DkOk.drew {w : World} {g : Nat} {m : DkM} (h : DkOk w g m) : DkOk w.drew g m := h.later ((Keeps.refl (fun _ => False) w).drew) (fun _ _ h => h) (fun _ _ h => h)
theorem StOk.drew {w : World} {s : StM} (h : StOk w s) : StOk w.drew s := h.keep ((Keeps.refl (fun _ => False) w).drew) (fun _ _ h => h)
theorem Tryd.stsize : (Tryd.prog.info? 86).map (·.size) = some 2 := by kernel_rfl
theorem Keeps.via {S S' : Nat → Prop} {w w1 w2 : World} (h : Keeps S w w1) (k : Keeps S' w1 w2) (hs : ∀ j, S' j → S j ∨ w.heap.size ≤ j) : Keeps S w w2 :=
  ⟨k.os.trans h.os, k.tape.trans h.tape, k.output.trans h.output, Nat.le_trans h.size k.size, fun b hb hn => (k.block b (Nat.lt_of_lt_of_le hb h.size) (fun h1 => by
    rcases hs b h1 with h2 | h2
    · exact hn h2
    · omega)).trans (h.block b hb hn)⟩
/-- What do leaves. -/
structure DoTo (w : World) (g : Nat) (m : DkM) (s : StM) (w' : World) (m' : DkM) : Prop where
  ok : DkOk w' g m'
  ft : ∀ j, foot g m' j → foot g m j ∨ w.heap.size ≤ j
  r : ∀ j, ro m' j → ro m j ∨ j ∈ s.ro ∨ w.heap.size ≤ j
  k : Keeps (foot g m) w w'
  d : m'.d = (burnD (waitD m.d s.d)).1
def DoPost (w : World) (g : Nat) (m : DkM) (s : StM) (e : Ending) (w' : World) : Prop := e = .returned (.int .i64 (burnD (waitD m.d s.d)).2) ∧ ∃ m', DoTo w g m s w' m'

set_option maxHeartbeats 4000000 in
set_option maxRecDepth 100000 in
theorem do_putF (w : World) (g : Nat) (m : DkM) (h : DkOk w g m) (s : StM) (hs : StOk w s) (hro : ∀ j ∈ s.ro, ¬ foot g m j ∧ j < w.heap.size) (hW : m.W.length ≤ 1000) (hf : -1 ≤ m.fuse) (hg : m.fuse < 9223372036854775808)
    (c0 c1 : Value) (hwh : s.whole = .func (.func 77) #[] #[c0, c1])
    (hcall : Calls Tryd.prog 77 #[.pointer (some ⟨g, 17, none⟩), c0, c1] (w.alloc (.cells s.c.toArray 86)).drew fun e w' => e = .returned (.tuple #[]) ∧ ∃ m', StepTo (w.alloc (.cells s.c.toArray 86)).drew g m (doS 16 m.d.X s.d) w' m') :
    Calls Tryd.prog 47 #[ptrD g, .agg #[s.whole, s.torn]] w (DoPost w g m s) := by
  obtain ⟨wh, hwe⟩ : ∃ v, s.whole = v := ⟨_, rfl⟩
  obtain ⟨to, hte⟩ : ∃ v, s.torn = v := ⟨_, rfl⟩
  have hsc : s.c = [wh, to] := by rw [StM.c, hwe, hte]
  have HSC := Lib.hid hsc
  rw [hwe] at hwh ⊢
  rw [hte]
  rw [hsc] at hcall
  subst hwh
  have HB0 : Hid (Blk (w.alloc (.cells [.func (.func 77) #[] #[c0, c1], to].toArray 86)) w.heap.size 86 [.func (.func 77) #[] #[c0, c1], to].toArray) := heap_alloc_new w _
  have HC0 : Hid ((w.alloc (.cells [.func (.func 77) #[] #[c0, c1], to].toArray 86)).cell? ⟨w.heap.size, 0, none⟩ = some (.func (.func 77) #[] #[c0, c1])) := HB0.out.cell 0
  have HL0 : Hid (w.heap.size < (w.alloc (.cells [.func (.func 77) #[] #[c0, c1], to].toArray 86)).heap.size) := by show _ < _; simp
  have H := Lib.hid h
  have HS := Lib.hid hs
  have HRO := Lib.hid hro
  have HWl := Lib.hid hW
  have HF : Hid (-1 ≤ m.fuse ∧ m.fuse < 9223372036854775808) := ⟨hf, hg⟩
  have HC := Lib.hid hcall
  have HST : Hid ((Tryd.prog.info? 86).map (·.size) = some [.func (.func 77) #[] #[c0, c1], to].length) := Tryd.stsize
  unfold ptrD DoPost
  clear h hs hro hW hf hg hcall hwe hte hsc
  go_enter Tryd.func47, Tryd.ntmps47
  go_wp2_with fail
  refine wp_region_held_drew (S := fun W => W.cell? ⟨w.heap.size, 0, none⟩ = some (.func (.func 77) #[] #[c0, c1])) (by kernel_rfl) HC0.out (fun hHeld => ?_)
  refine wpAnyH_take (i := 0) (oi := ⟨_, _, _, _, _, _⟩) (v := ?_) rfl (by kernel_rfl) (by kernel_rfl) (by kernel_rfl) (fun _ _ _ h => h) (Or.inl ⟨by rfl, ?_⟩) (by assumption) ?_
  rotate_left 1
  · intro W hSw
    try dsimp only at hSw
    go_simp
    try with_reducible rfl
  try simp only [Act.put, List.setIfInBounds_toArray, List.set_cons_zero, List.set_cons_succ]
  refine wpAnyH_take (i := 1) (oi := ⟨_, _, _, _, _, _⟩) (v := ?_) rfl (by kernel_rfl) (by kernel_rfl) (by kernel_rfl) (fun _ _ _ h => h) (Or.inl ⟨by rfl, ?_⟩) (by assumption) ?_
  rotate_left 1
  · intro W hSw
    try dsimp only at hSw
    go_simp
    try with_reducible rfl
  try simp only [Act.put, List.setIfInBounds_toArray, List.set_cons_zero, List.set_cons_succ]
  refine wpAnyH_take (i := 2) (oi := ⟨_, _, _, _, _, _⟩) (v := ?_) rfl (by kernel_rfl) (by kernel_rfl) (by kernel_rfl) (fun _ _ _ h => h) (Or.inl ⟨by rfl, ?_⟩) (by assumption) ?_
  rotate_left 1
  · intro W hSw
    try dsimp only at hSw
    go_simp
    try with_reducible rfl
  try simp only [Act.put, List.setIfInBounds_toArray, List.set_cons_zero, List.set_cons_succ]
  refine wpAnyH_take (i := 3) (oi := ⟨_, _, _, _, _, _⟩) (v := ?_) rfl (by kernel_rfl) (by kernel_rfl) (by kernel_rfl) (fun _ _ _ h => h) (Or.inl ⟨by rfl, ?_⟩) (by assumption) ?_
  rotate_left 1
  · intro W hSw
    try dsimp only at hSw
    go_simp
    try with_reducible rfl
  try simp only [Act.put, List.setIfInBounds_toArray, List.set_cons_zero, List.set_cons_succ]
  refine wpAnyH_take (i := 4) (oi := ⟨_, _, _, _, _, _⟩) (v := ?_) rfl (by kernel_rfl) (by kernel_rfl) (by kernel_rfl) (fun _ _ _ h => h) (Or.inl ⟨by rfl, ?_⟩) (by assumption) ?_
  rotate_left 1
  · intro W hSw
    try dsimp only at hSw
    go_simp
    try with_reducible rfl
  try simp only [Act.put, List.setIfInBounds_toArray, List.set_cons_zero, List.set_cons_succ]
  refine wpAnyH_ready (rs := [5]) (by kernel_rfl) (by simp) ?_
  refine AllReadyH.cons rfl (fun K hK => ?_) AllReadyH.nil
  go_simp
  go_at_call 77
  refine HC.out.mono ?_
  rintro e w1 ⟨rfl, m1, hm1⟩
  have M1 := Lib.hid hm1
  have B1 : Hid (Blk w1 w.heap.size 86 [.func (.func 77) #[] #[c0, c1], to].toArray) := HB0.out.keeps (show Keeps (foot g m) (w.alloc (.cells [.func (.func 77) #[] #[c0, c1], to].toArray 86)) w1 from ⟨hm1.to.k.os, hm1.to.k.tape, hm1.to.k.output, hm1.to.k.size, hm1.to.k.block⟩) (fun hj => by have := H.out.foot_lt hj; omega)
  clear hm1
  refine hK.out _ _ (B1.out.cell 0) (fun hSn => ?_)
  clear hK K
  try simp only [Act.put, List.setIfInBounds_toArray, List.set_cons_zero, List.set_cons_succ]
  refine wpAnyH_done (by kernel_rfl) ?_ _
  clear hHeld hSn HC HC0
  have K01 : Hid (Keeps (foot g m) w w1) := (show Keeps (foot g m) w (w.alloc (.cells [.func (.func 77) #[] #[c0, c1], to].toArray 86)) from (Keeps.refl _ w).alloc _).trans ⟨M1.out.to.k.os, M1.out.to.k.tape, M1.out.to.k.output, M1.out.to.k.size, M1.out.to.k.block⟩
  have HT : Hid (foot g m1 = foot g m1) := rfl
  have FT1 : Hid (∀ j, foot g m1 j → foot g m j ∨ w.heap.size ≤ j) := fun j hj => by
    rcases M1.out.to.ft j hj with h1 | h1
    · exact .inl h1
    · exact .inr (Nat.le_trans (by simp) h1)
  have C33 : Hid (w1.cell? ⟨g, 33, none⟩ = some (.slice m1.A m1.W.length m1.c)) := M1.out.to.ok.wait
  have D1 : Hid (DkOk w1 g m1) := M1.out.to.ok
  have C33d : Hid (w1.drew.cell? ⟨g, 33, none⟩ = some (.slice m1.A m1.W.length m1.c)) := C33.out
  have R1d : Hid (w1.drew.rangeAt w.heap.size 0 [.func (.func 77) #[] #[c0, c1], to]) := blkRD B1.out
  have S1 : Hid (StOk w1 s) := HS.out.keep K01.out (fun j hj => (HRO.out j hj).1)
  have NW : Hid (w.heap.size ≠ g) := by show _ ≠ _; have := H.out.lt; omega
  clear HS
  go_wp2_with fail
  refine wp_region_K (fun W => W.cell? ⟨g, 33, none⟩ = some (.slice m1.A m1.W.length m1.c) ∧ W.rangeAt w.heap.size 0 [.func (.func 77) #[] #[c0, c1], to]) 10 (by kernel_rfl) ⟨C33.out, blkRD B1.out⟩ (fun hSn => ?_)
  refine wpAnyK_pure (i := 0) (oi := ⟨_, _, _, _, _, _⟩) (v := ?_) rfl (by kernel_rfl) (by kernel_rfl) (by kernel_rfl) rfl (fun _ _ _ h => h) (Or.inl ⟨by rfl, ?_⟩) hSn ?_
  rotate_left 1
  · intro W hSw
    go_simp
    try with_reducible rfl
  replace hSn := (KT.set (i := 0) (by decide)).2 hSn
  try simp only [Act.put, List.setIfInBounds_toArray, List.set_cons_zero, List.set_cons_succ]
  refine wpAnyK_pure (i := 1) (oi := ⟨_, _, _, _, _, _⟩) (v := ?_) rfl (by kernel_rfl) (by kernel_rfl) (by kernel_rfl) rfl (fun _ _ _ h => h) (Or.inl ⟨by rfl, ?_⟩) hSn ?_
  rotate_left 1
  · intro W hSw
    go_simp
    try with_reducible rfl
  replace hSn := (KT.set (i := 1) (by decide)).2 hSn
  try simp only [Act.put, List.setIfInBounds_toArray, List.set_cons_zero, List.set_cons_succ]
  refine wpAnyK_pure (i := 2) (oi := ⟨_, _, _, _, _, _⟩) (v := ?_) rfl (by kernel_rfl) (by kernel_rfl) (by kernel_rfl) rfl (fun _ _ _ h => h) (Or.inl ⟨by rfl, ?_⟩) hSn ?_
  rotate_left 1
  · intro W hSw
    go_simp
    try with_reducible rfl
  replace hSn := (KT.set (i := 2) (by decide)).2 hSn
  try simp only [Act.put, List.setIfInBounds_toArray, List.set_cons_zero, List.set_cons_succ]
  refine wpAnyK_pure (i := 3) (oi := ⟨_, _, _, _, _, _⟩) (v := ?_) rfl (by kernel_rfl) (by kernel_rfl) (by kernel_rfl) rfl (fun _ _ _ h => h) (Or.inl ⟨by rfl, ?_⟩) hSn ?_
  rotate_left 1
  · intro W hSw
    go_simp
    try with_reducible rfl
  replace hSn := (KT.set (i := 3) (by decide)).2 hSn
  try simp only [Act.put, List.setIfInBounds_toArray, List.set_cons_zero, List.set_cons_succ]
  refine wpAnyK_chain (i := 4) [7, 10] (oi := ⟨_, _, _, _, _, _⟩) (v := ?_) rfl (by kernel_rfl) (by kernel_rfl) (by kernel_rfl) rfl (by kernel_rfl) (by kernel_rfl) (by kernel_rfl) (fun _ _ _ h => h) (Or.inl ⟨by rfl, ?_⟩) hSn ?_
  rotate_left 1
  · intro W hSw
    try dsimp only at hSw
    obtain ⟨hs1, hs2⟩ := hSw
    go_simp
    try with_reducible rfl
  replace hSn := (KT.set (i := 4) (by decide)).2 hSn
  try simp only [Act.put, List.setIfInBounds_toArray, List.set_cons_zero, List.set_cons_succ]
  refine wpAnyK_chain (i := 5) [6, 7, 10] (oi := ⟨_, _, _, _, _, _⟩) (v := .agg ([.func (.func 77) #[] #[c0, c1], to]).toArray) rfl (by kernel_rfl) (by kernel_rfl) (by kernel_rfl) rfl (by kernel_rfl) (by kernel_rfl) (by kernel_rfl) (fun _ _ _ h => h) (yieldsIf_load_mid (by rfl) 86 (.tmp 3) rfl (w.heap.size) (0) rfl ([.func (.func 77) #[] #[c0, c1], to]) _ (fun W h => h.2) Tryd.underlying86 rfl HST.out) hSn ?_
  replace hSn := (KT.set (i := 5) (by decide)).2 hSn
  try simp only [Act.put, List.setIfInBounds_toArray, List.set_cons_zero, List.set_cons_succ]
  clear hSn
  refine wpAnyK_ready (rs := [6]) (by kernel_rfl) (by simp) ?_
  refine AllReadyK.cons rfl (fun K hK => ?_) AllReadyK.nil
  refine step_build_oneD (o := ⟨some 17, _, _, _, _, _⟩) rfl 52 86 (.tmp 16) rfl [.func (.func 77) #[] #[c0, c1], to] _ 2 16 Tryd.underlying52 Tryd.stinfo (by decide) (by decide) rfl rfl ?_
  have C33b : (w1.drew.alloc (.cells [.func (.func 77) #[] #[c0, c1], to].toArray 86)).cell? ⟨g, 33, none⟩ = some (.slice m1.A m1.W.length m1.c) := (World.cell?_alloc_some w1.drew _ _ (by rw [C33d.out]; rfl)).trans C33d.out
  refine hK.out _ _ (fun _ => ⟨C33b, fun j v hv => (World.cell?_alloc_some w1.drew _ _ (by rw [R1d.out j v hv]; rfl)).trans (R1d.out j v hv)⟩) (fun hSn => ?_)
  clear hK K
  try simp only [Act.put, List.setIfInBounds_toArray, List.set_cons_zero, List.set_cons_succ]
  have KA : Hid (Keeps (fun _ => False) w1 (w1.drew.alloc (.cells [.func (.func 77) #[] #[c0, c1], to].toArray 86))) := (Keeps.refl (fun _ => False) w1).drew.alloc _
  have DA : Hid (DkOk (w1.drew.alloc (.cells [.func (.func 77) #[] #[c0, c1], to].toArray 86)) g m1) := D1.out.later KA.out (fun _ _ h => h) (fun _ _ h => h)
  have SA : Hid (SeesV (w1.drew.alloc (.cells [.func (.func 77) #[] #[c0, c1], to].toArray 86)) (w1.drew.alloc (.cells [.func (.func 77) #[] #[c0, c1], to].toArray 86)).heap.size (some ⟨w1.drew.heap.size, 0, none⟩) [.func (.func 77) #[] #[c0, c1], to]) := SeesV.blk (heap_alloc_new w1.drew _)
  have SO : Hid (∀ u ∈ [Value.func (.func 77) #[] #[c0, c1], to], u.oneCell' = true) := fun u hu => stC_one s u (by rw [HSC.out]; exact hu)
  have SZA : Hid ((w1.drew.alloc (.cells [.func (.func 77) #[] #[c0, c1], to].toArray 86)).heap.size = w1.heap.size + 1) := by show _ = _; simp
  have W1l : Hid (m1.W.length ≤ 1000) := by show _ ≤ _; rw [M1.out.W]; exact HWl.out
  obtain ⟨i0, hi0, hz0, hz1, hz2⟩ := infoD Tryd.stinfo
  have RA : Hid ((w1.drew.alloc (.cells [.func (.func 77) #[] #[c0, c1], to].toArray 86)).rangeAt w.heap.size 0 [.func (.func 77) #[] #[c0, c1], to]) := fun j v hv => (World.cell?_alloc_some w1.drew _ _ (by rw [R1d.out j v hv]; rfl)).trans (R1d.out j v hv)
  have LA : Hid (w.heap.size < (w1.drew.alloc (.cells [.func (.func 77) #[] #[c0, c1], to].toArray 86)).heap.size) := by show _ < _; rw [SZA.out]; have := B1.out.lt; omega
  have NA : Hid (¬ (m1.A.map (·.block) = some w.heap.size)) := fun e => by rw [M1.out.A] at e; have := H.out.foot_lt (.inr (.inl e)); omega
  obtain ⟨WA, hWA⟩ : ∃ WA, w1.drew.alloc (.cells [.func (.func 77) #[] #[c0, c1], to].toArray 86) = WA := ⟨_, rfl⟩
  rw [hWA] at KA DA SA SZA RA LA hSn ⊢
  obtain ⟨bA, hbA⟩ : ∃ bA, w1.drew.heap.size = bA := ⟨_, rfl⟩
  rw [hbA] at SA ⊢
  clear hWA hbA C33b
  clear hSn
  refine wpAnyK_ready (rs := [7]) (by kernel_rfl) (by simp) ?_
  refine AllReadyK.cons rfl (fun K hK => ?_) AllReadyK.nil
  refine step_append_seesV (o := ⟨some 18, _, _, _, _, _⟩) rfl (.tmp 15) (.tmp 17) 52 rfl 0 86 i0 _ 2 16 Tryd.underlying52 hi0 hz0 hz1 hz2 rfl (by decide) (.slice m1.A m1.W.length m1.c) m1.W.length (stsC m1.W) rfl DA.out.ww WA.heap.size (some ⟨bA, 0, none⟩) 1 1 [.func (.func 77) #[] #[c0, c1], to] rfl rfl SA.out SO.out (by have := W1l.out; omega) (by have := W1l.out; omega) (Nat.zero_le _) ?_
  intro v3 w3 h1 h2 h3
  have O3 := Lib.hid h1
  have G3 := Lib.hid h2
  have N3 := Lib.hid h3
  clear h1 h2 h3
  have K3 : Hid (Keeps (fun j => m1.A.map (·.block) = some j) WA w3) := Keeps.grown (Keeps.refl _ WA) G3.out (fun k e => by rw [own_blkD] at e; exact e)
  have NG : ¬ (m1.A.map (·.block) = some g) := (fun e => D1.out.b.notOwn D1.out.ww (by decide) (by rw [own_blkD]; exact e.symm))
  have B3 : Hid (Blk w3 g 54 (dkC m1).toArray) := DA.out.b.keeps K3.out NG
  obtain ⟨A3, c3, rfl⟩ := own_form O3.out
  refine hK.out _ _ (fun _ => ⟨(B3.out.cell 33).trans ((DA.out.b.cell 33).symm.trans DA.out.wait), fun j v hv => (K3.out.cell (p := ⟨w.heap.size, 0 + j, none⟩) LA.out NA.out).trans (RA.out j v hv)⟩) (fun hSn => ?_)
  clear hK K
  try simp only [Act.put, List.setIfInBounds_toArray, List.set_cons_zero, List.set_cons_succ]
  have f33 : w3.frozen? ⟨g, 33, none⟩ = false := B3.out.frozen _
  have c33 : w3.cell? ⟨g, 33, none⟩ = some (.slice m1.A m1.W.length m1.c) := (B3.out.cell 33).trans ((DA.out.b.cell 33).symm.trans DA.out.wait)
  refine wpAnyK_pure (i := 8) (oi := ⟨_, _, _, _, _, _⟩) (v := ?_) rfl (by kernel_rfl) (by kernel_rfl) (by kernel_rfl) rfl (fun _ _ _ h => h) (Or.inl ⟨by rfl, ?_⟩) hSn ?_
  rotate_left 1
  · intro W hSw
    go_simp
    try with_reducible rfl
  replace hSn := (KT.set (i := 8) (by decide)).2 hSn
  try simp only [Act.put, List.setIfInBounds_toArray, List.set_cons_zero, List.set_cons_succ]
  refine wpAnyK_pure (i := 9) (oi := ⟨_, _, _, _, _, _⟩) (v := ?_) rfl (by kernel_rfl) (by kernel_rfl) (by kernel_rfl) rfl (fun _ _ _ h => h) (Or.inl ⟨by rfl, ?_⟩) hSn ?_
  rotate_left 1
  · intro W hSw
    go_simp
    try with_reducible rfl
  replace hSn := (KT.set (i := 9) (by decide)).2 hSn
  try simp only [Act.put, List.setIfInBounds_toArray, List.set_cons_zero, List.set_cons_succ]
  clear hSn
  refine wpAnyK_ready (rs := [10]) (by kernel_rfl) (by simp) ?_
  refine AllReadyK.cons rfl (fun K hK => ?_) AllReadyK.nil
  go_simp
  refine hK.out _ _ (fun h => absurd h (by decide +kernel)) (fun hSn => ?_)
  clear hK K
  try simp only [Act.put, List.setIfInBounds_toArray, List.set_cons_zero, List.set_cons_succ]
  refine wpAnyK_done (by kernel_rfl) ?_ _
  clear hSn
  have hlen : (m1.W ++ [s]).length = m1.W.length + 1 := by simp
  have O4 : (w3.setCell ⟨g, 33, none⟩ (.slice A3 (m1.W.length + 1) c3)).ownsRow 0 86 2 (.slice A3 (m1.W ++ [s]).length c3) (m1.W ++ [s]).length (stsC (m1.W ++ [s])) := by
    rw [hlen, stsC_snoc, HSC.out]
    exact own_store O3.out B3.out (by decide) _ _
  have hW4 := DkTo.wait (w' := w3.setCell ⟨g, 33, none⟩ (.slice A3 (m1.W.length + 1) c3)) DA.out (A := A3) (c := c3) (V := m1.W ++ [s]) (by rw [hlen]; exact B3.out.set _ _) O4 (by
    have h := N3.out
    rw [own_blkD, own_blkD] at h
    rcases h with h | h
    · exact .inl h
    · exact .inr (.inr ⟨_, h, Nat.le_refl _⟩)) ((K3.out.mono (fun j _ h => .inr h)).setCell (.inl rfl) _) (fun s' hs' => by
    rcases List.mem_append.1 hs' with h | h
    · exact DA.out.s s' h
    · rw [List.mem_singleton.1 h]
      exact S1.out.keep KA.out (fun _ _ h => h)) (fun s' hs' j hj => by
    rcases List.mem_append.1 hs' with h | h
    · exact DA.out.f j ⟨s', h, hj⟩
    · rw [List.mem_singleton.1 h] at hj
      obtain ⟨h1, h2⟩ := HRO.out j hj
      refine ⟨fun h3 => ?_, by have := LA.out; omega⟩
      rcases FT1.out j h3 with h4 | h4
      · exact h1 h4
      · omega)
  have D4 := Lib.hid hW4.1
  have F4 := Lib.hid hW4.2.1
  have K4 := Lib.hid hW4.2.2
  have E4 : Hid (({ m1 with A := A3, c := c3, W := m1.W ++ [s] } : DkM).d = waitD m.d s.d) := by
    have e1 : ({ m1 with A := A3, c := c3, W := m1.W ++ [s] } : DkM).d = { m1.d with W := m1.d.W ++ [s.d] } := by simp [DkM.d]
    show _ = _
    rw [e1, M1.out.d]
    rfl
  have EF : m1.fuse = m.fuse := congrArg DkD.fuse M1.out.d
  have FF : Hid (-1 ≤ m1.fuse ∧ m1.fuse < 9223372036854775808) := by show _ ∧ _; rw [EF]; exact HF.out
  obtain ⟨w4, hw4⟩ : ∃ W, w3.setCell ⟨g, 33, none⟩ (.slice A3 (m1.W.length + 1) c3) = W := ⟨_, rfl⟩
  rw [hw4] at D4 K4 ⊢
  obtain ⟨m4, hm4⟩ : ∃ M, ({ m1 with A := A3, c := c3, W := m1.W ++ [s] } : DkM) = M := ⟨_, rfl⟩
  have R4 : Hid (∀ j, ro m4 j → ro m j ∨ j ∈ s.ro) := by
    rintro j ⟨s', hs', hj⟩
    rw [← hm4] at hs'
    rcases List.mem_append.1 hs' with h | h
    · rw [M1.out.W] at h; exact .inl ⟨s', h, hj⟩
    · rw [List.mem_singleton.1 h] at hj; exact .inr hj
  have G4 : Hid (m4.fuse = m1.fuse) := by show _ = _; rw [← hm4]
  rw [hm4] at D4 F4 E4
  clear hw4 hm4 hW4 O4 hlen O3 N3 B3 K3 G3 c33 f33 NG EF SO SA RA
  have HBn : Hid (Calls Tryd.prog 66 #[.pointer (some ⟨g, 0, none⟩)] w4 fun e w' => e = .returned (.int .i64 (burnD (waitD m.d s.d)).2) ∧ ∃ m', DkTo w4 g m4 w' m' ∧ m'.d = (burnD (waitD m.d s.d)).1 ∧ m'.W = m4.W) := by
    have h := burn_any w4 g m4 D4.out (by rw [G4.out]; exact FF.out.1) (by rw [G4.out]; exact FF.out.2)
    rw [E4.out] at h
    exact h
  go_wp2_with (go_at_call 66; refine HBn.out.mono ?_; rintro e w5 ⟨rfl, m5, hm5⟩; have M5 := Lib.hid hm5; clear hm5)
  go_ret
  have K14 : Keeps (foot g m) w w4 := (K01.out.trans (KA.out.mono (fun _ _ h => h.elim))).via K4.out FT1.out
  refine ⟨rfl, m5, M5.out.1.ok, fun j hj => ?_, fun j hj => ?_, K14.via M5.out.1.k (fun j hj => ?_), M5.out.2.1⟩
  · rcases M5.out.1.ft j hj with h | h
    · rcases F4.out j h with h | h
      · exact FT1.out j h
      · exact .inr (by have := LA.out; omega)
    · exact .inr (Nat.le_trans K14.size h)
  · rcases M5.out.1.r j hj with h | h
    · rcases R4.out j h with h | h
      · exact .inl h
      · exact .inr (.inl h)
    · exact .inr (.inr (Nat.le_trans K14.size h))
  · rcases F4.out j hj with h | h
    · exact FT1.out j h
    · exact .inr (by have := LA.out; omega)
set_option maxHeartbeats 4000000 in
set_option maxRecDepth 100000 in
theorem do_cutF (w : World) (g : Nat) (m : DkM) (h : DkOk w g m) (s : StM) (hs : StOk w s) (hro : ∀ j ∈ s.ro, ¬ foot g m j ∧ j < w.heap.size) (hW : m.W.length ≤ 1000) (hf : -1 ≤ m.fuse) (hg : m.fuse < 9223372036854775808)
    (c0 c1 : Value) (hwh : s.whole = .func (.func 67) #[] #[c0, c1])
    (hcall : Calls Tryd.prog 67 #[.pointer (some ⟨g, 17, none⟩), c0, c1] (w.alloc (.cells s.c.toArray 86)).drew fun e w' => e = .returned (.tuple #[]) ∧ ∃ m', StepTo (w.alloc (.cells s.c.toArray 86)).drew g m (doS 16 m.d.X s.d) w' m') :
    Calls Tryd.prog 47 #[ptrD g, .agg #[s.whole, s.torn]] w (DoPost w g m s) := by
  obtain ⟨wh, hwe⟩ : ∃ v, s.whole = v := ⟨_, rfl⟩
  obtain ⟨to, hte⟩ : ∃ v, s.torn = v := ⟨_, rfl⟩
  have hsc : s.c = [wh, to] := by rw [StM.c, hwe, hte]
  have HSC := Lib.hid hsc
  rw [hwe] at hwh ⊢
  rw [hte]
  rw [hsc] at hcall
  subst hwh
  have HB0 : Hid (Blk (w.alloc (.cells [.func (.func 67) #[] #[c0, c1], to].toArray 86)) w.heap.size 86 [.func (.func 67) #[] #[c0, c1], to].toArray) := heap_alloc_new w _
  have HC0 : Hid ((w.alloc (.cells [.func (.func 67) #[] #[c0, c1], to].toArray 86)).cell? ⟨w.heap.size, 0, none⟩ = some (.func (.func 67) #[] #[c0, c1])) := HB0.out.cell 0
  have HL0 : Hid (w.heap.size < (w.alloc (.cells [.func (.func 67) #[] #[c0, c1], to].toArray 86)).heap.size) := by show _ < _; simp
  have H := Lib.hid h
  have HS := Lib.hid hs
  have HRO := Lib.hid hro
  have HWl := Lib.hid hW
  have HF : Hid (-1 ≤ m.fuse ∧ m.fuse < 9223372036854775808) := ⟨hf, hg⟩
  have HC := Lib.hid hcall
  have HST : Hid ((Tryd.prog.info? 86).map (·.size) = some [.func (.func 67) #[] #[c0, c1], to].length) := Tryd.stsize
  unfold ptrD DoPost
  clear h hs hro hW hf hg hcall hwe hte hsc
  go_enter Tryd.func47, Tryd.ntmps47
  go_wp2_with fail
  refine wp_region_held_drew (S := fun W => W.cell? ⟨w.heap.size, 0, none⟩ = some (.func (.func 67) #[] #[c0, c1])) (by kernel_rfl) HC0.out (fun hHeld => ?_)
  refine wpAnyH_take (i := 0) (oi := ⟨_, _, _, _, _, _⟩) (v := ?_) rfl (by kernel_rfl) (by kernel_rfl) (by kernel_rfl) (fun _ _ _ h => h) (Or.inl ⟨by rfl, ?_⟩) (by assumption) ?_
  rotate_left 1
  · intro W hSw
    try dsimp only at hSw
    go_simp
    try with_reducible rfl
  try simp only [Act.put, List.setIfInBounds_toArray, List.set_cons_zero, List.set_cons_succ]
  refine wpAnyH_take (i := 1) (oi := ⟨_, _, _, _, _, _⟩) (v := ?_) rfl (by kernel_rfl) (by kernel_rfl) (by kernel_rfl) (fun _ _ _ h => h) (Or.inl ⟨by rfl, ?_⟩) (by assumption) ?_
  rotate_left 1
  · intro W hSw
    try dsimp only at hSw
    go_simp
    try with_reducible rfl
  try simp only [Act.put, List.setIfInBounds_toArray, List.set_cons_zero, List.set_cons_succ]
  refine wpAnyH_take (i := 2) (oi := ⟨_, _, _, _, _, _⟩) (v := ?_) rfl (by kernel_rfl) (by kernel_rfl) (by kernel_rfl) (fun _ _ _ h => h) (Or.inl ⟨by rfl, ?_⟩) (by assumption) ?_
  rotate_left 1
  · intro W hSw
    try dsimp only at hSw
    go_simp
    try with_reducible rfl
  try simp only [Act.put, List.setIfInBounds_toArray, List.set_cons_zero, List.set_cons_succ]
  refine wpAnyH_take (i := 3) (oi := ⟨_, _, _, _, _, _⟩) (v := ?_) rfl (by kernel_rfl) (by kernel_rfl) (by kernel_rfl) (fun _ _ _ h => h) (Or.inl ⟨by rfl, ?_⟩) (by assumption) ?_
  rotate_left 1
  · intro W hSw
    try dsimp only at hSw
    go_simp
    try with_reducible rfl
  try simp only [Act.put, List.setIfInBounds_toArray, List.set_cons_zero, List.set_cons_succ]
  refine wpAnyH_take (i := 4) (oi := ⟨_, _, _, _, _, _⟩) (v := ?_) rfl (by kernel_rfl) (by kernel_rfl) (by kernel_rfl) (fun _ _ _ h => h) (Or.inl ⟨by rfl, ?_⟩) (by assumption) ?_
  rotate_left 1
  · intro W hSw
    try dsimp only at hSw
    go_simp
    try with_reducible rfl
  try simp only [Act.put, List.setIfInBounds_toArray, List.set_cons_zero, List.set_cons_succ]
  refine wpAnyH_ready (rs := [5]) (by kernel_rfl) (by simp) ?_
  refine AllReadyH.cons rfl (fun K hK => ?_) AllReadyH.nil
  go_simp
  go_at_call 67
  refine HC.out.mono ?_
  rintro e w1 ⟨rfl, m1, hm1⟩
  have M1 := Lib.hid hm1
  have B1 : Hid (Blk w1 w.heap.size 86 [.func (.func 67) #[] #[c0, c1], to].toArray) := HB0.out.keeps (show Keeps (foot g m) (w.alloc (.cells [.func (.func 67) #[] #[c0, c1], to].toArray 86)) w1 from ⟨hm1.to.k.os, hm1.to.k.tape, hm1.to.k.output, hm1.to.k.size, hm1.to.k.block⟩) (fun hj => by have := H.out.foot_lt hj; omega)
  clear hm1
  refine hK.out _ _ (B1.out.cell 0) (fun hSn => ?_)
  clear hK K
  try simp only [Act.put, List.setIfInBounds_toArray, List.set_cons_zero, List.set_cons_succ]
  refine wpAnyH_done (by kernel_rfl) ?_ _
  clear hHeld hSn HC HC0
  have K01 : Hid (Keeps (foot g m) w w1) := (show Keeps (foot g m) w (w.alloc (.cells [.func (.func 67) #[] #[c0, c1], to].toArray 86)) from (Keeps.refl _ w).alloc _).trans ⟨M1.out.to.k.os, M1.out.to.k.tape, M1.out.to.k.output, M1.out.to.k.size, M1.out.to.k.block⟩
  have HT : Hid (foot g m1 = foot g m1) := rfl
  have FT1 : Hid (∀ j, foot g m1 j → foot g m j ∨ w.heap.size ≤ j) := fun j hj => by
    rcases M1.out.to.ft j hj with h1 | h1
    · exact .inl h1
    · exact .inr (Nat.le_trans (by simp) h1)
  have C33 : Hid (w1.cell? ⟨g, 33, none⟩ = some (.slice m1.A m1.W.length m1.c)) := M1.out.to.ok.wait
  have D1 : Hid (DkOk w1 g m1) := M1.out.to.ok
  have C33d : Hid (w1.drew.cell? ⟨g, 33, none⟩ = some (.slice m1.A m1.W.length m1.c)) := C33.out
  have R1d : Hid (w1.drew.rangeAt w.heap.size 0 [.func (.func 67) #[] #[c0, c1], to]) := blkRD B1.out
  have S1 : Hid (StOk w1 s) := HS.out.keep K01.out (fun j hj => (HRO.out j hj).1)
  have NW : Hid (w.heap.size ≠ g) := by show _ ≠ _; have := H.out.lt; omega
  clear HS
  go_wp2_with fail
  refine wp_region_K (fun W => W.cell? ⟨g, 33, none⟩ = some (.slice m1.A m1.W.length m1.c) ∧ W.rangeAt w.heap.size 0 [.func (.func 67) #[] #[c0, c1], to]) 10 (by kernel_rfl) ⟨C33.out, blkRD B1.out⟩ (fun hSn => ?_)
  refine wpAnyK_pure (i := 0) (oi := ⟨_, _, _, _, _, _⟩) (v := ?_) rfl (by kernel_rfl) (by kernel_rfl) (by kernel_rfl) rfl (fun _ _ _ h => h) (Or.inl ⟨by rfl, ?_⟩) hSn ?_
  rotate_left 1
  · intro W hSw
    go_simp
    try with_reducible rfl
  replace hSn := (KT.set (i := 0) (by decide)).2 hSn
  try simp only [Act.put, List.setIfInBounds_toArray, List.set_cons_zero, List.set_cons_succ]
  refine wpAnyK_pure (i := 1) (oi := ⟨_, _, _, _, _, _⟩) (v := ?_) rfl (by kernel_rfl) (by kernel_rfl) (by kernel_rfl) rfl (fun _ _ _ h => h) (Or.inl ⟨by rfl, ?_⟩) hSn ?_
  rotate_left 1
  · intro W hSw
    go_simp
    try with_reducible rfl
  replace hSn := (KT.set (i := 1) (by decide)).2 hSn
  try simp only [Act.put, List.setIfInBounds_toArray, List.set_cons_zero, List.set_cons_succ]
  refine wpAnyK_pure (i := 2) (oi := ⟨_, _, _, _, _, _⟩) (v := ?_) rfl (by kernel_rfl) (by kernel_rfl) (by kernel_rfl) rfl (fun _ _ _ h => h) (Or.inl ⟨by rfl, ?_⟩) hSn ?_
  rotate_left 1
  · intro W hSw
    go_simp
    try with_reducible rfl
  replace hSn := (KT.set (i := 2) (by decide)).2 hSn
  try simp only [Act.put, List.setIfInBounds_toArray, List.set_cons_zero, List.set_cons_succ]
  refine wpAnyK_pure (i := 3) (oi := ⟨_, _, _, _, _, _⟩) (v := ?_) rfl (by kernel_rfl) (by kernel_rfl) (by kernel_rfl) rfl (fun _ _ _ h => h) (Or.inl ⟨by rfl, ?_⟩) hSn ?_
  rotate_left 1
  · intro W hSw
    go_simp
    try with_reducible rfl
  replace hSn := (KT.set (i := 3) (by decide)).2 hSn
  try simp only [Act.put, List.setIfInBounds_toArray, List.set_cons_zero, List.set_cons_succ]
  refine wpAnyK_chain (i := 4) [7, 10] (oi := ⟨_, _, _, _, _, _⟩) (v := ?_) rfl (by kernel_rfl) (by kernel_rfl) (by kernel_rfl) rfl (by kernel_rfl) (by kernel_rfl) (by kernel_rfl) (fun _ _ _ h => h) (Or.inl ⟨by rfl, ?_⟩) hSn ?_
  rotate_left 1
  · intro W hSw
    try dsimp only at hSw
    obtain ⟨hs1, hs2⟩ := hSw
    go_simp
    try with_reducible rfl
  replace hSn := (KT.set (i := 4) (by decide)).2 hSn
  try simp only [Act.put, List.setIfInBounds_toArray, List.set_cons_zero, List.set_cons_succ]
  refine wpAnyK_chain (i := 5) [6, 7, 10] (oi := ⟨_, _, _, _, _, _⟩) (v := .agg ([.func (.func 67) #[] #[c0, c1], to]).toArray) rfl (by kernel_rfl) (by kernel_rfl) (by kernel_rfl) rfl (by kernel_rfl) (by kernel_rfl) (by kernel_rfl) (fun _ _ _ h => h) (yieldsIf_load_mid (by rfl) 86 (.tmp 3) rfl (w.heap.size) (0) rfl ([.func (.func 67) #[] #[c0, c1], to]) _ (fun W h => h.2) Tryd.underlying86 rfl HST.out) hSn ?_
  replace hSn := (KT.set (i := 5) (by decide)).2 hSn
  try simp only [Act.put, List.setIfInBounds_toArray, List.set_cons_zero, List.set_cons_succ]
  clear hSn
  refine wpAnyK_ready (rs := [6]) (by kernel_rfl) (by simp) ?_
  refine AllReadyK.cons rfl (fun K hK => ?_) AllReadyK.nil
  refine step_build_oneD (o := ⟨some 17, _, _, _, _, _⟩) rfl 52 86 (.tmp 16) rfl [.func (.func 67) #[] #[c0, c1], to] _ 2 16 Tryd.underlying52 Tryd.stinfo (by decide) (by decide) rfl rfl ?_
  have C33b : (w1.drew.alloc (.cells [.func (.func 67) #[] #[c0, c1], to].toArray 86)).cell? ⟨g, 33, none⟩ = some (.slice m1.A m1.W.length m1.c) := (World.cell?_alloc_some w1.drew _ _ (by rw [C33d.out]; rfl)).trans C33d.out
  refine hK.out _ _ (fun _ => ⟨C33b, fun j v hv => (World.cell?_alloc_some w1.drew _ _ (by rw [R1d.out j v hv]; rfl)).trans (R1d.out j v hv)⟩) (fun hSn => ?_)
  clear hK K
  try simp only [Act.put, List.setIfInBounds_toArray, List.set_cons_zero, List.set_cons_succ]
  have KA : Hid (Keeps (fun _ => False) w1 (w1.drew.alloc (.cells [.func (.func 67) #[] #[c0, c1], to].toArray 86))) := (Keeps.refl (fun _ => False) w1).drew.alloc _
  have DA : Hid (DkOk (w1.drew.alloc (.cells [.func (.func 67) #[] #[c0, c1], to].toArray 86)) g m1) := D1.out.later KA.out (fun _ _ h => h) (fun _ _ h => h)
  have SA : Hid (SeesV (w1.drew.alloc (.cells [.func (.func 67) #[] #[c0, c1], to].toArray 86)) (w1.drew.alloc (.cells [.func (.func 67) #[] #[c0, c1], to].toArray 86)).heap.size (some ⟨w1.drew.heap.size, 0, none⟩) [.func (.func 67) #[] #[c0, c1], to]) := SeesV.blk (heap_alloc_new w1.drew _)
  have SO : Hid (∀ u ∈ [Value.func (.func 67) #[] #[c0, c1], to], u.oneCell' = true) := fun u hu => stC_one s u (by rw [HSC.out]; exact hu)
  have SZA : Hid ((w1.drew.alloc (.cells [.func (.func 67) #[] #[c0, c1], to].toArray 86)).heap.size = w1.heap.size + 1) := by show _ = _; simp
  have W1l : Hid (m1.W.length ≤ 1000) := by show _ ≤ _; rw [M1.out.W]; exact HWl.out
  obtain ⟨i0, hi0, hz0, hz1, hz2⟩ := infoD Tryd.stinfo
  have RA : Hid ((w1.drew.alloc (.cells [.func (.func 67) #[] #[c0, c1], to].toArray 86)).rangeAt w.heap.size 0 [.func (.func 67) #[] #[c0, c1], to]) := fun j v hv => (World.cell?_alloc_some w1.drew _ _ (by rw [R1d.out j v hv]; rfl)).trans (R1d.out j v hv)
  have LA : Hid (w.heap.size < (w1.drew.alloc (.cells [.func (.func 67) #[] #[c0, c1], to].toArray 86)).heap.size) := by show _ < _; rw [SZA.out]; have := B1.out.lt; omega
  have NA : Hid (¬ (m1.A.map (·.block) = some w.heap.size)) := fun e => by rw [M1.out.A] at e; have := H.out.foot_lt (.inr (.inl e)); omega
  obtain ⟨WA, hWA⟩ : ∃ WA, w1.drew.alloc (.cells [.func (.func 67) #[] #[c0, c1], to].toArray 86) = WA := ⟨_, rfl⟩
  rw [hWA] at KA DA SA SZA RA LA hSn ⊢
  obtain ⟨bA, hbA⟩ : ∃ bA, w1.drew.heap.size = bA := ⟨_, rfl⟩
  rw [hbA] at SA ⊢
  clear hWA hbA C33b
  clear hSn
  refine wpAnyK_ready (rs := [7]) (by kernel_rfl) (by simp) ?_
  refine AllReadyK.cons rfl (fun K hK => ?_) AllReadyK.nil
  refine step_append_seesV (o := ⟨some 18, _, _, _, _, _⟩) rfl (.tmp 15) (.tmp 17) 52 rfl 0 86 i0 _ 2 16 Tryd.underlying52 hi0 hz0 hz1 hz2 rfl (by decide) (.slice m1.A m1.W.length m1.c) m1.W.length (stsC m1.W) rfl DA.out.ww WA.heap.size (some ⟨bA, 0, none⟩) 1 1 [.func (.func 67) #[] #[c0, c1], to] rfl rfl SA.out SO.out (by have := W1l.out; omega) (by have := W1l.out; omega) (Nat.zero_le _) ?_
  intro v3 w3 h1 h2 h3
  have O3 := Lib.hid h1
  have G3 := Lib.hid h2
  have N3 := Lib.hid h3
  clear h1 h2 h3
  have K3 : Hid (Keeps (fun j => m1.A.map (·.block) = some j) WA w3) := Keeps.grown (Keeps.refl _ WA) G3.out (fun k e => by rw [own_blkD] at e; exact e)
  have NG : ¬ (m1.A.map (·.block) = some g) := (fun e => D1.out.b.notOwn D1.out.ww (by decide) (by rw [own_blkD]; exact e.symm))
  have B3 : Hid (Blk w3 g 54 (dkC m1).toArray) := DA.out.b.keeps K3.out NG
  obtain ⟨A3, c3, rfl⟩ := own_form O3.out
  refine hK.out _ _ (fun _ => ⟨(B3.out.cell 33).trans ((DA.out.b.cell 33).symm.trans DA.out.wait), fun j v hv => (K3.out.cell (p := ⟨w.heap.size, 0 + j, none⟩) LA.out NA.out).trans (RA.out j v hv)⟩) (fun hSn => ?_)
  clear hK K
  try simp only [Act.put, List.setIfInBounds_toArray, List.set_cons_zero, List.set_cons_succ]
  have f33 : w3.frozen? ⟨g, 33, none⟩ = false := B3.out.frozen _
  have c33 : w3.cell? ⟨g, 33, none⟩ = some (.slice m1.A m1.W.length m1.c) := (B3.out.cell 33).trans ((DA.out.b.cell 33).symm.trans DA.out.wait)
  refine wpAnyK_pure (i := 8) (oi := ⟨_, _, _, _, _, _⟩) (v := ?_) rfl (by kernel_rfl) (by kernel_rfl) (by kernel_rfl) rfl (fun _ _ _ h => h) (Or.inl ⟨by rfl, ?_⟩) hSn ?_
  rotate_left 1
  · intro W hSw
    go_simp
    try with_reducible rfl
  replace hSn := (KT.set (i := 8) (by decide)).2 hSn
  try simp only [Act.put, List.setIfInBounds_toArray, List.set_cons_zero, List.set_cons_succ]
  refine wpAnyK_pure (i := 9) (oi := ⟨_, _, _, _, _, _⟩) (v := ?_) rfl (by kernel_rfl) (by kernel_rfl) (by kernel_rfl) rfl (fun _ _ _ h => h) (Or.inl ⟨by rfl, ?_⟩) hSn ?_
  rotate_left 1
  · intro W hSw
    go_simp
    try with_reducible rfl
  replace hSn := (KT.set (i := 9) (by decide)).2 hSn
  try simp only [Act.put, List.setIfInBounds_toArray, List.set_cons_zero, List.set_cons_succ]
  clear hSn
  refine wpAnyK_ready (rs := [10]) (by kernel_rfl) (by simp) ?_
  refine AllReadyK.cons rfl (fun K hK => ?_) AllReadyK.nil
  go_simp
  refine hK.out _ _ (fun h => absurd h (by decide +kernel)) (fun hSn => ?_)
  clear hK K
  try simp only [Act.put, List.setIfInBounds_toArray, List.set_cons_zero, List.set_cons_succ]
  refine wpAnyK_done (by kernel_rfl) ?_ _
  clear hSn
  have hlen : (m1.W ++ [s]).length = m1.W.length + 1 := by simp
  have O4 : (w3.setCell ⟨g, 33, none⟩ (.slice A3 (m1.W.length + 1) c3)).ownsRow 0 86 2 (.slice A3 (m1.W ++ [s]).length c3) (m1.W ++ [s]).length (stsC (m1.W ++ [s])) := by
    rw [hlen, stsC_snoc, HSC.out]
    exact own_store O3.out B3.out (by decide) _ _
  have hW4 := DkTo.wait (w' := w3.setCell ⟨g, 33, none⟩ (.slice A3 (m1.W.length + 1) c3)) DA.out (A := A3) (c := c3) (V := m1.W ++ [s]) (by rw [hlen]; exact B3.out.set _ _) O4 (by
    have h := N3.out
    rw [own_blkD, own_blkD] at h
    rcases h with h | h
    · exact .inl h
    · exact .inr (.inr ⟨_, h, Nat.le_refl _⟩)) ((K3.out.mono (fun j _ h => .inr h)).setCell (.inl rfl) _) (fun s' hs' => by
    rcases List.mem_append.1 hs' with h | h
    · exact DA.out.s s' h
    · rw [List.mem_singleton.1 h]
      exact S1.out.keep KA.out (fun _ _ h => h)) (fun s' hs' j hj => by
    rcases List.mem_append.1 hs' with h | h
    · exact DA.out.f j ⟨s', h, hj⟩
    · rw [List.mem_singleton.1 h] at hj
      obtain ⟨h1, h2⟩ := HRO.out j hj
      refine ⟨fun h3 => ?_, by have := LA.out; omega⟩
      rcases FT1.out j h3 with h4 | h4
      · exact h1 h4
      · omega)
  have D4 := Lib.hid hW4.1
  have F4 := Lib.hid hW4.2.1
  have K4 := Lib.hid hW4.2.2
  have E4 : Hid (({ m1 with A := A3, c := c3, W := m1.W ++ [s] } : DkM).d = waitD m.d s.d) := by
    have e1 : ({ m1 with A := A3, c := c3, W := m1.W ++ [s] } : DkM).d = { m1.d with W := m1.d.W ++ [s.d] } := by simp [DkM.d]
    show _ = _
    rw [e1, M1.out.d]
    rfl
  have EF : m1.fuse = m.fuse := congrArg DkD.fuse M1.out.d
  have FF : Hid (-1 ≤ m1.fuse ∧ m1.fuse < 9223372036854775808) := by show _ ∧ _; rw [EF]; exact HF.out
  obtain ⟨w4, hw4⟩ : ∃ W, w3.setCell ⟨g, 33, none⟩ (.slice A3 (m1.W.length + 1) c3) = W := ⟨_, rfl⟩
  rw [hw4] at D4 K4 ⊢
  obtain ⟨m4, hm4⟩ : ∃ M, ({ m1 with A := A3, c := c3, W := m1.W ++ [s] } : DkM) = M := ⟨_, rfl⟩
  have R4 : Hid (∀ j, ro m4 j → ro m j ∨ j ∈ s.ro) := by
    rintro j ⟨s', hs', hj⟩
    rw [← hm4] at hs'
    rcases List.mem_append.1 hs' with h | h
    · rw [M1.out.W] at h; exact .inl ⟨s', h, hj⟩
    · rw [List.mem_singleton.1 h] at hj; exact .inr hj
  have G4 : Hid (m4.fuse = m1.fuse) := by show _ = _; rw [← hm4]
  rw [hm4] at D4 F4 E4
  clear hw4 hm4 hW4 O4 hlen O3 N3 B3 K3 G3 c33 f33 NG EF SO SA RA
  have HBn : Hid (Calls Tryd.prog 66 #[.pointer (some ⟨g, 0, none⟩)] w4 fun e w' => e = .returned (.int .i64 (burnD (waitD m.d s.d)).2) ∧ ∃ m', DkTo w4 g m4 w' m' ∧ m'.d = (burnD (waitD m.d s.d)).1 ∧ m'.W = m4.W) := by
    have h := burn_any w4 g m4 D4.out (by rw [G4.out]; exact FF.out.1) (by rw [G4.out]; exact FF.out.2)
    rw [E4.out] at h
    exact h
  go_wp2_with (go_at_call 66; refine HBn.out.mono ?_; rintro e w5 ⟨rfl, m5, hm5⟩; have M5 := Lib.hid hm5; clear hm5)
  go_ret
  have K14 : Keeps (foot g m) w w4 := (K01.out.trans (KA.out.mono (fun _ _ h => h.elim))).via K4.out FT1.out
  refine ⟨rfl, m5, M5.out.1.ok, fun j hj => ?_, fun j hj => ?_, K14.via M5.out.1.k (fun j hj => ?_), M5.out.2.1⟩
  · rcases M5.out.1.ft j hj with h | h
    · rcases F4.out j h with h | h
      · exact FT1.out j h
      · exact .inr (by have := LA.out; omega)
    · exact .inr (Nat.le_trans K14.size h)
  · rcases M5.out.1.r j hj with h | h
    · rcases R4.out j h with h | h
      · exact .inl h
      · exact .inr (.inl h)
    · exact .inr (.inr (Nat.le_trans K14.size h))
  · rcases F4.out j hj with h | h
    · exact FT1.out j h
    · exact .inr (by have := LA.out; omega)
end Go.Proofs.YthamlphebnhcpaaDoor
