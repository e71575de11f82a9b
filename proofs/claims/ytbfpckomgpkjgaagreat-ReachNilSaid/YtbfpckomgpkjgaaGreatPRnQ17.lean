/-
  dag: DagBefore's law.
  dag: the document's Before, Apart.
-/
import Derived.Test.YtbfpckomgpkjgaaGreatDh1
import Derived.Deep.CutRange
namespace Go.Proofs.YtbfpckomgpkjgaaGreat
open Go.RowKit Go.Shelf

theorem bef_in {G : Gr} (o : OkG G) (y x : Hh) : befB G y x = decide (y ∈ pastG G [x]) := by
  rw [Bool.eq_iff_iff, decide_eq_true_eq]
  constructor
  · intro h
    unfold befB at h
    cases hy : placeG G y with
    | none => rw [hy] at h; cases h
    | some a =>
      cases hx : placeG G x with
      | none => rw [hy, hx] at h; cases h
      | some n =>
        rw [hy, hx] at h
        have hA := @of_decide_eq_true _ (Classical.propDecidable _) h
        exact mem_ansG.2 ⟨a, (placeG_some hy).1, ⟨x, by simp, n, hx, hA⟩, (placeG_some hy).2⟩
  · intro h
    obtain ⟨a, ha, ⟨z, hz, n, hn, hA⟩, hid⟩ := mem_ansG.1 h
    rw [List.mem_singleton] at hz
    subst hz
    unfold befB
    rw [← hid, placeG_id o ha, hn]
    exact @decide_eq_true _ (Classical.propDecidable _) hA
theorem past_le (G : Gr) (ids : List Hh) : (pastG G ids).length ≤ G.length := by
  unfold pastG ansG
  refine Nat.le_trans (risH_le _) ?_
  rw [List.length_map]
  refine Nat.le_trans (List.length_filter_le _ _) ?_
  simp
theorem past_nil (G : Gr) : pastG G [] = [] := by
  have : ∀ x, ¬ x ∈ pastG G [] := fun x hx => by
    obtain ⟨a, ha, ⟨z, hz, _⟩, _⟩ := mem_ansG.1 hx
    exact absurd hz List.not_mem_nil
  exact List.eq_nil_iff_forall_not_mem.2 this
/-- The graph's first hashes. -/
def gidsG (G : Gr) (i : Nat) : List Hh := (List.range i).map (idG G)
theorem gids_len (G : Gr) (i : Nat) : (gidsG G i).length = i := by simp [gidsG]
theorem gids_succ (G : Gr) (i : Nat) : gidsG G (i + 1) = gidsG G i ++ [idG G i] := by unfold gidsG; rw [List.range_succ, List.map_append]; rfl
end Go.Proofs.YtbfpckomgpkjgaaGreat

namespace Go.Proofs.YtbfpckomgpkjgaaGreat
open Go.RowKit

theorem step_build1g {P : Program} {ops : Array Oper} {o : Oper} {a : Act} {w : World} {K : Act → World → Prop} {Q : Exit → Act → World → Prop} {F : Prop} (hw : Region.wanted o (yielded ops a.tmps) = true) (T E : TypeId) (x : Operand) (ho : o.op = .buildSlice T 1 #[(0, x)])
    (cs : List Value) (z : Value) (sz by_ : Nat) (hu : P.underlying T = some (.slice E)) (hi : (P.info? E).map (fun i => (i.zero, i.size, i.bytes)) = some (some z, sz, by_)) (h0 : 0 < sz) (h1 : sz ≤ 1000) (hc : cs.length = sz) (hx : a.eval x = .agg cs.toArray)
    (h : K (a.put o.dst (.slice (some ⟨w.heap.size, 0, none⟩) 1 1)) (w.alloc (.cells cs.toArray E))) : if Region.wanted o (yielded ops a.tmps) = true then Oper.wp P o a w K Q else F := by
  rw [if_pos hw]
  obtain ⟨i0, hi0, hz, hs, _⟩ := info_parts hi
  refine wp_buildSlice T E 1 #[(0, x)] ho cs.toArray i0 z hu hi0 hz (by rw [hs]; omega) (by rw [hs]; omega) ?_ h
  rw [hs]
  exact fill_of1 (by_ := by_) hi0 hz hs hc hx
/-- The document's graph in memory, with the graph that it stands for. -/
structure RGd (w : World) (base : Nat) (r : RGm) (G : Gr) : Prop where
  d : RGOk w base r
  rel : RelG r.l G
  ok : OkG G
  mx : G.length ≤ 1000
theorem RGd.later {w w' : World} {base : Nat} {r : RGm} {G : Gr} (h : RGd w base r G) (k : Below w.heap.size w w') : RGd w' base r G := ⟨h.d.later k, h.rel, h.ok, h.mx⟩
def psG (G : Gr) (i : Nat) : List Hh := risH ((parG G i).map (idG G))
theorem psG_len {G : Gr} (o : OkG G) (i : Nat) : (psG G i).length ≤ G.length := by
  refine Nat.le_trans (risH_le _) ?_
  rw [List.length_map]
  exact len_le_of (o.dis i) (fun x hx => Nat.lt_trans (o.par i x hx) (parG_lt hx))
theorem rat2_any (w : World) (base : Nat) (r : RGm) (G : Gr) (h : RGd w base r G) (x : Hh) : Calls Tryz.prog 13 #[.pointer (some ⟨r.q, 0, none⟩), .agg (hC x).toArray] w fun e w' => e = .returned (.int .i64 (match placeG G x with | some n => (n : Int) | none => -1)) ∧ Below w.heap.size w w' := by
  have := rat_any w base r x h.d
  rw [h.rel.place x] at this
  exact this
theorem RGd.node {w : World} {base : Nat} {r : RGm} {G : Gr} (h : RGd w base r G) {i : Nat} (hi : i < G.length) : ∃ b f A c, w.cell? ⟨r.q, 0, none⟩ = some (.slice (some ⟨b, f, none⟩) G.length r.c) ∧ b < w.heap.size ∧ w.rangeAt b (f + i * 33) (hC (idG G i)) ∧ w.cell? ⟨b, f + i * 33 + 32, none⟩ = some (.slice A (psG G i).length c) ∧ SeesV w w.heap.size A (hsC (psG G i)) := by
  have hl := h.rel.len
  have hir : i < r.l.length := by rw [hl]; exact hi
  obtain ⟨b, f, hA, hb, hr⟩ := sees_node h.d.s hir
  have hc : w.cell? ⟨r.q, 0, none⟩ = some (.slice r.A r.l.length r.c) := h.d.b.cell 0
  rw [hA, hl] at hc
  have h1 := h.rel.at_ hir
  have hn := hr i hir
  have n1 := node_id hn
  have n2 := node_ps hn
  have n3 := h.d.e _ (List.getElem_mem hir)
  rw [h1.1] at n1
  have h2 : r.l[i].ps = psG G i := h1.2
  rw [h2] at n2 n3
  exact ⟨b, f, _, _, hc, hb, n1, n2, n3⟩
theorem RGd.len {w : World} {base : Nat} {r : RGm} {G : Gr} (h : RGd w base r G) : w.cell? ⟨r.q, 0, none⟩ = some (.slice r.A G.length r.c) := by rw [← h.rel.len]; exact h.d.b.cell 0
set_option maxRecDepth 100000 in
set_option maxHeartbeats 4000000 in
theorem rbefore_any (w : World) (base : Nat) (r : RGm) (G : Gr) (h : RGd w base r G) (a b : Hh) : Calls Tryz.prog 39 #[.pointer (some ⟨r.q, 0, none⟩), .agg (hC a).toArray, .agg (hC b).toArray] w fun e w' => e = .returned (.bool (befB G a b)) ∧ Below w.heap.size w w' := by
  have V2 : Hid (Below w.heap.size w ((w.alloc (.cells (hC a).toArray 23)).alloc (.cells (hC b).toArray 23))) := nxAlloc (nxAlloc (nxRefl w) _) _
  have BA : Hid (Blk ((w.alloc (.cells (hC a).toArray 23)).alloc (.cells (hC b).toArray 23)) w.heap.size 23 (hC a).toArray) := Blk.alloc (heap_alloc_new w _) _
  have BB : Hid (Blk ((w.alloc (.cells (hC a).toArray 23)).alloc (.cells (hC b).toArray 23)) (w.heap.size + 1) 23 (hC b).toArray) := blkNew (by simp) rfl
  have Ra := Lib.hid (kb_range (W := ((w.alloc (.cells (hC a).toArray 23)).alloc (.cells (hC b).toArray 23)).drew) BA.out)
  have Rb := Lib.hid (kb_range (W := ((w.alloc (.cells (hC a).toArray 23)).alloc (.cells (hC b).toArray 23)).drew) BB.out)
  have La : Hid (w.heap.size < ((w.alloc (.cells (hC a).toArray 23)).alloc (.cells (hC b).toArray 23)).drew.heap.size) := BA.out.lt
  have Lb : Hid (w.heap.size + 1 < ((w.alloc (.cells (hC a).toArray 23)).alloc (.cells (hC b).toArray 23)).drew.heap.size) := BB.out.lt
  have HR : Hid (RGd ((w.alloc (.cells (hC a).toArray 23)).alloc (.cells (hC b).toArray 23)).drew base r G) := h.later (nxDrT V2.out)
  have Vd : Hid (Below w.heap.size w ((w.alloc (.cells (hC a).toArray 23)).alloc (.cells (hC b).toArray 23)).drew) := nxDrT V2.out
  have hat := rat2_any _ base r G HR.out a
  have hbi := bef_in h.ok a b
  have hpl : (pastG G [b]).length ≤ 1000 := Nat.le_trans (past_le _ _) h.mx
  obtain ⟨P, hP⟩ : ∃ P, pastG G [b] = P := ⟨_, rfl⟩
  rw [hP] at hbi hpl
  have HPe := Lib.hid hP
  have HPl := Lib.hid hpl
  clear h hP hpl BA BB V2
  cases hp : placeG G a with
  | none =>
    have hbf : befB G a b = false := by unfold befB; rw [hp]
    rw [hp] at hat
    rw [hbf]
    have HAt := Lib.hid hat
    clear hat hbi hbf hp
    go_enter Tryz.func39, Tryz.ntmps39
    go_wp2
    refine wp_region_held_drew (S := fun W => W.rangeAt w.heap.size 0 (hC a) ∧ W.rangeAt (w.heap.size + 1) 0 (hC b)) (by kernel_rfl) ⟨Ra.out, Rb.out⟩ (fun hHeld => ?_)
    generalize ((w.alloc (.cells (hC a).toArray 23)).alloc (.cells (hC b).toArray 23)).drew = wd at *
    obtain ⟨p1, hp1⟩ : ∃ p, w.heap.size = p := ⟨_, rfl⟩
    rw [hp1] at La Lb Ra Rb hHeld ⊢
    refine wpAnyH_take (i := 0) (oi := ⟨_, _, _, _, _, _⟩) (v := ?_) rfl (by kernel_rfl) (by kernel_rfl) (by kernel_rfl) (fun _ _ _ h => h) (Or.inl ⟨by rfl, ?_⟩) (by assumption) ?_
    rotate_left 1
    · intro W hSw
      try dsimp only at hSw
      obtain ⟨hs1, hs2⟩ := hSw
      go_simp
      try with_reducible rfl
    try simp only [Act.put, List.setIfInBounds_toArray, List.set_cons_zero, List.set_cons_succ]
    refine wpAnyH_take (i := 1) (oi := ⟨_, _, _, _, _, _⟩) (v := .agg (hC a).toArray) rfl (by kernel_rfl) (by kernel_rfl) (by kernel_rfl) (fun _ _ _ h => h) (yieldsIf_load_mid (by rfl) 23 (.tmp 4) rfl p1 0 rfl (hC a) _ (fun W hS => hS.1) Tryz.underlying23 rfl (hszL a)) (by assumption) ?_
    try simp only [Act.put, List.setIfInBounds_toArray, List.set_cons_zero, List.set_cons_succ]
    refine wpAnyH_ready (rs := [2]) (by kernel_rfl) (by simp) ?_
    refine AllReadyH.cons rfl (fun K hK => ?_) AllReadyH.nil
    go_simp
    go_at_call 13
    refine HAt.out.mono ?_
    rintro e w3 ⟨rfl, hb3⟩
    have J3 : Hid (Below wd.heap.size wd w3) := Lib.hid hb3
    clear hb3
    refine hK.out _ _ ⟨rngK Ra.out J3.out La.out, rngK Rb.out J3.out Lb.out⟩ (fun hSn => ?_)
    clear hK K
    try simp only [Act.put, List.setIfInBounds_toArray, List.set_cons_zero, List.set_cons_succ]
    refine wpAnyH_take (i := 3) (oi := ⟨_, _, _, _, _, _⟩) (v := ?_) rfl (by kernel_rfl) (by kernel_rfl) (by kernel_rfl) (fun _ _ _ h => h) (Or.inl ⟨by rfl, ?_⟩) (by assumption) ?_
    rotate_left 1
    · intro W hSw
      try dsimp only at hSw
      obtain ⟨hs1, hs2⟩ := hSw
      go_simp
      try with_reducible rfl
    try simp only [Act.put, List.setIfInBounds_toArray, List.set_cons_zero, List.set_cons_succ]
    refine wpAnyH_take (i := 4) (oi := ⟨_, _, _, _, _, _⟩) (v := ?_) rfl (by kernel_rfl) (by kernel_rfl) (by kernel_rfl) (fun _ _ _ h => h) (Or.inl ⟨by rfl, ?_⟩) (by assumption) ?_
    rotate_left 1
    · intro W hSw
      try dsimp only at hSw
      obtain ⟨hs1, hs2⟩ := hSw
      go_simp
      try with_reducible rfl
    try simp only [Act.put, List.setIfInBounds_toArray, List.set_cons_zero, List.set_cons_succ]
    refine wpAnyH_take (i := 5) (oi := ⟨_, _, _, _, _, _⟩) (v := undef) rfl (by kernel_rfl) (by kernel_rfl) (by kernel_rfl) (fun _ _ _ h => h) (Or.inr ⟨by rfl, rfl⟩) (by assumption) ?_
    try simp only [Act.put, List.setIfInBounds_toArray, List.set_cons_zero, List.set_cons_succ]
    refine wpAnyH_take (i := 6) (oi := ⟨_, _, _, _, _, _⟩) (v := undef) rfl (by kernel_rfl) (by kernel_rfl) (by kernel_rfl) (fun _ _ _ h => h) (Or.inr ⟨by rfl, rfl⟩) (by assumption) ?_
    try simp only [Act.put, List.setIfInBounds_toArray, List.set_cons_zero, List.set_cons_succ]
    refine wpAnyH_take (i := 7) (oi := ⟨_, _, _, _, _, _⟩) (v := undef) rfl (by kernel_rfl) (by kernel_rfl) (by kernel_rfl) (fun _ _ _ h => h) (Or.inr ⟨by rfl, rfl⟩) (by assumption) ?_
    try simp only [Act.put, List.setIfInBounds_toArray, List.set_cons_zero, List.set_cons_succ]
    refine wpAnyH_take (i := 8) (oi := ⟨_, _, _, _, _, _⟩) (v := undef) rfl (by kernel_rfl) (by kernel_rfl) (by kernel_rfl) (fun _ _ _ h => h) (Or.inr ⟨by rfl, rfl⟩) (by assumption) ?_
    try simp only [Act.put, List.setIfInBounds_toArray, List.set_cons_zero, List.set_cons_succ]
    refine wpAnyH_take (i := 9) (oi := ⟨_, _, _, _, _, _⟩) (v := undef) rfl (by kernel_rfl) (by kernel_rfl) (by kernel_rfl) (fun _ _ _ h => h) (Or.inr ⟨by rfl, rfl⟩) (by assumption) ?_
    try simp only [Act.put, List.setIfInBounds_toArray, List.set_cons_zero, List.set_cons_succ]
    refine wpAnyH_take (i := 10) (oi := ⟨_, _, _, _, _, _⟩) (v := undef) rfl (by kernel_rfl) (by kernel_rfl) (by kernel_rfl) (fun _ _ _ h => h) (Or.inr ⟨by rfl, rfl⟩) (by assumption) ?_
    try simp only [Act.put, List.setIfInBounds_toArray, List.set_cons_zero, List.set_cons_succ]
    refine wpAnyH_take (i := 11) (oi := ⟨_, _, _, _, _, _⟩) (v := ?_) rfl (by kernel_rfl) (by kernel_rfl) (by kernel_rfl) (fun _ _ _ h => h) (Or.inl ⟨by rfl, ?_⟩) (by assumption) ?_
    rotate_left 1
    · intro W hSw
      try dsimp only at hSw
      obtain ⟨hs1, hs2⟩ := hSw
      go_simp
      try with_reducible rfl
    try simp only [Act.put, List.setIfInBounds_toArray, List.set_cons_zero, List.set_cons_succ]
    refine wpAnyH_take (i := 12) (oi := ⟨_, _, _, _, _, _⟩) (v := ?_) rfl (by kernel_rfl) (by kernel_rfl) (by kernel_rfl) (fun _ _ _ h => h) (Or.inl ⟨by rfl, ?_⟩) (by assumption) ?_
    rotate_left 1
    · intro W hSw
      try dsimp only at hSw
      obtain ⟨hs1, hs2⟩ := hSw
      go_simp
      try with_reducible rfl
    try simp only [Act.put, List.setIfInBounds_toArray, List.set_cons_zero, List.set_cons_succ]
    refine wpAnyH_done (by kernel_rfl) ?_ _
    go_wp2
    go_ret
    exact ⟨rfl, nxTo Vd.out J3.out⟩
  | some n =>
    rw [hp] at hat
    have HAt := Lib.hid hat
    have hn0 : (0 : Int) ≤ (n : Int) := by omega
    obtain ⟨z, hz⟩ : ∃ z, befB G a b = z := ⟨_, rfl⟩
    have HI : Hid (decide (a ∈ P) = z) := hbi.symm.trans hz
    rw [hz]
    clear hat hbi hz hp
    go_enter Tryz.func39, Tryz.ntmps39
    go_wp2
    refine wp_region_held_drew (S := fun W => W.rangeAt w.heap.size 0 (hC a) ∧ W.rangeAt (w.heap.size + 1) 0 (hC b)) (by kernel_rfl) ⟨Ra.out, Rb.out⟩ (fun hHeld => ?_)
    generalize ((w.alloc (.cells (hC a).toArray 23)).alloc (.cells (hC b).toArray 23)).drew = wd at *
    obtain ⟨p1, hp1⟩ : ∃ p, w.heap.size = p := ⟨_, rfl⟩
    rw [hp1] at La Lb Ra Rb hHeld ⊢
    refine wpAnyH_take (i := 0) (oi := ⟨_, _, _, _, _, _⟩) (v := ?_) rfl (by kernel_rfl) (by kernel_rfl) (by kernel_rfl) (fun _ _ _ h => h) (Or.inl ⟨by rfl, ?_⟩) (by assumption) ?_
    rotate_left 1
    · intro W hSw
      try dsimp only at hSw
      obtain ⟨hs1, hs2⟩ := hSw
      go_simp
      try with_reducible rfl
    try simp only [Act.put, List.setIfInBounds_toArray, List.set_cons_zero, List.set_cons_succ]
    refine wpAnyH_take (i := 1) (oi := ⟨_, _, _, _, _, _⟩) (v := .agg (hC a).toArray) rfl (by kernel_rfl) (by kernel_rfl) (by kernel_rfl) (fun _ _ _ h => h) (yieldsIf_load_mid (by rfl) 23 (.tmp 4) rfl p1 0 rfl (hC a) _ (fun W hS => hS.1) Tryz.underlying23 rfl (hszL a)) (by assumption) ?_
    try simp only [Act.put, List.setIfInBounds_toArray, List.set_cons_zero, List.set_cons_succ]
    refine wpAnyH_ready (rs := [2]) (by kernel_rfl) (by simp) ?_
    refine AllReadyH.cons rfl (fun K hK => ?_) AllReadyH.nil
    go_simp
    go_at_call 13
    refine HAt.out.mono ?_
    rintro e w3 ⟨rfl, hb3⟩
    have J3 : Hid (Below wd.heap.size wd w3) := Lib.hid hb3
    clear hb3
    refine hK.out _ _ ⟨rngK Ra.out J3.out La.out, rngK Rb.out J3.out Lb.out⟩ (fun hSn => ?_)
    clear hK K
    try simp only [Act.put, List.setIfInBounds_toArray, List.set_cons_zero, List.set_cons_succ]
    refine wpAnyH_take (i := 3) (oi := ⟨_, _, _, _, _, _⟩) (v := ?_) rfl (by kernel_rfl) (by kernel_rfl) (by kernel_rfl) (fun _ _ _ h => h) (Or.inl ⟨by rfl, ?_⟩) (by assumption) ?_
    rotate_left 1
    · intro W hSw
      try dsimp only at hSw
      obtain ⟨hs1, hs2⟩ := hSw
      go_simp
      try with_reducible rfl
    try simp only [Act.put, List.setIfInBounds_toArray, List.set_cons_zero, List.set_cons_succ]
    refine wpAnyH_take (i := 4) (oi := ⟨_, _, _, _, _, _⟩) (v := ?_) rfl (by kernel_rfl) (by kernel_rfl) (by kernel_rfl) (fun _ _ _ h => h) (Or.inl ⟨by rfl, ?_⟩) (by assumption) ?_
    rotate_left 1
    · intro W hSw
      try dsimp only at hSw
      obtain ⟨hs1, hs2⟩ := hSw
      go_simp
      try with_reducible rfl
    try simp only [Act.put, List.setIfInBounds_toArray, List.set_cons_zero, List.set_cons_succ]
    refine wpAnyH_take (i := 5) (oi := ⟨_, _, _, _, _, _⟩) (v := ?_) rfl (by kernel_rfl) (by kernel_rfl) (by kernel_rfl) (fun _ _ _ h => h) (Or.inl ⟨by rfl, ?_⟩) (by assumption) ?_
    rotate_left 1
    · intro W hSw
      try dsimp only at hSw
      obtain ⟨hs1, hs2⟩ := hSw
      go_simp
      try with_reducible rfl
    try simp only [Act.put, List.setIfInBounds_toArray, List.set_cons_zero, List.set_cons_succ]
    refine wpAnyH_take (i := 6) (oi := ⟨_, _, _, _, _, _⟩) (v := .agg (hC b).toArray) rfl (by kernel_rfl) (by kernel_rfl) (by kernel_rfl) (fun _ _ _ h => h) (yieldsIf_load_mid (by rfl) 23 (.tmp 5) rfl (p1 + 1) 0 rfl (hC b) _ (fun W hS => hS.2) Tryz.underlying23 rfl (hszL b)) (by assumption) ?_
    try simp only [Act.put, List.setIfInBounds_toArray, List.set_cons_zero, List.set_cons_succ]
    refine wpAnyH_take (i := 9) (oi := ⟨_, _, _, _, _, _⟩) (v := .agg (hC a).toArray) rfl (by kernel_rfl) (by kernel_rfl) (by kernel_rfl) (fun _ _ _ h => h) (yieldsIf_load_mid (by rfl) 23 (.tmp 4) rfl p1 0 rfl (hC a) _ (fun W hS => hS.1) Tryz.underlying23 rfl (hszL a)) (by assumption) ?_
    try simp only [Act.put, List.setIfInBounds_toArray, List.set_cons_zero, List.set_cons_succ]
    refine wpAnyH_ready (rs := [7]) (by kernel_rfl) (by simp) ?_
    refine AllReadyH.cons rfl (fun K hK => ?_) AllReadyH.nil
    refine step_build1g (o := ⟨some 14, _, _, _, _, _⟩) (by rfl) 33 23 (.tmp 13) rfl (hC b) _ 32 32 Tryz.underlying33 Tryz.dinfoH (by decide) (by decide) (hC_len b) rfl ?_
    have J4 : Hid (Below wd.heap.size wd (w3.alloc (.cells (hC b).toArray 23))) := nxTo J3.out (nxAlloc (nxRefl _) _)
    have B4 : Hid (Blk (w3.alloc (.cells (hC b).toArray 23)) w3.heap.size 23 (hC b).toArray) := heap_alloc_new w3 _
    refine hK.out _ _ ⟨rngK Ra.out J4.out La.out, rngK Rb.out J4.out Lb.out⟩ (fun hSn => ?_)
    clear hK K
    try simp only [Act.put, List.setIfInBounds_toArray, List.set_cons_zero, List.set_cons_succ]
    refine wpAnyH_ready (rs := [8]) (by kernel_rfl) (by simp) ?_
    refine AllReadyH.cons rfl (fun K hK => ?_) AllReadyH.nil
    go_simp
    go_at_call 32
    refine (rpast_any _ base r G (HR.out.later J4.out).d (HR.out.later J4.out).rel (HR.out.later J4.out).ok (some ⟨w3.heap.size, 0, none⟩) [b] 1 (by rw [hsC_1]; exact SeesV.blk B4.out) (by simp) (HR.out.later J4.out).mx).mono ?_
    unfold ListPost
    rw [HPe.out]
    rintro e w5 ⟨A5, c5, rfl, ho5, hb5⟩
    have S5 : Hid (SeesV w5 w5.heap.size A5 (hsC P)) := SeesV.own ho5
    have J5 : Hid (Below wd.heap.size wd w5) := nxTo J4.out hb5
    clear ho5 hb5
    refine hK.out _ _ ⟨rngK Ra.out J5.out La.out, rngK Rb.out J5.out Lb.out⟩ (fun hSn => ?_)
    clear hK K
    try simp only [Act.put, List.setIfInBounds_toArray, List.set_cons_zero, List.set_cons_succ]
    refine wpAnyH_ready (rs := [10]) (by kernel_rfl) (by simp) ?_
    refine AllReadyH.cons rfl (fun K hK => ?_) AllReadyH.nil
    go_simp
    go_at_call 34
    refine (rin_any w5 A5 P c5 a S5.out (by have := HPl.out; omega)).mono ?_
    rw [HI.out]
    rintro e w6 ⟨rfl, hb6⟩
    have J6 : Hid (Below wd.heap.size wd w6) := nxTo J5.out hb6
    clear hb6
    refine hK.out _ _ ⟨rngK Ra.out J6.out La.out, rngK Rb.out J6.out Lb.out⟩ (fun hSn => ?_)
    clear hK K
    try simp only [Act.put, List.setIfInBounds_toArray, List.set_cons_zero, List.set_cons_succ]
    refine wpAnyH_take (i := 11) (oi := ⟨_, _, _, _, _, _⟩) (v := ?_) rfl (by kernel_rfl) (by kernel_rfl) (by kernel_rfl) (fun _ _ _ h => h) (Or.inl ⟨by rfl, ?_⟩) (by assumption) ?_
    rotate_left 1
    · intro W hSw
      try dsimp only at hSw
      obtain ⟨hs1, hs2⟩ := hSw
      go_simp
      try with_reducible rfl
    try simp only [Act.put, List.setIfInBounds_toArray, List.set_cons_zero, List.set_cons_succ]
    refine wpAnyH_take (i := 12) (oi := ⟨_, _, _, _, _, _⟩) (v := ?_) rfl (by kernel_rfl) (by kernel_rfl) (by kernel_rfl) (fun _ _ _ h => h) (Or.inl ⟨by rfl, ?_⟩) (by assumption) ?_
    rotate_left 1
    · intro W hSw
      try dsimp only at hSw
      obtain ⟨hs1, hs2⟩ := hSw
      go_simp
      try with_reducible rfl
    try simp only [Act.put, List.setIfInBounds_toArray, List.set_cons_zero, List.set_cons_succ]
    refine wpAnyH_done (by kernel_rfl) ?_ _
    go_wp2
    go_ret
    exact ⟨rfl, nxTo Vd.out J6.out⟩
end Go.Proofs.YtbfpckomgpkjgaaGreat
