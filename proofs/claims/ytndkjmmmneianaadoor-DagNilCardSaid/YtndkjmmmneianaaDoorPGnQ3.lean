/-
  dag: the document's Before, Apart.
  dag: the document's Apart, Future, Anticone, Children, Tips.
-/
import Derived.Test.YtndkjmmmneianaaDoorDh2
namespace Go.Proofs.YtndkjmmmneianaaDoor
open Go.RowKit

theorem step_build1g {P : Program} {ops : Array Oper} {o : Oper} {a : Act} {w : World} {K : Act → World → Prop} {Q : Exit → Act → World → Prop} {F : Prop} (hw : Region.wanted o (yielded ops a.tmps) = true) (T E : TypeId) (x : Operand) (ho : o.op = .buildSlice T 1 #[(0, x)])
    (cs : List Value) (z : Value) (sz by_ : Nat) (hu : P.underlying T = some (.slice E)) (hi : (P.info? E).map (fun i => (i.zero, i.size, i.bytes)) = some (some z, sz, by_)) (h0 : 0 < sz) (h1 : sz ≤ 1000) (hc : cs.length = sz) (hx : a.eval x = .agg cs.toArray)
    (h : K (a.put o.dst (.slice (some ⟨w.heap.size, 0, none⟩) 1 1)) (w.alloc (.cells cs.toArray E))) : if Region.wanted o (yielded ops a.tmps) = true then Oper.wp P o a w K Q else F := by
  rw [if_pos hw]
  obtain ⟨i0, hi0, hz, hs, _⟩ := info_parts hi
  refine wp_buildSlice T E 1 #[(0, x)] ho cs.toArray i0 z hu hi0 hz (by rw [hs]; omega) (by rw [hs]; omega) ?_ h
  rw [hs]
  exact fill_of1 (by_ := by_) hi0 hz hs hc hx
/-- The document's graph in memory, with the graph that it stands for. -/
structure RGd (w : World) (base : Nat) (r : RGm) (G : Gr) : Prop where
  d : RGOk w base r
  rel : RelG r.l G
  ok : OkG G
  mx : G.length ≤ 1000
theorem RGd.later {w w' : World} {base : Nat} {r : RGm} {G : Gr} (h : RGd w base r G) (k : Below w.heap.size w w') : RGd w' base r G := ⟨h.d.later k, h.rel, h.ok, h.mx⟩
def psG (G : Gr) (i : Nat) : List Hh := risH ((parG G i).map (idG G))
theorem psG_len {G : Gr} (o : OkG G) (i : Nat) : (psG G i).length ≤ G.length := by
  refine Nat.le_trans (risH_le _) ?_
  rw [List.length_map]
  exact len_le_of (o.dis i) (fun x hx => Nat.lt_trans (o.par i x hx) (parG_lt hx))
theorem rat2_any (w : World) (base : Nat) (r : RGm) (G : Gr) (h : RGd w base r G) (x : Hh) : Calls Tryd.prog 33 #[.pointer (some ⟨r.q, 0, none⟩), .agg (hC x).toArray] w fun e w' => e = .returned (.int .i64 (match placeG G x with | some n => (n : Int) | none => -1)) ∧ Below w.heap.size w w' := by
  have := rat_any w base r x h.d
  rw [h.rel.place x] at this
  exact this
theorem RGd.node {w : World} {base : Nat} {r : RGm} {G : Gr} (h : RGd w base r G) {i : Nat} (hi : i < G.length) : ∃ b f A c, w.cell? ⟨r.q, 0, none⟩ = some (.slice (some ⟨b, f, none⟩) G.length r.c) ∧ b < w.heap.size ∧ w.rangeAt b (f + i * 33) (hC (idG G i)) ∧ w.cell? ⟨b, f + i * 33 + 32, none⟩ = some (.slice A (psG G i).length c) ∧ SeesV w w.heap.size A (hsC (psG G i)) := by
  have hl := h.rel.len
  have hir : i < r.l.length := by rw [hl]; exact hi
  obtain ⟨b, f, hA, hb, hr⟩ := sees_node h.d.s hir
  have hc : w.cell? ⟨r.q, 0, none⟩ = some (.slice r.A r.l.length r.c) := h.d.b.cell 0
  rw [hA, hl] at hc
  have h1 := h.rel.at_ hir
  have hn := hr i hir
  have n1 := node_id hn
  have n2 := node_ps hn
  have n3 := h.d.e _ (List.getElem_mem hir)
  rw [h1.1] at n1
  have h2 : r.l[i].ps = psG G i := h1.2
  rw [h2] at n2 n3
  exact ⟨b, f, _, _, hc, hb, n1, n2, n3⟩
theorem RGd.len {w : World} {base : Nat} {r : RGm} {G : Gr} (h : RGd w base r G) : w.cell? ⟨r.q, 0, none⟩ = some (.slice r.A G.length r.c) := by rw [← h.rel.len]; exact h.d.b.cell 0
set_option maxRecDepth 100000 in
set_option maxHeartbeats 4000000 in
theorem rbefore_any (w : World) (base : Nat) (r : RGm) (G : Gr) (h : RGd w base r G) (a b : Hh) : Calls Tryd.prog 59 #[.pointer (some ⟨r.q, 0, none⟩), .agg (hC a).toArray, .agg (hC b).toArray] w fun e w' => e = .returned (.bool (befB G a b)) ∧ Below w.heap.size w w' := by
  have V2 : Hid (Below w.heap.size w ((w.alloc (.cells (hC a).toArray 23)).alloc (.cells (hC b).toArray 23))) := nxAlloc (nxAlloc (nxRefl w) _) _
  have BA : Hid (Blk ((w.alloc (.cells (hC a).toArray 23)).alloc (.cells (hC b).toArray 23)) w.heap.size 23 (hC a).toArray) := Blk.alloc (heap_alloc_new w _) _
  have BB : Hid (Blk ((w.alloc (.cells (hC a).toArray 23)).alloc (.cells (hC b).toArray 23)) (w.heap.size + 1) 23 (hC b).toArray) := blkNew (by simp) rfl
  have Ra := Lib.hid (kb_range (W := ((w.alloc (.cells (hC a).toArray 23)).alloc (.cells (hC b).toArray 23)).drew) BA.out)
  have Rb := Lib.hid (kb_range (W := ((w.alloc (.cells (hC a).toArray 23)).alloc (.cells (hC b).toArray 23)).drew) BB.out)
  have La : Hid (w.heap.size < ((w.alloc (.cells (hC a).toArray 23)).alloc (.cells (hC b).toArray 23)).drew.heap.size) := BA.out.lt
  have Lb : Hid (w.heap.size + 1 < ((w.alloc (.cells (hC a).toArray 23)).alloc (.cells (hC b).toArray 23)).drew.heap.size) := BB.out.lt
  have HR : Hid (RGd ((w.alloc (.cells (hC a).toArray 23)).alloc (.cells (hC b).toArray 23)).drew base r G) := h.later (nxDrT V2.out)
  have Vd : Hid (Below w.heap.size w ((w.alloc (.cells (hC a).toArray 23)).alloc (.cells (hC b).toArray 23)).drew) := nxDrT V2.out
  have hat := rat2_any _ base r G HR.out a
  have hbi := bef_in h.ok a b
  have hpl : (pastG G [b]).length ≤ 1000 := Nat.le_trans (past_le _ _) h.mx
  obtain ⟨P, hP⟩ : ∃ P, pastG G [b] = P := ⟨_, rfl⟩
  rw [hP] at hbi hpl
  have HPe := Lib.hid hP
  have HPl := Lib.hid hpl
  clear h hP hpl BA BB V2
  cases hp : placeG G a with
  | none =>
    have hbf : befB G a b = false := by unfold befB; rw [hp]
    rw [hp] at hat
    rw [hbf]
    have HAt := Lib.hid hat
    clear hat hbi hbf hp
    go_enter Tryd.func59, Tryd.ntmps59
    go_wp2
    refine wp_region_held_drew (S := fun W => W.rangeAt w.heap.size 0 (hC a) ∧ W.rangeAt (w.heap.size + 1) 0 (hC b)) (by kernel_rfl) ⟨Ra.out, Rb.out⟩ (fun hHeld => ?_)
    generalize ((w.alloc (.cells (hC a).toArray 23)).alloc (.cells (hC b).toArray 23)).drew = wd at *
    obtain ⟨p1, hp1⟩ : ∃ p, w.heap.size = p := ⟨_, rfl⟩
    rw [hp1] at La Lb Ra Rb hHeld ⊢
    refine wpAnyH_take (i := 0) (oi := ⟨_, _, _, _, _, _⟩) (v := ?_) rfl (by kernel_rfl) (by kernel_rfl) (by kernel_rfl) (fun _ _ _ h => h) (Or.inl ⟨by rfl, ?_⟩) (by assumption) ?_
    rotate_left 1
    · intro W hSw
      try dsimp only at hSw
      obtain ⟨hs1, hs2⟩ := hSw
      go_simp
      try with_reducible rfl
    try simp only [Act.put, List.setIfInBounds_toArray, List.set_cons_zero, List.set_cons_succ]
    refine wpAnyH_take (i := 1) (oi := ⟨_, _, _, _, _, _⟩) (v := .agg (hC a).toArray) rfl (by kernel_rfl) (by kernel_rfl) (by kernel_rfl) (fun _ _ _ h => h) (yieldsIf_load_mid (by rfl) 23 (.tmp 4) rfl p1 0 rfl (hC a) _ (fun W hS => hS.1) Tryd.underlying23 rfl (hszL a)) (by assumption) ?_
    try simp only [Act.put, List.setIfInBounds_toArray, List.set_cons_zero, List.set_cons_succ]
    refine wpAnyH_ready (rs := [2]) (by kernel_rfl) (by simp) ?_
    refine AllReadyH.cons rfl (fun K hK => ?_) AllReadyH.nil
    go_simp
    go_at_call 33
    refine HAt.out.mono ?_
    rintro e w3 ⟨rfl, hb3⟩
    have J3 : Hid (Below wd.heap.size wd w3) := Lib.hid hb3
    clear hb3
    refine hK.out _ _ ⟨rngK Ra.out J3.out La.out, rngK Rb.out J3.out Lb.out⟩ (fun hSn => ?_)
    clear hK K
    try simp only [Act.put, List.setIfInBounds_toArray, List.set_cons_zero, List.set_cons_succ]
    refine wpAnyH_take (i := 3) (oi := ⟨_, _, _, _, _, _⟩) (v := ?_) rfl (by kernel_rfl) (by kernel_rfl) (by kernel_rfl) (fun _ _ _ h => h) (Or.inl ⟨by rfl, ?_⟩) (by assumption) ?_
    rotate_left 1
    · intro W hSw
      try dsimp only at hSw
      obtain ⟨hs1, hs2⟩ := hSw
      go_simp
      try with_reducible rfl
    try simp only [Act.put, List.setIfInBounds_toArray, List.set_cons_zero, List.set_cons_succ]
    refine wpAnyH_take (i := 4) (oi := ⟨_, _, _, _, _, _⟩) (v := ?_) rfl (by kernel_rfl) (by kernel_rfl) (by kernel_rfl) (fun _ _ _ h => h) (Or.inl ⟨by rfl, ?_⟩) (by assumption) ?_
    rotate_left 1
    · intro W hSw
      try dsimp only at hSw
      obtain ⟨hs1, hs2⟩ := hSw
      go_simp
      try with_reducible rfl
    try simp only [Act.put, List.setIfInBounds_toArray, List.set_cons_zero, List.set_cons_succ]
    refine wpAnyH_take (i := 5) (oi := ⟨_, _, _, _, _, _⟩) (v := undef) rfl (by kernel_rfl) (by kernel_rfl) (by kernel_rfl) (fun _ _ _ h => h) (Or.inr ⟨by rfl, rfl⟩) (by assumption) ?_
    try simp only [Act.put, List.setIfInBounds_toArray, List.set_cons_zero, List.set_cons_succ]
    refine wpAnyH_take (i := 6) (oi := ⟨_, _, _, _, _, _⟩) (v := undef) rfl (by kernel_rfl) (by kernel_rfl) (by kernel_rfl) (fun _ _ _ h => h) (Or.inr ⟨by rfl, rfl⟩) (by assumption) ?_
    try simp only [Act.put, List.setIfInBounds_toArray, List.set_cons_zero, List.set_cons_succ]
    refine wpAnyH_take (i := 7) (oi := ⟨_, _, _, _, _, _⟩) (v := undef) rfl (by kernel_rfl) (by kernel_rfl) (by kernel_rfl) (fun _ _ _ h => h) (Or.inr ⟨by rfl, rfl⟩) (by assumption) ?_
    try simp only [Act.put, List.setIfInBounds_toArray, List.set_cons_zero, List.set_cons_succ]
    refine wpAnyH_take (i := 8) (oi := ⟨_, _, _, _, _, _⟩) (v := undef) rfl (by kernel_rfl) (by kernel_rfl) (by kernel_rfl) (fun _ _ _ h => h) (Or.inr ⟨by rfl, rfl⟩) (by assumption) ?_
    try simp only [Act.put, List.setIfInBounds_toArray, List.set_cons_zero, List.set_cons_succ]
    refine wpAnyH_take (i := 9) (oi := ⟨_, _, _, _, _, _⟩) (v := undef) rfl (by kernel_rfl) (by kernel_rfl) (by kernel_rfl) (fun _ _ _ h => h) (Or.inr ⟨by rfl, rfl⟩) (by assumption) ?_
    try simp only [Act.put, List.setIfInBounds_toArray, List.set_cons_zero, List.set_cons_succ]
    refine wpAnyH_take (i := 10) (oi := ⟨_, _, _, _, _, _⟩) (v := undef) rfl (by kernel_rfl) (by kernel_rfl) (by kernel_rfl) (fun _ _ _ h => h) (Or.inr ⟨by rfl, rfl⟩) (by assumption) ?_
    try simp only [Act.put, List.setIfInBounds_toArray, List.set_cons_zero, List.set_cons_succ]
    refine wpAnyH_take (i := 11) (oi := ⟨_, _, _, _, _, _⟩) (v := ?_) rfl (by kernel_rfl) (by kernel_rfl) (by kernel_rfl) (fun _ _ _ h => h) (Or.inl ⟨by rfl, ?_⟩) (by assumption) ?_
    rotate_left 1
    · intro W hSw
      try dsimp only at hSw
      obtain ⟨hs1, hs2⟩ := hSw
      go_simp
      try with_reducible rfl
    try simp only [Act.put, List.setIfInBounds_toArray, List.set_cons_zero, List.set_cons_succ]
    refine wpAnyH_take (i := 12) (oi := ⟨_, _, _, _, _, _⟩) (v := ?_) rfl (by kernel_rfl) (by kernel_rfl) (by kernel_rfl) (fun _ _ _ h => h) (Or.inl ⟨by rfl, ?_⟩) (by assumption) ?_
    rotate_left 1
    · intro W hSw
      try dsimp only at hSw
      obtain ⟨hs1, hs2⟩ := hSw
      go_simp
      try with_reducible rfl
    try simp only [Act.put, List.setIfInBounds_toArray, List.set_cons_zero, List.set_cons_succ]
    refine wpAnyH_done (by kernel_rfl) ?_ _
    go_wp2
    go_ret
    exact ⟨rfl, nxTo Vd.out J3.out⟩
  | some n =>
    rw [hp] at hat
    have HAt := Lib.hid hat
    have hn0 : (0 : Int) ≤ (n : Int) := by omega
    obtain ⟨z, hz⟩ : ∃ z, befB G a b = z := ⟨_, rfl⟩
    have HI : Hid (decide (a ∈ P) = z) := hbi.symm.trans hz
    rw [hz]
    clear hat hbi hz hp
    go_enter Tryd.func59, Tryd.ntmps59
    go_wp2
    refine wp_region_held_drew (S := fun W => W.rangeAt w.heap.size 0 (hC a) ∧ W.rangeAt (w.heap.size + 1) 0 (hC b)) (by kernel_rfl) ⟨Ra.out, Rb.out⟩ (fun hHeld => ?_)
    generalize ((w.alloc (.cells (hC a).toArray 23)).alloc (.cells (hC b).toArray 23)).drew = wd at *
    obtain ⟨p1, hp1⟩ : ∃ p, w.heap.size = p := ⟨_, rfl⟩
    rw [hp1] at La Lb Ra Rb hHeld ⊢
    refine wpAnyH_take (i := 0) (oi := ⟨_, _, _, _, _, _⟩) (v := ?_) rfl (by kernel_rfl) (by kernel_rfl) (by kernel_rfl) (fun _ _ _ h => h) (Or.inl ⟨by rfl, ?_⟩) (by assumption) ?_
    rotate_left 1
    · intro W hSw
      try dsimp only at hSw
      obtain ⟨hs1, hs2⟩ := hSw
      go_simp
      try with_reducible rfl
    try simp only [Act.put, List.setIfInBounds_toArray, List.set_cons_zero, List.set_cons_succ]
    refine wpAnyH_take (i := 1) (oi := ⟨_, _, _, _, _, _⟩) (v := .agg (hC a).toArray) rfl (by kernel_rfl) (by kernel_rfl) (by kernel_rfl) (fun _ _ _ h => h) (yieldsIf_load_mid (by rfl) 23 (.tmp 4) rfl p1 0 rfl (hC a) _ (fun W hS => hS.1) Tryd.underlying23 rfl (hszL a)) (by assumption) ?_
    try simp only [Act.put, List.setIfInBounds_toArray, List.set_cons_zero, List.set_cons_succ]
    refine wpAnyH_ready (rs := [2]) (by kernel_rfl) (by simp) ?_
    refine AllReadyH.cons rfl (fun K hK => ?_) AllReadyH.nil
    go_simp
    go_at_call 33
    refine HAt.out.mono ?_
    rintro e w3 ⟨rfl, hb3⟩
    have J3 : Hid (Below wd.heap.size wd w3) := Lib.hid hb3
    clear hb3
    refine hK.out _ _ ⟨rngK Ra.out J3.out La.out, rngK Rb.out J3.out Lb.out⟩ (fun hSn => ?_)
    clear hK K
    try simp only [Act.put, List.setIfInBounds_toArray, List.set_cons_zero, List.set_cons_succ]
    refine wpAnyH_take (i := 3) (oi := ⟨_, _, _, _, _, _⟩) (v := ?_) rfl (by kernel_rfl) (by kernel_rfl) (by kernel_rfl) (fun _ _ _ h => h) (Or.inl ⟨by rfl, ?_⟩) (by assumption) ?_
    rotate_left 1
    · intro W hSw
      try dsimp only at hSw
      obtain ⟨hs1, hs2⟩ := hSw
      go_simp
      try with_reducible rfl
    try simp only [Act.put, List.setIfInBounds_toArray, List.set_cons_zero, List.set_cons_succ]
    refine wpAnyH_take (i := 4) (oi := ⟨_, _, _, _, _, _⟩) (v := ?_) rfl (by kernel_rfl) (by kernel_rfl) (by kernel_rfl) (fun _ _ _ h => h) (Or.inl ⟨by rfl, ?_⟩) (by assumption) ?_
    rotate_left 1
    · intro W hSw
      try dsimp only at hSw
      obtain ⟨hs1, hs2⟩ := hSw
      go_simp
      try with_reducible rfl
    try simp only [Act.put, List.setIfInBounds_toArray, List.set_cons_zero, List.set_cons_succ]
    refine wpAnyH_take (i := 5) (oi := ⟨_, _, _, _, _, _⟩) (v := ?_) rfl (by kernel_rfl) (by kernel_rfl) (by kernel_rfl) (fun _ _ _ h => h) (Or.inl ⟨by rfl, ?_⟩) (by assumption) ?_
    rotate_left 1
    · intro W hSw
      try dsimp only at hSw
      obtain ⟨hs1, hs2⟩ := hSw
      go_simp
      try with_reducible rfl
    try simp only [Act.put, List.setIfInBounds_toArray, List.set_cons_zero, List.set_cons_succ]
    refine wpAnyH_take (i := 6) (oi := ⟨_, _, _, _, _, _⟩) (v := .agg (hC b).toArray) rfl (by kernel_rfl) (by kernel_rfl) (by kernel_rfl) (fun _ _ _ h => h) (yieldsIf_load_mid (by rfl) 23 (.tmp 5) rfl (p1 + 1) 0 rfl (hC b) _ (fun W hS => hS.2) Tryd.underlying23 rfl (hszL b)) (by assumption) ?_
    try simp only [Act.put, List.setIfInBounds_toArray, List.set_cons_zero, List.set_cons_succ]
    refine wpAnyH_take (i := 9) (oi := ⟨_, _, _, _, _, _⟩) (v := .agg (hC a).toArray) rfl (by kernel_rfl) (by kernel_rfl) (by kernel_rfl) (fun _ _ _ h => h) (yieldsIf_load_mid (by rfl) 23 (.tmp 4) rfl p1 0 rfl (hC a) _ (fun W hS => hS.1) Tryd.underlying23 rfl (hszL a)) (by assumption) ?_
    try simp only [Act.put, List.setIfInBounds_toArray, List.set_cons_zero, List.set_cons_succ]
    refine wpAnyH_ready (rs := [7]) (by kernel_rfl) (by simp) ?_
    refine AllReadyH.cons rfl (fun K hK => ?_) AllReadyH.nil
    refine step_build1g (o := ⟨some 14, _, _, _, _, _⟩) (by rfl) 34 23 (.tmp 13) rfl (hC b) _ 32 32 Tryd.underlying34 Tryd.dinfoH (by decide) (by decide) (hC_len b) rfl ?_
    have J4 : Hid (Below wd.heap.size wd (w3.alloc (.cells (hC b).toArray 23))) := nxTo J3.out (nxAlloc (nxRefl _) _)
    have B4 : Hid (Blk (w3.alloc (.cells (hC b).toArray 23)) w3.heap.size 23 (hC b).toArray) := heap_alloc_new w3 _
    refine hK.out _ _ ⟨rngK Ra.out J4.out La.out, rngK Rb.out J4.out Lb.out⟩ (fun hSn => ?_)
    clear hK K
    try simp only [Act.put, List.setIfInBounds_toArray, List.set_cons_zero, List.set_cons_succ]
    refine wpAnyH_ready (rs := [8]) (by kernel_rfl) (by simp) ?_
    refine AllReadyH.cons rfl (fun K hK => ?_) AllReadyH.nil
    go_simp
    go_at_call 13
    refine (rpast_any _ base r G (HR.out.later J4.out).d (HR.out.later J4.out).rel (HR.out.later J4.out).ok (some ⟨w3.heap.size, 0, none⟩) [b] 1 (by rw [hsC_1]; exact SeesV.blk B4.out) (by simp) (HR.out.later J4.out).mx).mono ?_
    unfold ListPost
    rw [HPe.out]
    rintro e w5 ⟨A5, c5, rfl, ho5, hb5⟩
    have S5 : Hid (SeesV w5 w5.heap.size A5 (hsC P)) := SeesV.own ho5
    have J5 : Hid (Below wd.heap.size wd w5) := nxTo J4.out hb5
    clear ho5 hb5
    refine hK.out _ _ ⟨rngK Ra.out J5.out La.out, rngK Rb.out J5.out Lb.out⟩ (fun hSn => ?_)
    clear hK K
    try simp only [Act.put, List.setIfInBounds_toArray, List.set_cons_zero, List.set_cons_succ]
    refine wpAnyH_ready (rs := [10]) (by kernel_rfl) (by simp) ?_
    refine AllReadyH.cons rfl (fun K hK => ?_) AllReadyH.nil
    go_simp
    go_at_call 15
    refine (rin_any w5 A5 P c5 a S5.out (by have := HPl.out; omega)).mono ?_
    rw [HI.out]
    rintro e w6 ⟨rfl, hb6⟩
    have J6 : Hid (Below wd.heap.size wd w6) := nxTo J5.out hb6
    clear hb6
    refine hK.out _ _ ⟨rngK Ra.out J6.out La.out, rngK Rb.out J6.out Lb.out⟩ (fun hSn => ?_)
    clear hK K
    try simp only [Act.put, List.setIfInBounds_toArray, List.set_cons_zero, List.set_cons_succ]
    refine wpAnyH_take (i := 11) (oi := ⟨_, _, _, _, _, _⟩) (v := ?_) rfl (by kernel_rfl) (by kernel_rfl) (by kernel_rfl) (fun _ _ _ h => h) (Or.inl ⟨by rfl, ?_⟩) (by assumption) ?_
    rotate_left 1
    · intro W hSw
      try dsimp only at hSw
      obtain ⟨hs1, hs2⟩ := hSw
      go_simp
      try with_reducible rfl
    try simp only [Act.put, List.setIfInBounds_toArray, List.set_cons_zero, List.set_cons_succ]
    refine wpAnyH_take (i := 12) (oi := ⟨_, _, _, _, _, _⟩) (v := ?_) rfl (by kernel_rfl) (by kernel_rfl) (by kernel_rfl) (fun _ _ _ h => h) (Or.inl ⟨by rfl, ?_⟩) (by assumption) ?_
    rotate_left 1
    · intro W hSw
      try dsimp only at hSw
      obtain ⟨hs1, hs2⟩ := hSw
      go_simp
      try with_reducible rfl
    try simp only [Act.put, List.setIfInBounds_toArray, List.set_cons_zero, List.set_cons_succ]
    refine wpAnyH_done (by kernel_rfl) ?_ _
    go_wp2
    go_ret
    exact ⟨rfl, nxTo Vd.out J6.out⟩
end Go.Proofs.YtndkjmmmneianaaDoor

namespace Go.Proofs.YtndkjmmmneianaaDoor
open Go.RowKit

theorem nxUndrT {w W : World} (h : Below w.drew.heap.size w.drew W) : Below w.heap.size w W := ⟨h.os, h.tape, h.output, h.size, h.block⟩
/-- Of the first i hashes those that are asked for. -/
def selL (G : Gr) (f : Nat → Bool) (i : Nat) : List Hh := ((List.range i).filter f).map (idG G)
theorem selL_succ (G : Gr) (f : Nat → Bool) (i : Nat) : selL G f (i + 1) = selL G f i ++ if f i then [idG G i] else [] := by
  unfold selL
  rw [List.range_succ, List.filter_append, List.map_append]
  congr 1
  by_cases h : f i = true <;> simp [h]
theorem selL_le (G : Gr) (f : Nat → Bool) (i : Nat) : (selL G f i).length ≤ i := by
  unfold selL
  rw [List.length_map]
  exact Nat.le_trans (List.length_filter_le _ _) (by simp)
theorem blk_old {wr w7 : World} {base k n c : Nat} {t : TypeId} {A : Option Addr} {xs : List Value} {cs : Array Value} (h0 : k < base) (hb : Blk wr k t cs) (hg : wr.grownBy w7 (Value.slice A n c).ownBlock) (ho : wr.ownsRow base 23 32 (.slice A n c) n xs) : Blk w7 k t cs := by
  have hk : Keeps (fun j => (Value.slice A n c).ownBlock = some j) wr w7 := (Keeps.refl _ wr).grown hg (fun j e => e)
  refine hb.keeps hk fun e => ?_
  have := (own_lt ho k e).1
  omega
set_option maxRecDepth 100000 in
set_option maxHeartbeats 4000000 in
theorem rfut_any (w : World) (base : Nat) (r : RGm) (G : Gr) (h : RGd w base r G) (id : Hh) : Calls Tryd.prog 35 #[.pointer (some ⟨r.q, 0, none⟩), .agg (hC id).toArray] w (ListPost w (risH (selL G (fun i => befB G id (idG G i)) G.length))) := by
  unfold ListPost
  have HH := Lib.hid h
  have V1 : Hid (Below w.heap.size w (w.alloc (.cells (hC id).toArray 23))) := nxAlloc (nxRefl w) _
  have B1 : Hid (Blk (w.alloc (.cells (hC id).toArray 23)) w.heap.size 23 (hC id).toArray) := heap_alloc_new w _
  obtain ⟨i0, hi0, hz0, hs0, hy0⟩ := info_parts Tryd.dinfoH
  clear h
  obtain ⟨f, hf⟩ : ∃ f : Nat → Bool, (fun i => befB G id (idG G i)) = f := ⟨_, rfl⟩
  have HF := Lib.hid hf
  rw [hf]
  clear hf
  go_enter Tryd.func35, Tryd.ntmps35
  go_wp2
  go_loopw [5, 6] (fun ov iv wr => ∃ (i : Nat) (A1 : Option Addr) (c1 : Nat), i ≤ G.length ∧ ov = .slice A1 (selL G f i).length c1 ∧ iv = .int .i64 i ∧ Hid (Blk wr w.heap.size 23 (hC id).toArray) ∧ Hid (wr.ownsRow (w.heap.size + 1) 23 32 (.slice A1 (selL G f i).length c1) (selL G f i).length (hsC (selL G f i))) ∧ Hid (Below w.heap.size w wr)) (fun _ iv _ => G.length - (intOf iv).toNat)
  case atStart => exact ⟨0, none, 0, by omega, rfl, rfl, B1.out, ⟨rfl, .inl ⟨rfl, rfl⟩⟩, V1.out⟩
  case round =>
    clear B1 V1
    obtain ⟨i, A1, c1, hi, rfl, rfl, HB, HO, HV⟩ := hrel
    have hmx := HH.out.mx
    have hsl := selL_le G f i
    have HR : Hid (RGd wr base r G) := HH.out.later HV.out
    by_cases hlt : i < G.length
    · obtain ⟨b1, f1, A5, c5, hcq, hb1, hr1, hc5, hs5⟩ := HR.out.node hlt
      have hsu := selL_succ G f i
      obtain ⟨y, hy⟩ : ∃ y, idG G i = y := ⟨_, rfl⟩
      rw [hy] at hr1 hsu
      have HY := Lib.hid hy
      have HSu := Lib.hid hsu
      have hin : (i : Int) < (G.length : Int) := by omega
      obtain ⟨z, hz⟩ : ∃ z, f i = z := ⟨_, rfl⟩
      rw [hz] at HSu
      have HZ := Lib.hid hz
      clear hsu hy hz
      have HCq := Lib.hid (show wr.drew.cell? ⟨r.q, 0, none⟩ = some (.slice (some ⟨b1, f1, none⟩) G.length r.c) from hcq)
      have HRr := Lib.hid (show wr.drew.rangeAt b1 (f1 + i * 33) (hC y) from hr1)
      have HLr := Lib.hid (show b1 < wr.drew.heap.size from hb1)
      have HLq := Lib.hid (show r.q < wr.drew.heap.size from HR.out.d.b.lt)
      have HRi : Hid (wr.drew.rangeAt w.heap.size 0 (hC id)) := kb_range HB.out
      have HLi := Lib.hid (show w.heap.size < wr.drew.heap.size from HB.out.lt)
      have HRd : Hid (RGd wr.drew base r G) := HR.out.later (nxDrT (nxRefl _))
      have HZc : Hid (befB G id y = z) := by show _ = _; rw [← HY.out, ← HZ.out, ← HF.out]
      clear hr1 hb1 hc5 hs5
      go_wp2
      clear hcq
      refine wp_region_held_drew (S := fun W => W.cell? ⟨r.q, 0, none⟩ = some (.slice (some ⟨b1, f1, none⟩) G.length r.c) ∧ W.rangeAt w.heap.size 0 (hC id) ∧ W.rangeAt b1 (f1 + i * 33) (hC y)) (by kernel_rfl) ⟨HCq.out, HRi.out, HRr.out⟩ (fun hHeld => ?_)
      refine wpAnyH_take (i := 0) (oi := ⟨_, _, _, _, _, _⟩) (v := ?_) rfl (by kernel_rfl) (by kernel_rfl) (by kernel_rfl) (fun _ _ _ h => h) (Or.inl ⟨by rfl, ?_⟩) (by assumption) ?_
      rotate_left 1
      · intro W hSw
        try dsimp only at hSw
        obtain ⟨hs1, hs2, hs3⟩ := hSw
        go_simp
        try with_reducible rfl
      try simp only [Act.put, List.setIfInBounds_toArray, List.set_cons_zero, List.set_cons_succ]
      refine wpAnyH_take (i := 1) (oi := ⟨_, _, _, _, _, _⟩) (v := .agg (hC id).toArray) rfl (by kernel_rfl) (by kernel_rfl) (by kernel_rfl) (fun _ _ _ h => h) (yieldsIf_load_mid (by rfl) 23 (.tmp 3) rfl w.heap.size 0 rfl (hC id) _ (fun W hS => hS.2.1) Tryd.underlying23 rfl (hszL id)) (by assumption) ?_
      try simp only [Act.put, List.setIfInBounds_toArray, List.set_cons_zero, List.set_cons_succ]
      refine wpAnyH_take (i := 2) (oi := ⟨_, _, _, _, _, _⟩) (v := ?_) rfl (by kernel_rfl) (by kernel_rfl) (by kernel_rfl) (fun _ _ _ h => h) (Or.inl ⟨by rfl, ?_⟩) (by assumption) ?_
      rotate_left 1
      · intro W hSw
        try dsimp only at hSw
        obtain ⟨hs1, hs2, hs3⟩ := hSw
        go_simp
        try with_reducible rfl
      try simp only [Act.put, List.setIfInBounds_toArray, List.set_cons_zero, List.set_cons_succ]
      refine wpAnyH_take (i := 3) (oi := ⟨_, _, _, _, _, _⟩) (v := ?_) rfl (by kernel_rfl) (by kernel_rfl) (by kernel_rfl) (fun _ _ _ h => h) (Or.inl ⟨by rfl, ?_⟩) (by assumption) ?_
      rotate_left 1
      · intro W hSw
        try dsimp only at hSw
        obtain ⟨hs1, hs2, hs3⟩ := hSw
        go_simp
        try with_reducible rfl
      try simp only [Act.put, List.setIfInBounds_toArray, List.set_cons_zero, List.set_cons_succ]
      refine wpAnyH_take (i := 4) (oi := ⟨_, _, _, _, _, _⟩) (v := ?_) rfl (by kernel_rfl) (by kernel_rfl) (by kernel_rfl) (fun _ _ _ h => h) (Or.inl ⟨by rfl, ?_⟩) (by assumption) ?_
      rotate_left 1
      · intro W hSw
        try dsimp only at hSw
        obtain ⟨hs1, hs2, hs3⟩ := hSw
        go_simp
        try with_reducible rfl
      try simp only [Act.put, List.setIfInBounds_toArray, List.set_cons_zero, List.set_cons_succ]
      refine wpAnyH_take (i := 5) (oi := ⟨_, _, _, _, _, _⟩) (v := ?_) rfl (by kernel_rfl) (by kernel_rfl) (by kernel_rfl) (fun _ _ _ h => h) (Or.inl ⟨by rfl, ?_⟩) (by assumption) ?_
      rotate_left 1
      · intro W hSw
        try dsimp only at hSw
        obtain ⟨hs1, hs2, hs3⟩ := hSw
        go_simp
        try with_reducible rfl
      try simp only [Act.put, List.setIfInBounds_toArray, List.set_cons_zero, List.set_cons_succ]
      refine wpAnyH_take (i := 6) (oi := ⟨_, _, _, _, _, _⟩) (v := ?_) rfl (by kernel_rfl) (by kernel_rfl) (by kernel_rfl) (fun _ _ _ h => h) (Or.inl ⟨by rfl, ?_⟩) (by assumption) ?_
      rotate_left 1
      · intro W hSw
        try dsimp only at hSw
        obtain ⟨hs1, hs2, hs3⟩ := hSw
        go_simp
        try with_reducible rfl
      try simp only [Act.put, List.setIfInBounds_toArray, List.set_cons_zero, List.set_cons_succ]
      refine wpAnyH_take (i := 7) (oi := ⟨_, _, _, _, _, _⟩) (v := ?_) rfl (by kernel_rfl) (by kernel_rfl) (by kernel_rfl) (fun _ _ _ h => h) (Or.inl ⟨by rfl, ?_⟩) (by assumption) ?_
      rotate_left 1
      · intro W hSw
        try dsimp only at hSw
        obtain ⟨hs1, hs2, hs3⟩ := hSw
        go_simp
        try with_reducible rfl
      try simp only [Act.put, List.setIfInBounds_toArray, List.set_cons_zero, List.set_cons_succ]
      refine wpAnyH_take (i := 8) (oi := ⟨_, _, _, _, _, _⟩) (v := ?_) rfl (by kernel_rfl) (by kernel_rfl) (by kernel_rfl) (fun _ _ _ h => h) (Or.inl ⟨by rfl, ?_⟩) (by assumption) ?_
      rotate_left 1
      · intro W hSw
        try dsimp only at hSw
        obtain ⟨hs1, hs2, hs3⟩ := hSw
        go_simp
        try with_reducible rfl
      try simp only [Act.put, List.setIfInBounds_toArray, List.set_cons_zero, List.set_cons_succ]
      refine wpAnyH_take (i := 9) (oi := ⟨_, _, _, _, _, _⟩) (v := .agg (hC y).toArray) rfl (by kernel_rfl) (by kernel_rfl) (by kernel_rfl) (fun _ _ _ h => h) (yieldsIf_load_mid (by rfl) 23 (.tmp 24) rfl b1 (f1 + i * 33) rfl (hC y) _ (fun W hS => hS.2.2) Tryd.underlying23 rfl (hszL y)) (by assumption) ?_
      try simp only [Act.put, List.setIfInBounds_toArray, List.set_cons_zero, List.set_cons_succ]
      refine wpAnyH_ready (rs := [10]) (by kernel_rfl) (by simp) ?_
      refine AllReadyH.cons rfl (fun K hK => ?_) AllReadyH.nil
      go_simp
      go_at_call 59
      refine (rbefore_any wr.drew base r G HRd.out id y).mono ?_
      rw [HZc.out]
      rintro e w6 ⟨rfl, hb6⟩
      have J6 : Hid (Below wr.drew.heap.size wr.drew w6) := Lib.hid hb6
      clear hb6
      refine hK.out _ _ ⟨(J6.out.cell (p := ⟨r.q, 0, none⟩) HLq.out).trans HCq.out, rngK HRi.out J6.out HLi.out, rngK HRr.out J6.out HLr.out⟩ (fun hSn => ?_)
      clear hK K
      try simp only [Act.put, List.setIfInBounds_toArray, List.set_cons_zero, List.set_cons_succ]
      refine wpAnyH_done (by kernel_rfl) ?_ _
      have JW : Hid (Below wr.heap.size wr w6) := nxUndrT J6.out
      replace HRr := Lib.hid (show wr.rangeAt b1 (f1 + i * 33) (hC y) from HRr.out)
      replace HLr := Lib.hid (show b1 < wr.heap.size from HLr.out)
      replace HLq := Lib.hid (show r.q < wr.heap.size from HLq.out)
      replace HCq := Lib.hid (show wr.cell? ⟨r.q, 0, none⟩ = some (.slice (some ⟨b1, f1, none⟩) G.length r.c) from HCq.out)
      clear hHeld hSn
      cases z with
      | true =>
        have HSt : Hid (selL G f (i + 1) = selL G f i ++ [y]) := HSu.out
        have HRy : Hid (w6.rangeAt b1 (f1 + i * 33) (hC y)) := rngK HRr.out JW.out HLr.out
        have hcw : w6.cell? ⟨r.q, 0, none⟩ = some (.slice (some ⟨b1, f1, none⟩) G.length r.c) := (JW.out.cell (p := ⟨r.q, 0, none⟩) HLq.out).trans HCq.out
        have VW : Hid (Below w.heap.size w w6) := nxTo HV.out JW.out
        have P0 := Lib.hid (own_below HO.out JW.out (fun g hg => (own_lt HO.out g hg).2))
        have HB8 := Lib.hid (HB.out.below JW.out HB.out.lt)
        go_wp2_with (first
          | ((with_reducible show wpList _ _ _ (⟨some 35, _, _, _, _, _⟩ :: _) _ _); refine wpList_load_mid rfl 23 (.tmp 34) rfl b1 (f1 + i * 33) rfl (hC y) _ HRy.out Tryd.underlying23 rfl (hszL y) ?_)
          | ((with_reducible show wpList _ _ _ (⟨some 36, _, _, _, _, _⟩ :: _) _ _); refine wpList_build1 rfl 34 23 (.tmp 35) rfl (hC y) _ 32 32 Tryd.underlying34 Tryd.dinfoH (by decide) (by decide) (hC_len y) rfl ?_; have J5 : Hid (Below w6.heap.size w6 (w6.alloc (.cells (hC y).toArray 23))) := nxAlloc (nxRefl _) _; have V5 : Hid (Below w.heap.size w (w6.alloc (.cells (hC y).toArray 23))) := nxTo VW.out J5.out; have P1 := Lib.hid (own_below P0.out J5.out (fun g hg => (own_lt P0.out g hg).2)))
          | ((with_reducible show wpList _ _ _ (⟨some 37, _, _, _, _, _⟩ :: _) _ _); refine wpList_append_seesV rfl (.tmp 27) (.tmp 36) 34 rfl (w.heap.size + 1) 23 i0 _ 32 32 Tryd.underlying34 hi0 hz0 hs0 hy0 rfl (by decide) (.slice A1 (selL G f i).length c1) (selL G f i).length (hsC (selL G f i)) rfl P1.out _ (some ⟨w6.heap.size, 0, none⟩) 1 1 (hC y) rfl (by rw [hC_len]) (SeesV.blk (heap_alloc_new w6 _)) (hC_one y) (by omega) (by omega) (HB8.out.below J5.out HB8.out.lt).lt ?_; intro v7 w7 ho7 hg7 ha7; obtain ⟨A7, c7, rfl⟩ := own_form ho7; have O7 := Lib.hid ho7; have V7 : Hid (Below w.heap.size w w7) := V5.out.grown hg7 V5.out.size (fun j hj => (by have := (own_lt P1.out j hj).1; omega)); have HB9 : Hid (Blk w7 w.heap.size 23 (hC id).toArray) := blk_old (Nat.lt_succ_self _) (HB8.out.below J5.out HB8.out.lt) hg7 P1.out; clear ho7 hg7 ha7))
        go_roundw
        case rel =>
          have e1 : (selL G f (i + 1)).length = (selL G f i).length + 1 := by rw [HSt.out, List.length_append]; rfl
          have e2 : hsC (selL G f (i + 1)) = hsC (selL G f i) ++ hC y := by rw [HSt.out, hsC_append]; simp [hsC]
          exact ⟨i + 1, A7, c7, by omega, by rw [e1], by go_num, HB9.out, (by show World.ownsRow _ _ _ _ _ _ _; rw [e2, e1]; exact O7.out), V7.out⟩
        case measure => simp [intOf] <;> omega
      | false =>
        have HSt : Hid (selL G f (i + 1) = selL G f i) := by show _ = _; rw [HSu.out]; simp
        go_wp2
        go_roundw
        case rel => exact ⟨i + 1, A1, c1, by omega, by rw [HSt.out], by go_num, HB.out.below (JW).out HB.out.lt, (by show World.ownsRow _ _ _ _ _ _ _; rw [HSt.out]; exact own_below HO.out JW.out (fun g hg => (own_lt HO.out g hg).2)), nxTo HV.out JW.out⟩
        case measure => simp [intOf] <;> omega
    · obtain rfl : i = G.length := by omega
      have hcq := HR.out.len
      have HSo := rsorted_any wr A1 (selL G f G.length) c1 (SeesV.own HO.out) (by omega)
      unfold SortPost at HSo
      have HSt := Lib.hid HSo
      clear HSo
      go_wp2_with (go_at_call 21; refine HSt.out.mono ?_; rintro e w9 ⟨A9, c9, rfl, ho9, hb9⟩; have O9 := Lib.hid ho9; have J9 := Lib.hid hb9; clear ho9 hb9)
      go_ret
      exact ⟨A9, c9, rfl, own_base O9.out HV.out.size, nxTo HV.out J9.out⟩
set_option maxRecDepth 100000 in
set_option maxHeartbeats 4000000 in
theorem rkids_any (w : World) (base : Nat) (r : RGm) (G : Gr) (h : RGd w base r G) (id : Hh) : Calls Tryd.prog 34 #[.pointer (some ⟨r.q, 0, none⟩), .agg (hC id).toArray] w (ListPost w (risH (selL G (fun i => decide (id ∈ psG G i)) G.length))) := by
  unfold ListPost
  have HH := Lib.hid h
  have V1 : Hid (Below w.heap.size w (w.alloc (.cells (hC id).toArray 23))) := nxAlloc (nxRefl w) _
  have B1 : Hid (Blk (w.alloc (.cells (hC id).toArray 23)) w.heap.size 23 (hC id).toArray) := heap_alloc_new w _
  obtain ⟨i0, hi0, hz0, hs0, hy0⟩ := info_parts Tryd.dinfoH
  clear h
  obtain ⟨f, hf⟩ : ∃ f : Nat → Bool, (fun i => decide (id ∈ psG G i)) = f := ⟨_, rfl⟩
  have HF := Lib.hid hf
  rw [hf]
  clear hf
  go_enter Tryd.func34, Tryd.ntmps34
  go_wp2
  go_loopw [5, 6] (fun ov iv wr => ∃ (i : Nat) (A1 : Option Addr) (c1 : Nat), i ≤ G.length ∧ ov = .slice A1 (selL G f i).length c1 ∧ iv = .int .i64 i ∧ Hid (Blk wr w.heap.size 23 (hC id).toArray) ∧ Hid (wr.ownsRow (w.heap.size + 1) 23 32 (.slice A1 (selL G f i).length c1) (selL G f i).length (hsC (selL G f i))) ∧ Hid (Below w.heap.size w wr)) (fun _ iv _ => G.length - (intOf iv).toNat)
  case atStart => exact ⟨0, none, 0, by omega, rfl, rfl, B1.out, ⟨rfl, .inl ⟨rfl, rfl⟩⟩, V1.out⟩
  case round =>
    clear B1 V1
    obtain ⟨i, A1, c1, hi, rfl, rfl, HB, HO, HV⟩ := hrel
    have hmx := HH.out.mx
    have hsl := selL_le G f i
    have HR : Hid (RGd wr base r G) := HH.out.later HV.out
    by_cases hlt : i < G.length
    · obtain ⟨b1, f1, A5, c5, hcq, hb1, hr1, hc5, hs5⟩ := HR.out.node hlt
      have hsu := selL_succ G f i
      obtain ⟨y, hy⟩ : ∃ y, idG G i = y := ⟨_, rfl⟩
      rw [hy] at hr1 hsu
      have HY := Lib.hid hy
      have HSu := Lib.hid hsu
      have hin : (i : Int) < (G.length : Int) := by omega
      obtain ⟨z, hz⟩ : ∃ z, f i = z := ⟨_, rfl⟩
      rw [hz] at HSu
      have HZ := Lib.hid hz
      clear hsu hy hz
      have HCq := Lib.hid (show wr.drew.cell? ⟨r.q, 0, none⟩ = some (.slice (some ⟨b1, f1, none⟩) G.length r.c) from hcq)
      have HRr := Lib.hid (show wr.drew.rangeAt b1 (f1 + i * 33) (hC y) from hr1)
      have HLr := Lib.hid (show b1 < wr.drew.heap.size from hb1)
      have HLq := Lib.hid (show r.q < wr.drew.heap.size from HR.out.d.b.lt)
      have HRi : Hid (wr.drew.rangeAt w.heap.size 0 (hC id)) := kb_range HB.out
      have HLi := Lib.hid (show w.heap.size < wr.drew.heap.size from HB.out.lt)
      have HRd : Hid (RGd wr.drew base r G) := HR.out.later (nxDrT (nxRefl _))
      have HZc : Hid (decide (id ∈ psG G i) = z) := by show _ = _; rw [← HZ.out, ← HF.out]
      have HC5 := Lib.hid (show wr.drew.cell? ⟨b1, f1 + i * 33 + 32, none⟩ = some (.slice A5 (psG G i).length c5) from hc5)
      have HS5 := Lib.hid (show SeesV wr.drew wr.drew.heap.size A5 (hsC (psG G i)) from hs5)
      have HPl : Hid ((psG G i).length ≤ 1000) := Nat.le_trans (psG_len HH.out.ok i) HH.out.mx
      clear hr1 hb1 hc5 hs5
      go_wp2
      clear hcq
      refine wp_region_held_drew (S := fun W => W.cell? ⟨r.q, 0, none⟩ = some (.slice (some ⟨b1, f1, none⟩) G.length r.c) ∧ W.cell? ⟨b1, f1 + i * 33 + 32, none⟩ = some (.slice A5 (psG G i).length c5) ∧ W.rangeAt w.heap.size 0 (hC id)) (by kernel_rfl) ⟨HCq.out, HC5.out, HRi.out⟩ (fun hHeld => ?_)
      refine wpAnyH_take (i := 0) (oi := ⟨_, _, _, _, _, _⟩) (v := ?_) rfl (by kernel_rfl) (by kernel_rfl) (by kernel_rfl) (fun _ _ _ h => h) (Or.inl ⟨by rfl, ?_⟩) (by assumption) ?_
      rotate_left 1
      · intro W hSw
        try dsimp only at hSw
        obtain ⟨hs1, hs2, hs3⟩ := hSw
        go_simp
        try with_reducible rfl
      try simp only [Act.put, List.setIfInBounds_toArray, List.set_cons_zero, List.set_cons_succ]
      refine wpAnyH_take (i := 1) (oi := ⟨_, _, _, _, _, _⟩) (v := ?_) rfl (by kernel_rfl) (by kernel_rfl) (by kernel_rfl) (fun _ _ _ h => h) (Or.inl ⟨by rfl, ?_⟩) (by assumption) ?_
      rotate_left 1
      · intro W hSw
        try dsimp only at hSw
        obtain ⟨hs1, hs2, hs3⟩ := hSw
        go_simp
        try with_reducible rfl
      try simp only [Act.put, List.setIfInBounds_toArray, List.set_cons_zero, List.set_cons_succ]
      refine wpAnyH_take (i := 2) (oi := ⟨_, _, _, _, _, _⟩) (v := ?_) rfl (by kernel_rfl) (by kernel_rfl) (by kernel_rfl) (fun _ _ _ h => h) (Or.inl ⟨by rfl, ?_⟩) (by assumption) ?_
      rotate_left 1
      · intro W hSw
        try dsimp only at hSw
        obtain ⟨hs1, hs2, hs3⟩ := hSw
        go_simp
        try with_reducible rfl
      try simp only [Act.put, List.setIfInBounds_toArray, List.set_cons_zero, List.set_cons_succ]
      refine wpAnyH_take (i := 3) (oi := ⟨_, _, _, _, _, _⟩) (v := ?_) rfl (by kernel_rfl) (by kernel_rfl) (by kernel_rfl) (fun _ _ _ h => h) (Or.inl ⟨by rfl, ?_⟩) (by assumption) ?_
      rotate_left 1
      · intro W hSw
        try dsimp only at hSw
        obtain ⟨hs1, hs2, hs3⟩ := hSw
        go_simp
        try with_reducible rfl
      try simp only [Act.put, List.setIfInBounds_toArray, List.set_cons_zero, List.set_cons_succ]
      refine wpAnyH_take (i := 4) (oi := ⟨_, _, _, _, _, _⟩) (v := ?_) rfl (by kernel_rfl) (by kernel_rfl) (by kernel_rfl) (fun _ _ _ h => h) (Or.inl ⟨by rfl, ?_⟩) (by assumption) ?_
      rotate_left 1
      · intro W hSw
        try dsimp only at hSw
        obtain ⟨hs1, hs2, hs3⟩ := hSw
        go_simp
        try with_reducible rfl
      try simp only [Act.put, List.setIfInBounds_toArray, List.set_cons_zero, List.set_cons_succ]
      refine wpAnyH_take (i := 5) (oi := ⟨_, _, _, _, _, _⟩) (v := ?_) rfl (by kernel_rfl) (by kernel_rfl) (by kernel_rfl) (fun _ _ _ h => h) (Or.inl ⟨by rfl, ?_⟩) (by assumption) ?_
      rotate_left 1
      · intro W hSw
        try dsimp only at hSw
        obtain ⟨hs1, hs2, hs3⟩ := hSw
        go_simp
        try with_reducible rfl
      try simp only [Act.put, List.setIfInBounds_toArray, List.set_cons_zero, List.set_cons_succ]
      refine wpAnyH_take (i := 6) (oi := ⟨_, _, _, _, _, _⟩) (v := ?_) rfl (by kernel_rfl) (by kernel_rfl) (by kernel_rfl) (fun _ _ _ h => h) (Or.inl ⟨by rfl, ?_⟩) (by assumption) ?_
      rotate_left 1
      · intro W hSw
        try dsimp only at hSw
        obtain ⟨hs1, hs2, hs3⟩ := hSw
        go_simp
        try with_reducible rfl
      try simp only [Act.put, List.setIfInBounds_toArray, List.set_cons_zero, List.set_cons_succ]
      refine wpAnyH_take (i := 7) (oi := ⟨_, _, _, _, _, _⟩) (v := ?_) rfl (by kernel_rfl) (by kernel_rfl) (by kernel_rfl) (fun _ _ _ h => h) (Or.inl ⟨by rfl, ?_⟩) (by assumption) ?_
      rotate_left 1
      · intro W hSw
        try dsimp only at hSw
        obtain ⟨hs1, hs2, hs3⟩ := hSw
        go_simp
        try with_reducible rfl
      try simp only [Act.put, List.setIfInBounds_toArray, List.set_cons_zero, List.set_cons_succ]
      refine wpAnyH_take (i := 8) (oi := ⟨_, _, _, _, _, _⟩) (v := .agg (hC id).toArray) rfl (by kernel_rfl) (by kernel_rfl) (by kernel_rfl) (fun _ _ _ h => h) (yieldsIf_load_mid (by rfl) 23 (.tmp 3) rfl w.heap.size 0 rfl (hC id) _ (fun W hS => hS.2.2) Tryd.underlying23 rfl (hszL id)) (by assumption) ?_
      try simp only [Act.put, List.setIfInBounds_toArray, List.set_cons_zero, List.set_cons_succ]
      refine wpAnyH_ready (rs := [9]) (by kernel_rfl) (by simp) ?_
      refine AllReadyH.cons rfl (fun K hK => ?_) AllReadyH.nil
      go_simp
      go_at_call 15
      refine (rin_any wr.drew A5 (psG G i) c5 id HS5.out (by have := HPl.out; omega)).mono ?_
      rw [HZc.out]
      rintro e w6 ⟨rfl, hb6⟩
      have J6 : Hid (Below wr.drew.heap.size wr.drew w6) := Lib.hid hb6
      clear hb6
      refine hK.out _ _ ⟨(J6.out.cell (p := ⟨r.q, 0, none⟩) HLq.out).trans HCq.out, (J6.out.cell (p := ⟨b1, f1 + i * 33 + 32, none⟩) HLr.out).trans HC5.out, rngK HRi.out J6.out HLi.out⟩ (fun hSn => ?_)
      clear hK K
      try simp only [Act.put, List.setIfInBounds_toArray, List.set_cons_zero, List.set_cons_succ]
      refine wpAnyH_done (by kernel_rfl) ?_ _
      have JW : Hid (Below wr.heap.size wr w6) := nxUndrT J6.out
      replace HRr := Lib.hid (show wr.rangeAt b1 (f1 + i * 33) (hC y) from HRr.out)
      replace HLr := Lib.hid (show b1 < wr.heap.size from HLr.out)
      replace HLq := Lib.hid (show r.q < wr.heap.size from HLq.out)
      replace HCq := Lib.hid (show wr.cell? ⟨r.q, 0, none⟩ = some (.slice (some ⟨b1, f1, none⟩) G.length r.c) from HCq.out)
      clear hHeld hSn
      cases z with
      | true =>
        have HSt : Hid (selL G f (i + 1) = selL G f i ++ [y]) := HSu.out
        have HRy : Hid (w6.rangeAt b1 (f1 + i * 33) (hC y)) := rngK HRr.out JW.out HLr.out
        have hcw : w6.cell? ⟨r.q, 0, none⟩ = some (.slice (some ⟨b1, f1, none⟩) G.length r.c) := (JW.out.cell (p := ⟨r.q, 0, none⟩) HLq.out).trans HCq.out
        have VW : Hid (Below w.heap.size w w6) := nxTo HV.out JW.out
        have P0 := Lib.hid (own_below HO.out JW.out (fun g hg => (own_lt HO.out g hg).2))
        have HB8 := Lib.hid (HB.out.below JW.out HB.out.lt)
        go_wp2_with (first
          | ((with_reducible show wpList _ _ _ (⟨some 34, _, _, _, _, _⟩ :: _) _ _); refine wpList_load_mid rfl 23 (.tmp 33) rfl b1 (f1 + i * 33) rfl (hC y) _ HRy.out Tryd.underlying23 rfl (hszL y) ?_)
          | ((with_reducible show wpList _ _ _ (⟨some 35, _, _, _, _, _⟩ :: _) _ _); refine wpList_build1 rfl 34 23 (.tmp 34) rfl (hC y) _ 32 32 Tryd.underlying34 Tryd.dinfoH (by decide) (by decide) (hC_len y) rfl ?_; have J5 : Hid (Below w6.heap.size w6 (w6.alloc (.cells (hC y).toArray 23))) := nxAlloc (nxRefl _) _; have V5 : Hid (Below w.heap.size w (w6.alloc (.cells (hC y).toArray 23))) := nxTo VW.out J5.out; have P1 := Lib.hid (own_below P0.out J5.out (fun g hg => (own_lt P0.out g hg).2)))
          | ((with_reducible show wpList _ _ _ (⟨some 36, _, _, _, _, _⟩ :: _) _ _); refine wpList_append_seesV rfl (.tmp 26) (.tmp 35) 34 rfl (w.heap.size + 1) 23 i0 _ 32 32 Tryd.underlying34 hi0 hz0 hs0 hy0 rfl (by decide) (.slice A1 (selL G f i).length c1) (selL G f i).length (hsC (selL G f i)) rfl P1.out _ (some ⟨w6.heap.size, 0, none⟩) 1 1 (hC y) rfl (by rw [hC_len]) (SeesV.blk (heap_alloc_new w6 _)) (hC_one y) (by omega) (by omega) (HB8.out.below J5.out HB8.out.lt).lt ?_; intro v7 w7 ho7 hg7 ha7; obtain ⟨A7, c7, rfl⟩ := own_form ho7; have O7 := Lib.hid ho7; have V7 : Hid (Below w.heap.size w w7) := V5.out.grown hg7 V5.out.size (fun j hj => (by have := (own_lt P1.out j hj).1; omega)); have HB9 : Hid (Blk w7 w.heap.size 23 (hC id).toArray) := blk_old (Nat.lt_succ_self _) (HB8.out.below J5.out HB8.out.lt) hg7 P1.out; clear ho7 hg7 ha7))
        go_roundw
        case rel =>
          have e1 : (selL G f (i + 1)).length = (selL G f i).length + 1 := by rw [HSt.out, List.length_append]; rfl
          have e2 : hsC (selL G f (i + 1)) = hsC (selL G f i) ++ hC y := by rw [HSt.out, hsC_append]; simp [hsC]
          exact ⟨i + 1, A7, c7, by omega, by rw [e1], by go_num, HB9.out, (by show World.ownsRow _ _ _ _ _ _ _; rw [e2, e1]; exact O7.out), V7.out⟩
        case measure => simp [intOf] <;> omega
      | false =>
        have HSt : Hid (selL G f (i + 1) = selL G f i) := by show _ = _; rw [HSu.out]; simp
        go_wp2
        go_roundw
        case rel => exact ⟨i + 1, A1, c1, by omega, by rw [HSt.out], by go_num, HB.out.below (JW).out HB.out.lt, (by show World.ownsRow _ _ _ _ _ _ _; rw [HSt.out]; exact own_below HO.out JW.out (fun g hg => (own_lt HO.out g hg).2)), nxTo HV.out JW.out⟩
        case measure => simp [intOf] <;> omega
    · obtain rfl : i = G.length := by omega
      have hcq := HR.out.len
      have HSo := rsorted_any wr A1 (selL G f G.length) c1 (SeesV.own HO.out) (by omega)
      unfold SortPost at HSo
      have HSt := Lib.hid HSo
      clear HSo
      go_wp2_with (go_at_call 21; refine HSt.out.mono ?_; rintro e w9 ⟨A9, c9, rfl, ho9, hb9⟩; have O9 := Lib.hid ho9; have J9 := Lib.hid hb9; clear ho9 hb9)
      go_ret
      exact ⟨A9, c9, rfl, own_base O9.out HV.out.size, nxTo HV.out J9.out⟩
set_option maxRecDepth 100000 in
set_option maxHeartbeats 4000000 in
theorem rtips_any (w : World) (base : Nat) (r : RGm) (G : Gr) (h : RGd w base r G) : Calls Tryd.prog 32 #[.pointer (some ⟨r.q, 0, none⟩)] w (ListPost w (risH (selL G (fun i => decide ((risH (selL G (fun k => decide (idG G i ∈ psG G k)) G.length)).length = 0)) G.length))) := by
  unfold ListPost
  have HH := Lib.hid h
  have V1 : Hid (Below w.heap.size w w) := nxRefl w
  obtain ⟨i0, hi0, hz0, hs0, hy0⟩ := info_parts Tryd.dinfoH
  clear h
  obtain ⟨f, hf⟩ : ∃ f : Nat → Bool, (fun i => decide ((risH (selL G (fun k => decide (idG G i ∈ psG G k)) G.length)).length = 0)) = f := ⟨_, rfl⟩
  have HF := Lib.hid hf
  rw [hf]
  clear hf
  go_enter Tryd.func32, Tryd.ntmps32
  go_wp2
  go_loopw [3, 4] (fun ov iv wr => ∃ (i : Nat) (A1 : Option Addr) (c1 : Nat), i ≤ G.length ∧ ov = .slice A1 (selL G f i).length c1 ∧ iv = .int .i64 i ∧ Hid (wr.ownsRow (w.heap.size + 0) 23 32 (.slice A1 (selL G f i).length c1) (selL G f i).length (hsC (selL G f i))) ∧ Hid (Below w.heap.size w wr)) (fun _ iv _ => G.length - (intOf iv).toNat)
  case atStart => exact ⟨0, none, 0, by omega, rfl, rfl, ⟨rfl, .inl ⟨rfl, rfl⟩⟩, V1.out⟩
  case round =>
    clear V1
    obtain ⟨i, A1, c1, hi, rfl, rfl, HO, HV⟩ := hrel
    have hmx := HH.out.mx
    have hsl := selL_le G f i
    have HR : Hid (RGd wr base r G) := HH.out.later HV.out
    by_cases hlt : i < G.length
    · obtain ⟨b1, f1, A5, c5, hcq, hb1, hr1, hc5, hs5⟩ := HR.out.node hlt
      have hsu := selL_succ G f i
      obtain ⟨y, hy⟩ : ∃ y, idG G i = y := ⟨_, rfl⟩
      rw [hy] at hr1 hsu
      have HY := Lib.hid hy
      have HSu := Lib.hid hsu
      have hin : (i : Int) < (G.length : Int) := by omega
      obtain ⟨z, hz⟩ : ∃ z, f i = z := ⟨_, rfl⟩
      rw [hz] at HSu
      have HZ := Lib.hid hz
      clear hsu hy hz
      obtain ⟨L, hL⟩ : ∃ L, risH (selL G (fun k => decide (y ∈ psG G k)) G.length) = L := ⟨_, rfl⟩
      have hzc : ((L.length : Int) == 0) = z := by
        rw [← HZ.out, ← HF.out]
        simp only [HY.out, hL]
        rw [Bool.eq_iff_iff, beq_iff_eq, decide_eq_true_eq]
        omega
      have hLl : L.length ≤ 1000 := by
        rw [← hL]
        exact Nat.le_trans (risH_le _) (Nat.le_trans (selL_le _ _ _) HH.out.mx)
      have HK := Lib.hid (rkids_any wr base r G HR.out y)
      rw [hL] at HK
      have HRr := Lib.hid hr1
      have HLr := Lib.hid hb1
      have HLq := Lib.hid (show r.q < wr.heap.size from HR.out.d.b.lt)
      have HCq := Lib.hid hcq
      clear hr1 hb1 hc5 hs5 hL
      clear hcq hLl
      cases z with
      | true =>
        have HSt : Hid (selL G f (i + 1) = selL G f i ++ [y]) := HSu.out
        have hcq := HCq.out
        go_wp2_with (first
          | ((with_reducible show wpList _ _ _ (⟨some 22, _, _, _, _, _⟩ :: _) _ _); refine wpList_load_mid rfl 23 (.tmp 21) rfl b1 (f1 + i * 33) rfl (hC y) _ HRr.out Tryd.underlying23 rfl (hszL y) ?_)
          | (go_at_call 34; refine HK.out.mono ?_; unfold ListPost; rintro e w6 ⟨A6, c6, rfl, ho6, hb6⟩; have JW : Hid (Below wr.heap.size wr w6) := Lib.hid hb6; clear ho6 hb6; have HRy : Hid (w6.rangeAt b1 (f1 + i * 33) (hC y)) := rngK HRr.out JW.out HLr.out; have hcw : w6.cell? ⟨r.q, 0, none⟩ = some (.slice (some ⟨b1, f1, none⟩) G.length r.c) := (JW.out.cell (p := ⟨r.q, 0, none⟩) HLq.out).trans HCq.out; have VW : Hid (Below w.heap.size w w6) := nxTo HV.out JW.out; have P0 := Lib.hid (own_below HO.out JW.out (fun g hg => (own_lt HO.out g hg).2)))
          | ((with_reducible show wpList _ _ _ (⟨some 34, _, _, _, _, _⟩ :: _) _ _); refine wpList_load_mid rfl 23 (.tmp 33) rfl b1 (f1 + i * 33) rfl (hC y) _ HRy.out Tryd.underlying23 rfl (hszL y) ?_)
          | ((with_reducible show wpList _ _ _ (⟨some 35, _, _, _, _, _⟩ :: _) _ _); refine wpList_build1 rfl 34 23 (.tmp 34) rfl (hC y) _ 32 32 Tryd.underlying34 Tryd.dinfoH (by decide) (by decide) (hC_len y) rfl ?_; have J5 : Hid (Below w6.heap.size w6 (w6.alloc (.cells (hC y).toArray 23))) := nxAlloc (nxRefl _) _; have V5 : Hid (Below w.heap.size w (w6.alloc (.cells (hC y).toArray 23))) := nxTo VW.out J5.out; have P1 := Lib.hid (own_below P0.out J5.out (fun g hg => (own_lt P0.out g hg).2)))
          | ((with_reducible show wpList _ _ _ (⟨some 36, _, _, _, _, _⟩ :: _) _ _); refine wpList_append_seesV rfl (.tmp 26) (.tmp 35) 34 rfl (w.heap.size + 0) 23 i0 _ 32 32 Tryd.underlying34 hi0 hz0 hs0 hy0 rfl (by decide) (.slice A1 (selL G f i).length c1) (selL G f i).length (hsC (selL G f i)) rfl P1.out _ (some ⟨w6.heap.size, 0, none⟩) 1 1 (hC y) rfl (by rw [hC_len]) (SeesV.blk (heap_alloc_new w6 _)) (hC_one y) (by omega) (by omega) V5.out.size ?_; intro v7 w7 ho7 hg7 ha7; obtain ⟨A7, c7, rfl⟩ := own_form ho7; have O7 := Lib.hid ho7; have V7 : Hid (Below w.heap.size w w7) := V5.out.grown hg7 V5.out.size (fun j hj => (by have := (own_lt P1.out j hj).1; omega)); clear ho7 hg7 ha7))
        go_roundw
        case rel =>
          have e1 : (selL G f (i + 1)).length = (selL G f i).length + 1 := by rw [HSt.out, List.length_append]; rfl
          have e2 : hsC (selL G f (i + 1)) = hsC (selL G f i) ++ hC y := by rw [HSt.out, hsC_append]; simp [hsC]
          exact ⟨i + 1, A7, c7, by omega, by rw [e1], by go_num, (by show World.ownsRow _ _ _ _ _ _ _; rw [e2, e1]; exact O7.out), V7.out⟩
        case measure => simp [intOf] <;> omega
      | false =>
        have HSt : Hid (selL G f (i + 1) = selL G f i) := by show _ = _; rw [HSu.out]; simp
        have hcq := HCq.out
        go_wp2_with (first
          | ((with_reducible show wpList _ _ _ (⟨some 22, _, _, _, _, _⟩ :: _) _ _); refine wpList_load_mid rfl 23 (.tmp 21) rfl b1 (f1 + i * 33) rfl (hC y) _ HRr.out Tryd.underlying23 rfl (hszL y) ?_)
          | (go_at_call 34; refine HK.out.mono ?_; unfold ListPost; rintro e w6 ⟨A6, c6, rfl, ho6, hb6⟩; have JW : Hid (Below wr.heap.size wr w6) := Lib.hid hb6; clear ho6 hb6; skip))
        go_roundw
        case rel => exact ⟨i + 1, A1, c1, by omega, by rw [HSt.out], by go_num, (by show World.ownsRow _ _ _ _ _ _ _; rw [HSt.out]; exact own_below HO.out JW.out (fun g hg => (own_lt HO.out g hg).2)), nxTo HV.out JW.out⟩
        case measure => simp [intOf] <;> omega
    · obtain rfl : i = G.length := by omega
      have hcq := HR.out.len
      have HSo := rsorted_any wr A1 (selL G f G.length) c1 (SeesV.own HO.out) (by omega)
      unfold SortPost at HSo
      have HSt := Lib.hid HSo
      clear HSo
      go_wp2_with (go_at_call 21; refine HSt.out.mono ?_; rintro e w9 ⟨A9, c9, rfl, ho9, hb9⟩; have O9 := Lib.hid ho9; have J9 := Lib.hid hb9; clear ho9 hb9)
      go_ret
      exact ⟨A9, c9, rfl, own_base O9.out HV.out.size, nxTo HV.out J9.out⟩
/-- Does neither stand in the other one's past, and are they two? -/
noncomputable def apB (G : Gr) (a b : Hh) : Bool := !decide (a = b) && !befB G a b && !befB G b a
theorem wpList_neH {ops : Array Oper} {rest : List Oper} {o : Oper} {a : Act} {w : World} {Q : Exit → Act → World → Prop} (hw : Region.wanted o (yielded ops a.tmps) = true) (x y : Operand) (ho : o.op = .binOp .neq 23 x y 23)
    (l m : Hh) (hx : a.eval x = .agg (hC l).toArray) (hy : a.eval y = .agg (hC m).toArray) (z : Bool) (hz : decide (l = m) = z) (h : wpList Tryd.prog ops Q rest (a.put o.dst (.bool (!z))) w) : wpList Tryd.prog ops Q (o :: rest) a w := by
  unfold wpList
  rw [if_pos hw]
  unfold Oper.wp execOp
  have hq : (eqGuard .neq 23 x y (.agg (hC l).toArray) (.agg (hC m).toArray)).run Tryd.prog w = .ok () w := by simp [eqGuard, Tryd.deqgH]
  have he : (l.1 == m.1) = z := by rw [← hz, Bool.eq_iff_iff, beq_iff_eq, decide_eq_true_eq]; exact ⟨fun h => Subtype.ext h, fun h => by rw [h]⟩
  unfold hC at hx hy hq
  simp only [ho, hx, hy, Sem.run_bind, Sem.run_pure, Result.andThen_ok, hq, run_neq_bytes 32 23 5 Tryd.underlying23 Tryd.underlying5 Tryd.u8size l.1 m.1 l.2 m.2, bne, he]
  exact .inl h
set_option maxRecDepth 100000 in
set_option maxHeartbeats 4000000 in
theorem rapart_any (w : World) (base : Nat) (r : RGm) (G : Gr) (h : RGd w base r G) (a b : Hh) : Calls Tryd.prog 60 #[.pointer (some ⟨r.q, 0, none⟩), .agg (hC a).toArray, .agg (hC b).toArray] w fun e w' => e = .returned (.bool (apB G a b)) ∧ Below w.heap.size w w' := by
  obtain ⟨wd, hwd⟩ : ∃ x, ((w.alloc (.cells (hC a).toArray 23)).alloc (.cells (hC b).toArray 23)) = x := ⟨_, rfl⟩
  have V2 : Hid (Below w.heap.size w wd) := by rw [← hwd]; exact nxAlloc (nxAlloc (nxRefl w) _) _
  have BA : Hid (Blk wd w.heap.size 23 (hC a).toArray) := by rw [← hwd]; exact Blk.alloc (heap_alloc_new w _) _
  have BB : Hid (Blk wd (w.heap.size + 1) 23 (hC b).toArray) := by rw [← hwd]; exact blkNew (by simp) rfl
  have HR := Lib.hid (h.later V2.out)
  have HWd := Lib.hid hwd
  unfold apB
  clear h hwd
  have fin : ∀ z0 z1 z2, decide (a = b) = z0 → befB G a b = z1 → befB G b a = z2 → Calls Tryd.prog 60 #[.pointer (some ⟨r.q, 0, none⟩), .agg (hC a).toArray, .agg (hC b).toArray] w fun e w' => e = .returned (.bool (!z0 && !z1 && !z2)) ∧ Below w.heap.size w w' := by
    intro z0 z1 z2 h0 h1 h2
    have HZ0 := Lib.hid h0
    have HZ1 := Lib.hid h1
    have HZ2 := Lib.hid h2
    clear h0 h1 h2
    cases z0 <;> cases z1
    all_goals
      go_enter Tryd.func60, Tryd.ntmps60
      go_wp2_with (first
        | ((with_reducible show wpList _ _ _ (⟨some 7, _, _, _, _, _⟩ :: _) _ _); refine wpList_load_mid rfl 23 (.tmp 4) rfl w.heap.size 0 rfl (hC a) _ (kb_range (by rw [HWd.out]; exact BA.out)) Tryd.underlying23 rfl (hszL a) ?_)
        | ((with_reducible show wpList _ _ _ (⟨some 8, _, _, _, _, _⟩ :: _) _ _); refine wpList_load_mid rfl 23 (.tmp 5) rfl (w.heap.size + 1) 0 rfl (hC b) _ (kb_range (by rw [HWd.out]; exact BB.out)) Tryd.underlying23 rfl (hszL b) ?_)
        | ((with_reducible show wpList _ _ _ (⟨some 9, _, _, _, _, _⟩ :: _) _ _); refine wpList_neH (by rfl) (.tmp 7) (.tmp 8) rfl a b rfl rfl _ HZ0.out ?_; rw [HWd.out])
        | ((with_reducible show wpList _ _ _ (⟨some 12, _, _, _, _, _⟩ :: _) _ _); refine wpList_unguard (by rfl) ?_; refine wpList_load_mid rfl 23 (.tmp 4) rfl w.heap.size 0 rfl (hC a) _ (kb_range BA.out) Tryd.underlying23 rfl (hszL a) ?_)
        | ((with_reducible show wpList _ _ _ (⟨some 13, _, _, _, _, _⟩ :: _) _ _); refine wpList_unguard (by rfl) ?_; refine wpList_load_mid rfl 23 (.tmp 5) rfl (w.heap.size + 1) 0 rfl (hC b) _ (kb_range BB.out) Tryd.underlying23 rfl (hszL b) ?_)
        | (go_at_call 59; (with_reducible show Calls _ _ #[_, .agg (hC a).toArray, _] wd _); refine (rbefore_any wd base r G HR.out a b).mono ?_; rw [HZ1.out]; rintro e w3 ⟨rfl, hb3⟩; have J3 := Lib.hid hb3; have BA3 := Lib.hid (BA.out.below hb3 BA.out.lt); have BB3 := Lib.hid (BB.out.below hb3 BB.out.lt); have HR3 := Lib.hid (HR.out.later hb3); clear hb3)
        | ((with_reducible show wpList _ _ _ (⟨some 19, _, _, _, _, _⟩ :: _) _ _); refine wpList_unguard (by rfl) ?_; refine wpList_load_mid rfl 23 (.tmp 5) rfl (w.heap.size + 1) 0 rfl (hC b) _ (kb_range BB3.out) Tryd.underlying23 rfl (hszL b) ?_)
        | ((with_reducible show wpList _ _ _ (⟨some 20, _, _, _, _, _⟩ :: _) _ _); refine wpList_unguard (by rfl) ?_; refine wpList_load_mid rfl 23 (.tmp 4) rfl w.heap.size 0 rfl (hC a) _ (kb_range BA3.out) Tryd.underlying23 rfl (hszL a) ?_)
        | (go_at_call 59; (with_reducible show Calls _ _ #[_, .agg (hC b).toArray, _] w3 _); refine (rbefore_any w3 base r G HR3.out b a).mono ?_; rw [HZ2.out]; rintro e w5 ⟨rfl, hb5⟩; have J5 := Lib.hid hb5; clear hb5))
      go_ret
      first
        | exact ⟨rfl, nxTo V2.out (nxTo J3.out J5.out)⟩
        | exact ⟨rfl, nxTo V2.out J3.out⟩
        | exact ⟨rfl, V2.out⟩
  exact fin _ _ _ rfl rfl rfl
set_option maxRecDepth 100000 in
set_option maxHeartbeats 4000000 in
theorem ranti_any (w : World) (base : Nat) (r : RGm) (G : Gr) (h : RGd w base r G) (id : Hh) (h0 : 0 < G.length) : Calls Tryd.prog 36 #[.pointer (some ⟨r.q, 0, none⟩), .agg (hC id).toArray] w (ListPost w (risH (selL G (fun i => (placeG G id).isSome && apB G id (idG G i)) G.length))) := by
  unfold ListPost
  have HH := Lib.hid h
  have V1 : Hid (Below w.heap.size w (w.alloc (.cells (hC id).toArray 23))) := nxAlloc (nxRefl w) _
  have B1 : Hid (Blk (w.alloc (.cells (hC id).toArray 23)) w.heap.size 23 (hC id).toArray) := heap_alloc_new w _
  obtain ⟨i0, hi0, hz0, hs0, hy0⟩ := info_parts Tryd.dinfoH
  clear h
  obtain hp | ⟨pn, hp⟩ : placeG G id = none ∨ ∃ n, placeG G id = some n := by cases placeG G id <;> simp
  · have HPn := Lib.hid hp
    have hsl : selL G (fun i => (placeG G id).isSome && apB G id (idG G i)) G.length = [] := by simp [selL, hp]
    rw [hsl]
    have hmx := HH.out.mx
    clear hsl hp
    go_enter Tryd.func36, Tryd.ntmps36
    go_wp2
    go_loopw [5, 6] (fun ov iv wr => ov = .slice none 0 0 ∧ iv = .int .i64 0 ∧ Hid (Blk wr w.heap.size 23 (hC id).toArray) ∧ Hid (Below w.heap.size w wr)) (fun _ iv _ => 0)
    case atStart => exact ⟨rfl, rfl, B1.out, V1.out⟩
    case round =>
      clear B1 V1
      obtain ⟨rfl, rfl, HB, HV⟩ := hrel
      have HR : Hid (RGd wr base r G) := HH.out.later HV.out
      have hcq := HR.out.len
      have hin : (0 : Int) < (G.length : Int) := by omega
      go_wp2_with (first
        | ((with_reducible show wpList _ _ _ (⟨some 16, _, _, _, _, _⟩ :: _) _ _); refine wpList_unguard (by rfl) ?_; refine wpList_load_mid rfl 23 (.tmp 3) rfl w.heap.size 0 rfl (hC id) _ (kb_range HB.out) Tryd.underlying23 rfl (hszL id) ?_)
        | (go_at_call 33; refine (rat2_any wr base r G HR.out id).mono ?_; rw [HPn.out]; rintro e w3 ⟨rfl, hb3⟩; have J3 := Lib.hid hb3; clear hb3)
        | (go_at_call 21; refine (rsorted_any w3 none [] 0 (.inl rfl) (by simp)).mono ?_; unfold SortPost; rintro e w9 ⟨A9, c9, rfl, ho9, hb9⟩; have O9 := Lib.hid ho9; have J9 := Lib.hid hb9; clear ho9 hb9))
      go_ret
      exact ⟨A9, c9, rfl, own_base O9.out (nxTo HV.out J3.out).size, nxTo HV.out (nxTo J3.out J9.out)⟩
  have HPn := Lib.hid hp
  have hpn : (0 : Int) ≤ (pn : Int) := by omega
  clear hp
  obtain ⟨f, hf⟩ : ∃ f : Nat → Bool, (fun i => (placeG G id).isSome && apB G id (idG G i)) = f := ⟨_, rfl⟩
  have HF := Lib.hid hf
  rw [hf]
  clear hf
  go_enter Tryd.func36, Tryd.ntmps36
  go_wp2
  go_loopw [5, 6] (fun ov iv wr => ∃ (i : Nat) (A1 : Option Addr) (c1 : Nat), i ≤ G.length ∧ ov = .slice A1 (selL G f i).length c1 ∧ iv = .int .i64 i ∧ Hid (Blk wr w.heap.size 23 (hC id).toArray) ∧ Hid (wr.ownsRow (w.heap.size + 1) 23 32 (.slice A1 (selL G f i).length c1) (selL G f i).length (hsC (selL G f i))) ∧ Hid (Below w.heap.size w wr)) (fun _ iv _ => G.length - (intOf iv).toNat)
  case atStart => exact ⟨0, none, 0, by omega, rfl, rfl, B1.out, ⟨rfl, .inl ⟨rfl, rfl⟩⟩, V1.out⟩
  case round =>
    clear B1 V1
    obtain ⟨i, A1, c1, hi, rfl, rfl, HB, HO, HV⟩ := hrel
    have hmx := HH.out.mx
    have hsl := selL_le G f i
    have HR : Hid (RGd wr base r G) := HH.out.later HV.out
    by_cases hlt : i < G.length
    · obtain ⟨b1, f1, A5, c5, hcq, hb1, hr1, hc5, hs5⟩ := HR.out.node hlt
      have hsu := selL_succ G f i
      obtain ⟨y, hy⟩ : ∃ y, idG G i = y := ⟨_, rfl⟩
      rw [hy] at hr1 hsu
      have HY := Lib.hid hy
      have HSu := Lib.hid hsu
      have hin : (i : Int) < (G.length : Int) := by omega
      obtain ⟨z, hz⟩ : ∃ z, f i = z := ⟨_, rfl⟩
      rw [hz] at HSu
      have HZ := Lib.hid hz
      clear hsu hy hz
      clear hcq hb1 hr1 hc5 hs5
      clear HY HSu HZ
      clear b1 f1 A5 c5 y z
      have hcq := HR.out.len
      go_wp2_with (first
        | ((with_reducible show wpList _ _ _ (⟨some 16, _, _, _, _, _⟩ :: _) _ _); refine wpList_unguard (by rfl) ?_; refine wpList_load_mid rfl 23 (.tmp 3) rfl w.heap.size 0 rfl (hC id) _ (kb_range HB.out) Tryd.underlying23 rfl (hszL id) ?_)
        | (go_at_call 33; refine (rat2_any wr base r G HR.out id).mono ?_; rw [HPn.out]; rintro e w3 ⟨rfl, hb3⟩; have J3 := Lib.hid hb3; clear hb3))
      clear hcq
      replace HB := Lib.hid (HB.out.below J3.out HB.out.lt)
      replace HO := Lib.hid (own_below HO.out J3.out (fun g hg => (own_lt HO.out g hg).2))
      replace HV : Hid (Below w.heap.size w w3) := nxTo HV.out J3.out
      replace HR : Hid (RGd w3 base r G) := HR.out.later J3.out
      obtain ⟨b1, f1, A5, c5, hcq, hb1, hr1, hc5, hs5⟩ := HR.out.node hlt
      have hsu := selL_succ G f i
      obtain ⟨y, hy⟩ : ∃ y, idG G i = y := ⟨_, rfl⟩
      rw [hy] at hr1 hsu
      have HY := Lib.hid hy
      have HSu := Lib.hid hsu
      obtain ⟨z, hz⟩ : ∃ z, f i = z := ⟨_, rfl⟩
      rw [hz] at HSu
      have HZ := Lib.hid hz
      clear hsu hy hz J3
      have HCq := Lib.hid (show w3.drew.cell? ⟨r.q, 0, none⟩ = some (.slice (some ⟨b1, f1, none⟩) G.length r.c) from hcq)
      have HRr := Lib.hid (show w3.drew.rangeAt b1 (f1 + i * 33) (hC y) from hr1)
      have HLr := Lib.hid (show b1 < w3.drew.heap.size from hb1)
      have HLq := Lib.hid (show r.q < w3.drew.heap.size from HR.out.d.b.lt)
      have HRi : Hid (w3.drew.rangeAt w.heap.size 0 (hC id)) := kb_range HB.out
      have HLi := Lib.hid (show w.heap.size < w3.drew.heap.size from HB.out.lt)
      have HRd : Hid (RGd w3.drew base r G) := HR.out.later (nxDrT (nxRefl _))
      have HZc : Hid (apB G id y = z) := by show _ = _; rw [← HY.out, ← HZ.out, ← HF.out]; simp [HPn.out]
      clear hr1 hb1 hc5 hs5
      go_wp2
      clear hcq
      refine wp_region_held_drew (S := fun W => W.cell? ⟨r.q, 0, none⟩ = some (.slice (some ⟨b1, f1, none⟩) G.length r.c) ∧ W.rangeAt w.heap.size 0 (hC id) ∧ W.rangeAt b1 (f1 + i * 33) (hC y)) (by kernel_rfl) ⟨HCq.out, HRi.out, HRr.out⟩ (fun hHeld => ?_)
      refine wpAnyH_take (i := 0) (oi := ⟨_, _, _, _, _, _⟩) (v := ?_) rfl (by kernel_rfl) (by kernel_rfl) (by kernel_rfl) (fun _ _ _ h => h) (Or.inl ⟨by rfl, ?_⟩) (by assumption) ?_
      rotate_left 1
      · intro W hSw
        try dsimp only at hSw
        obtain ⟨hs1, hs2, hs3⟩ := hSw
        go_simp
        try with_reducible rfl
      try simp only [Act.put, List.setIfInBounds_toArray, List.set_cons_zero, List.set_cons_succ]
      refine wpAnyH_take (i := 1) (oi := ⟨_, _, _, _, _, _⟩) (v := .agg (hC id).toArray) rfl (by kernel_rfl) (by kernel_rfl) (by kernel_rfl) (fun _ _ _ h => h) (yieldsIf_load_mid (by rfl) 23 (.tmp 3) rfl w.heap.size 0 rfl (hC id) _ (fun W hS => hS.2.1) Tryd.underlying23 rfl (hszL id)) (by assumption) ?_
      try simp only [Act.put, List.setIfInBounds_toArray, List.set_cons_zero, List.set_cons_succ]
      refine wpAnyH_take (i := 2) (oi := ⟨_, _, _, _, _, _⟩) (v := ?_) rfl (by kernel_rfl) (by kernel_rfl) (by kernel_rfl) (fun _ _ _ h => h) (Or.inl ⟨by rfl, ?_⟩) (by assumption) ?_
      rotate_left 1
      · intro W hSw
        try dsimp only at hSw
        obtain ⟨hs1, hs2, hs3⟩ := hSw
        go_simp
        try with_reducible rfl
      try simp only [Act.put, List.setIfInBounds_toArray, List.set_cons_zero, List.set_cons_succ]
      refine wpAnyH_take (i := 3) (oi := ⟨_, _, _, _, _, _⟩) (v := ?_) rfl (by kernel_rfl) (by kernel_rfl) (by kernel_rfl) (fun _ _ _ h => h) (Or.inl ⟨by rfl, ?_⟩) (by assumption) ?_
      rotate_left 1
      · intro W hSw
        try dsimp only at hSw
        obtain ⟨hs1, hs2, hs3⟩ := hSw
        go_simp
        try with_reducible rfl
      try simp only [Act.put, List.setIfInBounds_toArray, List.set_cons_zero, List.set_cons_succ]
      refine wpAnyH_take (i := 4) (oi := ⟨_, _, _, _, _, _⟩) (v := ?_) rfl (by kernel_rfl) (by kernel_rfl) (by kernel_rfl) (fun _ _ _ h => h) (Or.inl ⟨by rfl, ?_⟩) (by assumption) ?_
      rotate_left 1
      · intro W hSw
        try dsimp only at hSw
        obtain ⟨hs1, hs2, hs3⟩ := hSw
        go_simp
        try with_reducible rfl
      try simp only [Act.put, List.setIfInBounds_toArray, List.set_cons_zero, List.set_cons_succ]
      refine wpAnyH_take (i := 5) (oi := ⟨_, _, _, _, _, _⟩) (v := ?_) rfl (by kernel_rfl) (by kernel_rfl) (by kernel_rfl) (fun _ _ _ h => h) (Or.inl ⟨by rfl, ?_⟩) (by assumption) ?_
      rotate_left 1
      · intro W hSw
        try dsimp only at hSw
        obtain ⟨hs1, hs2, hs3⟩ := hSw
        go_simp
        try with_reducible rfl
      try simp only [Act.put, List.setIfInBounds_toArray, List.set_cons_zero, List.set_cons_succ]
      refine wpAnyH_take (i := 6) (oi := ⟨_, _, _, _, _, _⟩) (v := ?_) rfl (by kernel_rfl) (by kernel_rfl) (by kernel_rfl) (fun _ _ _ h => h) (Or.inl ⟨by rfl, ?_⟩) (by assumption) ?_
      rotate_left 1
      · intro W hSw
        try dsimp only at hSw
        obtain ⟨hs1, hs2, hs3⟩ := hSw
        go_simp
        try with_reducible rfl
      try simp only [Act.put, List.setIfInBounds_toArray, List.set_cons_zero, List.set_cons_succ]
      refine wpAnyH_take (i := 7) (oi := ⟨_, _, _, _, _, _⟩) (v := ?_) rfl (by kernel_rfl) (by kernel_rfl) (by kernel_rfl) (fun _ _ _ h => h) (Or.inl ⟨by rfl, ?_⟩) (by assumption) ?_
      rotate_left 1
      · intro W hSw
        try dsimp only at hSw
        obtain ⟨hs1, hs2, hs3⟩ := hSw
        go_simp
        try with_reducible rfl
      try simp only [Act.put, List.setIfInBounds_toArray, List.set_cons_zero, List.set_cons_succ]
      refine wpAnyH_take (i := 8) (oi := ⟨_, _, _, _, _, _⟩) (v := ?_) rfl (by kernel_rfl) (by kernel_rfl) (by kernel_rfl) (fun _ _ _ h => h) (Or.inl ⟨by rfl, ?_⟩) (by assumption) ?_
      rotate_left 1
      · intro W hSw
        try dsimp only at hSw
        obtain ⟨hs1, hs2, hs3⟩ := hSw
        go_simp
        try with_reducible rfl
      try simp only [Act.put, List.setIfInBounds_toArray, List.set_cons_zero, List.set_cons_succ]
      refine wpAnyH_take (i := 9) (oi := ⟨_, _, _, _, _, _⟩) (v := .agg (hC y).toArray) rfl (by kernel_rfl) (by kernel_rfl) (by kernel_rfl) (fun _ _ _ h => h) (yieldsIf_load_mid (by rfl) 23 (.tmp 30) rfl b1 (f1 + i * 33) rfl (hC y) _ (fun W hS => hS.2.2) Tryd.underlying23 rfl (hszL y)) (by assumption) ?_
      try simp only [Act.put, List.setIfInBounds_toArray, List.set_cons_zero, List.set_cons_succ]
      refine wpAnyH_ready (rs := [10]) (by kernel_rfl) (by simp) ?_
      refine AllReadyH.cons rfl (fun K hK => ?_) AllReadyH.nil
      go_simp
      go_at_call 60
      refine (rapart_any w3.drew base r G HRd.out id y).mono ?_
      rw [HZc.out]
      rintro e w6 ⟨rfl, hb6⟩
      have J6 : Hid (Below w3.drew.heap.size w3.drew w6) := Lib.hid hb6
      clear hb6
      refine hK.out _ _ ⟨(J6.out.cell (p := ⟨r.q, 0, none⟩) HLq.out).trans HCq.out, rngK HRi.out J6.out HLi.out, rngK HRr.out J6.out HLr.out⟩ (fun hSn => ?_)
      clear hK K
      try simp only [Act.put, List.setIfInBounds_toArray, List.set_cons_zero, List.set_cons_succ]
      refine wpAnyH_done (by kernel_rfl) ?_ _
      have JW : Hid (Below w3.heap.size w3 w6) := nxUndrT J6.out
      replace HRr := Lib.hid (show w3.rangeAt b1 (f1 + i * 33) (hC y) from HRr.out)
      replace HLr := Lib.hid (show b1 < w3.heap.size from HLr.out)
      replace HLq := Lib.hid (show r.q < w3.heap.size from HLq.out)
      replace HCq := Lib.hid (show w3.cell? ⟨r.q, 0, none⟩ = some (.slice (some ⟨b1, f1, none⟩) G.length r.c) from HCq.out)
      clear hHeld hSn
      cases z with
      | true =>
        have HSt : Hid (selL G f (i + 1) = selL G f i ++ [y]) := HSu.out
        have HRy : Hid (w6.rangeAt b1 (f1 + i * 33) (hC y)) := rngK HRr.out JW.out HLr.out
        have hcw : w6.cell? ⟨r.q, 0, none⟩ = some (.slice (some ⟨b1, f1, none⟩) G.length r.c) := (JW.out.cell (p := ⟨r.q, 0, none⟩) HLq.out).trans HCq.out
        have VW : Hid (Below w.heap.size w w6) := nxTo HV.out JW.out
        have P0 := Lib.hid (own_below HO.out JW.out (fun g hg => (own_lt HO.out g hg).2))
        have HB8 := Lib.hid (HB.out.below JW.out HB.out.lt)
        go_wp2_with (first
          | ((with_reducible show wpList _ _ _ (⟨some 41, _, _, _, _, _⟩ :: _) _ _); refine wpList_load_mid rfl 23 (.tmp 40) rfl b1 (f1 + i * 33) rfl (hC y) _ HRy.out Tryd.underlying23 rfl (hszL y) ?_)
          | ((with_reducible show wpList _ _ _ (⟨some 42, _, _, _, _, _⟩ :: _) _ _); refine wpList_build1 rfl 34 23 (.tmp 41) rfl (hC y) _ 32 32 Tryd.underlying34 Tryd.dinfoH (by decide) (by decide) (hC_len y) rfl ?_; have J5 : Hid (Below w6.heap.size w6 (w6.alloc (.cells (hC y).toArray 23))) := nxAlloc (nxRefl _) _; have V5 : Hid (Below w.heap.size w (w6.alloc (.cells (hC y).toArray 23))) := nxTo VW.out J5.out; have P1 := Lib.hid (own_below P0.out J5.out (fun g hg => (own_lt P0.out g hg).2)))
          | ((with_reducible show wpList _ _ _ (⟨some 43, _, _, _, _, _⟩ :: _) _ _); refine wpList_append_seesV rfl (.tmp 33) (.tmp 42) 34 rfl (w.heap.size + 1) 23 i0 _ 32 32 Tryd.underlying34 hi0 hz0 hs0 hy0 rfl (by decide) (.slice A1 (selL G f i).length c1) (selL G f i).length (hsC (selL G f i)) rfl P1.out _ (some ⟨w6.heap.size, 0, none⟩) 1 1 (hC y) rfl (by rw [hC_len]) (SeesV.blk (heap_alloc_new w6 _)) (hC_one y) (by omega) (by omega) (HB8.out.below J5.out HB8.out.lt).lt ?_; intro v7 w7 ho7 hg7 ha7; obtain ⟨A7, c7, rfl⟩ := own_form ho7; have O7 := Lib.hid ho7; have V7 : Hid (Below w.heap.size w w7) := V5.out.grown hg7 V5.out.size (fun j hj => (by have := (own_lt P1.out j hj).1; omega)); have HB9 : Hid (Blk w7 w.heap.size 23 (hC id).toArray) := blk_old (Nat.lt_succ_self _) (HB8.out.below J5.out HB8.out.lt) hg7 P1.out; clear ho7 hg7 ha7))
        go_roundw
        case rel =>
          have e1 : (selL G f (i + 1)).length = (selL G f i).length + 1 := by rw [HSt.out, List.length_append]; rfl
          have e2 : hsC (selL G f (i + 1)) = hsC (selL G f i) ++ hC y := by rw [HSt.out, hsC_append]; simp [hsC]
          exact ⟨i + 1, A7, c7, by omega, by rw [e1], by go_num, HB9.out, (by show World.ownsRow _ _ _ _ _ _ _; rw [e2, e1]; exact O7.out), V7.out⟩
        case measure => simp [intOf] <;> omega
      | false =>
        have HSt : Hid (selL G f (i + 1) = selL G f i) := by show _ = _; rw [HSu.out]; simp
        go_wp2
        go_roundw
        case rel => exact ⟨i + 1, A1, c1, by omega, by rw [HSt.out], by go_num, HB.out.below (JW).out HB.out.lt, (by show World.ownsRow _ _ _ _ _ _ _; rw [HSt.out]; exact own_below HO.out JW.out (fun g hg => (own_lt HO.out g hg).2)), nxTo HV.out JW.out⟩
        case measure => simp [intOf] <;> omega
    · obtain rfl : i = G.length := by omega
      have hcq := HR.out.len
      have HSo := rsorted_any wr A1 (selL G f G.length) c1 (SeesV.own HO.out) (by omega)
      unfold SortPost at HSo
      have HSt := Lib.hid HSo
      clear HSo
      go_wp2_with (go_at_call 21; refine HSt.out.mono ?_; rintro e w9 ⟨A9, c9, rfl, ho9, hb9⟩; have O9 := Lib.hid ho9; have J9 := Lib.hid hb9; clear ho9 hb9)
      go_ret
      exact ⟨A9, c9, rfl, own_base O9.out HV.out.size, nxTo HV.out J9.out⟩
end Go.Proofs.YtndkjmmmneianaaDoor
