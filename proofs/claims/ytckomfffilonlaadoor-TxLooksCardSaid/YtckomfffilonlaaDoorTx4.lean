/-
  tx: are no two inputs of one outpoint: the closure that asks.
-/
import Derived.Test.YtckomfffilonlaaDoorTx1
import Derived.Deep.RegionHeldLaw
import Derived.Deep.RegionHeld3
namespace Go.Proofs.YtckomfffilonlaaDoor
open Go.RowKit Go.Maps

theorem step_len_own {P : Program} {w : World} {ops : Array Oper} {o : Oper} {a : Act} {K : Act → World → Prop} {Q : Exit → Act → World → Prop} {E : Prop} (hg : o.guard = none) (m : Operand) (t : TypeId) (hop : o.op = Op.call { callee := Callee.builtin Builtin.len, args := #[m], argTypes := #[t] })
    (k e : TypeId) (ht : P.underlying t = some (.map k e)) (R : Value → Option (DataW Unit × List MemPlace)) (b n : Nat) (D : DataW Unit) (hm : a.eval m = .map (some b)) (hown : w.ownsMap P k R b n D)
    (hK : K (a.put o.dst (.int .i64 (Maps.size D))) w) : if Region.wanted o (yielded ops a.tmps) = true then Oper.wp P o a w K Q else E := by
  have hw : Region.wanted o (yielded ops a.tmps) = true := by simp [Region.wanted, hg]
  rw [if_pos hw]
  unfold Oper.wp
  simp [execOp, hop, resolve, invoke, builtin, hm, hown.len ht o.type, Result.andThen]
  exact hK
theorem ptKey_lit (i : InR) : WideAt.IsKeyLit (ptKey i) := by unfold ptKey; trivial
theorem same_pt {i j : InR} (hi : i.id.length = 32 ∧ i.n < 4294967296) (hj : j.id.length = 32 ∧ j.n < 4294967296) : (ptKey i).sameKey (ptKey j) = (pt i == pt j) := by
  by_cases h : pt i = pt j
  · rw [h, beq_self_eq_true, (ptKey_inj hi.1 hj.1 hi.2 hj.2).2 h]
    exact WideAt.sameKey_self (ptKey_lit j)
  · rw [beq_eq_false_iff_ne.2 h]
    exact sameKey_ne (fun e => h ((ptKey_inj hi.1 hj.1 hi.2 hj.2).1 e))
theorem has_ptSet {l : List InR} {i : InR} (hl : ∀ j ∈ l, j.id.length = 32 ∧ j.n < 4294967296) (hi : i.id.length = 32 ∧ i.n < 4294967296) : Maps.has (ptSet l) (ptKey i) = l.any (fun j => pt j == pt i) := by
  unfold ptSet
  rw [has_setOf _ _ _ (fun x hx => by obtain ⟨j, _, rfl⟩ := List.mem_map.1 hx; exact ptKey_lit j), List.any_map]
  induction l with
  | nil => rfl
  | cons a r ih =>
    rw [List.any_cons, List.any_cons, ih (fun j hj => hl j (List.mem_cons_of_mem _ hj))]
    congr 1
    exact same_pt (hl a (by simp)) hi
theorem twiceB_snoc (l : List InR) (i : InR) : twiceB (l ++ [i]) = (twiceB l || l.any (fun j => pt j == pt i)) := by
  induction l with
  | nil => rfl
  | cons a r ih =>
    have hc : (pt i == pt a) = (pt a == pt i) := by
      by_cases h : pt a = pt i
      · rw [h]
      · rw [beq_eq_false_iff_ne.2 h, beq_eq_false_iff_ne.2 (fun e => h e.symm)]
    rw [List.cons_append, twiceB, ih, List.any_append, List.any_cons, List.any_nil, Bool.or_false, List.any_cons, twiceB, hc]
    cases r.any (fun j => pt j == pt a) <;> cases (pt a == pt i) <;> cases twiceB r <;> cases r.any (fun j => pt j == pt i) <;> rfl
theorem ptSet_size {l : List InR} (hl : ∀ j ∈ l, j.id.length = 32 ∧ j.n < 4294967296) : ∀ k, k ≤ l.length → Maps.size (ptSet (l.take k)) ≤ k ∧ (Maps.size (ptSet (l.take k)) = k ↔ twiceB (l.take k) = false) := by
  intro k
  induction k with
  | zero => intro _; exact ⟨Nat.le_refl _, by simp [ptSet, setOf, Maps.size, twiceB]⟩
  | succ k ih =>
    intro hk
    obtain ⟨h1, h2⟩ := ih (by omega)
    have hlt : k < l.length := by omega
    have ht : ∀ j ∈ l.take k, j.id.length = 32 ∧ j.n < 4294967296 := fun j hj => hl j (List.mem_of_mem_take hj)
    have hti : Tidy (ptSet (l.take k)) := tidy_setOf _ _ (fun x hx => by obtain ⟨j, _, rfl⟩ := List.mem_map.1 hx; exact ptKey_lit j)
    rw [ptSet_next hlt, size_put hti, has_ptSet ht (hl _ (List.getElem_mem hlt)), List.take_succ_eq_append_getElem hlt, twiceB_snoc]
    cases hc : (l.take k).any (fun j => pt j == pt l[k]) with
    | true => simp only [if_true, Bool.or_true]; exact ⟨by omega, fun h => by omega, fun h => by cases h⟩
    | false => simp only [Bool.false_eq_true, if_false, Bool.or_false]; exact ⟨by omega, by rw [← h2]; omega⟩
theorem ptSet_all {l : List InR} (hl : ∀ j ∈ l, j.id.length = 32 ∧ j.n < 4294967296) : (((Maps.size (ptSet l) : Nat) : Int) == (l.length : Int)) = !twiceB l := by
  have h := (ptSet_size hl l.length (Nat.le_refl _)).2
  rw [List.take_length] at h
  cases ht : twiceB l with
  | false => rw [ht] at h; have := h.2 rfl; rw [this]; exact beq_self_eq_true _
  | true => rw [ht] at h; exact beq_eq_false_iff_ne.2 (fun e => by have := h.1 (by omega); cases this)
set_option maxHeartbeats 2000000 in
set_option maxRecDepth 100000 in
theorem ask4_any (w : World) (g : Nat) (t : TxR) (h : TxAt w g t) (hmax : t.ins.length ≤ 100000) : Calls Tryd.prog 68 #[.pointer (some ⟨g, 0, none⟩)] w fun e w' => e = .returned (.int .i64 (argE (!twiceB t.ins))) ∧ Below w.heap.size w w' := by
  have hc : w.cell? ⟨g, 0, none⟩ = some (.slice t.A t.ins.length t.c) := h.1.cell 0
  have HG := Lib.hid h.1.lt
  have HR := Lib.hid (blkR (vs := txC t) h.1)
  have HC := Lib.hid hc
  have HT := Lib.hid h.2
  have HZ : Hid ((Tryd.prog.info? 26).map (·.size) = some (txC t).length) := Tryd.sizeTx
  have HE := Lib.hid (ptSet_all (l := t.ins) (fun i hi => ⟨(h.2.each i hi).id, (h.2.each i hi).n⟩))
  have HM := Lib.hid hmax
  obtain ⟨z, hz⟩ : ∃ z, (!twiceB t.ins) = z := ⟨_, rfl⟩
  have hez : (((Maps.size (ptSet t.ins) : Nat) : Int) == (t.ins.length : Int)) = z := by rw [HE.out, hz]
  rw [hz]
  clear h hc hz HE
  go_enter Tryd.func68, Tryd.ntmps68
  go_wp2
  refine wp_region_held_drew (S := fun W => W.rangeAt g 0 (txC t) ∧ W.cell? ⟨g, 0, none⟩ = some (.slice t.A t.ins.length t.c)) (by kernel_rfl) ⟨HR.out, HC.out⟩ (fun hHeld => ?_)
  refine wpAnyH_take (i := 0) (oi := ⟨_, _, _, _, _, _⟩) (v := .agg (txC t).toArray) rfl (by kernel_rfl) (by kernel_rfl) (by kernel_rfl) (fun _ _ _ h => h) (yieldsIf_load_mid (by rfl) 26 (.tmp 0) rfl (g) (0) rfl (txC t) _ (fun W h => h.1) Tryd.underlying26 rfl HZ.out) (by assumption) ?_
  try simp only [Act.put, List.setIfInBounds_toArray, List.set_cons_zero, List.set_cons_succ]
  refine wpAnyH_take (i := 3) (oi := ⟨_, _, _, _, _, _⟩) (v := ?_) rfl (by kernel_rfl) (by kernel_rfl) (by kernel_rfl) (fun _ _ _ h => h) (Or.inl ⟨by rfl, ?_⟩) (by assumption) ?_
  rotate_left 1
  · intro W hSw
    try dsimp only at hSw
    go_simp
    try with_reducible rfl
  try simp only [Act.put, List.setIfInBounds_toArray, List.set_cons_zero, List.set_cons_succ]
  refine wpAnyH_take (i := 4) (oi := ⟨_, _, _, _, _, _⟩) (v := ?_) rfl (by kernel_rfl) (by kernel_rfl) (by kernel_rfl) (fun _ _ _ h => h) (Or.inl ⟨by rfl, ?_⟩) (by assumption) ?_
  rotate_left 1
  · intro W hSw
    try dsimp only at hSw
    go_simp
    try with_reducible rfl
  try simp only [Act.put, List.setIfInBounds_toArray, List.set_cons_zero, List.set_cons_succ]
  refine wpAnyH_take (i := 5) (oi := ⟨_, _, _, _, _, _⟩) (v := ?_) rfl (by kernel_rfl) (by kernel_rfl) (by kernel_rfl) (fun _ _ _ h => h) (Or.inl ⟨by rfl, ?_⟩) (by assumption) ?_
  rotate_left 1
  · intro W hSw
    try dsimp only at hSw
    go_simp
    try with_reducible rfl
  try simp only [Act.put, List.setIfInBounds_toArray, List.set_cons_zero, List.set_cons_succ]
  refine wpAnyH_ready (rs := [1]) (by kernel_rfl) (by simp) ?_
  refine AllReadyH.cons rfl (fun K hK => ?_) AllReadyH.nil
  go_simp
  go_at_call 45
  refine (spent_any w.drew t (HT.out.later (show Below w.heap.size w w.drew from ⟨rfl, rfl, rfl, Nat.le_refl _, fun _ _ => rfl⟩)) HM.out).mono ?_
  rintro e v1 ⟨B, rfl, ho1, hb1⟩
  have V1 : Hid (Below w.heap.size w v1) := ⟨hb1.os, hb1.tape, hb1.output, hb1.size, hb1.block⟩
  have HO := Lib.hid ho1
  clear ho1 hb1
  refine hK.out _ _ ⟨rngB HR.out V1.out HG.out, (V1.out.cell (p := ⟨g, 0, none⟩) HG.out).trans HC.out⟩ (fun hSn => ?_)
  clear hK K
  try simp only [Act.put, List.setIfInBounds_toArray, List.set_cons_zero, List.set_cons_succ]
  refine wpAnyH_ready (rs := [2]) (by kernel_rfl) (by simp) ?_
  refine AllReadyH.cons rfl (fun K hK => ?_) AllReadyH.nil
  refine step_len_own (o := ⟨some 4, _, _, _, _, _⟩) rfl (.tmp 3) 79 rfl 44 82 Tryd.underlying79 (unitElem (H := Unit)) B _ _ rfl HO.out ?_
  refine hK.out _ _ ⟨rngB HR.out V1.out HG.out, (V1.out.cell (p := ⟨g, 0, none⟩) HG.out).trans HC.out⟩ (fun hSn => ?_)
  clear hK K
  try simp only [Act.put, List.setIfInBounds_toArray, List.set_cons_zero, List.set_cons_succ]
  refine wpAnyH_take (i := 6) (oi := ⟨_, _, _, _, _, _⟩) (v := ?_) rfl (by kernel_rfl) (by kernel_rfl) (by kernel_rfl) (fun _ _ _ h => h) (Or.inl ⟨by rfl, ?_⟩) (by assumption) ?_
  rotate_left 1
  · intro W hSw
    try dsimp only at hSw
    go_simp
    try with_reducible rfl
  try simp only [Act.put, List.setIfInBounds_toArray, List.set_cons_zero, List.set_cons_succ]
  refine wpAnyH_ready (rs := [7]) (by kernel_rfl) (by simp) ?_
  refine AllReadyH.cons rfl (fun K hK => ?_) AllReadyH.nil
  go_simp
  go_at_call 63
  refine (argUnless_any _ _).mono ?_
  rintro e wn ⟨rfl, hwn⟩
  obtain rfl := hwn.symm
  refine hK.out _ _ ⟨rngB HR.out V1.out HG.out, (V1.out.cell (p := ⟨g, 0, none⟩) HG.out).trans HC.out⟩ (fun hSn => ?_)
  clear hK K
  try simp only [Act.put, List.setIfInBounds_toArray, List.set_cons_zero, List.set_cons_succ]
  refine wpAnyH_take (i := 8) (oi := ⟨_, _, _, _, _, _⟩) (v := ?_) rfl (by kernel_rfl) (by kernel_rfl) (by kernel_rfl) (fun _ _ _ h => h) (Or.inl ⟨by rfl, ?_⟩) (by assumption) ?_
  rotate_left 1
  · intro W hSw
    try dsimp only at hSw
    go_simp
    try with_reducible rfl
  try simp only [Act.put, List.setIfInBounds_toArray, List.set_cons_zero, List.set_cons_succ]
  refine wpAnyH_done (by kernel_rfl) ?_ _
  go_wp2
  go_ret
  exact ⟨rfl, V1.out⟩
end Go.Proofs.YtckomfffilonlaaDoor
