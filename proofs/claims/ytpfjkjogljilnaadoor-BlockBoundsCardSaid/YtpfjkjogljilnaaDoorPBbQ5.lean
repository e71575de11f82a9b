/-
  tx: are no two inputs of one outpoint: the closure that asks. · tx: the outputs' amounts in all, and the closure that asks for them.
  tx: asked, Check, May. · tx: May, Out.
-/
import Derived.Test.YtpfjkjogljilnaaDoorPBbQ4
import Derived.Deep.RegionHeldLaw
import Derived.Deep.RegionHeld3
import Derived.Laws.MakeOwn
import Derived.LoopN
namespace Go.Proofs.YtpfjkjogljilnaaDoor
open Go.RowKit Go.Maps

theorem step_len_own {P : Program} {w : World} {ops : Array Oper} {o : Oper} {a : Act} {K : Act → World → Prop} {Q : Exit → Act → World → Prop} {E : Prop} (hg : o.guard = none) (m : Operand) (t : TypeId) (hop : o.op = Op.call { callee := Callee.builtin Builtin.len, args := #[m], argTypes := #[t] })
    (k e : TypeId) (ht : P.underlying t = some (.map k e)) (R : Value → Option (DataW Unit × List MemPlace)) (b n : Nat) (D : DataW Unit) (hm : a.eval m = .map (some b)) (hown : w.ownsMap P k R b n D)
    (hK : K (a.put o.dst (.int .i64 (Maps.size D))) w) : if Region.wanted o (yielded ops a.tmps) = true then Oper.wp P o a w K Q else E := by
  have hw : Region.wanted o (yielded ops a.tmps) = true := by simp [Region.wanted, hg]
  rw [if_pos hw]
  unfold Oper.wp
  simp [execOp, hop, resolve, invoke, builtin, hm, hown.len ht o.type, Result.andThen]
  exact hK
theorem ptKey_lit (i : InR) : WideAt.IsKeyLit (ptKey i) := by unfold ptKey; trivial
theorem same_pt {i j : InR} (hi : i.id.length = 32 ∧ i.n < 4294967296) (hj : j.id.length = 32 ∧ j.n < 4294967296) : (ptKey i).sameKey (ptKey j) = (pt i == pt j) := by
  by_cases h : pt i = pt j
  · rw [h, beq_self_eq_true, (ptKey_inj hi.1 hj.1 hi.2 hj.2).2 h]
    exact WideAt.sameKey_self (ptKey_lit j)
  · rw [beq_eq_false_iff_ne.2 h]
    exact sameKey_ne (fun e => h ((ptKey_inj hi.1 hj.1 hi.2 hj.2).1 e))
theorem has_ptSet {l : List InR} {i : InR} (hl : ∀ j ∈ l, j.id.length = 32 ∧ j.n < 4294967296) (hi : i.id.length = 32 ∧ i.n < 4294967296) : Maps.has (ptSet l) (ptKey i) = l.any (fun j => pt j == pt i) := by
  unfold ptSet
  rw [has_setOf _ _ _ (fun x hx => by obtain ⟨j, _, rfl⟩ := List.mem_map.1 hx; exact ptKey_lit j), List.any_map]
  induction l with
  | nil => rfl
  | cons a r ih =>
    rw [List.any_cons, List.any_cons, ih (fun j hj => hl j (List.mem_cons_of_mem _ hj))]
    congr 1
    exact same_pt (hl a (by simp)) hi
theorem twiceB_snoc (l : List InR) (i : InR) : twiceB (l ++ [i]) = (twiceB l || l.any (fun j => pt j == pt i)) := by
  induction l with
  | nil => rfl
  | cons a r ih =>
    have hc : (pt i == pt a) = (pt a == pt i) := by
      by_cases h : pt a = pt i
      · rw [h]
      · rw [beq_eq_false_iff_ne.2 h, beq_eq_false_iff_ne.2 (fun e => h e.symm)]
    rw [List.cons_append, twiceB, ih, List.any_append, List.any_cons, List.any_nil, Bool.or_false, List.any_cons, twiceB, hc]
    cases r.any (fun j => pt j == pt a) <;> cases (pt a == pt i) <;> cases twiceB r <;> cases r.any (fun j => pt j == pt i) <;> rfl
theorem ptSet_size {l : List InR} (hl : ∀ j ∈ l, j.id.length = 32 ∧ j.n < 4294967296) : ∀ k, k ≤ l.length → Maps.size (ptSet (l.take k)) ≤ k ∧ (Maps.size (ptSet (l.take k)) = k ↔ twiceB (l.take k) = false) := by
  intro k
  induction k with
  | zero => intro _; exact ⟨Nat.le_refl _, by simp [ptSet, setOf, Maps.size, twiceB]⟩
  | succ k ih =>
    intro hk
    obtain ⟨h1, h2⟩ := ih (by omega)
    have hlt : k < l.length := by omega
    have ht : ∀ j ∈ l.take k, j.id.length = 32 ∧ j.n < 4294967296 := fun j hj => hl j (List.mem_of_mem_take hj)
    have hti : Tidy (ptSet (l.take k)) := tidy_setOf _ _ (fun x hx => by obtain ⟨j, _, rfl⟩ := List.mem_map.1 hx; exact ptKey_lit j)
    rw [ptSet_next hlt, size_put hti, has_ptSet ht (hl _ (List.getElem_mem hlt)), List.take_succ_eq_append_getElem hlt, twiceB_snoc]
    cases hc : (l.take k).any (fun j => pt j == pt l[k]) with
    | true => simp only [if_true, Bool.or_true]; exact ⟨by omega, fun h => by omega, fun h => by cases h⟩
    | false => simp only [Bool.false_eq_true, if_false, Bool.or_false]; exact ⟨by omega, by rw [← h2]; omega⟩
theorem ptSet_all {l : List InR} (hl : ∀ j ∈ l, j.id.length = 32 ∧ j.n < 4294967296) : (((Maps.size (ptSet l) : Nat) : Int) == (l.length : Int)) = !twiceB l := by
  have h := (ptSet_size hl l.length (Nat.le_refl _)).2
  rw [List.take_length] at h
  cases ht : twiceB l with
  | false => rw [ht] at h; have := h.2 rfl; rw [this]; exact beq_self_eq_true _
  | true => rw [ht] at h; exact beq_eq_false_iff_ne.2 (fun e => by have := h.1 (by omega); cases this)
set_option maxHeartbeats 2000000 in
set_option maxRecDepth 100000 in
theorem ask4_any (w : World) (g : Nat) (t : TxR) (h : TxAt w g t) (hmax : t.ins.length ≤ 100000) : Calls Tryd.prog 73 #[.pointer (some ⟨g, 0, none⟩)] w fun e w' => e = .returned (.int .i64 (argE (!twiceB t.ins))) ∧ Below w.heap.size w w' := by
  have hc : w.cell? ⟨g, 0, none⟩ = some (.slice t.A t.ins.length t.c) := h.1.cell 0
  have HG := Lib.hid h.1.lt
  have HR := Lib.hid (blkR (vs := txC t) h.1)
  have HC := Lib.hid hc
  have HT := Lib.hid h.2
  have HZ : Hid ((Tryd.prog.info? 40).map (·.size) = some (txC t).length) := Tryd.sizeTx
  have HE := Lib.hid (ptSet_all (l := t.ins) (fun i hi => ⟨(h.2.each i hi).id, (h.2.each i hi).n⟩))
  have HM := Lib.hid hmax
  obtain ⟨z, hz⟩ : ∃ z, (!twiceB t.ins) = z := ⟨_, rfl⟩
  have hez : (((Maps.size (ptSet t.ins) : Nat) : Int) == (t.ins.length : Int)) = z := by rw [HE.out, hz]
  rw [hz]
  clear h hc hz HE
  go_enter Tryd.func73, Tryd.ntmps73
  go_wp2
  refine wp_region_held_drew (S := fun W => W.rangeAt g 0 (txC t) ∧ W.cell? ⟨g, 0, none⟩ = some (.slice t.A t.ins.length t.c)) (by kernel_rfl) ⟨HR.out, HC.out⟩ (fun hHeld => ?_)
  refine wpAnyH_take (i := 0) (oi := ⟨_, _, _, _, _, _⟩) (v := .agg (txC t).toArray) rfl (by kernel_rfl) (by kernel_rfl) (by kernel_rfl) (fun _ _ _ h => h) (yieldsIf_load_mid (by rfl) 40 (.tmp 0) rfl (g) (0) rfl (txC t) _ (fun W h => h.1) Tryd.underlying40 rfl HZ.out) (by assumption) ?_
  try simp only [Act.put, List.setIfInBounds_toArray, List.set_cons_zero, List.set_cons_succ]
  refine wpAnyH_take (i := 3) (oi := ⟨_, _, _, _, _, _⟩) (v := ?_) rfl (by kernel_rfl) (by kernel_rfl) (by kernel_rfl) (fun _ _ _ h => h) (Or.inl ⟨by rfl, ?_⟩) (by assumption) ?_
  rotate_left 1
  · intro W hSw
    try dsimp only at hSw
    go_simp
    try with_reducible rfl
  try simp only [Act.put, List.setIfInBounds_toArray, List.set_cons_zero, List.set_cons_succ]
  refine wpAnyH_take (i := 4) (oi := ⟨_, _, _, _, _, _⟩) (v := ?_) rfl (by kernel_rfl) (by kernel_rfl) (by kernel_rfl) (fun _ _ _ h => h) (Or.inl ⟨by rfl, ?_⟩) (by assumption) ?_
  rotate_left 1
  · intro W hSw
    try dsimp only at hSw
    go_simp
    try with_reducible rfl
  try simp only [Act.put, List.setIfInBounds_toArray, List.set_cons_zero, List.set_cons_succ]
  refine wpAnyH_take (i := 5) (oi := ⟨_, _, _, _, _, _⟩) (v := ?_) rfl (by kernel_rfl) (by kernel_rfl) (by kernel_rfl) (fun _ _ _ h => h) (Or.inl ⟨by rfl, ?_⟩) (by assumption) ?_
  rotate_left 1
  · intro W hSw
    try dsimp only at hSw
    go_simp
    try with_reducible rfl
  try simp only [Act.put, List.setIfInBounds_toArray, List.set_cons_zero, List.set_cons_succ]
  refine wpAnyH_ready (rs := [1]) (by kernel_rfl) (by simp) ?_
  refine AllReadyH.cons rfl (fun K hK => ?_) AllReadyH.nil
  go_simp
  go_at_call 74
  refine (spent_any w.drew t (HT.out.later (show Below w.heap.size w w.drew from ⟨rfl, rfl, rfl, Nat.le_refl _, fun _ _ => rfl⟩)) HM.out).mono ?_
  rintro e v1 ⟨B, rfl, ho1, hb1⟩
  have V1 : Hid (Below w.heap.size w v1) := ⟨hb1.os, hb1.tape, hb1.output, hb1.size, hb1.block⟩
  have HO := Lib.hid ho1
  clear ho1 hb1
  refine hK.out _ _ ⟨rngB HR.out V1.out HG.out, (V1.out.cell (p := ⟨g, 0, none⟩) HG.out).trans HC.out⟩ (fun hSn => ?_)
  clear hK K
  try simp only [Act.put, List.setIfInBounds_toArray, List.set_cons_zero, List.set_cons_succ]
  refine wpAnyH_ready (rs := [2]) (by kernel_rfl) (by simp) ?_
  refine AllReadyH.cons rfl (fun K hK => ?_) AllReadyH.nil
  refine step_len_own (o := ⟨some 4, _, _, _, _, _⟩) rfl (.tmp 3) 125 rfl 92 118 Tryd.underlying125 (unitElem (H := Unit)) B _ _ rfl HO.out ?_
  refine hK.out _ _ ⟨rngB HR.out V1.out HG.out, (V1.out.cell (p := ⟨g, 0, none⟩) HG.out).trans HC.out⟩ (fun hSn => ?_)
  clear hK K
  try simp only [Act.put, List.setIfInBounds_toArray, List.set_cons_zero, List.set_cons_succ]
  refine wpAnyH_take (i := 6) (oi := ⟨_, _, _, _, _, _⟩) (v := ?_) rfl (by kernel_rfl) (by kernel_rfl) (by kernel_rfl) (fun _ _ _ h => h) (Or.inl ⟨by rfl, ?_⟩) (by assumption) ?_
  rotate_left 1
  · intro W hSw
    try dsimp only at hSw
    go_simp
    try with_reducible rfl
  try simp only [Act.put, List.setIfInBounds_toArray, List.set_cons_zero, List.set_cons_succ]
  refine wpAnyH_ready (rs := [7]) (by kernel_rfl) (by simp) ?_
  refine AllReadyH.cons rfl (fun K hK => ?_) AllReadyH.nil
  go_simp
  go_at_call 67
  refine (argUnless_any _ _).mono ?_
  rintro e wn ⟨rfl, hwn⟩
  obtain rfl := hwn.symm
  refine hK.out _ _ ⟨rngB HR.out V1.out HG.out, (V1.out.cell (p := ⟨g, 0, none⟩) HG.out).trans HC.out⟩ (fun hSn => ?_)
  clear hK K
  try simp only [Act.put, List.setIfInBounds_toArray, List.set_cons_zero, List.set_cons_succ]
  refine wpAnyH_take (i := 8) (oi := ⟨_, _, _, _, _, _⟩) (v := ?_) rfl (by kernel_rfl) (by kernel_rfl) (by kernel_rfl) (fun _ _ _ h => h) (Or.inl ⟨by rfl, ?_⟩) (by assumption) ?_
  rotate_left 1
  · intro W hSw
    try dsimp only at hSw
    go_simp
    try with_reducible rfl
  try simp only [Act.put, List.setIfInBounds_toArray, List.set_cons_zero, List.set_cons_succ]
  refine wpAnyH_done (by kernel_rfl) ?_ _
  go_wp2
  go_ret
  exact ⟨rfl, V1.out⟩
end Go.Proofs.YtpfjkjogljilnaaDoor
namespace Go.Proofs.YtpfjkjogljilnaaDoor
open Go.RowKit

theorem Tryd.u64inf : (Tryd.prog.info? 25).map (fun i => (i.zero, i.size, i.bytes)) = some (some (.int .u64 0), 1, 8) := by kernel_rfl
theorem own_kp {w w' : World} {a : Nat} {base size n : Nat} {e : TypeId} {v : Value} {xs : List Value} (h : w.ownsRow base e size v n xs) (hk : Keeps (· = a) w w') (hne : some a ≠ v.ownBlock) : w'.ownsRow base e size v n xs := by
  refine ⟨h.1, ?_⟩
  rcases h.2 with h2 | ⟨g', cap, cur, rfl, hg, hh, r⟩
  · exact .inl h2
  · have hb : Blk w g' e cur := hh
    refine .inr ⟨g', cap, cur, rfl, hg, (hk.block g' hb.lt (fun e => hne ?_)).trans hh, r⟩
    subst e; rfl
theorem lit_v (w : World) (vs : List Value) (t : TypeId) : SeesV (w.alloc (.cells vs.toArray t)) (w.heap.size + 1) (some ⟨w.heap.size, 0, none⟩) vs := by
  by_cases h : vs = []
  · exact .inl h
  · refine .inr ⟨w.heap.size, 0, rfl, by omega, fun i hi => ?_⟩
    have hb : Blk (w.alloc (.cells vs.toArray t)) w.heap.size t vs.toArray := heap_alloc_new w _
    rw [Nat.zero_add, hb.cell]
    simp [hi]
theorem any_zero {l : List OutR} (h : ∀ j (hj : j < l.length), l[j].amt ≠ 0) : l.any (fun o => o.amt == 0) = false := by
  refine Bool.eq_false_iff.2 fun ha => ?_
  obtain ⟨o, ho, hz⟩ := List.any_eq_true.1 ha
  obtain ⟨j, hj, rfl⟩ := List.getElem_of_mem ho
  exact h j hj (by simpa using hz)
theorem own_len1 {w : World} {base size n : Nat} {e : TypeId} {v : Value} {xs : List Value} (_ : w.ownsRow base e size v n xs) : True := trivial
def AmtPost (w : World) (l : List OutR) (e : Ending) (w' : World) : Prop := e = .returned (.tuple #[.int .u64 (amtV l : Int), .int .i64 (amtE l)]) ∧ Below w.heap.size w w'

set_option maxHeartbeats 2000000 in
set_option maxRecDepth 100000 in
theorem amounts_any (w : World) (t : TxR) (h : TxOk w t) (hmax : t.outs.length ≤ 100000) :
    Calls Tryd.prog 76 #[.agg (txC t).toArray] w (AmtPost w t.outs) := by
  have hA := (TxAt.new h).1
  have hc0 : (w.alloc (.cells (txC t).toArray 40)).cell? ⟨w.heap.size, 1, none⟩ = some (.slice t.B t.outs.length t.d) := hA.cell 1
  obtain ⟨i0, hi, hz0, hz1, hz2⟩ := info_parts Tryd.u64inf
  obtain ⟨l, hl⟩ : ∃ l, t.outs = l := ⟨_, rfl⟩
  obtain ⟨A, hAA⟩ : ∃ l, t.B = l := ⟨_, rfl⟩
  have hS := h.outs
  have hI := h.eacho
  rw [hl] at hS hI hmax
  rw [hAA] at hS
  have HS := Lib.hid hS
  have HI : Hid (∀ i ∈ l, OutOk i) := hI
  have HM := Lib.hid hmax
  rw [hl, hAA] at hc0
  rw [hl]
  obtain ⟨w1, hr, hown0, hgr0⟩ := run_make_own (P := Tryd.prog) (w.alloc (.cells (txC t).toArray 40)) (w.alloc (.cells (txC t).toArray 40)).heap.size 134 25 i0 (.int .u64 0) 1 Tryd.underlying134 hi hz0 hz1 .i64 .i64 l.length (by rw [hz2]; omega) (by simp only [maxLen]; omega) (Nat.le_refl _)
  have hsz : (w.alloc (.cells (txC t).toArray 40)).heap.size = w.heap.size + 1 := by simp
  rw [hsz] at hown0
  rw [hsz] at hr
  have HO := Lib.hid hown0
  have hb0 : Below w.heap.size w (w.alloc (.cells (txC t).toArray 40)) := nxAl (nxRf w) _
  have hb1 : Below w.heap.size w w1 := hb0.grown hgr0 hb0.size (fun j hj => by cases hj)
  have hc1 : w1.cell? ⟨w.heap.size, 1, none⟩ = some (.slice A l.length t.d) := (World.cell?_of_block (a := ⟨w.heap.size, 1, none⟩) (hgr0.block w.heap.size (by rw [hsz]; omega) (by simp))).trans hc0
  have Hb1 := Lib.hid hb1
  clear hS hI h hA hl hAA hown0 hgr0 hsz hb0 hb1
  go_enter Tryd.func76, Tryd.ntmps76
  go_wp2
  clear hr hc0 hc1
  go_loopw [4, 14] (fun rv iv wr => ∃ (k : Nat) (A1 : Option Addr) (c1 : Nat), k ≤ l.length ∧ iv = .int .i64 k ∧ rv = .slice A1 k c1 ∧ Hid (wr.ownsRow (w.heap.size + 1) 25 1 (.slice A1 k c1) k (Ns ((l.take k).map (·.amt)))) ∧ Hid (∀ j (hj : j < l.length), j < k → l[j].amt ≠ 0) ∧ Hid (Below w.heap.size w wr)) (fun _ iv _ => l.length - (intOf iv).toNat)
  case atStart => exact ⟨0, _, _, by omega, rfl, rfl, HO.out, fun j _ h => absurd h (Nat.not_lt_zero _), Hb1.out⟩
  case round =>
    clear HO Hb1
    obtain ⟨k, A1, c1, hk, rfl, rfl, HO, HN, Hb⟩ := hrel
    by_cases hlt : k < l.length
    · obtain ⟨b, off, rfl, hbb, hr⟩ := outsC_row HS.out (fun i h => (HI.out i h).lock) (by omega)
      have hrk := rngB (hr k hlt) Hb.out hbb
      have hik := HI.out _ (List.getElem_mem hlt)
      have hnx : (l.take (k + 1)).map (·.amt) = (l.take k).map (·.amt) ++ [l[k].amt] := by rw [List.take_succ_eq_append_getElem hlt, List.map_append]; rfl
      obtain ⟨o, ho⟩ : ∃ o, l[k] = o := ⟨_, rfl⟩
      rw [ho] at hrk hik hnx
      have HLk : Hid (l[k] = o) := ho
      have HR := Lib.hid hrk
      have HIk := Lib.hid hik
      have HNx := Lib.hid hnx
      have HZ : Hid ((Tryd.prog.info? 37).map (·.size) = some (outC o).length) := by show _ = _; rw [outC_len hik.lock]; exact Tryd.sizeOut
      obtain ⟨x, hx⟩ : ∃ x, o.amt = x := ⟨_, rfl⟩
      have HX := Lib.hid hx
      have hxl : x < 18446744073709551616 := by rw [← hx]; exact hik.amt
      clear hr hrk hik ho hnx hx
      by_cases h0 : x = 0
      · have h0b : ((x : Int) == 0) = true := by rw [h0]; rfl
        have HE : Hid (l.any (fun o => o.amt == 0) = true) := List.any_eq_true.2 ⟨l[k], List.getElem_mem hlt, by rw [HLk.out, HX.out, h0]; rfl⟩
        clear h0
        go_wp2_with (first
          | ((with_reducible show wpList _ _ _ (⟨some 17, _, _, _, _, _⟩ :: _) _ _); refine wpList_load_mid rfl 37 (.tmp 16) rfl b (off + k * 33) rfl (outC o) _ HR.out Tryd.underlying37 rfl HZ.out ?_)
          | ((with_reducible show wpList _ _ _ (⟨none, .store 37 _ _, _, _, _, _⟩ :: _) _ _); refine wpList_store_all rfl 37 (.tmp 6) (.tmp 17) rfl wr.heap.size 37 _ (outC o).toArray rfl rfl (heap_alloc_new wr _) (by simp [outC_len HIk.out.lock]) (by rw [List.size_toArray]; exact HZ.out) (outC_one o) ?_; intro w3 h5 h6 h7; have hc3 : w3.cell? ⟨wr.heap.size, 0, none⟩ = some (.int .u64 (x : Int)) := (h5.cell 0).trans (by rw [← HX.out]; rfl); have Hb3 : Hid (Below w.heap.size w w3) := ((nxAl Hb.out _).trans (h6.below (nxAl Hb.out _).size (fun k hk => by have := Hb.out.size; omega))); clear h5 h6 h7))
        go_ret2
        exact ⟨by rw [amtV, amtE, HE.out]; rfl, Hb3.out⟩
      · have h0b : ((x : Int) == 0) = false := by rw [beq_eq_false_iff_ne]; omega
        have HN' : Hid (∀ j (hj : j < l.length), j < k + 1 → l[j].amt ≠ 0) := by
          intro j hj hjk
          by_cases h1 : j < k
          · exact HN.out j hj h1
          · obtain rfl : j = k := by omega
            rw [HLk.out, HX.out]; exact h0
        go_wp2_with (first
          | ((with_reducible show wpList _ _ _ (⟨some 17, _, _, _, _, _⟩ :: _) _ _); refine wpList_load_mid rfl 37 (.tmp 16) rfl b (off + k * 33) rfl (outC o) _ HR.out Tryd.underlying37 rfl HZ.out ?_)
          | ((with_reducible show wpList _ _ _ (⟨none, .store 37 _ _, _, _, _, _⟩ :: _) _ _); refine wpList_store_all rfl 37 (.tmp 6) (.tmp 17) rfl wr.heap.size 37 _ (outC o).toArray rfl rfl (heap_alloc_new wr _) (by simp [outC_len HIk.out.lock]) (by rw [List.size_toArray]; exact HZ.out) (outC_one o) ?_; intro w3 h5 h6 h7; have hc3 : w3.cell? ⟨wr.heap.size, 0, none⟩ = some (.int .u64 (x : Int)) := (h5.cell 0).trans (by rw [← HX.out]; rfl); have Hb3 : Hid (Below w.heap.size w w3) := ((nxAl Hb.out _).trans (h6.below (nxAl Hb.out _).size (fun k hk => by have := Hb.out.size; omega))); have HO3 := Lib.hid (own_kp (own_below HO.out (show Below wr.heap.size wr (wr.alloc _) from nxAl (nxRf wr) _) (fun g hg => (own_lt HO.out g hg).2)) h6 (fun e => by have := (own_lt HO.out _ e.symm).2; omega)); clear h5 h6 h7)
          | ((with_reducible show wpList _ _ _ (⟨some 25, _, _, _, _, _⟩ :: _) _ _); refine wpList_append_seesV rfl (.tmp 21) (.tmp 24) 134 rfl (w.heap.size + 1) 25 i0 (.int .u64 0) 1 8 Tryd.underlying134 hi hz0 hz1 hz2 rfl (by omega) (.slice A1 k c1) k (Ns ((l.take k).map (·.amt))) rfl (HO3.out.alloc _) (w3.heap.size + 1) (some ⟨w3.heap.size, 0, none⟩) 1 1 [.int .u64 (x : Int)] rfl rfl (lit_v w3 [.int .u64 (x : Int)] 25) (by intro u hu; simp at hu; subst hu; rfl) (by omega) (by omega) (by have h1 := Hb3.out.size; have h2 := (own_len1 HO.out); simp; omega) ?_; intro v8 w8 ho8 hg8 hat8; obtain ⟨A8, c8, rfl⟩ := own_form ho8; have HO8 : Hid (w8.ownsRow (w.heap.size + 1) 25 1 (.slice A8 (k + 1) c8) (k + 1) (Ns ((l.take (k + 1)).map (·.amt)))) := (by rw [HNx.out, HX.out]; unfold Ns at ho8 ⊢; rw [List.map_append]; exact ho8); have Hb8 : Hid (Below w.heap.size w w8) := (nxAl Hb3.out _).grown hg8 (nxAl Hb3.out _).size (fun j hj => by have := (own_lt HO3.out j hj).1; omega); clear ho8 hg8 hat8))
        go_roundw
        case rel => exact ⟨k + 1, A8, c8, by omega, by go_num, rfl, HO8.out, HN'.out, Hb8.out⟩
        case measure => simp [intOf] <;> omega
    · obtain rfl : k = l.length := by omega
      have HE : Hid (l.any (fun o => o.amt == 0) = false) := any_zero (fun j hj => HN.out j hj hj)
      have HSe : Hid (SeesV wr wr.heap.size A1 (Ns (l.map (·.amt)))) := by have h := SeesV.own HO.out; rw [List.take_length] at h; exact h
      go_wp2_with (go_at_call 81; refine (msum_any wr _ A1 _ c1 (l.map (·.amt)) (by simp) HSe.out (by have := HM.out; omega)).mono ?_; rintro e w9 ⟨rfl, hw9⟩; subst hw9)
      go_ret2
      exact ⟨by rw [amtV, amtE, HE.out]; rfl, Hb.out⟩
end Go.Proofs.YtpfjkjogljilnaaDoor

namespace Go.Proofs.YtpfjkjogljilnaaDoor
open Go.RowKit

set_option maxHeartbeats 1000000 in
set_option maxRecDepth 100000 in
theorem ask5_any (w : World) (g : Nat) (t : TxR) (h : TxAt w g t) (hmax : t.outs.length ≤ 100000) : Calls Tryd.prog 75 #[.pointer (some ⟨g, 0, none⟩)] w fun e w' => e = .returned (.int .i64 (amtE t.outs)) ∧ Below w.heap.size w w' := by
  have HR := Lib.hid (blkR (vs := txC t) h.1)
  have HT := Lib.hid h.2
  have HZ : Hid ((Tryd.prog.info? 40).map (·.size) = some (txC t).length) := Tryd.sizeTx
  have HM := Lib.hid hmax
  clear h hmax
  go_enter Tryd.func75, Tryd.ntmps75
  go_wp2_with (first
    | ((with_reducible show wpList _ _ _ (⟨some 5, _, _, _, _, _⟩ :: _) _ _); refine wpList_load_mid rfl 40 (.tmp 0) rfl g 0 rfl (txC t) _ HR.out Tryd.underlying40 rfl HZ.out ?_)
    | (go_at_call 76; refine (amounts_any w t HT.out HM.out).mono ?_; rintro e w2 ⟨rfl, hb2⟩; have Hb2 := Lib.hid hb2; clear hb2))
  go_ret
  exact ⟨rfl, Hb2.out⟩

/-- What asked answers: five closures. -/
def askF : Nat → Nat
  | 0 => 66
  | 1 => 69
  | 2 => 70
  | 3 => 73
  | _ => 75
def AskedPost (w : World) (t : TxR) (e : Ending) (w' : World) : Prop := ∃ b g, e = .returned (.slice (some ⟨b, 0, none⟩) 5 5) ∧ TxAt w' g t ∧ Below w.heap.size w w' ∧ w.heap.size ≤ g ∧ b < w'.heap.size ∧ (∀ j, j < 5 → w'.cell? ⟨b, j, none⟩ = some (.func (.func (askF j)) #[] #[.pointer (some ⟨g, 0, none⟩)]))
set_option maxHeartbeats 1000000 in
set_option maxRecDepth 100000 in
theorem asked_any (w : World) (t : TxR) (h : TxOk w t) : Calls Tryd.prog 57 #[.agg (txC t).toArray] w (AskedPost w t) := by
  have HT := Lib.hid (TxAt.new h)
  clear h
  have hmf : ∀ (fn : Fn) (first cap : Array Value) (w : World), (Instr.makeFunc fn first cap).run Tryd.prog w = .ok (.func fn first cap) w := fun _ _ _ _ => rfl
  go_enter Tryd.func57, Tryd.ntmps57
  go_wp2
  go_ret
  refine ⟨_, w.heap.size, rfl, HT.out.later (nxAl (nxRf _) _), nxAl (nxAl (nxRf w) _) _, Nat.le_refl _, by simp, fun j hj => ?_⟩
  match j, hj with
  | 0, _ => simp [askF]
  | 1, _ => simp [askF]
  | 2, _ => simp [askF]
  | 3, _ => simp [askF]
  | 4, _ => simp [askF]
theorem amtE_two (l : List OutR) : amtE l = 0 ∨ amtE l = 5 := by
  unfold amtE sumE
  cases l.any (fun o => o.amt == 0)
  · rw [cond_false]; split <;> simp
  · right; rfl
set_option maxHeartbeats 2000000 in
set_option maxRecDepth 100000 in
theorem check_any (w : World) (t : TxR) (h : TxOk w t) : Calls Tryd.prog 41 #[.agg (txC t).toArray] w fun e w' => e = .returned (.int .i64 (checkT t)) ∧ Below w.heap.size w w' := by
  have hA := TxAt.new h
  have HR := Lib.hid (blkR (vs := txC t) hA.1)
  have HT := Lib.hid hA.2
  have HZ : Hid ((Tryd.prog.info? 40).map (·.size) = some (txC t).length) := Tryd.sizeTx
  have Hb0 : Hid (Below w.heap.size w (w.alloc (.cells (txC t).toArray 40))) := Lib.hid (nxAl (nxRf w) _)
  have ht : argE true = 0 := rfl
  have hf : argE false = 2 := rfl
  clear hA h
  cases hc0 : cntB t.ins.length with
  | false =>
    have HC0 := Lib.hid hc0
    have HV : Hid (checkT t = 2) := by
      show _ = _
      have hfm : formB t = false := by unfold formB; simp only [hc0]; rfl
      rw [checkT, hfm, cond_false]
    clear hc0
    go_enter Tryd.func41, Tryd.ntmps41
    go_wp2_with (first
      | ((with_reducible show wpList _ _ _ (⟨some 6, _, _, _, _, _⟩ :: _) _ _); refine wpList_load_mid rfl 40 (.tmp 1) rfl w.heap.size 0 rfl (txC t) _ HR.out Tryd.underlying40 rfl HZ.out ?_)
      | (go_at_call 57; refine (asked_any _ t HT.out).mono ?_; rintro e w1 ⟨b, g, rfl, ht1, hb1, hg1, hbb1, hc1⟩; have H1 := Lib.hid ht1; have V1 : Hid (Below w.heap.size w w1) := nxTr Hb0.out hb1; have HB := Lib.hid hbb1; have c10 := hc1 0 (by omega); have c11 := hc1 1 (by omega); have c12 := hc1 2 (by omega); have c13 := hc1 3 (by omega); have c14 := hc1 4 (by omega); unfold askF at c10 c11 c12 c13 c14; clear ht1 hb1 hg1 hbb1 hc1))
    refine wp_loop_rounds 6 ?_
    rw [rounds_succ]
    go_wp2_with (go_at_call 66; refine (ask1_any w1 g t H1.out).mono ?_; rw [HC0.out, hf]; rintro e w2 ⟨rfl, hb⟩; have V2 : Hid (Below w.heap.size w w2) := nxTr V1.out hb; have H2 := Lib.hid (H1.out.later hb); have c21 : w2.cell? ⟨b, 1, none⟩ = _ := cell_later hb c11; have c22 : w2.cell? ⟨b, 2, none⟩ = _ := cell_later hb c12; have c23 : w2.cell? ⟨b, 3, none⟩ = _ := cell_later hb c13; have c24 : w2.cell? ⟨b, 4, none⟩ = _ := cell_later hb c14; clear hb c10 c11 c12 c13 c14)
    go_ret
    exact ⟨by rw [HV.out]; rfl, V2.out⟩
  | true =>
    have HC0 := Lib.hid hc0
    cases hc1 : cntB t.outs.length with
    | false =>
      have HC1 := Lib.hid hc1
      have HV : Hid (checkT t = 2) := by
        show _ = _
        have hfm : formB t = false := by unfold formB; simp only [hc0, hc1]; rfl
        rw [checkT, hfm, cond_false]
      clear hc0 hc1
      go_enter Tryd.func41, Tryd.ntmps41
      go_wp2_with (first
        | ((with_reducible show wpList _ _ _ (⟨some 6, _, _, _, _, _⟩ :: _) _ _); refine wpList_load_mid rfl 40 (.tmp 1) rfl w.heap.size 0 rfl (txC t) _ HR.out Tryd.underlying40 rfl HZ.out ?_)
        | (go_at_call 57; refine (asked_any _ t HT.out).mono ?_; rintro e w1 ⟨b, g, rfl, ht1, hb1, hg1, hbb1, hc1⟩; have H1 := Lib.hid ht1; have V1 : Hid (Below w.heap.size w w1) := nxTr Hb0.out hb1; have HB := Lib.hid hbb1; have c10 := hc1 0 (by omega); have c11 := hc1 1 (by omega); have c12 := hc1 2 (by omega); have c13 := hc1 3 (by omega); have c14 := hc1 4 (by omega); unfold askF at c10 c11 c12 c13 c14; clear ht1 hb1 hg1 hbb1 hc1))
      refine wp_loop_rounds 6 ?_
      rw [rounds_succ]
      go_wp2_with (go_at_call 66; refine (ask1_any w1 g t H1.out).mono ?_; rw [HC0.out, ht]; rintro e w2 ⟨rfl, hb⟩; have V2 : Hid (Below w.heap.size w w2) := nxTr V1.out hb; have H2 := Lib.hid (H1.out.later hb); have c21 : w2.cell? ⟨b, 1, none⟩ = _ := cell_later hb c11; have c22 : w2.cell? ⟨b, 2, none⟩ = _ := cell_later hb c12; have c23 : w2.cell? ⟨b, 3, none⟩ = _ := cell_later hb c13; have c24 : w2.cell? ⟨b, 4, none⟩ = _ := cell_later hb c14; clear hb c10 c11 c12 c13 c14)
      rw [rounds_succ]
      go_wp2_with (go_at_call 69; refine (ask2_any w2 g t H2.out).mono ?_; rw [HC1.out, hf]; rintro e w3 ⟨rfl, hb⟩; have V3 : Hid (Below w.heap.size w w3) := nxTr V2.out hb; have H3 := Lib.hid (H2.out.later hb); have c32 : w3.cell? ⟨b, 2, none⟩ = _ := cell_later hb c22; have c33 : w3.cell? ⟨b, 3, none⟩ = _ := cell_later hb c23; have c34 : w3.cell? ⟨b, 4, none⟩ = _ := cell_later hb c24; clear hb c21 c22 c23 c24)
      go_ret
      exact ⟨by rw [HV.out]; rfl, V3.out⟩
    | true =>
      have HC1 := Lib.hid hc1
      cases hc2 : (!t.ins.any longB) with
      | false =>
        have HC2 := Lib.hid hc2
        have HV : Hid (checkT t = 2) := by
          show _ = _
          have hfm : formB t = false := by unfold formB; simp only [hc0, hc1, hc2]; rfl
          rw [checkT, hfm, cond_false]
        clear hc0 hc1 hc2
        go_enter Tryd.func41, Tryd.ntmps41
        go_wp2_with (first
          | ((with_reducible show wpList _ _ _ (⟨some 6, _, _, _, _, _⟩ :: _) _ _); refine wpList_load_mid rfl 40 (.tmp 1) rfl w.heap.size 0 rfl (txC t) _ HR.out Tryd.underlying40 rfl HZ.out ?_)
          | (go_at_call 57; refine (asked_any _ t HT.out).mono ?_; rintro e w1 ⟨b, g, rfl, ht1, hb1, hg1, hbb1, hc1⟩; have H1 := Lib.hid ht1; have V1 : Hid (Below w.heap.size w w1) := nxTr Hb0.out hb1; have HB := Lib.hid hbb1; have c10 := hc1 0 (by omega); have c11 := hc1 1 (by omega); have c12 := hc1 2 (by omega); have c13 := hc1 3 (by omega); have c14 := hc1 4 (by omega); unfold askF at c10 c11 c12 c13 c14; clear ht1 hb1 hg1 hbb1 hc1))
        refine wp_loop_rounds 6 ?_
        rw [rounds_succ]
        go_wp2_with (go_at_call 66; refine (ask1_any w1 g t H1.out).mono ?_; rw [HC0.out, ht]; rintro e w2 ⟨rfl, hb⟩; have V2 : Hid (Below w.heap.size w w2) := nxTr V1.out hb; have H2 := Lib.hid (H1.out.later hb); have c21 : w2.cell? ⟨b, 1, none⟩ = _ := cell_later hb c11; have c22 : w2.cell? ⟨b, 2, none⟩ = _ := cell_later hb c12; have c23 : w2.cell? ⟨b, 3, none⟩ = _ := cell_later hb c13; have c24 : w2.cell? ⟨b, 4, none⟩ = _ := cell_later hb c14; clear hb c10 c11 c12 c13 c14)
        rw [rounds_succ]
        go_wp2_with (go_at_call 69; refine (ask2_any w2 g t H2.out).mono ?_; rw [HC1.out, ht]; rintro e w3 ⟨rfl, hb⟩; have V3 : Hid (Below w.heap.size w w3) := nxTr V2.out hb; have H3 := Lib.hid (H2.out.later hb); have c32 : w3.cell? ⟨b, 2, none⟩ = _ := cell_later hb c22; have c33 : w3.cell? ⟨b, 3, none⟩ = _ := cell_later hb c23; have c34 : w3.cell? ⟨b, 4, none⟩ = _ := cell_later hb c24; clear hb c21 c22 c23 c24)
        rw [rounds_succ]
        go_wp2_with (go_at_call 70; refine (ask3_any w3 g t H3.out).mono ?_; rw [HC2.out, hf]; rintro e w4 ⟨rfl, hb⟩; have V4 : Hid (Below w.heap.size w w4) := nxTr V3.out hb; have H4 := Lib.hid (H3.out.later hb); have c43 : w4.cell? ⟨b, 3, none⟩ = _ := cell_later hb c33; have c44 : w4.cell? ⟨b, 4, none⟩ = _ := cell_later hb c34; clear hb c32 c33 c34)
        go_ret
        exact ⟨by rw [HV.out]; rfl, V4.out⟩
      | true =>
        have HC2 := Lib.hid hc2
        cases hc3 : (!twiceB t.ins) with
        | false =>
          have HC3 := Lib.hid hc3
          have HV : Hid (checkT t = 2) := by
            show _ = _
            have hfm : formB t = false := by unfold formB; simp only [hc0, hc1, hc2, hc3]; rfl
            rw [checkT, hfm, cond_false]
          clear hc0 hc1 hc2 hc3
          go_enter Tryd.func41, Tryd.ntmps41
          go_wp2_with (first
            | ((with_reducible show wpList _ _ _ (⟨some 6, _, _, _, _, _⟩ :: _) _ _); refine wpList_load_mid rfl 40 (.tmp 1) rfl w.heap.size 0 rfl (txC t) _ HR.out Tryd.underlying40 rfl HZ.out ?_)
            | (go_at_call 57; refine (asked_any _ t HT.out).mono ?_; rintro e w1 ⟨b, g, rfl, ht1, hb1, hg1, hbb1, hc1⟩; have H1 := Lib.hid ht1; have V1 : Hid (Below w.heap.size w w1) := nxTr Hb0.out hb1; have HB := Lib.hid hbb1; have c10 := hc1 0 (by omega); have c11 := hc1 1 (by omega); have c12 := hc1 2 (by omega); have c13 := hc1 3 (by omega); have c14 := hc1 4 (by omega); unfold askF at c10 c11 c12 c13 c14; clear ht1 hb1 hg1 hbb1 hc1))
          refine wp_loop_rounds 6 ?_
          rw [rounds_succ]
          go_wp2_with (go_at_call 66; refine (ask1_any w1 g t H1.out).mono ?_; rw [HC0.out, ht]; rintro e w2 ⟨rfl, hb⟩; have V2 : Hid (Below w.heap.size w w2) := nxTr V1.out hb; have H2 := Lib.hid (H1.out.later hb); have c21 : w2.cell? ⟨b, 1, none⟩ = _ := cell_later hb c11; have c22 : w2.cell? ⟨b, 2, none⟩ = _ := cell_later hb c12; have c23 : w2.cell? ⟨b, 3, none⟩ = _ := cell_later hb c13; have c24 : w2.cell? ⟨b, 4, none⟩ = _ := cell_later hb c14; clear hb c10 c11 c12 c13 c14)
          rw [rounds_succ]
          go_wp2_with (go_at_call 69; refine (ask2_any w2 g t H2.out).mono ?_; rw [HC1.out, ht]; rintro e w3 ⟨rfl, hb⟩; have V3 : Hid (Below w.heap.size w w3) := nxTr V2.out hb; have H3 := Lib.hid (H2.out.later hb); have c32 : w3.cell? ⟨b, 2, none⟩ = _ := cell_later hb c22; have c33 : w3.cell? ⟨b, 3, none⟩ = _ := cell_later hb c23; have c34 : w3.cell? ⟨b, 4, none⟩ = _ := cell_later hb c24; clear hb c21 c22 c23 c24)
          rw [rounds_succ]
          go_wp2_with (go_at_call 70; refine (ask3_any w3 g t H3.out).mono ?_; rw [HC2.out, ht]; rintro e w4 ⟨rfl, hb⟩; have V4 : Hid (Below w.heap.size w w4) := nxTr V3.out hb; have H4 := Lib.hid (H3.out.later hb); have c43 : w4.cell? ⟨b, 3, none⟩ = _ := cell_later hb c33; have c44 : w4.cell? ⟨b, 4, none⟩ = _ := cell_later hb c34; clear hb c32 c33 c34)
          rw [rounds_succ]
          go_wp2_with (go_at_call 73; refine (ask4_any w4 g t H4.out (by have := of_decide_eq_true HC0.out; omega)).mono ?_; rw [HC3.out, hf]; rintro e w5 ⟨rfl, hb⟩; have V5 : Hid (Below w.heap.size w w5) := nxTr V4.out hb; have H5 := Lib.hid (H4.out.later hb); have c54 : w5.cell? ⟨b, 4, none⟩ = _ := cell_later hb c44; clear hb c43 c44)
          go_ret
          exact ⟨by rw [HV.out]; rfl, V5.out⟩
        | true =>
          have HC3 := Lib.hid hc3
          have hfm : formB t = true := by unfold formB; simp only [hc0, hc1, hc2, hc3]; rfl
          rcases amtE_two t.outs with hz | hz
          · have HZa := Lib.hid hz
            have HV : Hid (checkT t = 0) := by show _ = _; rw [checkT, hfm, cond_true, hz]
            clear hz hfm hc0 hc1 hc2 hc3
            go_enter Tryd.func41, Tryd.ntmps41
            go_wp2_with (first
              | ((with_reducible show wpList _ _ _ (⟨some 6, _, _, _, _, _⟩ :: _) _ _); refine wpList_load_mid rfl 40 (.tmp 1) rfl w.heap.size 0 rfl (txC t) _ HR.out Tryd.underlying40 rfl HZ.out ?_)
              | (go_at_call 57; refine (asked_any _ t HT.out).mono ?_; rintro e w1 ⟨b, g, rfl, ht1, hb1, hg1, hbb1, hc1⟩; have H1 := Lib.hid ht1; have V1 : Hid (Below w.heap.size w w1) := nxTr Hb0.out hb1; have HB := Lib.hid hbb1; have c10 := hc1 0 (by omega); have c11 := hc1 1 (by omega); have c12 := hc1 2 (by omega); have c13 := hc1 3 (by omega); have c14 := hc1 4 (by omega); unfold askF at c10 c11 c12 c13 c14; clear ht1 hb1 hg1 hbb1 hc1))
            refine wp_loop_rounds 6 ?_
            rw [rounds_succ]
            go_wp2_with (go_at_call 66; refine (ask1_any w1 g t H1.out).mono ?_; rw [HC0.out, ht]; rintro e w2 ⟨rfl, hb⟩; have V2 : Hid (Below w.heap.size w w2) := nxTr V1.out hb; have H2 := Lib.hid (H1.out.later hb); have c21 : w2.cell? ⟨b, 1, none⟩ = _ := cell_later hb c11; have c22 : w2.cell? ⟨b, 2, none⟩ = _ := cell_later hb c12; have c23 : w2.cell? ⟨b, 3, none⟩ = _ := cell_later hb c13; have c24 : w2.cell? ⟨b, 4, none⟩ = _ := cell_later hb c14; clear hb c10 c11 c12 c13 c14)
            rw [rounds_succ]
            go_wp2_with (go_at_call 69; refine (ask2_any w2 g t H2.out).mono ?_; rw [HC1.out, ht]; rintro e w3 ⟨rfl, hb⟩; have V3 : Hid (Below w.heap.size w w3) := nxTr V2.out hb; have H3 := Lib.hid (H2.out.later hb); have c32 : w3.cell? ⟨b, 2, none⟩ = _ := cell_later hb c22; have c33 : w3.cell? ⟨b, 3, none⟩ = _ := cell_later hb c23; have c34 : w3.cell? ⟨b, 4, none⟩ = _ := cell_later hb c24; clear hb c21 c22 c23 c24)
            rw [rounds_succ]
            go_wp2_with (go_at_call 70; refine (ask3_any w3 g t H3.out).mono ?_; rw [HC2.out, ht]; rintro e w4 ⟨rfl, hb⟩; have V4 : Hid (Below w.heap.size w w4) := nxTr V3.out hb; have H4 := Lib.hid (H3.out.later hb); have c43 : w4.cell? ⟨b, 3, none⟩ = _ := cell_later hb c33; have c44 : w4.cell? ⟨b, 4, none⟩ = _ := cell_later hb c34; clear hb c32 c33 c34)
            rw [rounds_succ]
            go_wp2_with (go_at_call 73; refine (ask4_any w4 g t H4.out (by have := of_decide_eq_true HC0.out; omega)).mono ?_; rw [HC3.out, ht]; rintro e w5 ⟨rfl, hb⟩; have V5 : Hid (Below w.heap.size w w5) := nxTr V4.out hb; have H5 := Lib.hid (H4.out.later hb); have c54 : w5.cell? ⟨b, 4, none⟩ = _ := cell_later hb c44; clear hb c43 c44)
            rw [rounds_succ]
            go_wp2_with (go_at_call 75; refine (ask5_any w5 g t H5.out (by have := of_decide_eq_true HC1.out; omega)).mono ?_; rw [HZa.out]; rintro e w6 ⟨rfl, hb⟩; have V6 : Hid (Below w.heap.size w w6) := nxTr V5.out hb; have H6 := Lib.hid (H5.out.later hb); clear hb c54)
            rw [rounds_succ]
            go_wp2
            go_ret
            exact ⟨by rw [HV.out]; rfl, V6.out⟩
          · have HZa := Lib.hid hz
            have HV : Hid (checkT t = 5) := by show _ = _; rw [checkT, hfm, cond_true, hz]
            clear hz hfm hc0 hc1 hc2 hc3
            go_enter Tryd.func41, Tryd.ntmps41
            go_wp2_with (first
              | ((with_reducible show wpList _ _ _ (⟨some 6, _, _, _, _, _⟩ :: _) _ _); refine wpList_load_mid rfl 40 (.tmp 1) rfl w.heap.size 0 rfl (txC t) _ HR.out Tryd.underlying40 rfl HZ.out ?_)
              | (go_at_call 57; refine (asked_any _ t HT.out).mono ?_; rintro e w1 ⟨b, g, rfl, ht1, hb1, hg1, hbb1, hc1⟩; have H1 := Lib.hid ht1; have V1 : Hid (Below w.heap.size w w1) := nxTr Hb0.out hb1; have HB := Lib.hid hbb1; have c10 := hc1 0 (by omega); have c11 := hc1 1 (by omega); have c12 := hc1 2 (by omega); have c13 := hc1 3 (by omega); have c14 := hc1 4 (by omega); unfold askF at c10 c11 c12 c13 c14; clear ht1 hb1 hg1 hbb1 hc1))
            refine wp_loop_rounds 6 ?_
            rw [rounds_succ]
            go_wp2_with (go_at_call 66; refine (ask1_any w1 g t H1.out).mono ?_; rw [HC0.out, ht]; rintro e w2 ⟨rfl, hb⟩; have V2 : Hid (Below w.heap.size w w2) := nxTr V1.out hb; have H2 := Lib.hid (H1.out.later hb); have c21 : w2.cell? ⟨b, 1, none⟩ = _ := cell_later hb c11; have c22 : w2.cell? ⟨b, 2, none⟩ = _ := cell_later hb c12; have c23 : w2.cell? ⟨b, 3, none⟩ = _ := cell_later hb c13; have c24 : w2.cell? ⟨b, 4, none⟩ = _ := cell_later hb c14; clear hb c10 c11 c12 c13 c14)
            rw [rounds_succ]
            go_wp2_with (go_at_call 69; refine (ask2_any w2 g t H2.out).mono ?_; rw [HC1.out, ht]; rintro e w3 ⟨rfl, hb⟩; have V3 : Hid (Below w.heap.size w w3) := nxTr V2.out hb; have H3 := Lib.hid (H2.out.later hb); have c32 : w3.cell? ⟨b, 2, none⟩ = _ := cell_later hb c22; have c33 : w3.cell? ⟨b, 3, none⟩ = _ := cell_later hb c23; have c34 : w3.cell? ⟨b, 4, none⟩ = _ := cell_later hb c24; clear hb c21 c22 c23 c24)
            rw [rounds_succ]
            go_wp2_with (go_at_call 70; refine (ask3_any w3 g t H3.out).mono ?_; rw [HC2.out, ht]; rintro e w4 ⟨rfl, hb⟩; have V4 : Hid (Below w.heap.size w w4) := nxTr V3.out hb; have H4 := Lib.hid (H3.out.later hb); have c43 : w4.cell? ⟨b, 3, none⟩ = _ := cell_later hb c33; have c44 : w4.cell? ⟨b, 4, none⟩ = _ := cell_later hb c34; clear hb c32 c33 c34)
            rw [rounds_succ]
            go_wp2_with (go_at_call 73; refine (ask4_any w4 g t H4.out (by have := of_decide_eq_true HC0.out; omega)).mono ?_; rw [HC3.out, ht]; rintro e w5 ⟨rfl, hb⟩; have V5 : Hid (Below w.heap.size w w5) := nxTr V4.out hb; have H5 := Lib.hid (H4.out.later hb); have c54 : w5.cell? ⟨b, 4, none⟩ = _ := cell_later hb c44; clear hb c43 c44)
            rw [rounds_succ]
            go_wp2_with (go_at_call 75; refine (ask5_any w5 g t H5.out (by have := of_decide_eq_true HC1.out; omega)).mono ?_; rw [HZa.out]; rintro e w6 ⟨rfl, hb⟩; have V6 : Hid (Below w.heap.size w w6) := nxTr V5.out hb; have H6 := Lib.hid (H5.out.later hb); clear hb c54)
            go_ret
            exact ⟨by rw [HV.out]; rfl, V6.out⟩
end Go.Proofs.YtpfjkjogljilnaaDoor
namespace Go.Proofs.YtpfjkjogljilnaaDoor
open Go.RowKit

theorem may_any (w : World) (t : TxR) (h : TxOk w t) : Calls Tryd.prog 60 #[.agg (txC t).toArray] w fun e w' => e = .returned (.bool (checkT t == 0)) ∧ Below w.heap.size w w' := by
  have hA := TxAt.new h
  have HR := Lib.hid (blkR (vs := txC t) hA.1)
  have HT := Lib.hid hA.2
  have HZ : Hid ((Tryd.prog.info? 40).map (·.size) = some (txC t).length) := Tryd.sizeTx
  have Hb0 : Hid (Below w.heap.size w (w.alloc (.cells (txC t).toArray 40))) := Lib.hid (nxAl (nxRf w) _)
  obtain ⟨z, hz⟩ : ∃ z, checkT t = z := ⟨_, rfl⟩
  have HZz := Lib.hid hz
  rw [hz]
  clear hA h hz
  go_enter Tryd.func60, Tryd.ntmps60
  go_wp2_with (first
    | ((with_reducible show wpList _ _ _ (⟨some 3, _, _, _, _, _⟩ :: _) _ _); refine wpList_load_mid rfl 40 (.tmp 1) rfl w.heap.size 0 rfl (txC t) _ HR.out Tryd.underlying40 rfl HZ.out ?_)
    | (go_at_call 41; refine (check_any _ t HT.out).mono ?_; rw [HZz.out]; rintro e w2 ⟨rfl, hb2⟩; have Hb2 : Hid (Below w.heap.size w w2) := nxTr Hb0.out hb2; clear hb2))
  go_ret
  exact ⟨rfl, Hb2.out⟩
end Go.Proofs.YtpfjkjogljilnaaDoor
