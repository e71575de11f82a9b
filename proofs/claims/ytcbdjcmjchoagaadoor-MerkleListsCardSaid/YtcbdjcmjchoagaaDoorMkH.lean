/-
  merkle, the document's: Leaf, Knot.
-/
import Derived.Test.YtcbdjcmjchoagaaDoorMkG
namespace Go.Proofs.YtcbdjcmjchoagaaDoor
open Go.RowKit

section
variable {P : Program} {w : World}
theorem step_append_sees' {ops : Array Oper} {o : Oper} {a : Act} {K : Act → World → Prop} {Q : Exit → Act → World → Prop} {E : Prop} (hgd : o.guard = none) (s x : Operand) (t : TypeId)
    (ho : o.op = .call { callee := .builtin .append, args := #[s, x], argTypes := #[t, t] })
    (base : Nat) (e : TypeId) (i : TypeInfo) (z : Value) (ht : P.underlying t = some (.slice e)) (hi : P.info? e = some i) (hz : i.zero = some z)
    (hsize : i.size = 1) (hby : i.bytes = 1) (hzs : z.cells.size = 1)
    (v : Value) (n : Nat) (xs : List Value) (hs : a.eval s = v) (hown : w.ownsRow base e 1 v n xs)
    (B : Nat) (A : Option Addr) (m c : Nat) (l : List UInt8) (hx : a.eval x = .slice A m c) (hm : m = l.length) (hse : Sees w B A l) (hbytes : n + m ≤ 140737488355328) (hbase : base ≤ w.heap.size)
    (h : ∀ v' w', w'.ownsRow base e 1 v' (n + m) (xs ++ By l) → w.grownBy w' v.ownBlock → (v'.ownBlock = v.ownBlock ∨ v'.ownBlock = some w.heap.size) → K (a.put o.dst v') w') :
    if Region.wanted o (yielded ops a.tmps) = true then Oper.wp P o a w K Q else E := by
  have hw : Region.wanted o (yielded ops a.tmps) = true := by simp [Region.wanted, hgd]
  rw [if_pos hw]
  obtain ⟨v', w', hr, h2, h3, h4⟩ := run_append_sees (P := P) base t o.type e i z ht hi hz hsize hby hzs v n xs hown B A m c l hm hse hbytes hbase
  unfold Oper.wp execOp
  simp only [ho, resolve, invoke, builtin, Sem.run_bind, Sem.run_pure, Result.andThen_ok, List.map_toArray, List.map_cons, List.map_nil, hs, hx, hr]
  exact h v' w' h2 h3 h4
theorem step_store_all {ops : Array Oper} {o : Oper} {a : Act} {K : Act → World → Prop} {Q : Exit → Act → World → Prop} {E : Prop} (hgd : o.guard = none) (ty : TypeId) (x y : Operand) (ho : o.op = .store ty x y)
    (g : Nat) (t : TypeId) (old cells : Array Value) (hx : a.eval x = .pointer (some ⟨g, 0, none⟩)) (hy : a.eval y = .agg cells) (hg : Blk w g t old) (hs : old.size = cells.size)
    (hi : (P.info? ty).map (·.size) = some cells.size) (h1 : ∀ v ∈ cells.toList, v.oneCell' = true)
    (h : ∀ w', Blk w' g t cells → Keeps (· = g) w w' → w'.heap.size = w.heap.size → K (a.put o.dst undef) w') :
    if Region.wanted o (yielded ops a.tmps) = true then Oper.wp P o a w K Q else E := by
  have hw : Region.wanted o (yielded ops a.tmps) = true := by simp [Region.wanted, hgd]
  rw [if_pos hw]
  obtain ⟨w', hr, h2, h3, h4⟩ := run_storeVar_all (P := P) g t ty old cells hg hs hi h1
  unfold Oper.wp execOp
  simp only [ho, hx, hy, Instr.storeAt, Instr.sureAddr, Sem.run_bind, Sem.run_pure, Result.andThen_ok, hr]
  exact h w' h2 h3 h4
end

set_option maxHeartbeats 400000 in
set_option maxRecDepth 100000 in
theorem rleaf_any (w : World) (id : List UInt8) (hid : id.length = 32) : Calls Tryd.prog 25 #[.agg (By id).toArray] w fun e w' => e = .returned (.agg (By (leafB id)).toArray) ∧ Below w.heap.size w w' := by
  have Hl := Lib.hid hid
  have hA : Blk ((w.alloc (.cells (By id).toArray 32)).alloc (.cells (By zero32).toArray 32)) w.heap.size 32 (By id).toArray := (show Blk (w.alloc _) _ _ _ from heap_alloc_new w _).alloc _
  have HA : Hid (Sees ((w.alloc (.cells (By id).toArray 32)).alloc (.cells (By zero32).toArray 32)) ((w.alloc (.cells (By id).toArray 32)).alloc (.cells (By zero32).toArray 32)).heap.size (some ⟨w.heap.size, 0, none⟩) id) := by
    refine .inr ⟨w.heap.size, 0, rfl, by simp; omega, fun i hi => ?_⟩
    rw [Nat.zero_add, hA.cell i]
    simp [By, hi]
  have B0 : Hid (Blk ((w.alloc (.cells (By id).toArray 32)).alloc (.cells (By zero32).toArray 32)) (w.heap.size + 1) 32 (By zero32).toArray) := Lib.hid (Blk.newAt (by simp) rfl)
  have Hb0 : Hid (Below w.heap.size w ((w.alloc (.cells (By id).toArray 32)).alloc (.cells (By zero32).toArray 32))) := Lib.hid (nxAlloc (nxAlloc (nxRefl w) _) _)
  have HC := Lib.hid (cutN_short nmLeaf (by show 4 ≤ 255; omega))
  obtain ⟨x, hx⟩ : ∃ x, leafB id = x := ⟨_, rfl⟩
  have HX : Hid (shaB (tagB (cutN nmLeaf) id) = x) := by show _ = _; rw [HC.out, ← hx, leafB]
  have HXl : Hid (x.length = 32) := by show _ = _; rw [← hx, leafB_len]
  have HZ0 := Lib.hid (Tryd.hsizeB x HXl.out)
  rw [hx]
  clear hid hA hx
  go_enter Tryd.func25, Tryd.ntmps25
  go_wp2_with (first
    | (go_at_call 42; refine (rtag_any _ nmLeaf (some ⟨w.heap.size, 0, none⟩) 32 32 id Hl.out.symm HA.out (by omega) (by show 4 ≤ _; omega)).mono ?_; rw [HX.out]; rintro e w4 ⟨rfl, hb4⟩; have B4 := Lib.hid (B0.out.below hb4 B0.out.lt); have Hb4 : Hid (Below w.heap.size w w4) := nxTo Hb0.out hb4; clear hb4)
    | ((with_reducible show wpList _ _ _ (⟨none, .store 32 _ _, _, _, _, _⟩ :: _) _ _); refine wpList_store_all rfl 32 (.tmp 2) (.tmp 4) rfl (w.heap.size + 1) 32 (By zero32).toArray (By x).toArray rfl rfl B4.out (by rw [List.size_toArray, List.size_toArray, By_length, By_length, HXl.out]; rfl) HZ0.out (By_one _) ?_; intro w5 h5 h6 h7; have H5 := Lib.hid h5; have Hb5 : Hid (Below w.heap.size w w5) := Hb4.out.trans (h6.below Hb4.out.size (fun k hk => by omega)); clear h5 h6 h7))
  refine bodyPost_ret (results_cell_row Tryd.results25 _ _ (w.heap.size + 1) 32 _ (0, 0) _ rfl H5.out Tryd.underlying32 rfl HZ0.out) rfl ⟨rfl, Hb5.out⟩

set_option maxHeartbeats 400000 in
set_option maxRecDepth 100000 in
theorem rknot_any (w : World) (a b : List UInt8) (ha : a.length = 32) (hb : b.length = 32) : Calls Tryd.prog 26 #[.agg (By a).toArray, .agg (By b).toArray] w fun e w' => e = .returned (.agg (By (knotB a b)).toArray) ∧ Below w.heap.size w w' := by
  have hA : Blk (((w.alloc (.cells (By a).toArray 32)).alloc (.cells (By b).toArray 32)).alloc (.cells (By zero32).toArray 32)) w.heap.size 32 (By a).toArray := ((show Blk (w.alloc _) _ _ _ from heap_alloc_new w _).alloc _).alloc _
  have hB : Blk (((w.alloc (.cells (By a).toArray 32)).alloc (.cells (By b).toArray 32)).alloc (.cells (By zero32).toArray 32)) (w.heap.size + 1) 32 (By b).toArray := (Blk.newAt (by simp) rfl).alloc _
  have hZ : Blk (((w.alloc (.cells (By a).toArray 32)).alloc (.cells (By b).toArray 32)).alloc (.cells (By zero32).toArray 32)) (w.heap.size + 1 + 1) 32 (By zero32).toArray := Blk.newAt (by simp) rfl
  have hb0 : Below w.heap.size w (((w.alloc (.cells (By a).toArray 32)).alloc (.cells (By b).toArray 32)).alloc (.cells (By zero32).toArray 32)) := nxAlloc (nxAlloc (nxAlloc (nxRefl w) _) _) _
  have hsz : w.heap.size + 3 = ((((w.alloc (.cells (By a).toArray 32)).alloc (.cells (By b).toArray 32)).alloc (.cells (By zero32).toArray 32))).heap.size := by simp
  have HLa := Lib.hid ha
  have HLb := Lib.hid hb
  have HLab : Hid ((a ++ b).length = 64) := by show _ = _; rw [List.length_append, ha, hb]
  have HC := Lib.hid (cutN_short nmKnot (by show 4 ≤ 255; omega))
  obtain ⟨x, hx⟩ : ∃ x, knotB a b = x := ⟨_, rfl⟩
  have HX : Hid (shaB (tagB (cutN nmKnot) (a ++ b)) = x) := by show _ = _; rw [HC.out, ← hx, knotB]
  have HXl : Hid (x.length = 32) := by show _ = _; rw [← hx, knotB_len]
  have HZ0 := Lib.hid (Tryd.hsizeB x HXl.out)
  have HA := Lib.hid hA
  have HB := Lib.hid hB
  have HZ := Lib.hid hZ
  have Hb0 := Lib.hid hb0
  have Hs := Lib.hid hsz
  rw [hx]
  clear ha hb hA hB hZ hb0 hsz hx
  obtain ⟨i0, hi, hz0, hz1, hz2⟩ := info_parts Tryd.u8info
  go_enter Tryd.func26, Tryd.ntmps26
  go_wp2
  change Code.wp _ _ _ _ (((w.alloc (.cells (By a).toArray 32)).alloc (.cells (By b).toArray 32)).alloc (.cells (By zero32).toArray 32))
  generalize (((w.alloc (.cells (By a).toArray 32)).alloc (.cells (By b).toArray 32)).alloc (.cells (By zero32).toArray 32)) = W0 at *
  have HSa : Hid (Sees W0 W0.heap.size (some ⟨w.heap.size, 0, none⟩) a) := by
    refine .inr ⟨w.heap.size, 0, rfl, by have := Hs.out; omega, fun i hi => ?_⟩
    rw [Nat.zero_add, HA.out.cell i]
    simp [By, hi]
  have HSb : Hid (Sees W0 W0.heap.size (some ⟨w.heap.size + 1, 0, none⟩) b) := by
    refine .inr ⟨w.heap.size + 1, 0, rfl, by have := Hs.out; omega, fun i hi => ?_⟩
    rw [Nat.zero_add, HB.out.cell i]
    simp [By, hi]
  refine wp_region_held_drew (S := fun _ => True) (by kernel_rfl) trivial (fun hHeld => ?_)
  refine wpAnyH_take (i := 0) (oi := ⟨_, _, _, _, _, _⟩) (v := ?_) rfl (by kernel_rfl) (by kernel_rfl) (by kernel_rfl) (fun _ _ _ h => h) (Or.inl ⟨by rfl, ?_⟩) (by assumption) ?_
  rotate_left 1
  · intro W hSw
    try dsimp only at hSw
    go_simp
    try with_reducible rfl
  try simp only [Act.put, List.setIfInBounds_toArray, List.set_cons_zero, List.set_cons_succ]
  refine wpAnyH_take (i := 2) (oi := ⟨_, _, _, _, _, _⟩) (v := ?_) rfl (by kernel_rfl) (by kernel_rfl) (by kernel_rfl) (fun _ _ _ h => h) (Or.inl ⟨by rfl, ?_⟩) (by assumption) ?_
  rotate_left 1
  · intro W hSw
    try dsimp only at hSw
    go_simp
    try with_reducible rfl
  try simp only [Act.put, List.setIfInBounds_toArray, List.set_cons_zero, List.set_cons_succ]
  refine wpAnyH_ready (rs := [1]) (by kernel_rfl) (by simp) ?_
  refine AllReadyH.cons rfl (fun K hK => ?_) AllReadyH.nil
  refine step_append_sees' (o := ⟨some 6, _, _, _, _, _⟩) rfl (.const (.slice none 0 0)) (.tmp 5) 47 rfl W0.heap.size 5 i0 (.int .u8 0) Tryd.underlying47 hi hz0 hz1 hz2 rfl (.slice none 0 0) 0 [] rfl (World.ownsRow_nil _ _ _ _) W0.heap.size (some ⟨w.heap.size, 0, none⟩) 32 32 a rfl HLa.out.symm (show Sees W0.drew _ _ _ from HSa.out) (by omega) (Nat.le_refl _) ?_
  intro v5 w5 ho5 hg5 hat5
  rw [List.nil_append, Nat.zero_add] at ho5
  obtain ⟨A5, c5, rfl⟩ := own_form ho5
  have HO5 := Lib.hid ho5
  have Hr5 : Hid (Below W0.heap.size W0 w5) := (nxRefl W0).drew.grown hg5 (Nat.le_refl _) (fun j hj => by cases hj)
  clear ho5 hg5 hat5
  refine hK.out _ _ trivial (fun hSn => ?_)
  clear hK K
  try simp only [Act.put, List.setIfInBounds_toArray, List.set_cons_zero, List.set_cons_succ]
  refine wpAnyH_ready (rs := [3]) (by kernel_rfl) (by simp) ?_
  refine AllReadyH.cons rfl (fun K hK => ?_) AllReadyH.nil
  refine step_append_sees' (o := ⟨some 8, _, _, _, _, _⟩) rfl (.tmp 6) (.tmp 7) 47 rfl W0.heap.size 5 i0 (.int .u8 0) Tryd.underlying47 hi hz0 hz1 hz2 rfl (.slice A5 32 c5) 32 (By a) rfl HO5.out W0.heap.size (some ⟨w.heap.size + 1, 0, none⟩) 32 32 b rfl HLb.out.symm (HSb.out.below Hr5.out) (by omega) Hr5.out.size ?_
  intro v6 w6 ho6 hg6 hat6
  rw [← By_append] at ho6
  obtain ⟨A6, c6, rfl⟩ := own_form ho6
  have HS6 := Lib.hid (Sees.own (l := a ++ b) (n := 32 + 32) ho6)
  have Hr6 : Hid (Below W0.heap.size W0 w6) := Hr5.out.grown hg6 Hr5.out.size (fun j hj => (own_lt HO5.out j hj).1)
  clear ho6 hg6 hat6
  refine hK.out _ _ trivial (fun hSn => ?_)
  clear hK K
  try simp only [Act.put, List.setIfInBounds_toArray, List.set_cons_zero, List.set_cons_succ]
  refine wpAnyH_ready (rs := [4]) (by kernel_rfl) (by simp) ?_
  refine AllReadyH.cons rfl (fun K hK => ?_) AllReadyH.nil
  go_simp
  go_at_call 42
  refine (rtag_any w6 nmKnot A6 64 c6 (a ++ b) HLab.out.symm HS6.out (by omega) (by show 4 ≤ _; omega)).mono ?_
  rw [HX.out]
  rintro e w7 ⟨rfl, hb7⟩
  have Hr7 : Hid (Below W0.heap.size W0 w7) := nxTo Hr6.out hb7
  have HZ7 := Lib.hid (HZ.out.below Hr7.out HZ.out.lt)
  clear hb7
  refine hK.out _ _ trivial (fun hSn => ?_)
  clear hK K
  try simp only [Act.put, List.setIfInBounds_toArray, List.set_cons_zero, List.set_cons_succ]
  refine wpAnyH_ready (rs := [5]) (by kernel_rfl) (by simp) ?_
  refine AllReadyH.cons rfl (fun K hK => ?_) AllReadyH.nil
  refine step_store_all (o := ⟨none, _, _, _, _, _⟩) rfl 32 (.tmp 4) (.tmp 9) rfl (w.heap.size + 1 + 1) 32 (By zero32).toArray (By x).toArray rfl rfl HZ7.out (by rw [List.size_toArray, List.size_toArray, By_length, By_length, HXl.out]; rfl) HZ0.out (By_one _) ?_
  intro w8 h5 h6 h7
  have H8 := Lib.hid h5
  have Hb8 : Hid (Below w.heap.size w w8) := (nxTo Hb0.out Hr7.out).trans (h6.below (nxTo Hb0.out Hr7.out).size (fun k hk => by omega))
  clear h5 h6 h7
  refine hK.out _ _ trivial (fun hSn => ?_)
  clear hK K
  try simp only [Act.put, List.setIfInBounds_toArray, List.set_cons_zero, List.set_cons_succ]
  refine wpAnyH_done (by kernel_rfl) ?_ _
  go_wp2
  refine bodyPost_ret (results_cell_row Tryd.results26 _ _ (w.heap.size + 1 + 1) 32 _ (0, 0) _ rfl H8.out Tryd.underlying32 rfl HZ0.out) rfl ⟨rfl, Hb8.out⟩

end Go.Proofs.YtcbdjcmjchoagaaDoor
