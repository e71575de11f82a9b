/-
  merkle, the document's: Leaf, Knot. · merkle, the document's: Top. · merkle, the document's: left, Root. · merkle, the document's: Root.
-/
import Derived.Test.YtbloomnifhcgbaaGreatDoorLw
import Derived.Test.YtbloomnifhcgbaaGreatDoorMkG
namespace Go.Proofs.YtbloomnifhcgbaaGreatDoor
open Go.RowKit

section
variable {P : Program} {w : World}
theorem step_append_sees' {ops : Array Oper} {o : Oper} {a : Act} {K : Act → World → Prop} {Q : Exit → Act → World → Prop} {E : Prop} (hgd : o.guard = none) (s x : Operand) (t : TypeId)
    (ho : o.op = .call { callee := .builtin .append, args := #[s, x], argTypes := #[t, t] })
    (base : Nat) (e : TypeId) (i : TypeInfo) (z : Value) (ht : P.underlying t = some (.slice e)) (hi : P.info? e = some i) (hz : i.zero = some z)
    (hsize : i.size = 1) (hby : i.bytes = 1) (hzs : z.cells.size = 1)
    (v : Value) (n : Nat) (xs : List Value) (hs : a.eval s = v) (hown : w.ownsRow base e 1 v n xs)
    (B : Nat) (A : Option Addr) (m c : Nat) (l : List UInt8) (hx : a.eval x = .slice A m c) (hm : m = l.length) (hse : Sees w B A l) (hbytes : n + m ≤ 140737488355328) (hbase : base ≤ w.heap.size)
    (h : ∀ v' w', w'.ownsRow base e 1 v' (n + m) (xs ++ By l) → w.grownBy w' v.ownBlock → (v'.ownBlock = v.ownBlock ∨ v'.ownBlock = some w.heap.size) → K (a.put o.dst v') w') :
    if Region.wanted o (yielded ops a.tmps) = true then Oper.wp P o a w K Q else E := by
  have hw : Region.wanted o (yielded ops a.tmps) = true := by simp [Region.wanted, hgd]
  rw [if_pos hw]
  obtain ⟨v', w', hr, h2, h3, h4⟩ := run_append_sees (P := P) base t o.type e i z ht hi hz hsize hby hzs v n xs hown B A m c l hm hse hbytes hbase
  unfold Oper.wp execOp
  simp only [ho, resolve, invoke, builtin, Sem.run_bind, Sem.run_pure, Result.andThen_ok, List.map_toArray, List.map_cons, List.map_nil, hs, hx, hr]
  exact h v' w' h2 h3 h4
end

set_option maxHeartbeats 400000 in
set_option maxRecDepth 100000 in
theorem rleaf_any (w : World) (id : List UInt8) (hid : id.length = 32) : Calls Tryz.prog 96 #[.agg (By id).toArray] w fun e w' => e = .returned (.agg (By (leafB id)).toArray) ∧ Below w.heap.size w w' := by
  have Hl := Lib.hid hid
  have hA : Blk ((w.alloc (.cells (By id).toArray 26)).alloc (.cells (By zero32).toArray 26)) w.heap.size 26 (By id).toArray := (show Blk (w.alloc _) _ _ _ from heap_alloc_new w _).alloc _
  have HA : Hid (Sees ((w.alloc (.cells (By id).toArray 26)).alloc (.cells (By zero32).toArray 26)) ((w.alloc (.cells (By id).toArray 26)).alloc (.cells (By zero32).toArray 26)).heap.size (some ⟨w.heap.size, 0, none⟩) id) := by
    refine .inr ⟨w.heap.size, 0, rfl, by simp; omega, fun i hi => ?_⟩
    rw [Nat.zero_add, hA.cell i]
    simp [By, hi]
  have B0 : Hid (Blk ((w.alloc (.cells (By id).toArray 26)).alloc (.cells (By zero32).toArray 26)) (w.heap.size + 1) 26 (By zero32).toArray) := Lib.hid (Blk.newAt (by simp) rfl)
  have Hb0 : Hid (Below w.heap.size w ((w.alloc (.cells (By id).toArray 26)).alloc (.cells (By zero32).toArray 26))) := Lib.hid (nxAlloc (nxAlloc (nxRefl w) _) _)
  have HC := Lib.hid (cutN_short nmLeaf (by show 4 ≤ 255; omega))
  obtain ⟨x, hx⟩ : ∃ x, leafB id = x := ⟨_, rfl⟩
  have HX : Hid (shaB (tagB (cutN nmLeaf) id) = x) := by show _ = _; rw [HC.out, ← hx, leafB]
  have HXl : Hid (x.length = 32) := by show _ = _; rw [← hx, leafB_len]
  have HZ0 := Lib.hid (Tryz.hsizeB x HXl.out)
  rw [hx]
  clear hid hA hx
  go_enter Tryz.func96, Tryz.ntmps96
  go_wp2_with (first
    | (go_at_call 36; refine (rtag_any _ nmLeaf (some ⟨w.heap.size, 0, none⟩) 32 32 id Hl.out.symm HA.out (by omega) (by show 4 ≤ _; omega)).mono ?_; rw [HX.out]; rintro e w4 ⟨rfl, hb4⟩; have B4 := Lib.hid (B0.out.below hb4 B0.out.lt); have Hb4 : Hid (Below w.heap.size w w4) := nxTo Hb0.out hb4; clear hb4)
    | ((with_reducible show wpList _ _ _ (⟨none, .store 26 _ _, _, _, _, _⟩ :: _) _ _); refine wpList_store_all rfl 26 (.tmp 2) (.tmp 4) rfl (w.heap.size + 1) 26 (By zero32).toArray (By x).toArray rfl rfl B4.out (by rw [List.size_toArray, List.size_toArray, By_length, By_length, HXl.out]; rfl) HZ0.out (By_one _) ?_; intro w5 h5 h6 h7; have H5 := Lib.hid h5; have Hb5 : Hid (Below w.heap.size w w5) := Hb4.out.trans (h6.below Hb4.out.size (fun k hk => by omega)); clear h5 h6 h7))
  refine bodyPost_ret (results_cell_row Tryz.results96 _ _ (w.heap.size + 1) 26 _ (0, 0) _ rfl H5.out Tryz.underlying26 rfl HZ0.out) rfl ⟨rfl, Hb5.out⟩

set_option maxHeartbeats 400000 in
set_option maxRecDepth 100000 in
theorem rknot_any (w : World) (a b : List UInt8) (ha : a.length = 32) (hb : b.length = 32) : Calls Tryz.prog 98 #[.agg (By a).toArray, .agg (By b).toArray] w fun e w' => e = .returned (.agg (By (knotB a b)).toArray) ∧ Below w.heap.size w w' := by
  have hA : Blk (((w.alloc (.cells (By a).toArray 26)).alloc (.cells (By b).toArray 26)).alloc (.cells (By zero32).toArray 26)) w.heap.size 26 (By a).toArray := ((show Blk (w.alloc _) _ _ _ from heap_alloc_new w _).alloc _).alloc _
  have hB : Blk (((w.alloc (.cells (By a).toArray 26)).alloc (.cells (By b).toArray 26)).alloc (.cells (By zero32).toArray 26)) (w.heap.size + 1) 26 (By b).toArray := (Blk.newAt (by simp) rfl).alloc _
  have hZ : Blk (((w.alloc (.cells (By a).toArray 26)).alloc (.cells (By b).toArray 26)).alloc (.cells (By zero32).toArray 26)) (w.heap.size + 1 + 1) 26 (By zero32).toArray := Blk.newAt (by simp) rfl
  have hb0 : Below w.heap.size w (((w.alloc (.cells (By a).toArray 26)).alloc (.cells (By b).toArray 26)).alloc (.cells (By zero32).toArray 26)) := nxAlloc (nxAlloc (nxAlloc (nxRefl w) _) _) _
  have hsz : w.heap.size + 3 = ((((w.alloc (.cells (By a).toArray 26)).alloc (.cells (By b).toArray 26)).alloc (.cells (By zero32).toArray 26))).heap.size := by simp
  have HLa := Lib.hid ha
  have HLb := Lib.hid hb
  have HLab : Hid ((a ++ b).length = 64) := by show _ = _; rw [List.length_append, ha, hb]
  have HC := Lib.hid (cutN_short nmKnot (by show 4 ≤ 255; omega))
  obtain ⟨x, hx⟩ : ∃ x, knotB a b = x := ⟨_, rfl⟩
  have HX : Hid (shaB (tagB (cutN nmKnot) (a ++ b)) = x) := by show _ = _; rw [HC.out, ← hx, knotB]
  have HXl : Hid (x.length = 32) := by show _ = _; rw [← hx, knotB_len]
  have HZ0 := Lib.hid (Tryz.hsizeB x HXl.out)
  have HA := Lib.hid hA
  have HB := Lib.hid hB
  have HZ := Lib.hid hZ
  have Hb0 := Lib.hid hb0
  have Hs := Lib.hid hsz
  rw [hx]
  clear ha hb hA hB hZ hb0 hsz hx
  obtain ⟨i0, hi, hz0, hz1, hz2⟩ := info_parts Tryz.u8info
  go_enter Tryz.func98, Tryz.ntmps98
  go_wp2
  change Code.wp _ _ _ _ (((w.alloc (.cells (By a).toArray 26)).alloc (.cells (By b).toArray 26)).alloc (.cells (By zero32).toArray 26))
  generalize (((w.alloc (.cells (By a).toArray 26)).alloc (.cells (By b).toArray 26)).alloc (.cells (By zero32).toArray 26)) = W0 at *
  have HSa : Hid (Sees W0 W0.heap.size (some ⟨w.heap.size, 0, none⟩) a) := by
    refine .inr ⟨w.heap.size, 0, rfl, by have := Hs.out; omega, fun i hi => ?_⟩
    rw [Nat.zero_add, HA.out.cell i]
    simp [By, hi]
  have HSb : Hid (Sees W0 W0.heap.size (some ⟨w.heap.size + 1, 0, none⟩) b) := by
    refine .inr ⟨w.heap.size + 1, 0, rfl, by have := Hs.out; omega, fun i hi => ?_⟩
    rw [Nat.zero_add, HB.out.cell i]
    simp [By, hi]
  refine wp_region_held_drew (S := fun _ => True) (by kernel_rfl) trivial (fun hHeld => ?_)
  refine wpAnyH_take (i := 0) (oi := ⟨_, _, _, _, _, _⟩) (v := ?_) rfl (by kernel_rfl) (by kernel_rfl) (by kernel_rfl) (fun _ _ _ h => h) (Or.inl ⟨by rfl, ?_⟩) (by assumption) ?_
  rotate_left 1
  · intro W hSw
    try dsimp only at hSw
    go_simp
    try with_reducible rfl
  try simp only [Act.put, List.setIfInBounds_toArray, List.set_cons_zero, List.set_cons_succ]
  refine wpAnyH_take (i := 2) (oi := ⟨_, _, _, _, _, _⟩) (v := ?_) rfl (by kernel_rfl) (by kernel_rfl) (by kernel_rfl) (fun _ _ _ h => h) (Or.inl ⟨by rfl, ?_⟩) (by assumption) ?_
  rotate_left 1
  · intro W hSw
    try dsimp only at hSw
    go_simp
    try with_reducible rfl
  try simp only [Act.put, List.setIfInBounds_toArray, List.set_cons_zero, List.set_cons_succ]
  refine wpAnyH_ready (rs := [1]) (by kernel_rfl) (by simp) ?_
  refine AllReadyH.cons rfl (fun K hK => ?_) AllReadyH.nil
  refine step_append_sees' (o := ⟨some 6, _, _, _, _, _⟩) rfl (.const (.slice none 0 0)) (.tmp 5) 22 rfl W0.heap.size 5 i0 (.int .u8 0) Tryz.underlying22 hi hz0 hz1 hz2 rfl (.slice none 0 0) 0 [] rfl (World.ownsRow_nil _ _ _ _) W0.heap.size (some ⟨w.heap.size, 0, none⟩) 32 32 a rfl HLa.out.symm (show Sees W0.drew _ _ _ from HSa.out) (by omega) (Nat.le_refl _) ?_
  intro v5 w5 ho5 hg5 hat5
  rw [List.nil_append, Nat.zero_add] at ho5
  obtain ⟨A5, c5, rfl⟩ := own_form ho5
  have HO5 := Lib.hid ho5
  have Hr5 : Hid (Below W0.heap.size W0 w5) := (nxRefl W0).drew.grown hg5 (Nat.le_refl _) (fun j hj => by cases hj)
  clear ho5 hg5 hat5
  refine hK.out _ _ trivial (fun hSn => ?_)
  clear hK K
  try simp only [Act.put, List.setIfInBounds_toArray, List.set_cons_zero, List.set_cons_succ]
  refine wpAnyH_ready (rs := [3]) (by kernel_rfl) (by simp) ?_
  refine AllReadyH.cons rfl (fun K hK => ?_) AllReadyH.nil
  refine step_append_sees' (o := ⟨some 8, _, _, _, _, _⟩) rfl (.tmp 6) (.tmp 7) 22 rfl W0.heap.size 5 i0 (.int .u8 0) Tryz.underlying22 hi hz0 hz1 hz2 rfl (.slice A5 32 c5) 32 (By a) rfl HO5.out W0.heap.size (some ⟨w.heap.size + 1, 0, none⟩) 32 32 b rfl HLb.out.symm (HSb.out.below Hr5.out) (by omega) Hr5.out.size ?_
  intro v6 w6 ho6 hg6 hat6
  rw [← By_append] at ho6
  obtain ⟨A6, c6, rfl⟩ := own_form ho6
  have HS6 := Lib.hid (Sees.own (l := a ++ b) (n := 32 + 32) ho6)
  have Hr6 : Hid (Below W0.heap.size W0 w6) := Hr5.out.grown hg6 Hr5.out.size (fun j hj => (own_lt HO5.out j hj).1)
  clear ho6 hg6 hat6
  refine hK.out _ _ trivial (fun hSn => ?_)
  clear hK K
  try simp only [Act.put, List.setIfInBounds_toArray, List.set_cons_zero, List.set_cons_succ]
  refine wpAnyH_ready (rs := [4]) (by kernel_rfl) (by simp) ?_
  refine AllReadyH.cons rfl (fun K hK => ?_) AllReadyH.nil
  go_simp
  go_at_call 36
  refine (rtag_any w6 nmKnot A6 64 c6 (a ++ b) HLab.out.symm HS6.out (by omega) (by show 4 ≤ _; omega)).mono ?_
  rw [HX.out]
  rintro e w7 ⟨rfl, hb7⟩
  have Hr7 : Hid (Below W0.heap.size W0 w7) := nxTo Hr6.out hb7
  have HZ7 := Lib.hid (HZ.out.below Hr7.out HZ.out.lt)
  clear hb7
  refine hK.out _ _ trivial (fun hSn => ?_)
  clear hK K
  try simp only [Act.put, List.setIfInBounds_toArray, List.set_cons_zero, List.set_cons_succ]
  refine wpAnyH_ready (rs := [5]) (by kernel_rfl) (by simp) ?_
  refine AllReadyH.cons rfl (fun K hK => ?_) AllReadyH.nil
  refine step_store_all (o := ⟨none, _, _, _, _, _⟩) rfl 26 (.tmp 4) (.tmp 9) rfl (w.heap.size + 1 + 1) 26 (By zero32).toArray (By x).toArray rfl rfl HZ7.out (by rw [List.size_toArray, List.size_toArray, By_length, By_length, HXl.out]; rfl) HZ0.out (By_one _) ?_
  intro w8 h5 h6 h7
  have H8 := Lib.hid h5
  have Hb8 : Hid (Below w.heap.size w w8) := (nxTo Hb0.out Hr7.out).trans (h6.below (nxTo Hb0.out Hr7.out).size (fun k hk => by omega))
  clear h5 h6 h7
  refine hK.out _ _ trivial (fun hSn => ?_)
  clear hK K
  try simp only [Act.put, List.setIfInBounds_toArray, List.set_cons_zero, List.set_cons_succ]
  refine wpAnyH_done (by kernel_rfl) ?_ _
  go_wp2
  refine bodyPost_ret (results_cell_row Tryz.results98 _ _ (w.heap.size + 1 + 1) 26 _ (0, 0) _ rfl H8.out Tryz.underlying26 rfl HZ0.out) rfl ⟨rfl, Hb8.out⟩

end Go.Proofs.YtbloomnifhcgbaaGreatDoor
namespace Go.Proofs.YtbloomnifhcgbaaGreatDoor
open Go.RowKit

theorem byte_of' (n k : Nat) : (n : Int) / 2 ^ (8 * k) % 256 = ((UInt8.ofNat (n / 256 ^ k)).toNat : Int) := by
  have e2 : (2 : Int) ^ (8 * k) = ((256 ^ k : Nat) : Int) := by
    have : (256 : Nat) ^ k = 2 ^ (8 * k) := by rw [Nat.pow_mul]
    rw [this]; simp
  rw [e2, ← Int.natCast_ediv, UInt8.toNat_ofNat']
  omega

set_option maxHeartbeats 1000000 in
set_option maxRecDepth 100000 in
theorem rtop_any (w : World) (n : Nat) (hn : n < 4611686018427387904) (A : Option Addr) (m c : Nat) (l : List UInt8) (hm : m = l.length) (hS : Sees w w.heap.size A l) (hmax : m ≤ 1000) :
    Calls Tryz.prog 81 #[.int .i64 (n : Int), .slice A m c] w fun e w' => e = .returned (.agg (By (shaB (tagB nmRoot (le8 n ++ l)))).toArray) ∧ Below w.heap.size w w' := by
  subst hm
  have HS := Lib.hid hS
  have hT : Blk (w.alloc (.cells (By zero32).toArray 26)) w.heap.size 26 (By zero32).toArray := heap_alloc_new w _
  have hb1 : Below w.heap.size w (w.alloc (.cells (By zero32).toArray 26)) := nxAlloc (nxRefl w) _
  have HT := Lib.hid hT
  have Hb1 := Lib.hid hb1
  have HC := Lib.hid (cutN_short nmRoot (by show 4 ≤ 255; omega))
  obtain ⟨body, hbody⟩ : ∃ body, le8 n ++ l = body := ⟨_, rfl⟩
  obtain ⟨x, hx⟩ : ∃ x, shaB (tagB nmRoot body) = x := ⟨_, rfl⟩
  have HX : Hid (shaB (tagB (cutN nmRoot) body) = x) := by show _ = _; rw [HC.out, ← hx]
  have HXl : Hid (x.length = 32) := by show _ = _; rw [← hx, shaB_length]
  have HZ0 := Lib.hid (Tryz.hsizeB x HXl.out)
  have HBl : Hid (body.length = 8 + l.length) := by show _ = _; rw [← hbody, List.length_append, le8_len]
  have HBd := Lib.hid hbody
  rw [hbody, hx]
  clear hS hn hT hb1 hbody hx
  obtain ⟨i0, hi, hz0, hz1, hz2⟩ := info_parts Tryz.u8info
  go_enter Tryz.func81, Tryz.ntmps81
  go_wp2
  change Code.wp _ _ _ _ (w.alloc (.cells (By zero32).toArray 26))
  generalize w.alloc (.cells (By zero32).toArray 26) = W1 at *
  go_loopw [5, 6] (fun bv iv wr => ∃ (k : Nat) (A1 : Option Addr) (c1 : Nat), k ≤ 8 ∧ iv = .int .i64 k ∧ bv = .slice A1 k c1 ∧ Hid (wr.ownsRow W1.heap.size 5 1 (.slice A1 k c1) k (By ((le8 n).take k))) ∧ Hid (Below W1.heap.size W1 wr)) (fun _ iv _ => 8 - (intOf iv).toNat)
  case atStart => exact ⟨0, none, 0, by omega, rfl, rfl, World.ownsRow_nil _ _ _ _, nxRefl W1⟩
  case round =>
    obtain ⟨k, A1, c1, hk, rfl, rfl, HO, Hb⟩ := hrel
    by_cases hlt : k < 8
    · have HB : Hid (By [UInt8.ofNat (n / 256 ^ k)] = [.int .u8 ((n : Int) / 2 ^ (8 * k) % 256)]) := by show _ = _; rw [byte_of' n k]; rfl
      have HN := Lib.hid (le8_next n k hlt)
      go_wp2_with ((with_reducible show wpList _ _ _ (⟨some 19, _, _, _, _, _⟩ :: _) _ _); refine wpList_append_seesV rfl (.tmp 11) (.tmp 18) 22 rfl W1.heap.size 5 i0 (.int .u8 0) 1 1 Tryz.underlying22 hi hz0 hz1 hz2 rfl (by omega) (.slice A1 k c1) k (By ((le8 n).take k)) rfl (HO.out.alloc _) (wr.heap.size + 1) (some ⟨wr.heap.size, 0, none⟩) 1 1 [.int .u8 ((n : Int) / 2 ^ (8 * k) % 256)] rfl rfl (SeesV.lit' wr [.int .u8 ((n : Int) / 2 ^ (8 * k) % 256)] 5) (by intro u hu; simp at hu; subst hu; rfl) (by omega) (by omega) (by have h1 := Hb.out.size; simp; omega) ?_; intro v8 w8 ho8 hg8 hat8; obtain ⟨A8, c8, rfl⟩ := own_form ho8; rw [← HB.out, ← By_append, ← HN.out] at ho8; have HO8 := Lib.hid ho8; have Hb8 : Hid (Below W1.heap.size W1 w8) := (nxAlloc Hb.out _).grown hg8 (nxAlloc Hb.out _).size (fun j hj => (own_lt HO.out j hj).1); clear ho8 hg8 hat8)
      go_roundw
      case rel => exact ⟨k + 1, A8, c8, by omega, by go_num, rfl, HO8.out, Hb8.out⟩
      case measure => simp [intOf] <;> omega
    · obtain rfl : k = 8 := by omega
      have HO' : Hid (wr.ownsRow W1.heap.size 5 1 (.slice A1 8 c1) 8 (By (le8 n))) := by
        show World.ownsRow _ _ _ _ _ _ _
        have h := HO.out
        rwa [List.take_of_length_le (by rw [le8_len]; omega)] at h
      have HT2 := Lib.hid (HT.out.below Hb.out HT.out.lt)
      clear HO
      rw [show ((8 : Nat) : Int) = (8 : Int) from rfl]
      go_wp2_with (first
        | ((with_reducible show wpList _ _ _ (⟨some 22, _, _, _, _, _⟩ :: _) _ _); refine wpList_append_sees rfl (.tmp 20) (.tmp 21) 22 rfl W1.heap.size 5 i0 (.int .u8 0) Tryz.underlying22 hi hz0 hz1 hz2 rfl (.slice A1 8 c1) 8 (By (le8 n)) rfl HO'.out w.heap.size A l.length c l rfl rfl (HS.out.below (nxTo Hb1.out Hb.out)) (by omega) Hb.out.size ?_; intro v5 w5 ho5 hg5 hat5; rw [← By_append, HBd.out, ← HBl.out] at ho5; obtain ⟨A5, c5, rfl⟩ := own_form ho5; have HS5 := Lib.hid (Sees.own ho5); have Hb5 : Hid (Below W1.heap.size W1 w5) := Hb.out.grown hg5 Hb.out.size (fun j hj => (own_lt HO'.out j hj).1); have HT5 := Lib.hid (HT.out.below Hb5.out HT.out.lt); clear ho5 hg5 hat5)
        | (go_at_call 36; refine (rtag_any w5 nmRoot A5 body.length c5 body rfl HS5.out (by have := HBl.out; omega) (by show 4 ≤ _; omega)).mono ?_; rw [HX.out]; rintro e w6 ⟨rfl, hb6⟩; have Hb6 : Hid (Below W1.heap.size W1 w6) := nxTo Hb5.out hb6; have HT6 := Lib.hid (HT.out.below Hb6.out HT.out.lt); clear hb6)
        | ((with_reducible show wpList _ _ _ (⟨none, .store 26 _ _, _, _, _, _⟩ :: _) _ _); refine wpList_store_all rfl 26 (.tmp 4) (.tmp 23) rfl w.heap.size 26 (By zero32).toArray (By x).toArray rfl rfl HT6.out (by rw [List.size_toArray, List.size_toArray, By_length, By_length, HXl.out]; rfl) HZ0.out (By_one _) ?_; intro w7 h5 h6 h7; have H7 := Lib.hid h5; have Hb7 : Hid (Below w.heap.size w w7) := (nxTo Hb1.out Hb6.out).trans (h6.below (nxTo Hb1.out Hb6.out).size (fun k hk => by omega)); clear h5 h6 h7))
      refine bodyPost_ret (results_cell_row Tryz.results81 _ _ w.heap.size 26 _ (0, 0) _ rfl H7.out Tryz.underlying26 rfl HZ0.out) rfl ⟨rfl, Hb7.out⟩

end Go.Proofs.YtbloomnifhcgbaaGreatDoor
namespace Go.Proofs.YtbloomnifhcgbaaGreatDoor
open Go.RowKit

theorem Hs_split (hs : List (List UInt8)) (h : All32 hs) (k : Nat) (hk : k ≤ hs.length) : Hs (hs.take k) = (Hs hs).take (k * 32) ∧ Hs (hs.drop k) = (Hs hs).drop (k * 32) := by
  have h1 : All32 (hs.take k) := fun x hx => h x (List.mem_of_mem_take hx)
  have e : Hs hs = Hs (hs.take k) ++ Hs (hs.drop k) := by
    rw [Hs, Hs, Hs, ← By_append, ← List.flatten_append, List.take_append_drop]
  have hl : (Hs (hs.take k)).length = k * 32 := by rw [Hs_length h1, List.length_take, Nat.min_eq_left hk]
  rw [e, ← hl, List.take_left, List.drop_left]
  exact ⟨rfl, rfl⟩
theorem slice_lowH {w : World} {B : Nat} {A : Option Addr} {hs : List (List UInt8)} {c : Nat} (h : SeesV w B A (Hs hs)) (h32 : All32 hs) (hc : hs.length ≤ c) (k : Nat) (hk : k ≤ hs.length) :
    ∃ A1, SeesV w B A1 (Hs (hs.take k)) ∧ ∀ wq, (Instr.slice 24 (.slice A hs.length c) none (some (.int .i64 (k : Int))) none).run Tryz.prog wq = .ok (.slice A1 k c) wq := by
  obtain ⟨i0, hi, hz0, hz1, hz2⟩ := info_parts Tryz.hinfo
  refine ⟨if c = 0 then A else A.map (·.add (0 * 32)), ?_, fun wq => ?_⟩
  · rw [(Hs_split hs h32 k hk).1]
    split
    · exact h.take _
    · have := (h.drop 0).take (k * 32)
      simpa using this
  · simp [Instr.slice, run_underlying Tryz.underlying24, Instr.sliceBounds, run_sliceBound wq .i64 (k : Int) c _ (by omega) (by omega), sizeOf, typeInfo, hi, hz1]
theorem slice_highH {w : World} {B : Nat} {A : Option Addr} {hs : List (List UInt8)} {c : Nat} (h : SeesV w B A (Hs hs)) (h32 : All32 hs) (hc : hs.length ≤ c) (k : Nat) (hk : k ≤ hs.length) :
    ∃ A1, SeesV w B A1 (Hs (hs.drop k)) ∧ ∀ wq, (Instr.slice 24 (.slice A hs.length c) (some (.int .i64 (k : Int))) none none).run Tryz.prog wq = .ok (.slice A1 (hs.length - k) (c - k)) wq := by
  obtain ⟨i0, hi, hz0, hz1, hz2⟩ := info_parts Tryz.hinfo
  refine ⟨if c = k then A else A.map (·.add (k * 32)), ?_, fun wq => ?_⟩
  · rw [(Hs_split hs h32 k hk).2]
    split
    · rw [List.drop_eq_nil_of_le (by rw [Hs_length h32]; omega)]; exact .inl rfl
    · exact h.drop _
  · simp [Instr.slice, run_underlying Tryz.underlying24, Instr.sliceBounds, run_sliceBound wq .i64 (k : Int) hs.length _ (by omega) (by omega), sizeOf, typeInfo, hi, hz1]
theorem leaves_32 (ids : List (List UInt8)) : All32 (ids.map leafB) := by
  intro z hz
  obtain ⟨q, _, rfl⟩ := List.mem_map.1 hz
  exact leafB_len q
/-- What is left of the rows above some. -/
def leftL (ids : List (List UInt8)) : List UInt8 := topH knotB (ids.map leafB)
theorem leftL_len {ids : List (List UInt8)} (h : 1 ≤ ids.length) : (leftL ids).length = 32 := by
  apply topH_len _ _ (leaves_32 ids)
  intro e
  have := congrArg List.length e
  simp at this
  rw [this] at h; simp at h
theorem leftL_one {id : List UInt8} : leftL [id] = leafB id := by rw [leftL, topH_one knotB (by simp)]; rfl
theorem leftL_sole {ids : List (List UInt8)} (h : ids.length = 1) {k : 0 < ids.length} : leafB ids[0] = leftL ids := by
  obtain ⟨y, rfl⟩ := List.length_eq_one_iff.mp h
  rw [leftL_one]; rfl
theorem leftL_two {ids : List (List UInt8)} (h : ¬ ids.length ≤ 1) : leftL ids = knotB (leftL (ids.take (half ids.length))) (leftL (ids.drop (half ids.length))) := by
  rw [leftL, topH_two knotB (by simpa using h)]
  simp only [List.length_map, ← List.map_take, ← List.map_drop, leftL]

set_option maxHeartbeats 1000000 in
set_option maxRecDepth 100000 in
theorem rleft_any (N : Nat) : ∀ (ids : List (List UInt8)), ids.length = N → ∀ (w : World) (A : Option Addr) (n c : Nat), n = ids.length → n ≤ c → 1 ≤ n → All32 ids → SeesV w w.heap.size A (Hs ids) → n ≤ 1048576 →
    Calls Tryz.prog 82 #[.slice A n c] w fun e w' => e = .returned (.agg (By (leftL ids)).toArray) ∧ Below w.heap.size w w' := by
  induction N using Nat.strongRecOn with
  | ind N ih =>
  intro ids hN w A n c hn hc h1 h32 hS hmax
  subst hn hN
  have IH := Lib.hid ih
  have hT : Blk (w.alloc (.cells (By zero32).toArray 26)) w.heap.size 26 (By zero32).toArray := heap_alloc_new w _
  have hb1 : Below w.heap.size w (w.alloc (.cells (By zero32).toArray 26)) := nxAlloc (nxRefl w) _
  have hS1 : SeesV (w.alloc (.cells (By zero32).toArray 26)) (w.alloc (.cells (By zero32).toArray 26)).heap.size A (Hs ids) := (hS.alloc _).size
  obtain ⟨x, hx⟩ : ∃ x, leftL ids = x := ⟨_, rfl⟩
  have HXl : Hid (x.length = 32) := by show _ = _; rw [← hx]; exact leftL_len h1
  have HZ0 := Lib.hid (Tryz.hsizeB x HXl.out)
  have HZ := Lib.hid hT
  have Hb1 := Lib.hid hb1
  have HS := Lib.hid hS1
  have H32 := Lib.hid h32
  rw [hx]
  clear ih hS hT hb1 hS1 h32
  by_cases hone : ids.length = 1
  · obtain ⟨b, off, rfl, hbb, hrg⟩ := SeesV.hash HS.out H32.out (k := 0) (by omega)
    have hr0 := hrg 0 (by omega)
    rw [show off + 0 * 32 = off by omega] at hr0
    have hl0 := H32.out.get (k := 0) (by omega)
    have HXa : Hid (leafB ids[0] = x) := by
      show _ = _
      rw [← hx]
      exact leftL_sole hone
    generalize ids[0] = id at *
    have HR := Lib.hid hr0
    have HL := Lib.hid hl0
    have HSX : Hid ((Tryz.prog.info? 26).map (·.size) = some (By id).length) := by have h := Tryz.hsizeB id hl0; show _ = _; rw [h]; simp
    have hl1 : (0 : Int) < (ids.length : Int) := by omega
    clear hrg hr0 hl0 hx hbb
    rw [hone]
    go_enter Tryz.func82, Tryz.ntmps82
    go_wp2_with (first
      | ((with_reducible show wpList _ _ _ (⟨some 9, _, _, _, _, _⟩ :: _) _ _); refine wpList_load_mid rfl 26 (.tmp 8) rfl b off rfl (By id) _ HR.out Tryz.underlying26 rfl HSX.out ?_)
      | (go_at_call 96; refine (rleaf_any _ id HL.out).mono ?_; rw [HXa.out]; rintro e w4 ⟨rfl, hb4⟩; have B4 := Lib.hid (HZ.out.below hb4 HZ.out.lt); have Hb4 : Hid (Below w.heap.size w w4) := nxTo Hb1.out hb4; clear hb4)
      | ((with_reducible show wpList _ _ _ (⟨none, .store 26 _ _, _, _, _, _⟩ :: _) _ _); refine wpList_store_all rfl 26 (.tmp 2) (.tmp 10) rfl w.heap.size 26 (By zero32).toArray (By x).toArray rfl rfl B4.out (by rw [List.size_toArray, List.size_toArray, By_length, By_length, HXl.out]; rfl) HZ0.out (By_one _) ?_; intro w5 h5 h6 h7; have H5 := Lib.hid h5; have Hb5 : Hid (Below w.heap.size w w5) := Hb4.out.trans (h6.below Hb4.out.size (fun k hk => by omega)); clear h5 h6 h7))
    refine bodyPost_ret (results_cell_row Tryz.results82 _ _ w.heap.size 26 _ (0, 0) _ rfl H5.out Tryz.underlying26 rfl HZ0.out) rfl ⟨rfl, Hb5.out⟩
  · have hk2 := half_lt (n := ids.length) (by omega)
    have hk0 := half_pos ids.length
    have hx2 := leftL_two (ids := ids) (by omega)
    obtain ⟨k, hk⟩ : ∃ k, half ids.length = k := ⟨_, rfl⟩
    rw [hk] at hk2 hk0 hx2
    have HK := Lib.hid hk
    have hk3 : ids.length - k < ids.length := by omega
    obtain ⟨xa, hxa⟩ : ∃ xa, leftL (ids.take k) = xa := ⟨_, rfl⟩
    obtain ⟨xb, hxb⟩ : ∃ xb, leftL (ids.drop k) = xb := ⟨_, rfl⟩
    have HTl : Hid ((ids.take k).length = k) := by show _ = _; rw [List.length_take]; omega
    have HDl : Hid ((ids.drop k).length = ids.length - k) := by show _ = _; rw [List.length_drop]
    have HXal : Hid (xa.length = 32) := by show _ = _; rw [← hxa]; exact leftL_len (by rw [HTl.out]; omega)
    have HXbl : Hid (xb.length = 32) := by show _ = _; rw [← hxb]; exact leftL_len (by rw [HDl.out]; omega)
    have HX : Hid (knotB xa xb = x) := by show _ = _; rw [← hx, hx2, hxa, hxb]
    have HXa := Lib.hid hxa
    have HXb := Lib.hid hxb
    obtain ⟨A1, hs1, q1⟩ := slice_lowH HS.out H32.out hc k (by omega)
    obtain ⟨A2, hs2, q2⟩ := slice_highH HS.out H32.out hc k (by omega)
    have HS1 := Lib.hid hs1
    have HS2 := Lib.hid hs2
    have HT32 : Hid (All32 (ids.take k)) := fun y hy => H32.out y (List.mem_of_mem_take hy)
    have HD32 := Lib.hid (H32.out.drop k)
    clear hk hx hx2 hxa hxb hs1 hs2
    have hone' : ((ids.length : Int) == 1) = false := by rw [beq_eq_false_iff_ne]; omega
    clear hone
    go_enter Tryz.func82, Tryz.ntmps82
    go_wp2_with (go_at_call 97; refine (half_any _ ids.length (by omega) (by omega)).mono ?_; rw [HK.out]; rintro e w1 ⟨rfl, hw1⟩; subst hw1)
    change Code.wp _ _ _ _ (w.alloc (.cells (By zero32).toArray 26))
    generalize w.alloc (.cells (By zero32).toArray 26) = w1 at *
    refine wp_region_held_drew (S := fun _ => True) (by kernel_rfl) trivial (fun hHeld => ?_)
    refine wpAnyH_take (i := 0) (oi := ⟨_, _, _, _, _, _⟩) (v := ?_) rfl (by kernel_rfl) (by kernel_rfl) (by kernel_rfl) (fun _ _ _ h => h) (Or.inl ⟨by rfl, ?_⟩) (by assumption) ?_
    rotate_left 1
    · intro W hSw
      try dsimp only at hSw
      go_simp
      try with_reducible rfl
    try simp only [Act.put, List.setIfInBounds_toArray, List.set_cons_zero, List.set_cons_succ]
    refine wpAnyH_take (i := 1) (oi := ⟨_, _, _, _, _, _⟩) (v := ?_) rfl (by kernel_rfl) (by kernel_rfl) (by kernel_rfl) (fun _ _ _ h => h) (Or.inl ⟨by rfl, ?_⟩) (by assumption) ?_
    rotate_left 1
    · intro W hSw
      try dsimp only at hSw
      go_simp
      try with_reducible rfl
    try simp only [Act.put, List.setIfInBounds_toArray, List.set_cons_zero, List.set_cons_succ]
    refine wpAnyH_take (i := 2) (oi := ⟨_, _, _, _, _, _⟩) (v := ?_) rfl (by kernel_rfl) (by kernel_rfl) (by kernel_rfl) (fun _ _ _ h => h) (Or.inl ⟨by rfl, ?_⟩) (by assumption) ?_
    rotate_left 1
    · intro W hSw
      try dsimp only at hSw
      go_simp
      try with_reducible rfl
    try simp only [Act.put, List.setIfInBounds_toArray, List.set_cons_zero, List.set_cons_succ]
    refine wpAnyH_take (i := 4) (oi := ⟨_, _, _, _, _, _⟩) (v := ?_) rfl (by kernel_rfl) (by kernel_rfl) (by kernel_rfl) (fun _ _ _ h => h) (Or.inl ⟨by rfl, ?_⟩) (by assumption) ?_
    rotate_left 1
    · intro W hSw
      try dsimp only at hSw
      go_simp
      try with_reducible rfl
    try simp only [Act.put, List.setIfInBounds_toArray, List.set_cons_zero, List.set_cons_succ]
    refine wpAnyH_take (i := 5) (oi := ⟨_, _, _, _, _, _⟩) (v := ?_) rfl (by kernel_rfl) (by kernel_rfl) (by kernel_rfl) (fun _ _ _ h => h) (Or.inl ⟨by rfl, ?_⟩) (by assumption) ?_
    rotate_left 1
    · intro W hSw
      try dsimp only at hSw
      go_simp
      try with_reducible rfl
    try simp only [Act.put, List.setIfInBounds_toArray, List.set_cons_zero, List.set_cons_succ]
    refine wpAnyH_take (i := 6) (oi := ⟨_, _, _, _, _, _⟩) (v := ?_) rfl (by kernel_rfl) (by kernel_rfl) (by kernel_rfl) (fun _ _ _ h => h) (Or.inl ⟨by rfl, ?_⟩) (by assumption) ?_
    rotate_left 1
    · intro W hSw
      try dsimp only at hSw
      go_simp
      try with_reducible rfl
    try simp only [Act.put, List.setIfInBounds_toArray, List.set_cons_zero, List.set_cons_succ]
    refine wpAnyH_ready (rs := [3]) (by kernel_rfl) (by simp) ?_
    refine AllReadyH.cons rfl (fun K hK => ?_) AllReadyH.nil
    go_simp
    go_at_call 82
    refine (IH.out k hk2 (ids.take k) HTl.out w1.drew A1 k c HTl.out.symm (by omega) (by omega) HT32.out (show SeesV w1.drew _ _ _ from HS1.out) (by omega)).mono ?_
    rw [HXa.out]
    rintro e w4 ⟨rfl, hb4⟩
    have Hr4 : Hid (Below w1.heap.size w1 w4) := nxUndr hb4
    clear hb4
    refine hK.out _ _ trivial (fun hSn => ?_)
    clear hK K
    try simp only [Act.put, List.setIfInBounds_toArray, List.set_cons_zero, List.set_cons_succ]
    refine wpAnyH_ready (rs := [7]) (by kernel_rfl) (by simp) ?_
    refine AllReadyH.cons rfl (fun K hK => ?_) AllReadyH.nil
    go_simp
    go_at_call 82
    refine (IH.out (ids.length - k) hk3 (ids.drop k) HDl.out w4 A2 (ids.length - k) (c - k) HDl.out.symm (by omega) (by omega) HD32.out ((HS2.out.later Hr4.out).size) (by omega)).mono ?_
    rw [HXb.out]
    rintro e w5 ⟨rfl, hb5⟩
    have Hr5 : Hid (Below w1.heap.size w1 w5) := nxTo Hr4.out hb5
    clear hb5
    refine hK.out _ _ trivial (fun hSn => ?_)
    clear hK K
    try simp only [Act.put, List.setIfInBounds_toArray, List.set_cons_zero, List.set_cons_succ]
    refine wpAnyH_ready (rs := [8]) (by kernel_rfl) (by simp) ?_
    refine AllReadyH.cons rfl (fun K hK => ?_) AllReadyH.nil
    go_simp
    go_at_call 98
    refine (rknot_any w5 xa xb HXal.out HXbl.out).mono ?_
    rw [HX.out]
    rintro e w6 ⟨rfl, hb6⟩
    have Hr6 : Hid (Below w1.heap.size w1 w6) := nxTo Hr5.out hb6
    have HZ6 := Lib.hid (HZ.out.below Hr6.out HZ.out.lt)
    clear hb6
    refine hK.out _ _ trivial (fun hSn => ?_)
    clear hK K
    try simp only [Act.put, List.setIfInBounds_toArray, List.set_cons_zero, List.set_cons_succ]
    refine wpAnyH_ready (rs := [9]) (by kernel_rfl) (by simp) ?_
    refine AllReadyH.cons rfl (fun K hK => ?_) AllReadyH.nil
    refine step_store_all (o := ⟨none, _, _, _, _, _⟩) rfl 26 (.tmp 2) (.tmp 22) rfl w.heap.size 26 (By zero32).toArray (By x).toArray rfl rfl HZ6.out (by rw [List.size_toArray, List.size_toArray, By_length, By_length, HXl.out]; rfl) HZ0.out (By_one _) ?_
    intro w8 h5 h6 h7
    have H8 := Lib.hid h5
    have Hb8 : Hid (Below w.heap.size w w8) := (nxTo Hb1.out Hr6.out).trans (h6.below (nxTo Hb1.out Hr6.out).size (fun k hk => by omega))
    clear h5 h6 h7
    refine hK.out _ _ trivial (fun hSn => ?_)
    clear hK K
    try simp only [Act.put, List.setIfInBounds_toArray, List.set_cons_zero, List.set_cons_succ]
    refine wpAnyH_done (by kernel_rfl) ?_ _
    go_wp2
    refine bodyPost_ret (results_cell_row Tryz.results82 _ _ w.heap.size 26 _ (0, 0) _ rfl H8.out Tryz.underlying26 rfl HZ0.out) rfl ⟨rfl, Hb8.out⟩

end Go.Proofs.YtbloomnifhcgbaaGreatDoor
namespace Go.Proofs.YtbloomnifhcgbaaGreatDoor
open Go.RowKit

theorem Sees.blk {w : World} {g : Nat} {t : TypeId} {l : List UInt8} (hb : Blk w g t (By l).toArray) : Sees w w.heap.size (some ⟨g, 0, none⟩) l := by
  refine .inr ⟨g, 0, rfl, hb.lt, fun i hi => ?_⟩
  rw [Nat.zero_add, hb.cell i]
  simp [By, hi]
theorem rootL_nil : shaB (tagB nmRoot (le8 0 ++ [])) = rootL [] := by
  rw [rootL, rootB, List.map_nil, topR_short (by simp)]
  simp only [List.length_nil, List.flatten_nil]
theorem rootL_some {ids : List (List UInt8)} (h : 1 ≤ ids.length) : shaB (tagB nmRoot (le8 ids.length ++ leftL ids)) = rootL ids := by
  have hne : ids.map leafB ≠ [] := by
    intro e
    have := congrArg List.length e
    simp at this
    rw [this] at h; simp at h
  rw [rootL, rootB, topR_eq knotB _ hne, leftL]
  simp

set_option maxHeartbeats 400000 in
set_option maxRecDepth 100000 in
theorem rroot_any (w : World) (A : Option Addr) (m c : Nat) (ids : List (List UInt8)) (hm : m = ids.length) (hc : m ≤ c) (h32 : All32 ids) (hS : SeesV w w.heap.size A (Hs ids)) (hmax : m ≤ 1048576) :
    Calls Tryz.prog 55 #[.slice A m c] w fun e w' => e = .returned (.agg (By (rootL ids)).toArray) ∧ Below w.heap.size w w' := by
  subst hm
  have hb0 : Below w.heap.size w (w.alloc (.cells (By zero32).toArray 26)) := nxAlloc (nxRefl w) _
  have B0 : Hid (Blk (w.alloc (.cells (By zero32).toArray 26)) w.heap.size 26 (By zero32).toArray) := Lib.hid (heap_alloc_new w _)
  have HS := Lib.hid ((hS.alloc (.cells (By zero32).toArray 26)).size)
  have H32 := Lib.hid h32
  have Hb0 := Lib.hid hb0
  obtain ⟨x, hx⟩ : ∃ x, rootL ids = x := ⟨_, rfl⟩
  have HXl : Hid (x.length = 32) := by show _ = _; rw [← hx, rootL_len]
  have HZ0 := Lib.hid (Tryz.hsizeB x HXl.out)
  rw [hx]
  clear hS h32
  by_cases h0 : ids.length = 0
  · obtain rfl := List.length_eq_zero_iff.mp h0
    have HX : Hid (shaB (tagB nmRoot (le8 0 ++ [])) = x) := by show _ = _; rw [rootL_nil, hx]
    clear hx h0 hmax hc
    rw [show ([] : List (List UInt8)).length = 0 from rfl]
    go_enter Tryz.func55, Tryz.ntmps55
    go_wp2_with (first
      | (go_at_call 81; refine (rtop_any _ 0 (by omega) none 0 0 [] rfl Sees.nil (by omega)).mono ?_; rw [HX.out]; rintro e w4 ⟨rfl, hb4⟩; have Hb4 := Lib.hid (nxTo Hb0.out hb4); have B4 := Lib.hid (B0.out.below hb4 B0.out.lt); clear hb4)
      | ((with_reducible show wpList _ _ _ (⟨none, .store 26 _ _, _, _, _, _⟩ :: _) _ _); refine wpList_store_all rfl 26 (.tmp 2) (.tmp 7) rfl w.heap.size 26 (By zero32).toArray (By x).toArray rfl rfl B4.out (by rw [List.size_toArray, List.size_toArray, By_length, By_length, HXl.out]; rfl) HZ0.out (By_one _) ?_; intro w5 h5 h6 h7; have H5 := Lib.hid h5; have Hb5 : Hid (Below w.heap.size w w5) := Hb4.out.trans (h6.below Hb4.out.size (fun k hk => by omega)); clear h5 h6 h7))
    refine bodyPost_ret (results_cell_row Tryz.results55 _ _ w.heap.size 26 _ (0, 0) _ rfl H5.out Tryz.underlying26 rfl HZ0.out) rfl ⟨rfl, Hb5.out⟩
  · obtain ⟨y, hy⟩ : ∃ y, leftL ids = y := ⟨_, rfl⟩
    have HX : Hid (shaB (tagB nmRoot (le8 ids.length ++ y)) = x) := by show _ = _; rw [← hy, rootL_some (by omega), hx]
    have HYl : Hid (y.length = 32) := by show _ = _; rw [← hy]; exact leftL_len (by omega)
    have HZy := Lib.hid (Tryz.hsizeB y HYl.out)
    have HY := Lib.hid hy
    have hone' : ((ids.length : Int) == 0) = false := by rw [beq_eq_false_iff_ne]; omega
    have H0 : Hid (1 ≤ ids.length) := by show _ ≤ _; omega
    have HM := Lib.hid hmax
    have HCc := Lib.hid hc
    clear hx hy h0 hmax hc
    go_enter Tryz.func55, Tryz.ntmps55
    go_wp2_with (first
      | (go_at_call 82; refine (rleft_any _ ids rfl _ A ids.length c rfl HCc.out H0.out H32.out HS.out HM.out).mono ?_; rw [HY.out]; rintro e w4 ⟨rfl, hb4⟩; have Hb4 := Lib.hid (nxTo Hb0.out hb4); have B4 := Lib.hid (B0.out.below hb4 B0.out.lt); clear hb4)
      | ((with_reducible show wpList _ _ _ (⟨none, .store 26 (.tmp 3) _, _, _, _, _⟩ :: _) _ _); change wpList _ _ _ _ _ (w4.alloc (.cells (By zero32).toArray 26)); refine wpList_store_all rfl 26 (.tmp 3) (.tmp 9) rfl w4.heap.size 26 (By zero32).toArray (By y).toArray rfl rfl (heap_alloc_new w4 _) (by rw [List.size_toArray, List.size_toArray, By_length, By_length, HYl.out]; rfl) HZy.out (By_one _) ?_; intro w5 h5 h6 h7; have H5 := Lib.hid h5; have Hs5 : Hid (Sees w5 w5.heap.size (some ⟨w4.heap.size, 0, none⟩) y) := Sees.blk H5.out; have Hc5 : Hid (Below w4.heap.size w4 w5) := (nxAlloc (nxRefl w4) _).trans (h6.below (nxAlloc (nxRefl w4) _).size (fun k hk => by omega)); have Hb5 := Lib.hid (nxTo Hb4.out Hc5.out); have B5 := Lib.hid (B4.out.below Hc5.out B4.out.lt); clear h5 h6 h7)
      | (go_at_call 81; refine (rtop_any _ ids.length (by have := HM.out; omega) _ 32 32 y HYl.out.symm Hs5.out (by omega)).mono ?_; rw [HX.out]; rintro e w6 ⟨rfl, hb6⟩; have Hb6 := Lib.hid (nxTo Hb5.out hb6); have B6 := Lib.hid (B5.out.below hb6 B5.out.lt); clear hb6)
      | ((with_reducible show wpList _ _ _ (⟨none, .store 26 (.tmp 2) _, _, _, _, _⟩ :: _) _ _); refine wpList_store_all rfl 26 (.tmp 2) (.tmp 13) rfl w.heap.size 26 (By zero32).toArray (By x).toArray rfl rfl B6.out (by rw [List.size_toArray, List.size_toArray, By_length, By_length, HXl.out]; rfl) HZ0.out (By_one _) ?_; intro w7 h5 h6 h7; have H7 := Lib.hid h5; have Hb7 : Hid (Below w.heap.size w w7) := Hb6.out.trans (h6.below Hb6.out.size (fun k hk => by omega)); clear h5 h6 h7))
    refine bodyPost_ret (results_cell_row Tryz.results55 _ _ w.heap.size 26 _ (0, 0) _ rfl H7.out Tryz.underlying26 rfl HZ0.out) rfl ⟨rfl, Hb7.out⟩
end Go.Proofs.YtbloomnifhcgbaaGreatDoor
