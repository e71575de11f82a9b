/-
  dag: whether a graph is there; places.
-/
import Derived.Test.YtndkjmmmneianaaDoorDg4
import Derived.Deep.MidRow
import Derived.Test.YtndkjmmmneianaaDoorZ32
import Derived.Test.YtndkjmmmneianaaDoorCopy
import Derived.Test.YtndkjmmmneianaaDoorEq
namespace Go.Proofs.YtndkjmmmneianaaDoor
open Go.RowKit Go.Maps

theorem isMade_any (w : World) (base : Nat) (m : GrM) (h : GrOk w base m) (h0 : 0 < m.ids.length) : Calls Tryd.prog 46 #[.pointer (some ⟨m.q, 0, none⟩)] w fun e w' => e = .returned (.bool true) ∧ w' = w := by
  have hc : w.cell? ⟨m.q, 0, none⟩ = some (.slice m.iA m.ids.length m.ic) := h.b.cell 0
  clear h
  obtain ⟨k, hk⟩ : ∃ k, m.ids.length = k := ⟨_, rfl⟩
  rw [hk] at hc h0
  clear hk
  go_enter Tryd.func46, Tryd.ntmps46
  go_wp2
  go_ret
  exact ⟨rfl, rfl⟩
theorem rngK {w w' : World} {B b o : Nat} {cs : List Value} (h : w.rangeAt b o cs) (hb : Below B w w') (hlt : b < B) : w'.rangeAt b o cs := fun j v hv => (hb.cell (p := ⟨b, o + j, none⟩) hlt).trans (h j v hv)
section
variable {P : Program}
theorem quiet_lookup {C : World → Prop} {op : Oper} {a : Act} {K : Act → Prop} (t : TypeId) (m x : Operand) (c : Bool) (ho : op.op = .lookup t m x c) (vm vx : Value) (hm : a.eval m = vm) (hx : a.eval x = vx) (v : Value) (h : ∀ w, C w → (Instr.lookup t vm vx c).run P w = .ok v w) (hk : K (a.put op.dst v)) : op.quiet P a C K := by
  refine ⟨_, fun w hw => ?_, hk⟩
  unfold Oper.quietAt execOp
  simp only [ho, hm, hx, Sem.run_bind, Sem.run_pure, Result.andThen_ok, h w hw]
  exact ⟨rfl, rfl⟩
end
def litI : DataW Unit → Int
  | .lit (.int _ n) => n
  | _ => 0
/-- What place answers. -/
def plE (G : Gr) (x : Hh) : Nat := (placeG G x).getD 0
def plV (G : Gr) (x : Hh) : Value := .tuple #[.int .i64 (plE G x : Int), .bool (placeG G x).isSome]
theorem look_place {w : World} {base : Nat} {m : GrM} {G : Gr} (h : GrOk w base m) (hg : GrIs m G) (x : Hh) : (Instr.lookup 56 (.map (some m.mb)) (.agg (hC x).toArray) true).run Tryd.prog w = .ok (plV G x) w := by
  have hm := h.map
  rw [hg.ks, hg.ids] at hm
  obtain ⟨hh, ha⟩ := mapD_place hg.ok x
  obtain ⟨v, ps, hr, hv⟩ := hm.look_ok hLaw Tryd.underlying56 (Tryd.zeroValue3 w) (zd := .lit (.int .i64 0)) (zp := []) (plainElem_int Tryd.underlying3 (by decide)) (keyOf_h x)
  obtain ⟨c, rfl, hc, _⟩ := plainElem_int_inv Tryd.underlying3 hv
  rw [hr, hh]
  have h2 : (mapD (G.map NodeG.id)).atKey (hKey x) (.lit (.int .i64 0)) = .lit (.int .i64 c) := congrArg Prod.fst hc
  have h3 : (DataW.lit (.int .i64 (plE G x : Int)) : DataW Unit) = .lit (.int .i64 c) := by
    rw [← h2, ha]
    unfold plE
    cases placeG G x <;> rfl
  have h4 : (plE G x : Int) = c := congrArg litI h3
  unfold plV
  rw [h4]
theorem GrOk.drew {w : World} {base : Nat} {m : GrM} (h : GrOk w base m) (q : Nat) : GrOk (w.drewN q) base m := h.later ⟨rfl, rfl, rfl, Nat.le_refl _, fun _ _ => rfl⟩
set_option maxRecDepth 100000 in
set_option maxHeartbeats 1000000 in
theorem place_any (w : World) (base : Nat) (m : GrM) (G : Gr) (h : GrOk w base m) (hg : GrIs m G) (x : Hh) : Calls Tryd.prog 37 #[.pointer (some ⟨m.q, 0, none⟩), .agg (hC x).toArray] w fun e w' => e = .returned (plV G x) ∧ Below w.heap.size w w' := by
  have h1 := h.later (nxAlloc (nxRefl w) (.cells (hC x).toArray 23))
  have H1 := Lib.hid h1
  have b0 : Blk (w.alloc (.cells (hC x).toArray 23)) w.heap.size 23 (hC x).toArray := heap_alloc_new w _
  have V0 : Hid (Below w.heap.size w (w.alloc (.cells (hC x).toArray 23))) := nxAlloc (nxRefl w) _
  have R0 : Hid ((w.alloc (.cells (hC x).toArray 23)).rangeAt w.heap.size 0 (hC x)) := fun j v hv => by rw [Nat.zero_add, b0.cell j]; simpa using hv
  have Z0 : Hid ((Tryd.prog.info? 23).map (·.size) = some (hC x).length) := by show _ = _; rw [hC_len]; exact Tryd.dsizeH
  have HL : Hid (∀ q, (Instr.lookup 56 (.map (some m.mb)) (.agg (hC x).toArray) true).run Tryd.prog ((w.alloc (.cells (hC x).toArray 23)).drewN q) = .ok (plV G x) ((w.alloc (.cells (hC x).toArray 23)).drewN q)) := fun q => look_place (h1.drew q) hg x
  have hc : (w.alloc (.cells (hC x).toArray 23)).cell? ⟨m.q, 2, none⟩ = some (.map (some m.mb)) := h1.b.cell 2
  have hil : 0 < m.ids.length := by rw [hg.ilen]; exact hg.ne
  have HIL := Lib.hid hil
  clear h1 b0 h hil
  go_enter Tryd.func37, Tryd.ntmps37
  go_wp2_with (go_at_call 46; refine (isMade_any _ base m H1.out HIL.out).mono ?_; rintro e1 w1 ⟨rfl, hw1⟩; obtain rfl := hw1.symm)
  generalize w.alloc (.cells (hC x).toArray 23) = W at *
  refine wp_region_quiet_lit (by kernel_rfl) (by kernel_rfl) ?_
  repeat (go_big_quiet_step (fail))
  go_big_quiet_want
  refine quiet_load_mid 23 (.tmp 3) rfl w.heap.size 0 rfl (hC x) _ (fun w' hw' => by obtain ⟨q, rfl⟩ := hw'; exact R0.out) Tryd.underlying23 rfl Z0.out ?_
  go_big_quiet_on
  try simp only [Act.put, List.setIfInBounds_toArray, List.set_cons_zero, List.set_cons_succ]
  repeat (go_big_quiet_step (fail))
  go_big_quiet_want
  refine quiet_lookup 56 _ _ _ rfl _ _ rfl rfl (plV G x) (fun w' hw' => by obtain ⟨q, rfl⟩ := hw'; exact HL.out q) ?_
  unfold plV
  go_big_quiet_on
  try simp only [Act.put, List.setIfInBounds_toArray, List.set_cons_zero, List.set_cons_succ]
  repeat (go_big_quiet_step (fail))
  refine wpQuiet_nil ?_
  intro _ hw'
  obtain ⟨nq, rfl⟩ := hw'
  go_wp2
  go_ret2
  exact ⟨rfl, V0.out.os, V0.out.tape, V0.out.output, V0.out.size, V0.out.block⟩
set_option maxRecDepth 100000 in
theorem has2_any (w : World) (base : Nat) (m : GrM) (G : Gr) (h : GrOk w base m) (hg : GrIs m G) (x : Hh) : Calls Tryd.prog 28 #[.pointer (some ⟨m.q, 0, none⟩), .agg (hC x).toArray] w fun e w' => e = .returned (.bool (placeG G x).isSome) ∧ Below w.heap.size w w' := by
  have V0 : Hid (Below w.heap.size w (w.alloc (.cells (hC x).toArray 23))) := nxAlloc (nxRefl w) _
  have H1 := Lib.hid (h.later V0.out)
  have b0 : Blk (w.alloc (.cells (hC x).toArray 23)) w.heap.size 23 (hC x).toArray := heap_alloc_new w _
  have R0 : Hid ((w.alloc (.cells (hC x).toArray 23)).rangeAt w.heap.size 0 (hC x)) := fun j v hv => by rw [Nat.zero_add, b0.cell j]; simpa using hv
  have Z0 : Hid ((Tryd.prog.info? 23).map (·.size) = some (hC x).length) := by show _ = _; rw [hC_len]; exact Tryd.dsizeH
  have HG := Lib.hid hg
  clear b0 h hg
  go_enter Tryd.func28, Tryd.ntmps28
  go_wp2_with (first
    | ((with_reducible show wpList _ _ _ (⟨some 9, _, _, _, _, _⟩ :: _) _ _); refine wpList_load_mid rfl 23 (.tmp 3) rfl w.heap.size 0 rfl (hC x) _ R0.out Tryd.underlying23 rfl Z0.out ?_)
    | (go_at_call 37; refine (place_any _ base m G H1.out HG.out x).mono ?_; unfold plV; rintro e1 w1 ⟨rfl, hw1⟩; have V1 : Hid (Below w.heap.size w w1) := nxTo V0.out hw1; clear hw1))
  go_ret
  exact ⟨rfl, V1.out⟩
theorem len_any (w : World) (base : Nat) (m : GrM) (h : GrOk w base m) (h0 : 0 < m.ids.length) : Calls Tryd.prog 20 #[.pointer (some ⟨m.q, 0, none⟩)] w fun e w' => e = .returned (.int .i64 (m.ids.length : Int)) ∧ w' = w := by
  have hc : w.cell? ⟨m.q, 0, none⟩ = some (.slice m.iA m.ids.length m.ic) := h.b.cell 0
  have H := Lib.hid h
  have H0 := Lib.hid h0
  clear h h0
  go_enter Tryd.func20, Tryd.ntmps20
  go_wp2_with (go_at_call 46; refine (isMade_any _ base m H.out H0.out).mono ?_; rintro e1 w1 ⟨rfl, hw1⟩; obtain rfl := hw1.symm)
  go_ret
  exact ⟨rfl, rfl⟩
theorem own_row {w : World} {base size n c : Nat} {e : TypeId} {A : Option Addr} {xs : List Value} (h : w.ownsRow base e size (.slice A n c) n xs) (h0 : 0 < xs.length) : ∃ g, A = some ⟨g, 0, none⟩ ∧ base ≤ g ∧ g < w.heap.size ∧ ∀ i v, xs[i]? = some v → w.cell? ⟨g, i, none⟩ = some v ∧ w.frozen? ⟨g, i, none⟩ = false := by
  have hl := h.1
  rcases h.2 with ⟨hv, hn⟩ | ⟨g, cap, cur, hv, hb, hh, hnc, hcm, hcs, ht⟩
  · subst hn; omega
  · have hg : Blk w g e cur := hh
    injection hv with hA _ _
    refine ⟨g, hA, hb, hg.lt, fun i v hi => ⟨?_, hg.frozen i⟩⟩
    obtain ⟨h1, h2⟩ := List.getElem?_eq_some_iff.1 hi
    rw [hg.cell i]
    have e1 : (cur.toList.take (n * size))[i]? = some v := by rw [ht]; exact hi
    rw [List.getElem?_take, if_pos (by omega)] at e1
    simpa using e1
/-- A hash of a graph's, in memory. -/
theorem ids_row {w : World} {base : Nat} {m : GrM} (h : GrOk w base m) {i : Nat} (hi : i < m.ids.length) : ∃ g, m.iA = some ⟨g, 0, none⟩ ∧ g < w.heap.size ∧ w.rangeAt g (i * 32) (hC m.ids[i]) := by
  obtain ⟨g, hA, _, hlt, hc⟩ := own_row h.ids (by rw [hsC_len]; omega)
  refine ⟨g, hA, hlt, fun j v hv => ?_⟩
  have hj : j < 32 := by have := (List.getElem?_eq_some_iff.1 hv).1; rw [hC_len] at this; exact this
  exact (hc (i * 32 + j) v (by rw [hsC_get _ _ _ hi hj]; exact hv)).1
theorem nds_cell {w : World} {base : Nat} {m : GrM} (h : GrOk w base m) {i : Nat} (hi : i < m.L.length) : ∃ g, m.nA = some ⟨g, 0, none⟩ ∧ g < w.heap.size ∧ w.cell? ⟨g, i * 3, none⟩ = some (.slice m.L[i].pA m.L[i].par.length m.L[i].pc) ∧ w.cell? ⟨g, i * 3 + 1, none⟩ = some (.slice m.L[i].kA m.L[i].kids.length m.L[i].kc) ∧ w.cell? ⟨g, i * 3 + 2, none⟩ = some (.slice m.L[i].rA m.L[i].row.length m.L[i].rc) := by
  obtain ⟨g, hA, _, hlt, hc⟩ := own_row h.nds (by rw [ndsC_len]; omega)
  exact ⟨g, hA, hlt, (hc (i * 3 + 0) _ (by rw [ndsC_get _ _ _ hi (by omega)]; rfl)).1, (hc (i * 3 + 1) _ (by rw [ndsC_get _ _ _ hi (by omega)]; rfl)).1, (hc (i * 3 + 2) _ (by rw [ndsC_get _ _ _ hi (by omega)]; rfl)).1⟩
def zH : Hh := ⟨zero32, rfl⟩
theorem hszB (x : Hh) : (Tryd.prog.info? 23).map (·.size) = some (hC x).toArray.size := by rw [List.size_toArray, hC_len]; exact Tryd.dsizeH
theorem hszL (x : Hh) : (Tryd.prog.info? 23).map (·.size) = some (hC x).length := by rw [hC_len]; exact Tryd.dsizeH
set_option maxRecDepth 100000 in
set_option maxHeartbeats 1000000 in
theorem root_any (w : World) (base : Nat) (m : GrM) (h : GrOk w base m) (h0 : 0 < m.ids.length) : Calls Tryd.prog 29 #[.pointer (some ⟨m.q, 0, none⟩)] w fun e w' => e = .returned (.agg (hC m.ids[0]).toArray) ∧ Below w.heap.size w w' := by
  have V0 : Hid (Below w.heap.size w (w.alloc (.cells (hC zH).toArray 23))) := nxAlloc (nxRefl w) _
  have H1 := h.later V0.out
  have B0 : Hid (Blk (w.alloc (.cells (hC zH).toArray 23)) w.heap.size 23 (hC zH).toArray) := heap_alloc_new w _
  obtain ⟨g, hA, hlt, hr⟩ := ids_row H1 h0
  have HR := Lib.hid hr
  have hc : (w.alloc (.cells (hC zH).toArray 23)).cell? ⟨m.q, 0, none⟩ = some (.slice m.iA m.ids.length m.ic) := H1.b.cell 0
  rw [hA] at hc
  obtain ⟨x, hx⟩ : ∃ x, m.ids[0] = x := ⟨_, rfl⟩
  have HM : ∀ W, GrOk W base m → Hid (Calls Tryd.prog 46 #[.pointer (some ⟨m.q, 0, none⟩)] W fun e w' => e = .returned (.bool true) ∧ w' = W) := fun W hW => isMade_any W base m hW h0
  have HI := HM _ H1
  rw [hx] at HR ⊢
  have Z1 := Lib.hid (hszL x)
  have Z2 := Lib.hid (hszB x)
  have H00 := Lib.hid h0
  clear h H1 hr hA hx HM h0
  generalize hk : m.ids.length = k at *
  have h00 : 0 < k := H00.out
  go_enter Tryd.func29, Tryd.ntmps29
  go_wp2_with (first
    | (go_at_call 46; refine HI.out.mono ?_; rintro e1 w1 ⟨rfl, hw1⟩; obtain rfl := hw1.symm)
    | ((with_reducible show wpList _ _ _ (⟨some 12, _, _, _, _, _⟩ :: _) _ _); refine wpList_load_mid rfl 23 (.tmp 11) rfl g 0 rfl (hC x) _ HR.out Tryd.underlying23 rfl Z1.out ?_)
    | ((with_reducible show wpList _ _ _ (⟨none, .store 23 _ _, _, _, _, _⟩ :: _) _ _); refine wpList_store_all rfl 23 (.tmp 2) (.tmp 12) rfl w.heap.size 23 (hC zH).toArray (hC x).toArray rfl rfl B0.out (by rw [List.size_toArray, List.size_toArray, hC_len, hC_len]) Z2.out (hC_one x) ?_; intro w5 h5 h6 h7; have H5 := Lib.hid h5; have Hb5 : Hid (Below w.heap.size w w5) := V0.out.trans (h6.below V0.out.size (fun k hk => by omega)); clear h5 h6 h7))
  refine bodyPost_ret (results_cell_row Tryd.results29 _ _ w.heap.size 23 _ (0, 0) _ rfl H5.out Tryd.underlying23 rfl Z2.out) rfl ⟨rfl, Hb5.out⟩
/-- What Before answers. -/
noncomputable def befB (G : Gr) (a b : Hh) : Bool := match placeG G a, placeG G b with
  | some m, some n => @decide (Anc G m n) (Classical.propDecidable _)
  | _, _ => false
theorem has_of {m : GrM} {G : Gr} (hg : GrIs m G) {n : Nat} (hn : n < m.L.length) (k : Nat) : rowB m.L[n].row k = @decide (Anc G k n) (Classical.propDecidable _) := by
  rw [Bool.eq_iff_iff, (hg.row n hn).2.2 k]
  exact (@decide_eq_true_iff _ (Classical.propDecidable _)).symm
set_option maxRecDepth 100000 in
set_option maxHeartbeats 1000000 in
theorem before_any (w : World) (base : Nat) (m : GrM) (G : Gr) (h : GrOk w base m) (hg : GrIs m G) (a b : Hh) : Calls Tryd.prog 14 #[.pointer (some ⟨m.q, 0, none⟩), .agg (hC a).toArray, .agg (hC b).toArray] w fun e w' => e = .returned (.bool (befB G a b)) ∧ Below w.heap.size w w' := by
  have V0 : Hid (Below w.heap.size w ((w.alloc (.cells (hC a).toArray 23)).alloc (.cells (hC b).toArray 23))) := nxAlloc (nxAlloc (nxRefl w) _) _
  have H1 := Lib.hid (h.later V0.out)
  have b0 : Blk ((w.alloc (.cells (hC a).toArray 23)).alloc (.cells (hC b).toArray 23)) w.heap.size 23 (hC a).toArray := (Blk.alloc (heap_alloc_new w _) _)
  have b1 : Blk ((w.alloc (.cells (hC a).toArray 23)).alloc (.cells (hC b).toArray 23)) (w.heap.size + 1) 23 (hC b).toArray := blkNew (by simp) rfl
  have R0 : Hid (((w.alloc (.cells (hC a).toArray 23)).alloc (.cells (hC b).toArray 23)).rangeAt w.heap.size 0 (hC a)) := fun j v hv => by rw [Nat.zero_add, b0.cell j]; simpa using hv
  have R1 : Hid (((w.alloc (.cells (hC a).toArray 23)).alloc (.cells (hC b).toArray 23)).rangeAt (w.heap.size + 1) 0 (hC b)) := fun j v hv => by rw [Nat.zero_add, b1.cell j]; simpa using hv
  have Z0 := Lib.hid (hszL a)
  have Z1 := Lib.hid (hszL b)
  have HG := Lib.hid hg
  have hlt1 : Hid (w.heap.size + 1 < ((w.alloc (.cells (hC a).toArray 23)).alloc (.cells (hC b).toArray 23)).heap.size) := b1.lt
  clear b0 b1 h
  unfold befB
  cases hpa : placeG G a with
  | none =>
    have hva : plV G a = .tuple #[.int .i64 0, .bool false] := by unfold plV plE; rw [hpa]; rfl
    obtain ⟨vb, zb, hvb⟩ : ∃ vb zb, plV G b = .tuple #[.int .i64 vb, .bool zb] := ⟨_, _, rfl⟩
    have HA := Lib.hid hva
    have HB := Lib.hid hvb
    clear hva hvb hpa
    simp only
    go_enter Tryd.func14, Tryd.ntmps14
    cases zb <;>
    · go_wp2_with (first
        | ((with_reducible show wpList _ _ _ (⟨some 13, _, _, _, _, _⟩ :: _) _ _); refine wpList_load_mid rfl 23 (.tmp 4) rfl w.heap.size 0 rfl (hC a) _ R0.out Tryd.underlying23 rfl Z0.out ?_)
        | (go_at_call 37; (with_reducible show Calls _ _ #[_, .agg (hC a).toArray] _ _); refine (place_any _ base m G H1.out HG.out a).mono ?_; rw [HA.out]; rintro e1 w1 ⟨rfl, hw1⟩; have V1 : Hid (Below w.heap.size w w1) := nxTo V0.out hw1; have R2 := Lib.hid (rngK R1.out hw1 hlt1.out); have H2 := Lib.hid (H1.out.later hw1); clear hw1)
        | ((with_reducible show wpList _ _ _ (⟨some 19, _, _, _, _, _⟩ :: _) _ _); refine wpList_load_mid rfl 23 (.tmp 5) rfl (w.heap.size + 1) 0 rfl (hC b) _ R2.out Tryd.underlying23 rfl Z1.out ?_)
        | (go_at_call 37; (with_reducible show Calls _ _ #[_, .agg (hC b).toArray] _ _); refine (place_any _ base m G H2.out HG.out b).mono ?_; rw [HB.out]; rintro e1 w2 ⟨rfl, hw2⟩; have V2 : Hid (Below w.heap.size w w2) := nxTo V1.out hw2; clear hw2))
      go_ret
      exact ⟨rfl, V2.out⟩
  | some i =>
    obtain ⟨hi1, hi2⟩ := placeG_some hpa
    have hva : plV G a = .tuple #[.int .i64 (i : Int), .bool true] := by unfold plV plE; rw [hpa]; rfl
    cases hpb : placeG G b with
    | none =>
      have hvb : plV G b = .tuple #[.int .i64 0, .bool false] := by unfold plV plE; rw [hpb]; rfl
      have HA := Lib.hid hva
      have HB := Lib.hid hvb
      clear hva hvb hpa hpb hi1 hi2
      simp only
      go_enter Tryd.func14, Tryd.ntmps14
      go_wp2_with (first
        | ((with_reducible show wpList _ _ _ (⟨some 13, _, _, _, _, _⟩ :: _) _ _); refine wpList_load_mid rfl 23 (.tmp 4) rfl w.heap.size 0 rfl (hC a) _ R0.out Tryd.underlying23 rfl Z0.out ?_)
        | (go_at_call 37; (with_reducible show Calls _ _ #[_, .agg (hC a).toArray] _ _); refine (place_any _ base m G H1.out HG.out a).mono ?_; rw [HA.out]; rintro e1 w1 ⟨rfl, hw1⟩; have V1 : Hid (Below w.heap.size w w1) := nxTo V0.out hw1; have R2 := Lib.hid (rngK R1.out hw1 hlt1.out); have H2 := Lib.hid (H1.out.later hw1); clear hw1)
        | ((with_reducible show wpList _ _ _ (⟨some 19, _, _, _, _, _⟩ :: _) _ _); refine wpList_load_mid rfl 23 (.tmp 5) rfl (w.heap.size + 1) 0 rfl (hC b) _ R2.out Tryd.underlying23 rfl Z1.out ?_)
        | (go_at_call 37; (with_reducible show Calls _ _ #[_, .agg (hC b).toArray] _ _); refine (place_any _ base m G H2.out HG.out b).mono ?_; rw [HB.out]; rintro e1 w2 ⟨rfl, hw2⟩; have V2 : Hid (Below w.heap.size w w2) := nxTo V1.out hw2; clear hw2))
      go_ret
      exact ⟨rfl, V2.out⟩
    | some j =>
      obtain ⟨hj1, hj2⟩ := placeG_some hpb
      have hvb : plV G b = .tuple #[.int .i64 (j : Int), .bool true] := by unfold plV plE; rw [hpb]; rfl
      have hjl : j < m.L.length := by rw [hg.len]; exact hj1
      have HA := Lib.hid hva
      have HB := Lib.hid hvb
      have HR := Lib.hid (has_of hg hjl i)
      have HSm := Lib.hid (hg.row j hjl).2.1
      have HIb : Hid (i ≤ 1000000000000) := by have h1 := hg.max; have h2 := hg.len; show _ ≤ _; omega
      have hmx := hg.max
      simp only
      obtain ⟨z, hz⟩ : ∃ z, @decide (Anc G i j) (Classical.propDecidable _) = z := ⟨_, rfl⟩
      rw [hz] at HR ⊢
      clear hva hvb hpa hpb hi1 hi2 hj1 hj2 hz hg
      go_enter Tryd.func14, Tryd.ntmps14
      go_wp2_with (first
        | ((with_reducible show wpList _ _ _ (⟨some 13, _, _, _, _, _⟩ :: _) _ _); refine wpList_load_mid rfl 23 (.tmp 4) rfl w.heap.size 0 rfl (hC a) _ R0.out Tryd.underlying23 rfl Z0.out ?_)
        | (go_at_call 37; (with_reducible show Calls _ _ #[_, .agg (hC a).toArray] _ _); refine (place_any _ base m G H1.out HG.out a).mono ?_; rw [HA.out]; rintro e1 w1 ⟨rfl, hw1⟩; have V1 : Hid (Below w.heap.size w w1) := nxTo V0.out hw1; have R2 := Lib.hid (rngK R1.out hw1 hlt1.out); have H2 := Lib.hid (H1.out.later hw1); clear hw1)
        | ((with_reducible show wpList _ _ _ (⟨some 19, _, _, _, _, _⟩ :: _) _ _); refine wpList_load_mid rfl 23 (.tmp 5) rfl (w.heap.size + 1) 0 rfl (hC b) _ R2.out Tryd.underlying23 rfl Z1.out ?_)
        | (go_at_call 37; (with_reducible show Calls _ _ #[_, .agg (hC b).toArray] _ _); refine (place_any _ base m G H2.out HG.out b).mono ?_; rw [HB.out]; rintro e1 w2 ⟨rfl, hw2⟩; have V2 : Hid (Below w.heap.size w w2) := nxTo V1.out hw2; obtain ⟨gn, hnA, _, _, _, hc2⟩ := nds_cell (H2.out.later hw2) hjl; have hcn := ((H2.out.later hw2).b.cell 1); rw [hnA] at hcn; have HS := Lib.hid ((H2.out.later hw2).row _ (List.getElem_mem hjl)); clear hw2 hnA)
        | (go_at_call 38; refine (has_any _ _ _ _ i HS.out HSm.out HIb.out).mono ?_; rw [HR.out]; rintro e1 w3 ⟨rfl, hw3⟩; obtain rfl := hw3.symm))
      go_ret
      exact ⟨rfl, V2.out⟩
end Go.Proofs.YtndkjmmmneianaaDoor
