/-
  A hash of noughts; how many cells a byte and a hash take.
  '==' of two arrays of bytes. · Quiet regions: whole arrays loaded, and compared.
  dag: whether a graph is there; places.
-/
import Derived.Test.YtbfpckomgpkjgaaGreatChecked
import Derived.Test.YtbfpckomgpkjgaaGreatPRnQ3
import Derived.KernelRfl
import Derived.Test.YtbfpckomgpkjgaaGreatVals
import Derived.BigQuiet
import Derived.Deep.MidRow
import Derived.Test.YtbfpckomgpkjgaaGreatDg4
import Derived.Test.YtbfpckomgpkjgaaGreatPRnQ5
namespace Go.Proofs.YtbfpckomgpkjgaaGreat
open Go.RowKit

def zero32 : List UInt8 := List.replicate 32 0
theorem zero32_cells : (By zero32).toArray = #[.int .u8 0, .int .u8 0, .int .u8 0, .int .u8 0, .int .u8 0, .int .u8 0, .int .u8 0, .int .u8 0, .int .u8 0, .int .u8 0, .int .u8 0, .int .u8 0, .int .u8 0, .int .u8 0, .int .u8 0, .int .u8 0, .int .u8 0, .int .u8 0, .int .u8 0, .int .u8 0, .int .u8 0, .int .u8 0, .int .u8 0, .int .u8 0, .int .u8 0, .int .u8 0, .int .u8 0, .int .u8 0, .int .u8 0, .int .u8 0, .int .u8 0, .int .u8 0] := rfl
theorem Tryz.u8size : (Tryz.prog.info? 5).map (·.size) = some 1 := by kernel_rfl
theorem Tryz.hsize : (Tryz.prog.info? 23).map (·.size) = some 32 := by kernel_rfl
end Go.Proofs.YtbfpckomgpkjgaaGreat

namespace Go.Proofs.YtbfpckomgpkjgaaGreat
open Go.RowKit

section
variable {P : Program} {w : World}
theorem run_part_byte {e : TypeId} (he : P.underlying e = some (.int .u8)) (xs : Array Value) (j : Nat) (v : Value) (h : xs[j]? = some v) : (part e xs j).run P w = .ok v w := by
  have hagg : (isAgg e).run P w = .ok false w := by
    unfold isAgg
    rw [Sem.run_bind, run_underlying he w]
    simp
  simp [part, Sem.run_bind, hagg, h]

theorem run_eq_loop {e : TypeId} (he : P.underlying e = some (.int .u8)) (d : Nat) (xs ys : Array Value) : ∀ (a b : List UInt8) (s : Nat), a.length = b.length →
    (∀ j (h : j < a.length), xs[s + j]? = some (.int .u8 (a[j].toNat : Int))) → (∀ j (h : j < b.length), ys[s + j]? = some (.int .u8 (b[j].toNat : Int))) →
    Sem.run P (forIn (List.range' s a.length) ((none, ()) : Option Bool × Unit) fun i _ => do
      let x ← part e xs (i * 1)
      let y ← part e ys (i * 1)
      let r ← Op.equalIn (d + 1) e x y
      if (!r) = true then pure (ForInStep.done (some false, ())) else pure (ForInStep.yield (none, ()))) w = .ok (if a == b then (none, ()) else (some false, ())) w := by
  intro a
  induction a with
  | nil =>
    intro b s hl _ _
    have : b = [] := List.eq_nil_of_length_eq_zero (by simpa using hl.symm)
    subst this
    simp
  | cons x a ih =>
    intro b s hl hx hy
    cases b with
    | nil => simp at hl
    | cons y b =>
      have hx0 := run_part_byte (P := P) (w := w) he xs s _ (hx 0 (by simp))
      have hy0 := run_part_byte (P := P) (w := w) he ys s _ (hy 0 (by simp))
      simp only [List.getElem_cons_zero] at hx0 hy0
      have hi := ih b (s + 1) (by simpa using hl) (fun j h => by have := hx (j + 1) (by simpa using h); rw [show s + 1 + j = s + (j + 1) by omega]; simpa using this)
        (fun j h => by have := hy (j + 1) (by simpa using h); rw [show s + 1 + j = s + (j + 1) by omega]; simpa using this)
      simp only [List.length_cons, List.range'_succ, List.forIn_cons, Sem.run_bind, Nat.mul_one, hx0, hy0, Result.andThen_ok, run_equalIn_int w d e .u8 .u8 _ _ he]
      by_cases hxy : x = y
      · subst hxy
        simp only [beq_self_eq_true, Bool.not_true, Bool.false_eq_true, if_false, Sem.run_pure, Result.andThen_ok, List.cons_beq_cons, Bool.true_and]
        simpa only [Nat.mul_one] using hi
      · have hne : ((x.toNat : Int) == (y.toNat : Int)) = false := by
          rw [beq_eq_false_iff_ne]
          intro h
          exact hxy (UInt8.toNat_inj.1 (by omega))
        have hne2 : (x == y) = false := beq_eq_false_iff_ne.2 hxy
        simp [hne, hne2]

/-- '==' of two arrays of bytes. -/
theorem run_equalIn_bytes (d n : Nat) (t e : TypeId) (ht : P.underlying t = some (.array n e)) (he : P.underlying e = some (.int .u8)) (hs : (P.info? e).map (·.size) = some 1)
    (a b : List UInt8) (ha : a.length = n) (hb : b.length = n) : (Op.equalIn (d + 2) t (.agg (By a).toArray) (.agg (By b).toArray)).run P w = .ok (a == b) w := by
  have hsz : (sizeOf e).run P w = .ok 1 w := by
    cases hq : P.info? e with
    | none => simp [hq] at hs
    | some i => simp [hq] at hs; simp [sizeOf, typeInfo, hq, hs]
  have hl := run_eq_loop (P := P) (w := w) he d (By a).toArray (By b).toArray a b 0 (by omega) (fun j h => by simp [By, h]) (fun j h => by simp [By, h])
  show (Op.equalIn ((d + 1) + 1) t (.agg (By a).toArray) (.agg (By b).toArray)).run P w = .ok (a == b) w
  generalize d + 1 = d' at *
  simp only [Op.equalIn, Sem.run_bind, run_underlying ht, Result.andThen_ok, hsz]
  rw [Std.Legacy.Range.forIn_eq_forIn_range']
  simp only [Std.Legacy.Range.size, Nat.sub_zero, Nat.add_sub_cancel, Nat.div_one]
  rw [← ha]
  rw [hl]
  by_cases h : a = b
  · simp [h]
  · simp [h]

theorem run_eql_bytes (n : Nat) (t e : TypeId) (ht : P.underlying t = some (.array n e)) (he : P.underlying e = some (.int .u8)) (hs : (P.info? e).map (·.size) = some 1)
    (a b : List UInt8) (ha : a.length = n) (hb : b.length = n) : (binOp .eql t (.agg (By a).toArray) (.agg (By b).toArray)).run P w = .ok (.bool (a == b)) w := by
  rw [run_eql_struct, run_equalIn_bytes 9998 n t e ht he hs a b ha hb]
  rfl
theorem run_neq_bytes (n : Nat) (t e : TypeId) (ht : P.underlying t = some (.array n e)) (he : P.underlying e = some (.int .u8)) (hs : (P.info? e).map (·.size) = some 1)
    (a b : List UInt8) (ha : a.length = n) (hb : b.length = n) : (binOp .neq t (.agg (By a).toArray) (.agg (By b).toArray)).run P w = .ok (.bool (!(a == b))) w := by
  rw [run_neq_struct, run_equalIn_bytes 9998 n t e ht he hs a b ha hb]
  rfl
end

end Go.Proofs.YtbfpckomgpkjgaaGreat
namespace Go.Proofs.YtbfpckomgpkjgaaGreat
open Go.RowKit

theorem hs_same {xs ys : List (List UInt8)} {k : Nat} (hl : xs.length = ys.length) (hk : k < xs.length) (hne : xs[k] ≠ ys[k]) : (xs == ys) = false := by
  rw [beq_eq_false_iff_ne]
  intro e
  subst e
  exact hne rfl

section
variable {P : Program}
theorem quiet_load_mid {C : World → Prop} {op : Oper} {a : Act} {K : Act → Prop} (ty : TypeId) (x : Operand) (ho : op.op = .load ty x)
    (b o : Nat) (hx : a.eval x = .pointer (some ⟨b, o, none⟩)) (cs : List Value) (d : TypeDesc) (hS : ∀ w, C w → w.rangeAt b o cs)
    (hu : P.underlying ty = some d) (hd : d.isRow = true) (hi : (P.info? ty).map (·.size) = some cs.length) (hk : K (a.put op.dst (.agg cs.toArray))) : op.quiet P a C K := by
  refine ⟨_, fun w hw => ?_, hk⟩
  unfold Oper.quietAt execOp
  simp only [ho, hx, Instr.loadAt, Instr.sureAddr, Sem.run_bind, Sem.run_pure, Result.andThen_ok, run_loadVar_mid w b o ty cs d (hS w hw) hu hd hi]
  exact ⟨rfl, rfl⟩
theorem quiet_neq_bytes {C : World → Prop} {op : Oper} {a : Act} {K : Act → Prop} (t e : TypeId) (x y : Operand) (ho : op.op = .binOp .neq t x y t) (n : Nat) (ht : P.underlying t = some (.array n e)) (he : P.underlying e = some (.int .u8)) (hs : (P.info? e).map (·.size) = some 1) (hg : P.eqGuardType P.depth t = false)
    (l k : List UInt8) (hl : l.length = n) (hk : k.length = n) (hx : a.eval x = .agg (By l).toArray) (hy : a.eval y = .agg (By k).toArray) (h : K (a.put op.dst (.bool (!(l == k))))) : op.quiet P a C K := by
  refine ⟨_, fun w hw => ?_, h⟩
  unfold Oper.quietAt execOp
  have hq : (eqGuard .neq t x y (.agg (By l).toArray) (.agg (By k).toArray)).run P w = .ok () w := by simp [eqGuard, hg]
  simp only [ho, hx, hy, Sem.run_bind, Sem.run_pure, Result.andThen_ok, hq, run_neq_bytes n t e ht he hs l k hl hk]
  exact ⟨rfl, rfl⟩
end

end Go.Proofs.YtbfpckomgpkjgaaGreat

namespace Go.Proofs.YtbfpckomgpkjgaaGreat
open Go.RowKit Go.Maps

theorem isMade_any (w : World) (base : Nat) (m : GrM) (h : GrOk w base m) (h0 : 0 < m.ids.length) : Calls Tryz.prog 66 #[.pointer (some ⟨m.q, 0, none⟩)] w fun e w' => e = .returned (.bool true) ∧ w' = w := by
  have hc : w.cell? ⟨m.q, 0, none⟩ = some (.slice m.iA m.ids.length m.ic) := h.b.cell 0
  clear h
  obtain ⟨k, hk⟩ : ∃ k, m.ids.length = k := ⟨_, rfl⟩
  rw [hk] at hc h0
  clear hk
  go_enter Tryz.func66, Tryz.ntmps66
  go_wp2
  go_ret
  exact ⟨rfl, rfl⟩
theorem rngK {w w' : World} {B b o : Nat} {cs : List Value} (h : w.rangeAt b o cs) (hb : Below B w w') (hlt : b < B) : w'.rangeAt b o cs := fun j v hv => (hb.cell (p := ⟨b, o + j, none⟩) hlt).trans (h j v hv)
section
variable {P : Program}
theorem quiet_lookup {C : World → Prop} {op : Oper} {a : Act} {K : Act → Prop} (t : TypeId) (m x : Operand) (c : Bool) (ho : op.op = .lookup t m x c) (vm vx : Value) (hm : a.eval m = vm) (hx : a.eval x = vx) (v : Value) (h : ∀ w, C w → (Instr.lookup t vm vx c).run P w = .ok v w) (hk : K (a.put op.dst v)) : op.quiet P a C K := by
  refine ⟨_, fun w hw => ?_, hk⟩
  unfold Oper.quietAt execOp
  simp only [ho, hm, hx, Sem.run_bind, Sem.run_pure, Result.andThen_ok, h w hw]
  exact ⟨rfl, rfl⟩
end
def litI : DataW Unit → Int
  | .lit (.int _ n) => n
  | _ => 0
/-- What place answers. -/
def plE (G : Gr) (x : Hh) : Nat := (placeG G x).getD 0
def plV (G : Gr) (x : Hh) : Value := .tuple #[.int .i64 (plE G x : Int), .bool (placeG G x).isSome]
theorem look_place {w : World} {base : Nat} {m : GrM} {G : Gr} (h : GrOk w base m) (hg : GrIs m G) (x : Hh) : (Instr.lookup 60 (.map (some m.mb)) (.agg (hC x).toArray) true).run Tryz.prog w = .ok (plV G x) w := by
  have hm := h.map
  rw [hg.ks, hg.ids] at hm
  obtain ⟨hh, ha⟩ := mapD_place hg.ok x
  obtain ⟨v, ps, hr, hv⟩ := hm.look_ok hLaw Tryz.underlying60 (Tryz.zeroValue3 w) (zd := .lit (.int .i64 0)) (zp := []) (plainElem_int Tryz.underlying3 (by decide)) (keyOf_h x)
  obtain ⟨c, rfl, hc, _⟩ := plainElem_int_inv Tryz.underlying3 hv
  rw [hr, hh]
  have h2 : (mapD (G.map NodeG.id)).atKey (hKey x) (.lit (.int .i64 0)) = .lit (.int .i64 c) := congrArg Prod.fst hc
  have h3 : (DataW.lit (.int .i64 (plE G x : Int)) : DataW Unit) = .lit (.int .i64 c) := by
    rw [← h2, ha]
    unfold plE
    cases placeG G x <;> rfl
  have h4 : (plE G x : Int) = c := congrArg litI h3
  unfold plV
  rw [h4]
theorem GrOk.drew {w : World} {base : Nat} {m : GrM} (h : GrOk w base m) (q : Nat) : GrOk (w.drewN q) base m := h.later ⟨rfl, rfl, rfl, Nat.le_refl _, fun _ _ => rfl⟩
set_option maxRecDepth 100000 in
set_option maxHeartbeats 1000000 in
theorem place_any (w : World) (base : Nat) (m : GrM) (G : Gr) (h : GrOk w base m) (hg : GrIs m G) (x : Hh) : Calls Tryz.prog 83 #[.pointer (some ⟨m.q, 0, none⟩), .agg (hC x).toArray] w fun e w' => e = .returned (plV G x) ∧ Below w.heap.size w w' := by
  have h1 := h.later (nxAlloc (nxRefl w) (.cells (hC x).toArray 23))
  have H1 := Lib.hid h1
  have b0 : Blk (w.alloc (.cells (hC x).toArray 23)) w.heap.size 23 (hC x).toArray := heap_alloc_new w _
  have V0 : Hid (Below w.heap.size w (w.alloc (.cells (hC x).toArray 23))) := nxAlloc (nxRefl w) _
  have R0 : Hid ((w.alloc (.cells (hC x).toArray 23)).rangeAt w.heap.size 0 (hC x)) := fun j v hv => by rw [Nat.zero_add, b0.cell j]; simpa using hv
  have Z0 : Hid ((Tryz.prog.info? 23).map (·.size) = some (hC x).length) := by show _ = _; rw [hC_len]; exact Tryz.dsizeH
  have HL : Hid (∀ q, (Instr.lookup 60 (.map (some m.mb)) (.agg (hC x).toArray) true).run Tryz.prog ((w.alloc (.cells (hC x).toArray 23)).drewN q) = .ok (plV G x) ((w.alloc (.cells (hC x).toArray 23)).drewN q)) := fun q => look_place (h1.drew q) hg x
  have hc : (w.alloc (.cells (hC x).toArray 23)).cell? ⟨m.q, 2, none⟩ = some (.map (some m.mb)) := h1.b.cell 2
  have hil : 0 < m.ids.length := by rw [hg.ilen]; exact hg.ne
  have HIL := Lib.hid hil
  clear h1 b0 h hil
  go_enter Tryz.func83, Tryz.ntmps83
  go_wp2_with (go_at_call 66; refine (isMade_any _ base m H1.out HIL.out).mono ?_; rintro e1 w1 ⟨rfl, hw1⟩; obtain rfl := hw1.symm)
  generalize w.alloc (.cells (hC x).toArray 23) = W at *
  refine wp_region_quiet_lit (by kernel_rfl) (by kernel_rfl) ?_
  repeat (go_big_quiet_step (fail))
  go_big_quiet_want
  refine quiet_load_mid 23 (.tmp 3) rfl w.heap.size 0 rfl (hC x) _ (fun w' hw' => by obtain ⟨q, rfl⟩ := hw'; exact R0.out) Tryz.underlying23 rfl Z0.out ?_
  go_big_quiet_on
  try simp only [Act.put, List.setIfInBounds_toArray, List.set_cons_zero, List.set_cons_succ]
  repeat (go_big_quiet_step (fail))
  go_big_quiet_want
  refine quiet_lookup 60 _ _ _ rfl _ _ rfl rfl (plV G x) (fun w' hw' => by obtain ⟨q, rfl⟩ := hw'; exact HL.out q) ?_
  unfold plV
  go_big_quiet_on
  try simp only [Act.put, List.setIfInBounds_toArray, List.set_cons_zero, List.set_cons_succ]
  repeat (go_big_quiet_step (fail))
  refine wpQuiet_nil ?_
  intro _ hw'
  obtain ⟨nq, rfl⟩ := hw'
  go_wp2
  go_ret2
  exact ⟨rfl, V0.out.os, V0.out.tape, V0.out.output, V0.out.size, V0.out.block⟩
set_option maxRecDepth 100000 in
theorem has2_any (w : World) (base : Nat) (m : GrM) (G : Gr) (h : GrOk w base m) (hg : GrIs m G) (x : Hh) : Calls Tryz.prog 79 #[.pointer (some ⟨m.q, 0, none⟩), .agg (hC x).toArray] w fun e w' => e = .returned (.bool (placeG G x).isSome) ∧ Below w.heap.size w w' := by
  have V0 : Hid (Below w.heap.size w (w.alloc (.cells (hC x).toArray 23))) := nxAlloc (nxRefl w) _
  have H1 := Lib.hid (h.later V0.out)
  have b0 : Blk (w.alloc (.cells (hC x).toArray 23)) w.heap.size 23 (hC x).toArray := heap_alloc_new w _
  have R0 : Hid ((w.alloc (.cells (hC x).toArray 23)).rangeAt w.heap.size 0 (hC x)) := fun j v hv => by rw [Nat.zero_add, b0.cell j]; simpa using hv
  have Z0 : Hid ((Tryz.prog.info? 23).map (·.size) = some (hC x).length) := by show _ = _; rw [hC_len]; exact Tryz.dsizeH
  have HG := Lib.hid hg
  clear b0 h hg
  go_enter Tryz.func79, Tryz.ntmps79
  go_wp2_with (first
    | ((with_reducible show wpList _ _ _ (⟨some 9, _, _, _, _, _⟩ :: _) _ _); refine wpList_load_mid rfl 23 (.tmp 3) rfl w.heap.size 0 rfl (hC x) _ R0.out Tryz.underlying23 rfl Z0.out ?_)
    | (go_at_call 83; refine (place_any _ base m G H1.out HG.out x).mono ?_; unfold plV; rintro e1 w1 ⟨rfl, hw1⟩; have V1 : Hid (Below w.heap.size w w1) := nxTo V0.out hw1; clear hw1))
  go_ret
  exact ⟨rfl, V1.out⟩
theorem len_any (w : World) (base : Nat) (m : GrM) (h : GrOk w base m) (h0 : 0 < m.ids.length) : Calls Tryz.prog 35 #[.pointer (some ⟨m.q, 0, none⟩)] w fun e w' => e = .returned (.int .i64 (m.ids.length : Int)) ∧ w' = w := by
  have hc : w.cell? ⟨m.q, 0, none⟩ = some (.slice m.iA m.ids.length m.ic) := h.b.cell 0
  have H := Lib.hid h
  have H0 := Lib.hid h0
  clear h h0
  go_enter Tryz.func35, Tryz.ntmps35
  go_wp2_with (go_at_call 66; refine (isMade_any _ base m H.out H0.out).mono ?_; rintro e1 w1 ⟨rfl, hw1⟩; obtain rfl := hw1.symm)
  go_ret
  exact ⟨rfl, rfl⟩
theorem own_row {w : World} {base size n c : Nat} {e : TypeId} {A : Option Addr} {xs : List Value} (h : w.ownsRow base e size (.slice A n c) n xs) (h0 : 0 < xs.length) : ∃ g, A = some ⟨g, 0, none⟩ ∧ base ≤ g ∧ g < w.heap.size ∧ ∀ i v, xs[i]? = some v → w.cell? ⟨g, i, none⟩ = some v ∧ w.frozen? ⟨g, i, none⟩ = false := by
  have hl := h.1
  rcases h.2 with ⟨hv, hn⟩ | ⟨g, cap, cur, hv, hb, hh, hnc, hcm, hcs, ht⟩
  · subst hn; omega
  · have hg : Blk w g e cur := hh
    injection hv with hA _ _
    refine ⟨g, hA, hb, hg.lt, fun i v hi => ⟨?_, hg.frozen i⟩⟩
    obtain ⟨h1, h2⟩ := List.getElem?_eq_some_iff.1 hi
    rw [hg.cell i]
    have e1 : (cur.toList.take (n * size))[i]? = some v := by rw [ht]; exact hi
    rw [List.getElem?_take, if_pos (by omega)] at e1
    simpa using e1
/-- A hash of a graph's, in memory. -/
theorem ids_row {w : World} {base : Nat} {m : GrM} (h : GrOk w base m) {i : Nat} (hi : i < m.ids.length) : ∃ g, m.iA = some ⟨g, 0, none⟩ ∧ g < w.heap.size ∧ w.rangeAt g (i * 32) (hC m.ids[i]) := by
  obtain ⟨g, hA, _, hlt, hc⟩ := own_row h.ids (by rw [hsC_len]; omega)
  refine ⟨g, hA, hlt, fun j v hv => ?_⟩
  have hj : j < 32 := by have := (List.getElem?_eq_some_iff.1 hv).1; rw [hC_len] at this; exact this
  exact (hc (i * 32 + j) v (by rw [hsC_get _ _ _ hi hj]; exact hv)).1
theorem nds_cell {w : World} {base : Nat} {m : GrM} (h : GrOk w base m) {i : Nat} (hi : i < m.L.length) : ∃ g, m.nA = some ⟨g, 0, none⟩ ∧ g < w.heap.size ∧ w.cell? ⟨g, i * 3, none⟩ = some (.slice m.L[i].pA m.L[i].par.length m.L[i].pc) ∧ w.cell? ⟨g, i * 3 + 1, none⟩ = some (.slice m.L[i].kA m.L[i].kids.length m.L[i].kc) ∧ w.cell? ⟨g, i * 3 + 2, none⟩ = some (.slice m.L[i].rA m.L[i].row.length m.L[i].rc) := by
  obtain ⟨g, hA, _, hlt, hc⟩ := own_row h.nds (by rw [ndsC_len]; omega)
  exact ⟨g, hA, hlt, (hc (i * 3 + 0) _ (by rw [ndsC_get _ _ _ hi (by omega)]; rfl)).1, (hc (i * 3 + 1) _ (by rw [ndsC_get _ _ _ hi (by omega)]; rfl)).1, (hc (i * 3 + 2) _ (by rw [ndsC_get _ _ _ hi (by omega)]; rfl)).1⟩
def zH : Hh := ⟨zero32, rfl⟩
theorem hszB (x : Hh) : (Tryz.prog.info? 23).map (·.size) = some (hC x).toArray.size := by rw [List.size_toArray, hC_len]; exact Tryz.dsizeH
theorem hszL (x : Hh) : (Tryz.prog.info? 23).map (·.size) = some (hC x).length := by rw [hC_len]; exact Tryz.dsizeH
/-- What Before answers. -/
noncomputable def befB (G : Gr) (a b : Hh) : Bool := match placeG G a, placeG G b with
  | some m, some n => @decide (Anc G m n) (Classical.propDecidable _)
  | _, _ => false
theorem has_of {m : GrM} {G : Gr} (hg : GrIs m G) {n : Nat} (hn : n < m.L.length) (k : Nat) : rowB m.L[n].row k = @decide (Anc G k n) (Classical.propDecidable _) := by
  rw [Bool.eq_iff_iff, (hg.row n hn).2.2 k]
  exact (@decide_eq_true_iff _ (Classical.propDecidable _)).symm
end Go.Proofs.YtbfpckomgpkjgaaGreat
