/-
  '==' of two arrays of bytes. · Quiet regions: whole arrays loaded, and compared.
-/
import Derived.Test.YtndkjmmmneianaaDoorWords
import Derived.Test.YtndkjmmmneianaaDoorVals
import Derived.BigQuiet
import Derived.Deep.MidRow
namespace Go.Proofs.YtndkjmmmneianaaDoor
open Go.RowKit

section
variable {P : Program} {w : World}
theorem run_part_byte {e : TypeId} (he : P.underlying e = some (.int .u8)) (xs : Array Value) (j : Nat) (v : Value) (h : xs[j]? = some v) : (part e xs j).run P w = .ok v w := by
  have hagg : (isAgg e).run P w = .ok false w := by
    unfold isAgg
    rw [Sem.run_bind, run_underlying he w]
    simp
  simp [part, Sem.run_bind, hagg, h]

theorem run_eq_loop {e : TypeId} (he : P.underlying e = some (.int .u8)) (d : Nat) (xs ys : Array Value) : ∀ (a b : List UInt8) (s : Nat), a.length = b.length →
    (∀ j (h : j < a.length), xs[s + j]? = some (.int .u8 (a[j].toNat : Int))) → (∀ j (h : j < b.length), ys[s + j]? = some (.int .u8 (b[j].toNat : Int))) →
    Sem.run P (forIn (List.range' s a.length) ((none, ()) : Option Bool × Unit) fun i _ => do
      let x ← part e xs (i * 1)
      let y ← part e ys (i * 1)
      let r ← Op.equalIn (d + 1) e x y
      if (!r) = true then pure (ForInStep.done (some false, ())) else pure (ForInStep.yield (none, ()))) w = .ok (if a == b then (none, ()) else (some false, ())) w := by
  intro a
  induction a with
  | nil =>
    intro b s hl _ _
    have : b = [] := List.eq_nil_of_length_eq_zero (by simpa using hl.symm)
    subst this
    simp
  | cons x a ih =>
    intro b s hl hx hy
    cases b with
    | nil => simp at hl
    | cons y b =>
      have hx0 := run_part_byte (P := P) (w := w) he xs s _ (hx 0 (by simp))
      have hy0 := run_part_byte (P := P) (w := w) he ys s _ (hy 0 (by simp))
      simp only [List.getElem_cons_zero] at hx0 hy0
      have hi := ih b (s + 1) (by simpa using hl) (fun j h => by have := hx (j + 1) (by simpa using h); rw [show s + 1 + j = s + (j + 1) by omega]; simpa using this)
        (fun j h => by have := hy (j + 1) (by simpa using h); rw [show s + 1 + j = s + (j + 1) by omega]; simpa using this)
      simp only [List.length_cons, List.range'_succ, List.forIn_cons, Sem.run_bind, Nat.mul_one, hx0, hy0, Result.andThen_ok, run_equalIn_int w d e .u8 .u8 _ _ he]
      by_cases hxy : x = y
      · subst hxy
        simp only [beq_self_eq_true, Bool.not_true, Bool.false_eq_true, if_false, Sem.run_pure, Result.andThen_ok, List.cons_beq_cons, Bool.true_and]
        simpa only [Nat.mul_one] using hi
      · have hne : ((x.toNat : Int) == (y.toNat : Int)) = false := by
          rw [beq_eq_false_iff_ne]
          intro h
          exact hxy (UInt8.toNat_inj.1 (by omega))
        have hne2 : (x == y) = false := beq_eq_false_iff_ne.2 hxy
        simp [hne, hne2]

/-- '==' of two arrays of bytes. -/
theorem run_equalIn_bytes (d n : Nat) (t e : TypeId) (ht : P.underlying t = some (.array n e)) (he : P.underlying e = some (.int .u8)) (hs : (P.info? e).map (·.size) = some 1)
    (a b : List UInt8) (ha : a.length = n) (hb : b.length = n) : (Op.equalIn (d + 2) t (.agg (By a).toArray) (.agg (By b).toArray)).run P w = .ok (a == b) w := by
  have hsz : (sizeOf e).run P w = .ok 1 w := by
    cases hq : P.info? e with
    | none => simp [hq] at hs
    | some i => simp [hq] at hs; simp [sizeOf, typeInfo, hq, hs]
  have hl := run_eq_loop (P := P) (w := w) he d (By a).toArray (By b).toArray a b 0 (by omega) (fun j h => by simp [By, h]) (fun j h => by simp [By, h])
  show (Op.equalIn ((d + 1) + 1) t (.agg (By a).toArray) (.agg (By b).toArray)).run P w = .ok (a == b) w
  generalize d + 1 = d' at *
  simp only [Op.equalIn, Sem.run_bind, run_underlying ht, Result.andThen_ok, hsz]
  rw [Std.Legacy.Range.forIn_eq_forIn_range']
  simp only [Std.Legacy.Range.size, Nat.sub_zero, Nat.add_sub_cancel, Nat.div_one]
  rw [← ha]
  rw [hl]
  by_cases h : a = b
  · simp [h]
  · simp [h]

theorem run_eql_bytes (n : Nat) (t e : TypeId) (ht : P.underlying t = some (.array n e)) (he : P.underlying e = some (.int .u8)) (hs : (P.info? e).map (·.size) = some 1)
    (a b : List UInt8) (ha : a.length = n) (hb : b.length = n) : (binOp .eql t (.agg (By a).toArray) (.agg (By b).toArray)).run P w = .ok (.bool (a == b)) w := by
  rw [run_eql_struct, run_equalIn_bytes 9998 n t e ht he hs a b ha hb]
  rfl
theorem run_neq_bytes (n : Nat) (t e : TypeId) (ht : P.underlying t = some (.array n e)) (he : P.underlying e = some (.int .u8)) (hs : (P.info? e).map (·.size) = some 1)
    (a b : List UInt8) (ha : a.length = n) (hb : b.length = n) : (binOp .neq t (.agg (By a).toArray) (.agg (By b).toArray)).run P w = .ok (.bool (!(a == b))) w := by
  rw [run_neq_struct, run_equalIn_bytes 9998 n t e ht he hs a b ha hb]
  rfl
end

end Go.Proofs.YtndkjmmmneianaaDoor
namespace Go.Proofs.YtndkjmmmneianaaDoor
open Go.RowKit

theorem hs_same {xs ys : List (List UInt8)} {k : Nat} (hl : xs.length = ys.length) (hk : k < xs.length) (hne : xs[k] ≠ ys[k]) : (xs == ys) = false := by
  rw [beq_eq_false_iff_ne]
  intro e
  subst e
  exact hne rfl

section
variable {P : Program}
theorem quiet_load_mid {C : World → Prop} {op : Oper} {a : Act} {K : Act → Prop} (ty : TypeId) (x : Operand) (ho : op.op = .load ty x)
    (b o : Nat) (hx : a.eval x = .pointer (some ⟨b, o, none⟩)) (cs : List Value) (d : TypeDesc) (hS : ∀ w, C w → w.rangeAt b o cs)
    (hu : P.underlying ty = some d) (hd : d.isRow = true) (hi : (P.info? ty).map (·.size) = some cs.length) (hk : K (a.put op.dst (.agg cs.toArray))) : op.quiet P a C K := by
  refine ⟨_, fun w hw => ?_, hk⟩
  unfold Oper.quietAt execOp
  simp only [ho, hx, Instr.loadAt, Instr.sureAddr, Sem.run_bind, Sem.run_pure, Result.andThen_ok, run_loadVar_mid w b o ty cs d (hS w hw) hu hd hi]
  exact ⟨rfl, rfl⟩
theorem quiet_neq_bytes {C : World → Prop} {op : Oper} {a : Act} {K : Act → Prop} (t e : TypeId) (x y : Operand) (ho : op.op = .binOp .neq t x y t) (n : Nat) (ht : P.underlying t = some (.array n e)) (he : P.underlying e = some (.int .u8)) (hs : (P.info? e).map (·.size) = some 1) (hg : P.eqGuardType P.depth t = false)
    (l k : List UInt8) (hl : l.length = n) (hk : k.length = n) (hx : a.eval x = .agg (By l).toArray) (hy : a.eval y = .agg (By k).toArray) (h : K (a.put op.dst (.bool (!(l == k))))) : op.quiet P a C K := by
  refine ⟨_, fun w hw => ?_, h⟩
  unfold Oper.quietAt execOp
  have hq : (eqGuard .neq t x y (.agg (By l).toArray) (.agg (By k).toArray)).run P w = .ok () w := by simp [eqGuard, hg]
  simp only [ho, hx, hy, Sem.run_bind, Sem.run_pure, Result.andThen_ok, hq, run_neq_bytes n t e ht he hs l k hl hk]
  exact ⟨rfl, rfl⟩
end

end Go.Proofs.YtndkjmmmneianaaDoor
