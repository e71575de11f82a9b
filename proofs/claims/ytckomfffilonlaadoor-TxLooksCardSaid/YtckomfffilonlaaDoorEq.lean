/-
  '==' of two arrays of bytes.
-/
import Derived.Test.YtckomfffilonlaaDoorWords
namespace Go.Proofs.YtckomfffilonlaaDoor
open Go.RowKit

section
variable {P : Program} {w : World}
theorem run_part_byte {e : TypeId} (he : P.underlying e = some (.int .u8)) (xs : Array Value) (j : Nat) (v : Value) (h : xs[j]? = some v) : (part e xs j).run P w = .ok v w := by
  have hagg : (isAgg e).run P w = .ok false w := by
    unfold isAgg
    rw [Sem.run_bind, run_underlying he w]
    simp
  simp [part, Sem.run_bind, hagg, h]

theorem run_eq_loop {e : TypeId} (he : P.underlying e = some (.int .u8)) (d : Nat) (xs ys : Array Value) : ∀ (a b : List UInt8) (s : Nat), a.length = b.length →
    (∀ j (h : j < a.length), xs[s + j]? = some (.int .u8 (a[j].toNat : Int))) → (∀ j (h : j < b.length), ys[s + j]? = some (.int .u8 (b[j].toNat : Int))) →
    Sem.run P (forIn (List.range' s a.length) ((none, ()) : Option Bool × Unit) fun i _ => do
      let x ← part e xs (i * 1)
      let y ← part e ys (i * 1)
      let r ← Op.equalIn (d + 1) e x y
      if (!r) = true then pure (ForInStep.done (some false, ())) else pure (ForInStep.yield (none, ()))) w = .ok (if a == b then (none, ()) else (some false, ())) w := by
  intro a
  induction a with
  | nil =>
    intro b s hl _ _
    have : b = [] := List.eq_nil_of_length_eq_zero (by simpa using hl.symm)
    subst this
    simp
  | cons x a ih =>
    intro b s hl hx hy
    cases b with
    | nil => simp at hl
    | cons y b =>
      have hx0 := run_part_byte (P := P) (w := w) he xs s _ (hx 0 (by simp))
      have hy0 := run_part_byte (P := P) (w := w) he ys s _ (hy 0 (by simp))
      simp only [List.getElem_cons_zero] at hx0 hy0
      have hi := ih b (s + 1) (by simpa using hl) (fun j h => by have := hx (j + 1) (by simpa using h); rw [show s + 1 + j = s + (j + 1) by omega]; simpa using this)
        (fun j h => by have := hy (j + 1) (by simpa using h); rw [show s + 1 + j = s + (j + 1) by omega]; simpa using this)
      simp only [List.length_cons, List.range'_succ, List.forIn_cons, Sem.run_bind, Nat.mul_one, hx0, hy0, Result.andThen_ok, run_equalIn_int w d e .u8 .u8 _ _ he]
      by_cases hxy : x = y
      · subst hxy
        simp only [beq_self_eq_true, Bool.not_true, Bool.false_eq_true, if_false, Sem.run_pure, Result.andThen_ok, List.cons_beq_cons, Bool.true_and]
        simpa only [Nat.mul_one] using hi
      · have hne : ((x.toNat : Int) == (y.toNat : Int)) = false := by
          rw [beq_eq_false_iff_ne]
          intro h
          exact hxy (UInt8.toNat_inj.1 (by omega))
        have hne2 : (x == y) = false := beq_eq_false_iff_ne.2 hxy
        simp [hne, hne2]

/-- '==' of two arrays of bytes. -/
theorem run_equalIn_bytes (d n : Nat) (t e : TypeId) (ht : P.underlying t = some (.array n e)) (he : P.underlying e = some (.int .u8)) (hs : (P.info? e).map (·.size) = some 1)
    (a b : List UInt8) (ha : a.length = n) (hb : b.length = n) : (Op.equalIn (d + 2) t (.agg (By a).toArray) (.agg (By b).toArray)).run P w = .ok (a == b) w := by
  have hsz : (sizeOf e).run P w = .ok 1 w := by
    cases hq : P.info? e with
    | none => simp [hq] at hs
    | some i => simp [hq] at hs; simp [sizeOf, typeInfo, hq, hs]
  have hl := run_eq_loop (P := P) (w := w) he d (By a).toArray (By b).toArray a b 0 (by omega) (fun j h => by simp [By, h]) (fun j h => by simp [By, h])
  show (Op.equalIn ((d + 1) + 1) t (.agg (By a).toArray) (.agg (By b).toArray)).run P w = .ok (a == b) w
  generalize d + 1 = d' at *
  simp only [Op.equalIn, Sem.run_bind, run_underlying ht, Result.andThen_ok, hsz]
  rw [Std.Legacy.Range.forIn_eq_forIn_range']
  simp only [Std.Legacy.Range.size, Nat.sub_zero, Nat.add_sub_cancel, Nat.div_one]
  rw [← ha]
  rw [hl]
  by_cases h : a = b
  · simp [h]
  · simp [h]

theorem run_eql_bytes (n : Nat) (t e : TypeId) (ht : P.underlying t = some (.array n e)) (he : P.underlying e = some (.int .u8)) (hs : (P.info? e).map (·.size) = some 1)
    (a b : List UInt8) (ha : a.length = n) (hb : b.length = n) : (binOp .eql t (.agg (By a).toArray) (.agg (By b).toArray)).run P w = .ok (.bool (a == b)) w := by
  rw [run_eql_struct, run_equalIn_bytes 9998 n t e ht he hs a b ha hb]
  rfl
theorem run_neq_bytes (n : Nat) (t e : TypeId) (ht : P.underlying t = some (.array n e)) (he : P.underlying e = some (.int .u8)) (hs : (P.info? e).map (·.size) = some 1)
    (a b : List UInt8) (ha : a.length = n) (hb : b.length = n) : (binOp .neq t (.agg (By a).toArray) (.agg (By b).toArray)).run P w = .ok (.bool (!(a == b))) w := by
  rw [run_neq_struct, run_equalIn_bytes 9998 n t e ht he hs a b ha hb]
  rfl
end

end Go.Proofs.YtckomfffilonlaaDoor
