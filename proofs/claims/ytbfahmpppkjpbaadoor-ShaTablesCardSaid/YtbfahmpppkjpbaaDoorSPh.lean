/-
  What the walk of ShaParts leans on.
-/
import Derived.Test.YtbfahmpppkjpbaaDoorRoot2
import Derived.Test.YtbfahmpppkjpbaaDoorRPs
import Derived.Test.YtbfahmpppkjpbaaDoorSum
import Derived.Test.YtbfahmpppkjpbaaDoorEq
import Derived.Deep.RegionHeldLaw
namespace Go.Proofs.YtbfahmpppkjpbaaDoor
open Go.RowKit

/-- The i-th word of the start, and of the constants; of none 0. -/
def stOf (i : Int) : W32 := if 0 ≤ i ∧ i < 8 then startL.getD i.toNat 0 else 0
def coOf (i : Int) : W32 := if 0 ≤ i ∧ i < 64 then kL.getD i.toNat 0 else 0
theorem startI_any (w : World) (i : Int) : Calls Tryd.prog 17 #[.int .i64 i] w fun e w' => e = .returned (.int .u32 ((stOf i).toNat : Int)) ∧ Below w.heap.size w w' := by
  by_cases h : 0 ≤ i ∧ i < 8
  · rw [stOf, if_pos h]
    have e : ((i.toNat : Nat) : Int) = i := by omega
    have := start_any w i.toNat (by omega)
    rw [e] at this
    exact this
  · rw [stOf, if_neg h]
    refine (start_none w i (by omega)).mono ?_
    rintro e w' ⟨rfl, rfl⟩
    exact ⟨rfl, Below.refl _ _⟩
theorem constI_any (w : World) (i : Int) : Calls Tryd.prog 16 #[.int .i64 i] w fun e w' => e = .returned (.int .u32 ((coOf i).toNat : Int)) ∧ Below w.heap.size w w' := by
  by_cases h : 0 ≤ i ∧ i < 64
  · rw [coOf, if_pos h]
    have e : ((i.toNat : Nat) : Int) = i := by omega
    have := const_any w i.toNat (by omega)
    rw [e] at this
    exact this
  · rw [coOf, if_neg h]
    refine (const_none w i (by omega)).mono ?_
    rintro e w' ⟨rfl, rfl⟩
    exact ⟨rfl, Below.refl _ _⟩
theorem rng_words {w : World} {g : Nat} {t : TypeId} {l : List W32} (hb : Blk w g t (Wd l).toArray) : w.rangeAt g 0 (Wd l) := by
  intro j v hv
  rw [Nat.zero_add, hb.cell j]
  simpa using hv
theorem rng_bytes {w : World} {g : Nat} {t : TypeId} {l : List UInt8} (hb : Blk w g t (By l).toArray) : w.rangeAt g 0 (By l) := by
  intro j v hv
  rw [Nat.zero_add, hb.cell j]
  simpa using hv

theorem held_of {w : World} {g g' : Nat} {t t' : TypeId} {s : S8} {blk : List UInt8} (h : Blk w g t (Wd s.list).toArray) (h' : Blk w g' t' (By blk).toArray) :
    w.rangeAt g' 0 (By blk) ∧ w.cell? ⟨g, 0, none⟩ = some (.int .u32 (s.a.toNat : Int)) ∧ w.cell? ⟨g, 1, none⟩ = some (.int .u32 (s.b.toNat : Int)) ∧ w.cell? ⟨g, 2, none⟩ = some (.int .u32 (s.c.toNat : Int)) ∧ w.cell? ⟨g, 3, none⟩ = some (.int .u32 (s.d.toNat : Int)) ∧ w.cell? ⟨g, 4, none⟩ = some (.int .u32 (s.e.toNat : Int)) ∧ w.cell? ⟨g, 5, none⟩ = some (.int .u32 (s.f.toNat : Int)) ∧ w.cell? ⟨g, 6, none⟩ = some (.int .u32 (s.g.toNat : Int)) ∧ w.cell? ⟨g, 7, none⟩ = some (.int .u32 (s.h.toNat : Int)) :=
  ⟨rng_bytes h', blk_word h 0 (by simp [S8.list]), blk_word h 1 (by simp [S8.list]), blk_word h 2 (by simp [S8.list]), blk_word h 3 (by simp [S8.list]), blk_word h 4 (by simp [S8.list]), blk_word h 5 (by simp [S8.list]), blk_word h 6 (by simp [S8.list]), blk_word h 7 (by simp [S8.list])⟩
theorem run_loadS_b {w : World} {g : Nat} {t : TypeId} {s : S8} (hb : Blk w g t (Wd s.list).toArray) : (loadS (.pointer (some ⟨g, 0, none⟩))).run Tryd.prog w = .ok (.value (.agg (Wd s.list).toArray)) w := by
  unfold loadS
  simp only [Sem.run_bind, run_loadAt_mid w g 0 64 (Wd s.list) _ (rng_words hb) Tryd.underlying64 rfl Tryd.w8size, Result.andThen_ok, Sem.run_pure]
theorem run_loadK_b {w : World} {g : Nat} {t : TypeId} {blk : List UInt8} (hb : Blk w g t (By blk).toArray) (h : blk.length = 64) : (loadK (.pointer (some ⟨g, 0, none⟩))).run Tryd.prog w = .ok (.value (.agg (By blk).toArray)) w := by
  unfold loadK
  simp only [Sem.run_bind, run_loadAt_mid w g 0 65 (By blk) _ (rng_bytes hb) Tryd.underlying65 rfl (by rw [By_length, h]; exact Tryd.b64size), Result.andThen_ok, Sem.run_pure]
theorem run_part_word {P : Program} {w : World} {e : TypeId} (he : P.underlying e = some (.int .u32)) (xs : Array Value) (j : Nat) (v : Value) (h : xs[j]? = some v) : (part e xs j).run P w = .ok v w := by
  have hagg : (isAgg e).run P w = .ok false w := by
    unfold isAgg
    rw [Sem.run_bind, run_underlying he w]
    simp
  simp [part, Sem.run_bind, hagg, h]
theorem run_eq_self {P : Program} {w : World} {e : TypeId} (he : P.underlying e = some (.int .u32)) (d : Nat) (xs : Array Value) : ∀ (a : List W32) (s : Nat),
    (∀ j (h : j < a.length), xs[s + j]? = some (.int .u32 (a[j].toNat : Int))) →
    Sem.run P (forIn (List.range' s a.length) ((none, ()) : Option Bool × Unit) fun i _ => do
      let x ← part e xs (i * 1)
      let y ← part e xs (i * 1)
      let r ← Op.equalIn (d + 1) e x y
      if (!r) = true then pure (ForInStep.done (some false, ())) else pure (ForInStep.yield (none, ()))) w = .ok (none, ()) w := by
  intro a
  induction a with
  | nil => intro s _; simp
  | cons x a ih =>
    intro s hx
    have hx0 := run_part_word (P := P) (w := w) he xs s _ (hx 0 (by simp))
    simp only [List.getElem_cons_zero] at hx0
    have hi := ih (s + 1) (fun j h => by have := hx (j + 1) (by simpa using h); rw [show s + 1 + j = s + (j + 1) by omega]; simpa using this)
    simp only [List.length_cons, List.range'_succ, List.forIn_cons, Sem.run_bind, Nat.mul_one, hx0, Result.andThen_ok, run_equalIn_int w d e .u32 .u32 _ _ he]
    simp only [beq_self_eq_true, Bool.not_true, Bool.false_eq_true, if_false, Sem.run_pure, Result.andThen_ok]
    simpa only [Nat.mul_one] using hi
theorem run_eql8 (r : S8) (wq : World) : (binOp .eql 64 (.agg (Wd r.list).toArray) (.agg (Wd r.list).toArray)).run Tryd.prog wq = .ok (.bool true) wq := by
  have hsz : (sizeOf 34).run Tryd.prog wq = .ok 1 wq := by
    have hs := Tryd.u32size
    cases hq : Tryd.prog.info? 34 with
    | none => simp [hq] at hs
    | some i => simp [hq] at hs; simp [sizeOf, typeInfo, hq, hs]
  have hl := run_eq_self (P := Tryd.prog) (w := wq) Tryd.underlying34 9998 (Wd r.list).toArray r.list 0 (fun j h => by rw [List.getElem?_toArray, Nat.zero_add, Wd_get _ _ h])
  have hl' : r.list.length = 8 := rfl
  rw [hl'] at hl
  rw [run_eql_struct]
  have h : (Op.equalIn (9998 + 2) 64 (.agg (Wd r.list).toArray) (.agg (Wd r.list).toArray)).run Tryd.prog wq = .ok true wq := by
    generalize (Wd r.list).toArray = xs at *
    show (Op.equalIn ((9998 + 1) + 1) 64 (.agg xs) (.agg xs)).run Tryd.prog wq = .ok true wq
    generalize (9998 : Nat) + 1 = d' at *
    simp only [Op.equalIn, Sem.run_bind, run_underlying Tryd.underlying64, Result.andThen_ok, hsz]
    rw [Std.Legacy.Range.forIn_eq_forIn_range']
    simp only [Std.Legacy.Range.size, Nat.sub_zero, Nat.add_sub_cancel, Nat.div_one]
    rw [hl]
    simp
  rw [h]
  rfl

end Go.Proofs.YtbfahmpppkjpbaaDoor
