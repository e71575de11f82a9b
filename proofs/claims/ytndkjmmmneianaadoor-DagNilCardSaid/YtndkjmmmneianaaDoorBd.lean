/-
  A struct of two parts that is written out (as in Tr1).
-/
import Derived.Test.YtndkjmmmneianaaDoorVals
import Derived.Laws.Tables
import Derived.Deep.RegionHeld
namespace Go.Proofs.YtndkjmmmneianaaDoor
open Go.RowKit

theorem foldl_put (off : Nat) (vs : List Value) : ∀ (k : Nat) (l : List Value), off + k + vs.length ≤ l.length →
    (vs.zipIdx k).foldl (fun (cs : Array Value) (p : Value × Nat) => cs.setIfInBounds (off + p.2) p.1) l.toArray = (l.take (off + k) ++ vs ++ l.drop (off + k + vs.length)).toArray := by
  induction vs with
  | nil => intro k l h; simp
  | cons v r ih =>
    intro k l h
    simp only [List.length_cons] at h
    rw [List.zipIdx_cons, List.foldl_cons, List.setIfInBounds_toArray, ih (k + 1) _ (by rw [List.length_set]; omega)]
    congr 1
    have h1 : (l.set (off + k) v).take (off + (k + 1)) = l.take (off + k) ++ [v] := by
      rw [← Nat.add_assoc, List.take_succ_eq_append_getElem (by rw [List.length_set]; omega), List.getElem_set_self, List.take_set_of_le (Nat.le_refl _)]
    have h2 : (l.set (off + k) v).drop (off + (k + 1) + r.length) = l.drop (off + k + (r.length + 1)) := by
      rw [List.drop_set_of_lt (by omega)]; congr 1; omega
    rw [h1, h2, List.append_assoc, List.append_assoc]; simp
theorem fill_pair (place : Nat → Option (Nat × Nat)) (z a b : List Value) (va vb : Value) (ha : va.cells = a.toArray) (hb : vb.cells = b.toArray) (h0 : place 0 = some (0, a.length)) (h1 : place 1 = some (a.length, b.length)) (hz : z.length = a.length + b.length) :
    Instr.fill place z.toArray [(0, va), (1, vb)] = some (a ++ b).toArray := by
  have f0 := foldl_put 0 a 0 z (by omega)
  simp only [Nat.zero_add, List.take_zero, List.nil_append] at f0
  have f1 := foldl_put a.length b 0 (a ++ z.drop a.length) (by rw [List.length_append, List.length_drop]; omega)
  have hd : (a ++ z.drop a.length).drop (a.length + b.length) = [] := List.drop_eq_nil_of_le (by rw [List.length_append, List.length_drop]; omega)
  rw [Nat.add_zero, List.take_append_of_le_length (Nat.le_refl _), List.take_length, hd, List.append_nil] at f1
  unfold Instr.fill
  simp only [h0, ha, Nat.zero_add, List.size_toArray]
  rw [if_neg (by simp; omega)]
  have e0 : ∀ (u : Array Value), u = a.toArray → (u.zipIdx.foldl (fun (cs : Array Value) (p : Value × Nat) => cs.setIfInBounds p.2 p.1) z.toArray) = (a ++ z.drop a.length).toArray := by
    intro u hu
    subst hu
    rw [← f0]
    simp
  rw [e0 _ rfl]
  unfold Instr.fill
  simp only [h1, hb, List.size_toArray]
  rw [if_neg (by simp; omega)]
  unfold Instr.fill
  rw [← f1]
  simp
theorem infoP {P : Program} {t : TypeId} {z : Value} {s b : Nat} (h : (P.info? t).map (fun i => (i.zero, i.size, i.bytes)) = some (some z, s, b)) : ∃ i, P.info? t = some i ∧ i.zero = some z ∧ i.size = s ∧ i.bytes = b := by
  cases hi : P.info? t with
  | none => rw [hi] at h; cases h
  | some i => rw [hi] at h; simp at h; exact ⟨i, rfl, h.1, h.2.1, h.2.2⟩
theorem built_struct {P : Program} {t : TypeId} {i0 : TypeInfo} {z : Value} {fs : Array Field} {places : List (Nat × Nat)} (hi : P.info? t = some i0) (hz : i0.zero = some z) (hu : P.underlying t = some (.struct fs))
    (hp : fs.toList.mapM (fun f => (P.info? f.type).map fun i => (f.offset, i.size)) = some places) (parts : List (Nat × Value)) : P.built t parts = Instr.fill (places.toArray[·]?) z.cells parts := by
  unfold Program.built
  simp only [hi, hu, hz, hp]
theorem yieldsIf_build2 {P : Program} {ops : Array Oper} {S : World → Prop} {o : Oper} {a : Act} (hw : Region.wanted o (yielded ops a.tmps) = true) (t : TypeId) (x y : Operand) (ho : o.op = .build t #[(0, x), (1, y)])
    (vx vy v : Value) (hx : a.eval x = vx) (hy : a.eval y = vy) (hr : ∀ wq, (Instr.build t #[(0, vx), (1, vy)]).run P wq = .ok v wq) : YieldsIf P ops S o v a :=
  .inl ⟨hw, fun w _ => by
    unfold execOp
    have e : (#[(0, x), (1, y)].map fun (p : Nat × Operand) => (p.1, a.eval p.2)) = #[(0, vx), (1, vy)] := by simp [hx, hy]
    simp only [ho, e, Sem.run_bind, hr, Result.andThen_ok]
    rfl⟩
end Go.Proofs.YtndkjmmmneianaaDoor
