/-
  A value stored into a part of a block.
  Cells of a block that are set one behind the other.
-/
import Derived.Test.YtndkjmmmneianaaDoorWords
namespace Go.Proofs.YtndkjmmmneianaaDoor
open Go.RowKit

section
variable {P : Program} {w : World}
/-- A value stored into a part of a block. -/
theorem run_storePartD (g o : Nat) (t ty : TypeId) (old cells : Array Value) (v : Value) (hv : v.cells = cells) (hg : Blk w g t old) (hs : o + cells.size ≤ old.size) (hi : (P.info? ty).map (·.size) = some cells.size) (h1 : ∀ u ∈ cells.toList, u.oneCell' = true) :
    ∃ w', (storeVar ty ⟨g, o, none⟩ v).run P w = .ok () w' ∧ Blk w' g t (old.toList.take o ++ cells.toList ++ old.toList.drop (o + cells.size)).toArray ∧ Keeps (· = g) w w' ∧ w'.heap.size = w.heap.size := by
  have hst := run_storeCells_at P g o t cells.toList 0 old w hg (by simp; omega) h1
  cases hq : P.info? ty with
  | none => simp [hq] at hi
  | some i =>
    have hsz : cells.size = i.size := by simp [hq] at hi; omega
    refine ⟨w.setRow g (old.toList.take o ++ cells.toList ++ old.toList.drop (o + cells.size)).toArray, ?_, setRow_heap w g _ _ t _ hg, ⟨rfl, rfl, rfl, by simp, fun k _ hk => setRow_other w g k _ (by exact hk)⟩, by simp⟩
    simp only [Nat.add_zero, Array.length_toList] at hst
    simp [storeVar, sizeOf, typeInfo, hq, hv, hsz] at hst ⊢
    exact hst
theorem wpList_store_partD {ops : Array Oper} {rest : List Oper} {op : Oper} {a : Act} {Q : Exit → Act → World → Prop} (hgd : op.guard = none) (ty : TypeId) (x y : Operand) (ho : op.op = .store ty x y)
    (g o : Nat) (t : TypeId) (old cells new : Array Value) (v : Value) (hx : a.eval x = .pointer (some ⟨g, o, none⟩)) (hy : a.eval y = v) (hv : v.cells = cells) (hg : Blk w g t old) (hs : o + cells.size ≤ old.size)
    (hi : (P.info? ty).map (·.size) = some cells.size) (h1 : ∀ u ∈ cells.toList, u.oneCell' = true) (hn : (old.toList.take o ++ cells.toList ++ old.toList.drop (o + cells.size)).toArray = new)
    (h : ∀ w', Blk w' g t new → Keeps (· = g) w w' → w'.heap.size = w.heap.size → wpList P ops Q rest (a.put op.dst undef) w') : wpList P ops Q (op :: rest) a w := by
  refine wpList_plain hgd fun _ hK => ?_
  obtain ⟨w', hr, h2, h3, h4⟩ := run_storePartD (P := P) g o t ty old cells v hv hg hs hi h1
  unfold Oper.wp execOp
  simp only [ho, hx, hy, Instr.storeAt, Instr.sureAddr, Sem.run_bind, Sem.run_pure, Result.andThen_ok, hr]
  exact hK _ _ (h w' (hn ▸ h2) h3 h4)
end
end Go.Proofs.YtndkjmmmneianaaDoor

namespace Go.Proofs.YtndkjmmmneianaaDoor
open Go.RowKit

def setMany : Array Value → Nat → List Value → Array Value
  | cs, _, [] => cs
  | cs, o, v :: vs => setMany (cs.setIfInBounds o v) (o + 1) vs
theorem setMany_cons (cs : Array Value) (o : Nat) (v : Value) (vs : List Value) : setMany cs o (v :: vs) = setMany (cs.setIfInBounds o v) (o + 1) vs := rfl
theorem setMany_size (vs : List Value) : ∀ (cs : Array Value) (o : Nat), (setMany cs o vs).size = cs.size := by
  induction vs with
  | nil => intros; rfl
  | cons v vs ih => intro cs o; rw [setMany_cons, ih, Array.size_setIfInBounds]
theorem setMany_get (vs : List Value) : ∀ (cs : Array Value) (o j : Nat), (j < o ∨ o + vs.length ≤ j) → (setMany cs o vs)[j]? = cs[j]? := by
  induction vs with
  | nil => intros; rfl
  | cons v vs ih =>
    intro cs o j h
    rw [List.length_cons] at h
    rw [setMany_cons, ih _ _ _ (by omega), Array.getElem?_setIfInBounds, if_neg (by omega)]
theorem setMany_in (vs : List Value) : ∀ (cs : Array Value) (o : Nat), o + vs.length ≤ cs.size → ∀ j (hj : j < vs.length), (setMany cs o vs)[o + j]? = some vs[j] := by
  induction vs with
  | nil => intro cs o _ j hj; cases hj
  | cons v vs ih =>
    intro cs o h j hj
    rw [List.length_cons] at h hj
    rw [setMany_cons]
    cases j with
    | zero => rw [setMany_get _ _ _ _ (by omega), Array.getElem?_setIfInBounds]; simp; omega
    | succ j =>
      have h1 := ih (cs.setIfInBounds o v) (o + 1) (by rw [Array.size_setIfInBounds]; omega) j (by omega)
      rw [show o + 1 + j = o + (j + 1) by omega] at h1
      rw [h1]
      rfl
theorem blk_setCells {g : Nat} {t : TypeId} (vs : List Value) : ∀ (w : World) (cs : Array Value) (o : Nat), Blk w g t cs → Blk (w.setCells g o vs) g t (setMany cs o vs) := by
  induction vs with
  | nil => intro w cs o h; exact h
  | cons v vs ih => intro w cs o h; exact ih _ _ _ (h.set o v)
theorem keeps_setCells {g : Nat} (vs : List Value) : ∀ (w : World) (o : Nat), Keeps (· = g) w (w.setCells g o vs) := by
  induction vs with
  | nil => intro w o; exact Keeps.refl _ _
  | cons v vs ih => intro w o; exact ((Keeps.refl (· = g) w).setCell rfl v).trans (ih _ _)
theorem take_of_get {cs : Array Value} {xs : List Value} (h : xs.length ≤ cs.size) (hg : ∀ j (hj : j < xs.length), cs[j]? = some xs[j]) : cs.toList.take xs.length = xs := by
  apply List.ext_getElem
  · rw [List.length_take]
    have h5 : cs.toList.length = cs.size := Array.length_toList
    omega
  · intro i h1 h2
    have h3 := hg i h2
    rw [List.getElem_take, Array.getElem_toList]
    rw [Array.getElem?_eq_getElem (Nat.lt_of_lt_of_le h2 h)] at h3
    exact Option.some.inj h3
end Go.Proofs.YtndkjmmmneianaaDoor
