/-
  Cells of a block that are set one behind the other.
-/
import Derived.Test.YtndkjmmmneianaaDoorWords
namespace Go.Proofs.YtndkjmmmneianaaDoor
open Go.RowKit

def setMany : Array Value → Nat → List Value → Array Value
  | cs, _, [] => cs
  | cs, o, v :: vs => setMany (cs.setIfInBounds o v) (o + 1) vs
theorem setMany_cons (cs : Array Value) (o : Nat) (v : Value) (vs : List Value) : setMany cs o (v :: vs) = setMany (cs.setIfInBounds o v) (o + 1) vs := rfl
theorem setMany_size (vs : List Value) : ∀ (cs : Array Value) (o : Nat), (setMany cs o vs).size = cs.size := by
  induction vs with
  | nil => intros; rfl
  | cons v vs ih => intro cs o; rw [setMany_cons, ih, Array.size_setIfInBounds]
theorem setMany_get (vs : List Value) : ∀ (cs : Array Value) (o j : Nat), (j < o ∨ o + vs.length ≤ j) → (setMany cs o vs)[j]? = cs[j]? := by
  induction vs with
  | nil => intros; rfl
  | cons v vs ih =>
    intro cs o j h
    rw [List.length_cons] at h
    rw [setMany_cons, ih _ _ _ (by omega), Array.getElem?_setIfInBounds, if_neg (by omega)]
theorem setMany_in (vs : List Value) : ∀ (cs : Array Value) (o : Nat), o + vs.length ≤ cs.size → ∀ j (hj : j < vs.length), (setMany cs o vs)[o + j]? = some vs[j] := by
  induction vs with
  | nil => intro cs o _ j hj; cases hj
  | cons v vs ih =>
    intro cs o h j hj
    rw [List.length_cons] at h hj
    rw [setMany_cons]
    cases j with
    | zero => rw [setMany_get _ _ _ _ (by omega), Array.getElem?_setIfInBounds]; simp; omega
    | succ j =>
      have h1 := ih (cs.setIfInBounds o v) (o + 1) (by rw [Array.size_setIfInBounds]; omega) j (by omega)
      rw [show o + 1 + j = o + (j + 1) by omega] at h1
      rw [h1]
      rfl
theorem blk_setCells {g : Nat} {t : TypeId} (vs : List Value) : ∀ (w : World) (cs : Array Value) (o : Nat), Blk w g t cs → Blk (w.setCells g o vs) g t (setMany cs o vs) := by
  induction vs with
  | nil => intro w cs o h; exact h
  | cons v vs ih => intro w cs o h; exact ih _ _ _ (h.set o v)
theorem keeps_setCells {g : Nat} (vs : List Value) : ∀ (w : World) (o : Nat), Keeps (· = g) w (w.setCells g o vs) := by
  induction vs with
  | nil => intro w o; exact Keeps.refl _ _
  | cons v vs ih => intro w o; exact ((Keeps.refl (· = g) w).setCell rfl v).trans (ih _ _)
theorem take_of_get {cs : Array Value} {xs : List Value} (h : xs.length ≤ cs.size) (hg : ∀ j (hj : j < xs.length), cs[j]? = some xs[j]) : cs.toList.take xs.length = xs := by
  apply List.ext_getElem
  · rw [List.length_take]
    have h5 : cs.toList.length = cs.size := Array.length_toList
    omega
  · intro i h1 h2
    have h3 := hg i h2
    rw [List.getElem_take, Array.getElem_toList]
    rw [Array.getElem?_eq_getElem (Nat.lt_of_lt_of_le h2 h)] at h3
    exact Option.some.inj h3
end Go.Proofs.YtndkjmmmneianaaDoor
