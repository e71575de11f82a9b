/-
  tx: the program's Of.
-/
import Derived.Test.YtjcbihdhkaiidaaTr1
import Derived.Test.YtjcbihdhkaiidaaPBlQ4
namespace Go.Proofs.Ytjcbihdhkaiidaa
open Go.RowKit

/-- What Of answers. -/
def OfPost (w : World) (b : List UInt8) (e : Ending) (w' : World) : Prop :=
  ∃ t : TxR, e = .returned (.tuple #[.agg (txC t).toArray, .int .i64 (bif ofB b then 0 else 4)]) ∧ txP t = ofV b ∧ TxOk w' t ∧ Below w.heap.size w w'
def noT : TxR := ⟨none, 0, [], none, 0, [], 0⟩
/-- .. and what it answers lies in new memory: whatever is done to the old, it stays. -/
def OfPostK (w : World) (b : List UInt8) (e : Ending) (w' : World) : Prop :=
  ∃ t : TxR, e = .returned (.tuple #[.agg (txC t).toArray, .int .i64 (bif ofB b then 0 else 4)]) ∧ txP t = ofV b ∧ TxOk w' t ∧ Below w.heap.size w w' ∧ Kept (fun j => j < w.heap.size) w' (fun W => TxOk W t)
theorem noT_ok (w : World) : TxOk w noT where
  ins := .inl rfl
  each := fun i hi => by cases hi
  outs := .inl rfl
  eacho := fun o ho => by cases ho
  c := Nat.le_refl _
  d := Nat.le_refl _
  nonce := by decide
  mi := by decide
  mo := by decide
theorem txC_one (t : TxR) : ∀ v ∈ (txC t).toArray.toList, v.oneCell' = true := by
  intro v hv
  simp [txC] at hv
  rcases hv with rfl | rfl | rfl <;> rfl
theorem kept_below {g bt : Nat} {A : Option Addr} {n : Nat} {w w' W : World} (h : Below n W w) (k : Keeps (Stored g bt A) w w') (hn : n ≤ w.heap.size) (hg : n ≤ g) (hb : n ≤ bt) (hA : ∀ j, A.map (·.block) = some j → n ≤ j) : Below n W w' :=
  h.trans (k.below hn (fun j hj h' => by rcases h' with rfl | rfl | h'; omega; omega; have := hA j h'; omega))

end Go.Proofs.Ytjcbihdhkaiidaa
