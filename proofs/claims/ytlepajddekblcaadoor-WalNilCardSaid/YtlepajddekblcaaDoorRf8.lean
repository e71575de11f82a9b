/-
  disk: the document's own disk: Do.
-/
import Derived.Test.YtlepajddekblcaaDoorRf7
namespace Go.Proofs.YtlepajddekblcaaDoor
open Go.RowKit

theorem RPost.from {w w1 w' : World} {g : Nat} {m : RfM} {D : DkD} (h : RfOk w g m) (b : Below w.heap.size w w1) {e : Ending} (p : RPost w1 g m D e w') : RPost w g m D e w' := by
  obtain ⟨n, m', he, h1, h2⟩ := p
  exact ⟨n, m', he, (RfTo.below h b).trans h1, h2⟩
end Go.Proofs.YtlepajddekblcaaDoor
