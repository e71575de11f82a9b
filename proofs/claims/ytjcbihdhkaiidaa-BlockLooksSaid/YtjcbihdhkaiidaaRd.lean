/-
  The readers of package wire: what each call does.
-/
import Derived.Test.YtjcbihdhkaiidaaWr2
namespace Go.Proofs.Ytjcbihdhkaiidaa
open Go.RowKit

/-- Can so many bytes be cut off? -/
def cutOk (st : Option (List UInt8)) (n : Int) (m : Bool) : Bool := m && st.isSome && decide (n ≤ (lenS st : Int))
def cutPiece (st : Option (List UInt8)) (n : Int) (m : Bool) : List UInt8 := if cutOk st n m then (st.getD []).take n.toNat else []
def cutRest (st : Option (List UInt8)) (n : Int) (m : Bool) : Option (List UInt8) := if cutOk st n m then some ((st.getD []).drop n.toNat) else none

end Go.Proofs.Ytjcbihdhkaiidaa
