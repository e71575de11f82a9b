/-
  The writer's counts and hashes, as tx calls them; a new writer.
-/
import Derived.Test.YthamlphebnhcpaaDoorWr2
namespace Go.Proofs.YthamlphebnhcpaaDoor
open Go.RowKit

/-- A new writer. -/
theorem WrS.fresh (w : World) (S : Nat → Prop) (hS : S w.heap.size) : WrS (w.alloc (.cells #[.slice none 0 0, .bool false] 103)) S w.heap.size (some []) :=
  ⟨hS, none, 0, heap_alloc_new w _, by simpa [By] using World.ownsRow_nil _ 0 _ 1, fun k hk => by simp [Value.ownBlock] at hk⟩
def putCount (st : Option (List UInt8)) (n : Int) : Option (List UInt8) := if 0 ≤ n ∧ n ≤ 65535 then putN st n.toNat 2 else none

end Go.Proofs.YthamlphebnhcpaaDoor
