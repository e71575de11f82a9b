/-
  No cell of these rows narrows 'for every input' (looked for: loops, veiled, ifaces, maps, wideKeys, modest, calm, conditions, laid).
  DERIVED. THE GIVEN ROWS OF THIS SEAT. 5 by the template 'for every input the law returns true; each argument reads behind the call as it read before'; 0 by the template 'total and deterministic' (their statements: YtbfpckomgpkjgaaGreatTotals.lean).
  GIVEN WITH THE SEED: the statements are not yours to turn. If you find one false, say at which input.
  Laid BY PROGRAM, IN A SANDBOX (cutbox-rows.mjs): the forced cells as the released guide's own fill.sh prints them over the translation 707299151476ebe4… (all of the seat's roots in one cut). By AI agents, Wed Nov 11 2026. No macro, syntax, notation, axiom, sorry.
-/
import Derived.Test.YtbfpckomgpkjgaaGreatChecked
import GoSem.Claim
import GoSem.ClaimJoined
import GoSem.ClaimMapViews
import Derived.JoinedTies
import Derived.KernelRfl
namespace Go.Proofs.YtbfpckomgpkjgaaGreat
/- THE CELL 'sum', in the pinned program and in every row, IS THE sha256 OF THE DUMP (.gsa) THAT YtbfpckomgpkjgaaGreatProg.lean LOADS. Nothing in Lean hashes anything: it is a label: what it is worth is what the hold of that sum in a sandbox is worth. -/
noncomputable def Tryz.pinned : Pinned := { name := "ytbfpckomgpkjgaagreat", sum := "707299151476ebe4134ed4ce0e6214b763fd9539f0f5d88f2c34ae94979a2049", checked := Tryz.checked }
namespace Rows
def none {H : Type} : Left H := { results := [], args := [] }

/-- 'plexuslaw12.ReachPlays': WHATEVER THE INPUT: true; the input reads as it did. -/
def reachPlaysSpec : ChangeSpec := { name := "reachPlays", fn := fun _ => fun
  | [d1, d2, d3] => { results := [.lit (.bool true)], args := [d1, d2, d3] }
  | _ => none }
def reachPlaysRow : OpenClaim := { program := "ytbfpckomgpkjgaagreat", sum := "707299151476ebe4134ed4ce0e6214b763fd9539f0f5d88f2c34ae94979a2049", func := "plexus/plexuslaw12.ReachPlays", spec := "reachPlays", inPlace := ["internal/bytealg.Compare", "slices.overlaps[int]"], unfollowed := true, recurses := true, plainKeys := false, apart := false }
def ReachPlaysSaid : Prop := reachPlaysRow.holds Tryz.pinned (OpenSpec.ofChange reachPlaysSpec)

/-- ITS FALSE NEIGHBOUR: 'it returns false'. Refute it at one input. -/
def reachPlaysWrong : ChangeSpec := { name := "reachPlays", fn := fun _ => fun
  | [d1, d2, d3] => { results := [.lit (.bool false)], args := [d1, d2, d3] }
  | _ => none }
def ReachPlaysWrongFalsely : Prop := reachPlaysRow.holds Tryz.pinned (OpenSpec.ofChange reachPlaysWrong)

/-- 'plexuslaw12.ReachCovers': WHATEVER THE INPUT: true; the input reads as it did. -/
def reachCoversSpec : ChangeSpec := { name := "reachCovers", fn := fun _ => fun
  | [d1, d2, d3] => { results := [.lit (.bool true)], args := [d1, d2, d3] }
  | _ => none }
def reachCoversRow : OpenClaim := { program := "ytbfpckomgpkjgaagreat", sum := "707299151476ebe4134ed4ce0e6214b763fd9539f0f5d88f2c34ae94979a2049", func := "plexus/plexuslaw12.ReachCovers", spec := "reachCovers", inPlace := ["internal/bytealg.Compare", "slices.overlaps[int]"], unfollowed := true, recurses := true, plainKeys := false, apart := false }
def ReachCoversSaid : Prop := reachCoversRow.holds Tryz.pinned (OpenSpec.ofChange reachCoversSpec)

/-- ITS FALSE NEIGHBOUR: 'it returns false'. Refute it at one input. -/
def reachCoversWrong : ChangeSpec := { name := "reachCovers", fn := fun _ => fun
  | [d1, d2, d3] => { results := [.lit (.bool false)], args := [d1, d2, d3] }
  | _ => none }
def ReachCoversWrongFalsely : Prop := reachCoversRow.holds Tryz.pinned (OpenSpec.ofChange reachCoversWrong)

/-- 'plexuslaw12.ReachForks': WHATEVER THE INPUT: true; the input reads as it did. -/
def reachForksSpec : ChangeSpec := { name := "reachForks", fn := fun _ => fun
  | [d1, d2, d3] => { results := [.lit (.bool true)], args := [d1, d2, d3] }
  | _ => none }
def reachForksRow : OpenClaim := { program := "ytbfpckomgpkjgaagreat", sum := "707299151476ebe4134ed4ce0e6214b763fd9539f0f5d88f2c34ae94979a2049", func := "plexus/plexuslaw12.ReachForks", spec := "reachForks", inPlace := ["internal/bytealg.Compare", "slices.overlaps[int]"], unfollowed := true, recurses := true, plainKeys := false, apart := false }
def ReachForksSaid : Prop := reachForksRow.holds Tryz.pinned (OpenSpec.ofChange reachForksSpec)

/-- ITS FALSE NEIGHBOUR: 'it returns false'. Refute it at one input. -/
def reachForksWrong : ChangeSpec := { name := "reachForks", fn := fun _ => fun
  | [d1, d2, d3] => { results := [.lit (.bool false)], args := [d1, d2, d3] }
  | _ => none }
def ReachForksWrongFalsely : Prop := reachForksRow.holds Tryz.pinned (OpenSpec.ofChange reachForksWrong)

/-- 'plexuslaw12.ReachApart': WHATEVER THE INPUT: true; the input reads as it did. -/
def reachApartSpec : ChangeSpec := { name := "reachApart", fn := fun _ => fun
  | [d1, d2, d3, d4] => { results := [.lit (.bool true)], args := [d1, d2, d3, d4] }
  | _ => none }
def reachApartRow : OpenClaim := { program := "ytbfpckomgpkjgaagreat", sum := "707299151476ebe4134ed4ce0e6214b763fd9539f0f5d88f2c34ae94979a2049", func := "plexus/plexuslaw12.ReachApart", spec := "reachApart", inPlace := ["internal/bytealg.Compare", "slices.overlaps[int]", "maps.clone"], unfollowed := true, recurses := true, plainKeys := false, apart := false }
def ReachApartSaid : Prop := reachApartRow.holds Tryz.pinned (OpenSpec.ofChange reachApartSpec)

/-- ITS FALSE NEIGHBOUR: 'it returns false'. Refute it at one input. -/
def reachApartWrong : ChangeSpec := { name := "reachApart", fn := fun _ => fun
  | [d1, d2, d3, d4] => { results := [.lit (.bool false)], args := [d1, d2, d3, d4] }
  | _ => none }
def ReachApartWrongFalsely : Prop := reachApartRow.holds Tryz.pinned (OpenSpec.ofChange reachApartWrong)

/-- 'plexuslaw12.ReachNil': WHATEVER THE INPUT: true; the input reads as it did. -/
def reachNilSpec : ChangeSpec := { name := "reachNil", fn := fun _ => fun
  | [] => { results := [.lit (.bool true)], args := [] }
  | _ => none }
def reachNilRow : OpenClaim := { program := "ytbfpckomgpkjgaagreat", sum := "707299151476ebe4134ed4ce0e6214b763fd9539f0f5d88f2c34ae94979a2049", func := "plexus/plexuslaw12.ReachNil", spec := "reachNil", inPlace := ["internal/bytealg.Compare", "slices.overlaps[int]", "maps.clone"], unfollowed := true, recurses := true, plainKeys := false, apart := false }
def ReachNilSaid : Prop := reachNilRow.holds Tryz.pinned (OpenSpec.ofChange reachNilSpec)

/-- ITS FALSE NEIGHBOUR: 'it returns false'. Refute it at one input. -/
def reachNilWrong : ChangeSpec := { name := "reachNil", fn := fun _ => fun
  | [] => { results := [.lit (.bool false)], args := [] }
  | _ => none }
def ReachNilWrongFalsely : Prop := reachNilRow.holds Tryz.pinned (OpenSpec.ofChange reachNilWrong)

/- THE SECOND FORM. 'bulk': how many values and letters a reading holds, each counted each time it is reached (what is shared counts as often as it is met; a slice's spare places count too). A statement '..UptoSaid' is the law's where the arguments, and the package variables that the reading takes, are together of bulk at most 1048576: NARROWER than '..Said'. Prove '..Said' where nothing that the law and all that it calls make is longer than what came in: it says more and counts as full. Else prove '..UptoSaid'. A law counts once. -/
mutual
def uptoBulk {H : Type} : DataW H → Nat
  | .lit (.string bytes) => bytes.length + 1
  | .lit _ => 1
  | .nil => 1
  | .ptr d => uptoBulk d + 1
  | .slice elems spare => uptoBulkAll elems + uptoBulkAll spare + 1
  | .agg parts => uptoBulkAll parts + 1
  | .iface _ d => uptoBulk d + 1
  | .map entries => uptoBulkEntries entries + 1
  | .held _ => 1
def uptoBulkAll {H : Type} : List (DataW H) → Nat
  | [] => 0
  | d :: r => uptoBulk d + uptoBulkAll r
def uptoBulkEntries {H : Type} : List (Lit × DataW H) → Nat
  | [] => 0
  | x :: r => uptoBulkEntry x + uptoBulkEntries r
def uptoBulkEntry {H : Type} : Lit × DataW H → Nat
  | (.string bytes, d) => bytes.length + uptoBulk d + 1
  | (_, d) => uptoBulk d + 1
 end
def uptoSmall : (H : Type) → List (DataW H) → Bool := fun _ ds => decide (uptoBulkAll ds ≤ 1048576)
def OpenSpec.upto (s : _root_.Go.ChangeSpec) : _root_.Go.OpenSpec := { _root_.Go.OpenSpec.ofChange s with cond := some uptoSmall }

/-- 'plexuslaw12.ReachPlays', WHERE WHAT IT READS IS OF BULK AT MOST 1048576: true; the input reads as it did. -/
def reachPlaysUptoRow : OpenClaim := { program := "ytbfpckomgpkjgaagreat", sum := "707299151476ebe4134ed4ce0e6214b763fd9539f0f5d88f2c34ae94979a2049", func := "plexus/plexuslaw12.ReachPlays", spec := "reachPlays", inPlace := ["internal/bytealg.Compare", "slices.overlaps[int]"], unfollowed := true, recurses := true, plainKeys := false, apart := false, narrowed := true }
def ReachPlaysUptoSaid : Prop := reachPlaysUptoRow.holds Tryz.pinned (OpenSpec.upto reachPlaysSpec)

/-- 'plexuslaw12.ReachCovers', WHERE WHAT IT READS IS OF BULK AT MOST 1048576: true; the input reads as it did. -/
def reachCoversUptoRow : OpenClaim := { program := "ytbfpckomgpkjgaagreat", sum := "707299151476ebe4134ed4ce0e6214b763fd9539f0f5d88f2c34ae94979a2049", func := "plexus/plexuslaw12.ReachCovers", spec := "reachCovers", inPlace := ["internal/bytealg.Compare", "slices.overlaps[int]"], unfollowed := true, recurses := true, plainKeys := false, apart := false, narrowed := true }
def ReachCoversUptoSaid : Prop := reachCoversUptoRow.holds Tryz.pinned (OpenSpec.upto reachCoversSpec)

/-- 'plexuslaw12.ReachForks', WHERE WHAT IT READS IS OF BULK AT MOST 1048576: true; the input reads as it did. -/
def reachForksUptoRow : OpenClaim := { program := "ytbfpckomgpkjgaagreat", sum := "707299151476ebe4134ed4ce0e6214b763fd9539f0f5d88f2c34ae94979a2049", func := "plexus/plexuslaw12.ReachForks", spec := "reachForks", inPlace := ["internal/bytealg.Compare", "slices.overlaps[int]"], unfollowed := true, recurses := true, plainKeys := false, apart := false, narrowed := true }
def ReachForksUptoSaid : Prop := reachForksUptoRow.holds Tryz.pinned (OpenSpec.upto reachForksSpec)

/-- 'plexuslaw12.ReachApart', WHERE WHAT IT READS IS OF BULK AT MOST 1048576: true; the input reads as it did. -/
def reachApartUptoRow : OpenClaim := { program := "ytbfpckomgpkjgaagreat", sum := "707299151476ebe4134ed4ce0e6214b763fd9539f0f5d88f2c34ae94979a2049", func := "plexus/plexuslaw12.ReachApart", spec := "reachApart", inPlace := ["internal/bytealg.Compare", "slices.overlaps[int]", "maps.clone"], unfollowed := true, recurses := true, plainKeys := false, apart := false, narrowed := true }
def ReachApartUptoSaid : Prop := reachApartUptoRow.holds Tryz.pinned (OpenSpec.upto reachApartSpec)

/-- 'plexuslaw12.ReachNil', WHERE WHAT IT READS IS OF BULK AT MOST 1048576: true; the input reads as it did. -/
def reachNilUptoRow : OpenClaim := { program := "ytbfpckomgpkjgaagreat", sum := "707299151476ebe4134ed4ce0e6214b763fd9539f0f5d88f2c34ae94979a2049", func := "plexus/plexuslaw12.ReachNil", spec := "reachNil", inPlace := ["internal/bytealg.Compare", "slices.overlaps[int]", "maps.clone"], unfollowed := true, recurses := true, plainKeys := false, apart := false, narrowed := true }
def ReachNilUptoSaid : Prop := reachNilUptoRow.holds Tryz.pinned (OpenSpec.upto reachNilSpec)

end Rows
end Go.Proofs.YtbfpckomgpkjgaaGreat
