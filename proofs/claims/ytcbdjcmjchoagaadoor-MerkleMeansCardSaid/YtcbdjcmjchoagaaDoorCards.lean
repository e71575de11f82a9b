/-
  DERIVED. GIVEN WITH THE SEED: THE CARDS: each row of YtcbdjcmjchoagaaDoorRows.lean that lists a variable, with what it lists TIED to the program's text (the seventh form; the later family's looks); each row that meets fmt, with fmt's text TOLD by the authors' own Lean function (tested against real Go, not proved from fmt's source: count such statements apart). THE CARD IS WHAT COUNTS. Prove the row's statement (the work); the ties are given (YtcbdjcmjchoagaaDoorTie.lean); close each card by the builder's one call (the guide's Derived/Test/ToyasCard.lean, 'card_holds'). Laid BY PROGRAM, IN A SANDBOX (cutbox-door.mjs). By AI agents, Wed Nov 11 2026. No macro, syntax, notation, axiom, sorry.
-/
import Derived.Test.YtcbdjcmjchoagaaDoorRows
import GoSem.ClaimSeven
namespace Go.Proofs.YtcbdjcmjchoagaaDoor
namespace Rows

/-- THE TIED CARD OF 'plexuslaw03.MerkleRoots'. -/
def merkleRootsCard : Claim7 := { stood := { row := merkleRootsRow, standIns := [], harness := (true, "eb5ba07ae897e2646c38587a6efa2c8f99e55cbc87d63b2381ad6b8232dd7f5a"), looks := false }, kinds := [], alts := [], laidByText := true, laidKinds := [.data, .data], laidTests := true, laidLooks := .later }
def MerkleRootsCardSaid : Prop := Claim7.holds Tryd.pinned (.plain (OpenSpec.ofChange merkleRootsSpec)) merkleRootsCard

/-- THE TIED CARD OF 'plexuslaw03.MerkleChecks'. -/
def merkleChecksCard : Claim7 := { stood := { row := merkleChecksRow, standIns := [], harness := (true, "eb5ba07ae897e2646c38587a6efa2c8f99e55cbc87d63b2381ad6b8232dd7f5a"), looks := false }, kinds := [], alts := [], laidByText := true, laidKinds := [.data, .data], laidTests := true, laidLooks := .later }
def MerkleChecksCardSaid : Prop := Claim7.holds Tryd.pinned (.plain (OpenSpec.ofChange merkleChecksSpec)) merkleChecksCard

/-- THE TIED CARD OF 'plexuslaw03.MerkleCollides'. -/
def merkleCollidesCard : Claim7 := { stood := { row := merkleCollidesRow, standIns := [], harness := (true, "eb5ba07ae897e2646c38587a6efa2c8f99e55cbc87d63b2381ad6b8232dd7f5a"), looks := false }, kinds := [], alts := [], laidByText := true, laidKinds := [.data, .data], laidTests := true, laidLooks := .later }
def MerkleCollidesCardSaid : Prop := Claim7.holds Tryd.pinned (.plain (OpenSpec.ofChange merkleCollidesSpec)) merkleCollidesCard

/-- THE TIED CARD OF 'plexuslaw03.MerkleMeans'. -/
def merkleMeansCard : Claim7 := { stood := { row := merkleMeansRow, standIns := [], harness := (true, "eb5ba07ae897e2646c38587a6efa2c8f99e55cbc87d63b2381ad6b8232dd7f5a"), looks := false }, kinds := [], alts := [], laidByText := true, laidKinds := [.data, .data], laidTests := true, laidLooks := .later }
def MerkleMeansCardSaid : Prop := Claim7.holds Tryd.pinned (.plain (OpenSpec.ofChange merkleMeansSpec)) merkleMeansCard

/-- THE TIED CARD OF 'plexuslaw03.MerkleLists'. -/
def merkleListsCard : Claim7 := { stood := { row := merkleListsRow, standIns := [], harness := (true, "eb5ba07ae897e2646c38587a6efa2c8f99e55cbc87d63b2381ad6b8232dd7f5a"), looks := false }, kinds := [], alts := [], laidByText := true, laidKinds := [.data, .data], laidTests := true, laidLooks := .later }
def MerkleListsCardSaid : Prop := Claim7.holds Tryd.pinned (.plain (OpenSpec.ofChange merkleListsSpec)) merkleListsCard

/-- THE SECOND FORM's CARD OF 'plexuslaw03.MerkleRoots'. -/
def merkleRootsUptoCard : Claim7 := { stood := { row := merkleRootsUptoRow, standIns := [], harness := (true, "eb5ba07ae897e2646c38587a6efa2c8f99e55cbc87d63b2381ad6b8232dd7f5a"), looks := false }, kinds := [], alts := [], laidByText := true, laidKinds := [.data, .data], laidTests := true, laidLooks := .later }
def MerkleRootsUptoCardSaid : Prop := Claim7.holds Tryd.pinned (.plain (OpenSpec.upto merkleRootsSpec)) merkleRootsUptoCard

/-- THE SECOND FORM's CARD OF 'plexuslaw03.MerkleChecks'. -/
def merkleChecksUptoCard : Claim7 := { stood := { row := merkleChecksUptoRow, standIns := [], harness := (true, "eb5ba07ae897e2646c38587a6efa2c8f99e55cbc87d63b2381ad6b8232dd7f5a"), looks := false }, kinds := [], alts := [], laidByText := true, laidKinds := [.data, .data], laidTests := true, laidLooks := .later }
def MerkleChecksUptoCardSaid : Prop := Claim7.holds Tryd.pinned (.plain (OpenSpec.upto merkleChecksSpec)) merkleChecksUptoCard

/-- THE SECOND FORM's CARD OF 'plexuslaw03.MerkleCollides'. -/
def merkleCollidesUptoCard : Claim7 := { stood := { row := merkleCollidesUptoRow, standIns := [], harness := (true, "eb5ba07ae897e2646c38587a6efa2c8f99e55cbc87d63b2381ad6b8232dd7f5a"), looks := false }, kinds := [], alts := [], laidByText := true, laidKinds := [.data, .data], laidTests := true, laidLooks := .later }
def MerkleCollidesUptoCardSaid : Prop := Claim7.holds Tryd.pinned (.plain (OpenSpec.upto merkleCollidesSpec)) merkleCollidesUptoCard

/-- THE SECOND FORM's CARD OF 'plexuslaw03.MerkleMeans'. -/
def merkleMeansUptoCard : Claim7 := { stood := { row := merkleMeansUptoRow, standIns := [], harness := (true, "eb5ba07ae897e2646c38587a6efa2c8f99e55cbc87d63b2381ad6b8232dd7f5a"), looks := false }, kinds := [], alts := [], laidByText := true, laidKinds := [.data, .data], laidTests := true, laidLooks := .later }
def MerkleMeansUptoCardSaid : Prop := Claim7.holds Tryd.pinned (.plain (OpenSpec.upto merkleMeansSpec)) merkleMeansUptoCard

/-- THE SECOND FORM's CARD OF 'plexuslaw03.MerkleLists'. -/
def merkleListsUptoCard : Claim7 := { stood := { row := merkleListsUptoRow, standIns := [], harness := (true, "eb5ba07ae897e2646c38587a6efa2c8f99e55cbc87d63b2381ad6b8232dd7f5a"), looks := false }, kinds := [], alts := [], laidByText := true, laidKinds := [.data, .data], laidTests := true, laidLooks := .later }
def MerkleListsUptoCardSaid : Prop := Claim7.holds Tryd.pinned (.plain (OpenSpec.upto merkleListsSpec)) merkleListsUptoCard
end Rows
end Go.Proofs.YtcbdjcmjchoagaaDoor
