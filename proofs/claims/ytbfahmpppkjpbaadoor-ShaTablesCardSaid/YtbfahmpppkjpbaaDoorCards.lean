/-
  DERIVED. GIVEN WITH THE SEED: THE CARDS: each row of YtbfahmpppkjpbaaDoorRows.lean that lists a variable, with what it lists TIED to the program's text (the seventh form; the later family's looks); each row that meets fmt, with fmt's text TOLD by the authors' own Lean function (tested against real Go, not proved from fmt's source: count such statements apart). THE CARD IS WHAT COUNTS. Prove the row's statement (the work); the ties are given (YtbfahmpppkjpbaaDoorTie.lean); close each card by the builder's one call (the guide's Derived/Test/ToyasCard.lean, 'card_holds'). Laid BY PROGRAM, IN A SANDBOX (cutbox-door.mjs). By AI agents, Wed Nov 11 2026. No macro, syntax, notation, axiom, sorry.
-/
import Derived.Test.YtbfahmpppkjpbaaDoorRows
import GoSem.ClaimSeven
namespace Go.Proofs.YtbfahmpppkjpbaaDoor
namespace Rows

/-- THE TIED CARD OF 'plexuslaw02.ShaMeans'. -/
def shaMeansCard : Claim7 := { stood := { row := shaMeansRow, standIns := [], harness := (true, "f5acec82b339a140d840be08805834037cd6bc23e1780e359ecfb0187d96b718"), looks := false }, kinds := [], alts := [], laidByText := true, laidKinds := [.data, .data], laidTests := true, laidLooks := .later }
def ShaMeansCardSaid : Prop := Claim7.holds Tryd.pinned (.plain (OpenSpec.ofChange shaMeansSpec)) shaMeansCard

/-- THE TIED CARD OF 'plexuslaw02.ShaTables'. -/
def shaTablesCard : Claim7 := { stood := { row := shaTablesRow, standIns := [], harness := (true, "f5acec82b339a140d840be08805834037cd6bc23e1780e359ecfb0187d96b718"), looks := false }, kinds := [], alts := [], laidByText := true, laidKinds := [.data, .data], laidTests := true, laidLooks := .later }
def ShaTablesCardSaid : Prop := Claim7.holds Tryd.pinned (.plain (OpenSpec.ofChange shaTablesSpec)) shaTablesCard

/-- THE TIED CARD OF 'plexuslaw03.MerkleRoots'. -/
def merkleRootsCard : Claim7 := { stood := { row := merkleRootsRow, standIns := [], harness := (true, "f5acec82b339a140d840be08805834037cd6bc23e1780e359ecfb0187d96b718"), looks := false }, kinds := [], alts := [], laidByText := true, laidKinds := [.data, .data], laidTests := true, laidLooks := .later }
def MerkleRootsCardSaid : Prop := Claim7.holds Tryd.pinned (.plain (OpenSpec.ofChange merkleRootsSpec)) merkleRootsCard

/-- THE TIED CARD OF 'plexuslaw03.MerkleChecks'. -/
def merkleChecksCard : Claim7 := { stood := { row := merkleChecksRow, standIns := [], harness := (true, "f5acec82b339a140d840be08805834037cd6bc23e1780e359ecfb0187d96b718"), looks := false }, kinds := [], alts := [], laidByText := true, laidKinds := [.data, .data], laidTests := true, laidLooks := .later }
def MerkleChecksCardSaid : Prop := Claim7.holds Tryd.pinned (.plain (OpenSpec.ofChange merkleChecksSpec)) merkleChecksCard

/-- THE TIED CARD OF 'plexuslaw03.MerkleCollides'. -/
def merkleCollidesCard : Claim7 := { stood := { row := merkleCollidesRow, standIns := [], harness := (true, "f5acec82b339a140d840be08805834037cd6bc23e1780e359ecfb0187d96b718"), looks := false }, kinds := [], alts := [], laidByText := true, laidKinds := [.data, .data], laidTests := true, laidLooks := .later }
def MerkleCollidesCardSaid : Prop := Claim7.holds Tryd.pinned (.plain (OpenSpec.ofChange merkleCollidesSpec)) merkleCollidesCard

/-- THE TIED CARD OF 'plexuslaw03.MerkleMeans'. -/
def merkleMeansCard : Claim7 := { stood := { row := merkleMeansRow, standIns := [], harness := (true, "f5acec82b339a140d840be08805834037cd6bc23e1780e359ecfb0187d96b718"), looks := false }, kinds := [], alts := [], laidByText := true, laidKinds := [.data, .data], laidTests := true, laidLooks := .later }
def MerkleMeansCardSaid : Prop := Claim7.holds Tryd.pinned (.plain (OpenSpec.ofChange merkleMeansSpec)) merkleMeansCard

/-- THE TIED CARD OF 'plexuslaw03.MerkleLists'. -/
def merkleListsCard : Claim7 := { stood := { row := merkleListsRow, standIns := [], harness := (true, "f5acec82b339a140d840be08805834037cd6bc23e1780e359ecfb0187d96b718"), looks := false }, kinds := [], alts := [], laidByText := true, laidKinds := [.data, .data], laidTests := true, laidLooks := .later }
def MerkleListsCardSaid : Prop := Claim7.holds Tryd.pinned (.plain (OpenSpec.ofChange merkleListsSpec)) merkleListsCard

/-- THE SECOND FORM's CARD OF 'plexuslaw02.ShaMeans'. -/
def shaMeansUptoCard : Claim7 := { stood := { row := shaMeansUptoRow, standIns := [], harness := (true, "f5acec82b339a140d840be08805834037cd6bc23e1780e359ecfb0187d96b718"), looks := false }, kinds := [], alts := [], laidByText := true, laidKinds := [.data, .data], laidTests := true, laidLooks := .later }
def ShaMeansUptoCardSaid : Prop := Claim7.holds Tryd.pinned (.plain (OpenSpec.upto shaMeansSpec)) shaMeansUptoCard

/-- THE SECOND FORM's CARD OF 'plexuslaw02.ShaTables'. -/
def shaTablesUptoCard : Claim7 := { stood := { row := shaTablesUptoRow, standIns := [], harness := (true, "f5acec82b339a140d840be08805834037cd6bc23e1780e359ecfb0187d96b718"), looks := false }, kinds := [], alts := [], laidByText := true, laidKinds := [.data, .data], laidTests := true, laidLooks := .later }
def ShaTablesUptoCardSaid : Prop := Claim7.holds Tryd.pinned (.plain (OpenSpec.upto shaTablesSpec)) shaTablesUptoCard

/-- THE SECOND FORM's CARD OF 'plexuslaw03.MerkleRoots'. -/
def merkleRootsUptoCard : Claim7 := { stood := { row := merkleRootsUptoRow, standIns := [], harness := (true, "f5acec82b339a140d840be08805834037cd6bc23e1780e359ecfb0187d96b718"), looks := false }, kinds := [], alts := [], laidByText := true, laidKinds := [.data, .data], laidTests := true, laidLooks := .later }
def MerkleRootsUptoCardSaid : Prop := Claim7.holds Tryd.pinned (.plain (OpenSpec.upto merkleRootsSpec)) merkleRootsUptoCard

/-- THE SECOND FORM's CARD OF 'plexuslaw03.MerkleChecks'. -/
def merkleChecksUptoCard : Claim7 := { stood := { row := merkleChecksUptoRow, standIns := [], harness := (true, "f5acec82b339a140d840be08805834037cd6bc23e1780e359ecfb0187d96b718"), looks := false }, kinds := [], alts := [], laidByText := true, laidKinds := [.data, .data], laidTests := true, laidLooks := .later }
def MerkleChecksUptoCardSaid : Prop := Claim7.holds Tryd.pinned (.plain (OpenSpec.upto merkleChecksSpec)) merkleChecksUptoCard

/-- THE SECOND FORM's CARD OF 'plexuslaw03.MerkleCollides'. -/
def merkleCollidesUptoCard : Claim7 := { stood := { row := merkleCollidesUptoRow, standIns := [], harness := (true, "f5acec82b339a140d840be08805834037cd6bc23e1780e359ecfb0187d96b718"), looks := false }, kinds := [], alts := [], laidByText := true, laidKinds := [.data, .data], laidTests := true, laidLooks := .later }
def MerkleCollidesUptoCardSaid : Prop := Claim7.holds Tryd.pinned (.plain (OpenSpec.upto merkleCollidesSpec)) merkleCollidesUptoCard

/-- THE SECOND FORM's CARD OF 'plexuslaw03.MerkleMeans'. -/
def merkleMeansUptoCard : Claim7 := { stood := { row := merkleMeansUptoRow, standIns := [], harness := (true, "f5acec82b339a140d840be08805834037cd6bc23e1780e359ecfb0187d96b718"), looks := false }, kinds := [], alts := [], laidByText := true, laidKinds := [.data, .data], laidTests := true, laidLooks := .later }
def MerkleMeansUptoCardSaid : Prop := Claim7.holds Tryd.pinned (.plain (OpenSpec.upto merkleMeansSpec)) merkleMeansUptoCard

/-- THE SECOND FORM's CARD OF 'plexuslaw03.MerkleLists'. -/
def merkleListsUptoCard : Claim7 := { stood := { row := merkleListsUptoRow, standIns := [], harness := (true, "f5acec82b339a140d840be08805834037cd6bc23e1780e359ecfb0187d96b718"), looks := false }, kinds := [], alts := [], laidByText := true, laidKinds := [.data, .data], laidTests := true, laidLooks := .later }
def MerkleListsUptoCardSaid : Prop := Claim7.holds Tryd.pinned (.plain (OpenSpec.upto merkleListsSpec)) merkleListsUptoCard
end Rows
end Go.Proofs.YtbfahmpppkjpbaaDoor
