/-
  DERIVED. GIVEN WITH THE SEED: THE CARDS: each row of YtbloomnifhcgbaaGreatDoorRows.lean that lists a variable, with what it lists TIED to the program's text (the seventh form; the later family's looks); each row that meets fmt, with fmt's text TOLD by the authors' own Lean function (tested against real Go, not proved from fmt's source: count such statements apart). THE CARD IS WHAT COUNTS. Prove the row's statement (the work); the ties are given (YtbloomnifhcgbaaGreatDoorTie.lean); close each card by the builder's one call (the guide's Derived/Test/ToyasCard.lean, 'card_holds'). Laid BY PROGRAM, IN A SANDBOX (cutbox-door.mjs). By AI agents, Wed Nov 11 2026. No macro, syntax, notation, axiom, sorry.
-/
import Derived.Test.YtbloomnifhcgbaaGreatDoorRows
import GoSem.ClaimSeven
namespace Go.Proofs.YtbloomnifhcgbaaGreatDoor
namespace Rows

/-- THE TIED CARD OF 'plexuslaw06.BlockReads'. -/
def blockReadsCard : Claim7 := { stood := { row := blockReadsRow, standIns := [], harness := (true, "7e63c8cab4e1aed9f4032633ce374736a109c90b5d6e7ebd0371eb17cf68feaf"), looks := false }, kinds := [], alts := [], laidByText := true, laidKinds := [.data, .data], laidTests := true, laidLooks := .later }
def BlockReadsCardSaid : Prop := Claim7.holds Tryz.pinned (.plain (OpenSpec.ofChange blockReadsSpec)) blockReadsCard

/-- THE TIED CARD OF 'plexuslaw06.BlockMeans'. -/
def blockMeansCard : Claim7 := { stood := { row := blockMeansRow, standIns := [], harness := (true, "7e63c8cab4e1aed9f4032633ce374736a109c90b5d6e7ebd0371eb17cf68feaf"), looks := false }, kinds := [], alts := [], laidByText := true, laidKinds := [.data, .data], laidTests := true, laidLooks := .later }
def BlockMeansCardSaid : Prop := Claim7.holds Tryz.pinned (.plain (OpenSpec.ofChange blockMeansSpec)) blockMeansCard

/-- THE SECOND FORM's CARD OF 'plexuslaw06.BlockReads'. -/
def blockReadsUptoCard : Claim7 := { stood := { row := blockReadsUptoRow, standIns := [], harness := (true, "7e63c8cab4e1aed9f4032633ce374736a109c90b5d6e7ebd0371eb17cf68feaf"), looks := false }, kinds := [], alts := [], laidByText := true, laidKinds := [.data, .data], laidTests := true, laidLooks := .later }
def BlockReadsUptoCardSaid : Prop := Claim7.holds Tryz.pinned (.plain (OpenSpec.upto blockReadsSpec)) blockReadsUptoCard

/-- THE SECOND FORM's CARD OF 'plexuslaw06.BlockMeans'. -/
def blockMeansUptoCard : Claim7 := { stood := { row := blockMeansUptoRow, standIns := [], harness := (true, "7e63c8cab4e1aed9f4032633ce374736a109c90b5d6e7ebd0371eb17cf68feaf"), looks := false }, kinds := [], alts := [], laidByText := true, laidKinds := [.data, .data], laidTests := true, laidLooks := .later }
def BlockMeansUptoCardSaid : Prop := Claim7.holds Tryz.pinned (.plain (OpenSpec.upto blockMeansSpec)) blockMeansUptoCard
end Rows
end Go.Proofs.YtbloomnifhcgbaaGreatDoor
