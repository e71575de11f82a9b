/-
  DERIVED. GIVEN WITH THE SEED: THE CARDS: each row of YtpfjkjogljilnaaDoorRows.lean that lists a variable, with what it lists TIED to the program's text (the seventh form; the later family's looks); each row that meets fmt, with fmt's text TOLD by the authors' own Lean function (tested against real Go, not proved from fmt's source: count such statements apart). THE CARD IS WHAT COUNTS. Prove the row's statement (the work); the ties are given (YtpfjkjogljilnaaDoorTie.lean); close each card by the builder's one call (the guide's Derived/Test/ToyasCard.lean, 'card_holds'). Laid BY PROGRAM, IN A SANDBOX (cutbox-door.mjs). By AI agents, Wed Nov 11 2026. No macro, syntax, notation, axiom, sorry.
-/
import Derived.Test.YtpfjkjogljilnaaDoorRows
import GoSem.ClaimSeven
namespace Go.Proofs.YtpfjkjogljilnaaDoor
namespace Rows

/-- THE TIED CARD OF 'plexuslaw06.BlockBounds'. -/
def blockBoundsCard : Claim7 := { stood := { row := blockBoundsRow, standIns := [], harness := (true, "342f0089cfeb68f0b76513c01b1218b1cae3cd949cf4442acfe6b0fb8df9b8f4"), looks := false }, kinds := [], alts := [], laidByText := true, laidKinds := [.data, .data], laidTests := true, laidLooks := .later }
def BlockBoundsCardSaid : Prop := Claim7.holds Tryd.pinned (.plain (OpenSpec.ofChange blockBoundsSpec)) blockBoundsCard

/-- THE SECOND FORM's CARD OF 'plexuslaw06.BlockBounds'. -/
def blockBoundsUptoCard : Claim7 := { stood := { row := blockBoundsUptoRow, standIns := [], harness := (true, "342f0089cfeb68f0b76513c01b1218b1cae3cd949cf4442acfe6b0fb8df9b8f4"), looks := false }, kinds := [], alts := [], laidByText := true, laidKinds := [.data, .data], laidTests := true, laidLooks := .later }
def BlockBoundsUptoCardSaid : Prop := Claim7.holds Tryd.pinned (.plain (OpenSpec.upto blockBoundsSpec)) blockBoundsUptoCard
end Rows
end Go.Proofs.YtpfjkjogljilnaaDoor
