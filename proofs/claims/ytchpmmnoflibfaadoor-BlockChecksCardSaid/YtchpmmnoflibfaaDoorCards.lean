/-
  DERIVED. GIVEN WITH THE SEED: THE CARDS: each row of YtchpmmnoflibfaaDoorRows.lean that lists a variable, with what it lists TIED to the program's text (the seventh form; the later family's looks); each row that meets fmt, with fmt's text TOLD by the authors' own Lean function (tested against real Go, not proved from fmt's source: count such statements apart). THE CARD IS WHAT COUNTS. Prove the row's statement (the work); the ties are given (YtchpmmnoflibfaaDoorTie.lean); close each card by the builder's one call (the guide's Derived/Test/ToyasCard.lean, 'card_holds'). Laid BY PROGRAM, IN A SANDBOX (cutbox-door.mjs). By AI agents, Wed Nov 11 2026. No macro, syntax, notation, axiom, sorry.
-/
import Derived.Test.YtchpmmnoflibfaaDoorRows
import GoSem.ClaimSeven
namespace Go.Proofs.YtchpmmnoflibfaaDoor
namespace Rows

/-- THE TIED CARD OF 'plexuslaw06.BlockHeaders'. -/
def blockHeadersCard : Claim7 := { stood := { row := blockHeadersRow, standIns := [], harness := (true, "a1c16f965a13ba84156031cc52470bc2267462de7db66793ed385d5fa488de32"), looks := false }, kinds := [], alts := [], laidByText := true, laidKinds := [.data, .data], laidTests := true, laidLooks := .later }
def BlockHeadersCardSaid : Prop := Claim7.holds Tryd.pinned (.plain (OpenSpec.ofChange blockHeadersSpec)) blockHeadersCard

/-- THE TIED CARD OF 'plexuslaw06.BlockChecks'. -/
def blockChecksCard : Claim7 := { stood := { row := blockChecksRow, standIns := [], harness := (true, "a1c16f965a13ba84156031cc52470bc2267462de7db66793ed385d5fa488de32"), looks := false }, kinds := [], alts := [], laidByText := true, laidKinds := [.data, .data], laidTests := true, laidLooks := .later }
def BlockChecksCardSaid : Prop := Claim7.holds Tryd.pinned (.plain (OpenSpec.ofChange blockChecksSpec)) blockChecksCard

/-- THE TIED CARD OF 'plexuslaw06.BlockBounds'. -/
def blockBoundsCard : Claim7 := { stood := { row := blockBoundsRow, standIns := [], harness := (true, "a1c16f965a13ba84156031cc52470bc2267462de7db66793ed385d5fa488de32"), looks := false }, kinds := [], alts := [], laidByText := true, laidKinds := [.data, .data], laidTests := true, laidLooks := .later }
def BlockBoundsCardSaid : Prop := Claim7.holds Tryd.pinned (.plain (OpenSpec.ofChange blockBoundsSpec)) blockBoundsCard

/-- THE SECOND FORM's CARD OF 'plexuslaw06.BlockHeaders'. -/
def blockHeadersUptoCard : Claim7 := { stood := { row := blockHeadersUptoRow, standIns := [], harness := (true, "a1c16f965a13ba84156031cc52470bc2267462de7db66793ed385d5fa488de32"), looks := false }, kinds := [], alts := [], laidByText := true, laidKinds := [.data, .data], laidTests := true, laidLooks := .later }
def BlockHeadersUptoCardSaid : Prop := Claim7.holds Tryd.pinned (.plain (OpenSpec.upto blockHeadersSpec)) blockHeadersUptoCard

/-- THE SECOND FORM's CARD OF 'plexuslaw06.BlockChecks'. -/
def blockChecksUptoCard : Claim7 := { stood := { row := blockChecksUptoRow, standIns := [], harness := (true, "a1c16f965a13ba84156031cc52470bc2267462de7db66793ed385d5fa488de32"), looks := false }, kinds := [], alts := [], laidByText := true, laidKinds := [.data, .data], laidTests := true, laidLooks := .later }
def BlockChecksUptoCardSaid : Prop := Claim7.holds Tryd.pinned (.plain (OpenSpec.upto blockChecksSpec)) blockChecksUptoCard

/-- THE SECOND FORM's CARD OF 'plexuslaw06.BlockBounds'. -/
def blockBoundsUptoCard : Claim7 := { stood := { row := blockBoundsUptoRow, standIns := [], harness := (true, "a1c16f965a13ba84156031cc52470bc2267462de7db66793ed385d5fa488de32"), looks := false }, kinds := [], alts := [], laidByText := true, laidKinds := [.data, .data], laidTests := true, laidLooks := .later }
def BlockBoundsUptoCardSaid : Prop := Claim7.holds Tryd.pinned (.plain (OpenSpec.upto blockBoundsSpec)) blockBoundsUptoCard
end Rows
end Go.Proofs.YtchpmmnoflibfaaDoor
