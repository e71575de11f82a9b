/-
  DERIVED. GIVEN WITH THE SEED: THE CARDS: each row of YtndkjmmmneianaaDoorRows.lean that lists a variable, with what it lists TIED to the program's text (the seventh form; the later family's looks); each row that meets fmt, with fmt's text TOLD by the authors' own Lean function (tested against real Go, not proved from fmt's source: count such statements apart). THE CARD IS WHAT COUNTS. Prove the row's statement (the work); the ties are given (YtndkjmmmneianaaDoorTie.lean); close each card by the builder's one call (the guide's Derived/Test/ToyasCard.lean, 'card_holds'). Laid BY PROGRAM, IN A SANDBOX (cutbox-door.mjs). By AI agents, Wed Nov 11 2026. No macro, syntax, notation, axiom, sorry.
-/
import Derived.Test.YtndkjmmmneianaaDoorRows
import GoSem.ClaimSeven
namespace Go.Proofs.YtndkjmmmneianaaDoor
namespace Rows

/-- THE TIED CARD OF 'plexuslaw10.DagPlays'. -/
def dagPlaysCard : Claim7 := { stood := { row := dagPlaysRow, standIns := [], harness := (true, "5f44df62591538cd5fe70c9e0bb2230bec3f0a722fd4400ba629bd2c4c49272d"), looks := true }, kinds := [], alts := [], laidByText := true, laidKinds := [.data], laidTests := true, laidLooks := .later }
def DagPlaysCardSaid : Prop := Claim7.holds Tryd.pinned (.plain (OpenSpec.ofChange dagPlaysSpec)) dagPlaysCard

/-- THE TIED CARD OF 'plexuslaw10.DagBefore'. -/
def dagBeforeCard : Claim7 := { stood := { row := dagBeforeRow, standIns := [], harness := (true, "5f44df62591538cd5fe70c9e0bb2230bec3f0a722fd4400ba629bd2c4c49272d"), looks := true }, kinds := [], alts := [], laidByText := true, laidKinds := [.data], laidTests := true, laidLooks := .later }
def DagBeforeCardSaid : Prop := Claim7.holds Tryd.pinned (.plain (OpenSpec.ofChange dagBeforeSpec)) dagBeforeCard

/-- THE TIED CARD OF 'plexuslaw10.DagParts'. -/
def dagPartsCard : Claim7 := { stood := { row := dagPartsRow, standIns := [], harness := (true, "5f44df62591538cd5fe70c9e0bb2230bec3f0a722fd4400ba629bd2c4c49272d"), looks := true }, kinds := [], alts := [], laidByText := true, laidKinds := [.data], laidTests := true, laidLooks := .later }
def DagPartsCardSaid : Prop := Claim7.holds Tryd.pinned (.plain (OpenSpec.ofChange dagPartsSpec)) dagPartsCard

/-- THE TIED CARD OF 'plexuslaw10.DagApart'. -/
def dagApartCard : Claim7 := { stood := { row := dagApartRow, standIns := [], harness := (true, "5f44df62591538cd5fe70c9e0bb2230bec3f0a722fd4400ba629bd2c4c49272d"), looks := true }, kinds := [], alts := [], laidByText := true, laidKinds := [.data], laidTests := true, laidLooks := .later }
def DagApartCardSaid : Prop := Claim7.holds Tryd.pinned (.plain (OpenSpec.ofChange dagApartSpec)) dagApartCard

/-- THE TIED CARD OF 'plexuslaw10.DagNil'. -/
def dagNilCard : Claim7 := { stood := { row := dagNilRow, standIns := [], harness := (true, "5f44df62591538cd5fe70c9e0bb2230bec3f0a722fd4400ba629bd2c4c49272d"), looks := true }, kinds := [], alts := [], laidByText := true, laidKinds := [.data], laidTests := true, laidLooks := .later }
def DagNilCardSaid : Prop := Claim7.holds Tryd.pinned (.plain (OpenSpec.ofChange dagNilSpec)) dagNilCard

/-- THE SECOND FORM's CARD OF 'plexuslaw10.DagPlays'. -/
def dagPlaysUptoCard : Claim7 := { stood := { row := dagPlaysUptoRow, standIns := [], harness := (true, "5f44df62591538cd5fe70c9e0bb2230bec3f0a722fd4400ba629bd2c4c49272d"), looks := true }, kinds := [], alts := [], laidByText := true, laidKinds := [.data], laidTests := true, laidLooks := .later }
def DagPlaysUptoCardSaid : Prop := Claim7.holds Tryd.pinned (.plain (OpenSpec.upto dagPlaysSpec)) dagPlaysUptoCard

/-- THE SECOND FORM's CARD OF 'plexuslaw10.DagBefore'. -/
def dagBeforeUptoCard : Claim7 := { stood := { row := dagBeforeUptoRow, standIns := [], harness := (true, "5f44df62591538cd5fe70c9e0bb2230bec3f0a722fd4400ba629bd2c4c49272d"), looks := true }, kinds := [], alts := [], laidByText := true, laidKinds := [.data], laidTests := true, laidLooks := .later }
def DagBeforeUptoCardSaid : Prop := Claim7.holds Tryd.pinned (.plain (OpenSpec.upto dagBeforeSpec)) dagBeforeUptoCard

/-- THE SECOND FORM's CARD OF 'plexuslaw10.DagParts'. -/
def dagPartsUptoCard : Claim7 := { stood := { row := dagPartsUptoRow, standIns := [], harness := (true, "5f44df62591538cd5fe70c9e0bb2230bec3f0a722fd4400ba629bd2c4c49272d"), looks := true }, kinds := [], alts := [], laidByText := true, laidKinds := [.data], laidTests := true, laidLooks := .later }
def DagPartsUptoCardSaid : Prop := Claim7.holds Tryd.pinned (.plain (OpenSpec.upto dagPartsSpec)) dagPartsUptoCard

/-- THE SECOND FORM's CARD OF 'plexuslaw10.DagApart'. -/
def dagApartUptoCard : Claim7 := { stood := { row := dagApartUptoRow, standIns := [], harness := (true, "5f44df62591538cd5fe70c9e0bb2230bec3f0a722fd4400ba629bd2c4c49272d"), looks := true }, kinds := [], alts := [], laidByText := true, laidKinds := [.data], laidTests := true, laidLooks := .later }
def DagApartUptoCardSaid : Prop := Claim7.holds Tryd.pinned (.plain (OpenSpec.upto dagApartSpec)) dagApartUptoCard

/-- THE SECOND FORM's CARD OF 'plexuslaw10.DagNil'. -/
def dagNilUptoCard : Claim7 := { stood := { row := dagNilUptoRow, standIns := [], harness := (true, "5f44df62591538cd5fe70c9e0bb2230bec3f0a722fd4400ba629bd2c4c49272d"), looks := true }, kinds := [], alts := [], laidByText := true, laidKinds := [.data], laidTests := true, laidLooks := .later }
def DagNilUptoCardSaid : Prop := Claim7.holds Tryd.pinned (.plain (OpenSpec.upto dagNilSpec)) dagNilUptoCard
end Rows
end Go.Proofs.YtndkjmmmneianaaDoor
