/-
  DERIVED. GIVEN WITH THE SEED: THE CARDS: each row of YtckomfffilonlaaDoorRows.lean that lists a variable, with what it lists TIED to the program's text (the seventh form; the later family's looks); each row that meets fmt, with fmt's text TOLD by the authors' own Lean function (tested against real Go, not proved from fmt's source: count such statements apart). THE CARD IS WHAT COUNTS. Prove the row's statement (the work); the ties are given (YtckomfffilonlaaDoorTie.lean); close each card by the builder's one call (the guide's Derived/Test/ToyasCard.lean, 'card_holds'). Laid BY PROGRAM, IN A SANDBOX (cutbox-door.mjs). By AI agents, Wed Nov 11 2026. No macro, syntax, notation, axiom, sorry.
-/
import Derived.Test.YtckomfffilonlaaDoorRows
import GoSem.ClaimSeven
namespace Go.Proofs.YtckomfffilonlaaDoor
namespace Rows

/-- THE TIED CARD OF 'plexuslaw05.TxChecks'. -/
def txChecksCard : Claim7 := { stood := { row := txChecksRow, standIns := [], harness := (true, "6494183472798bc3bb64662500868fc351cc64d467171a4e08a7b0518be560ab"), looks := false }, kinds := [], alts := [], laidByText := true, laidKinds := [.data, .data], laidTests := true, laidLooks := .later }
def TxChecksCardSaid : Prop := Claim7.holds Tryd.pinned (.plain (OpenSpec.ofChange txChecksSpec)) txChecksCard

/-- THE TIED CARD OF 'plexuslaw05.TxLooks'. -/
def txLooksCard : Claim7 := { stood := { row := txLooksRow, standIns := [], harness := (true, "6494183472798bc3bb64662500868fc351cc64d467171a4e08a7b0518be560ab"), looks := false }, kinds := [], alts := [], laidByText := true, laidKinds := [.data, .data], laidTests := true, laidLooks := .later }
def TxLooksCardSaid : Prop := Claim7.holds Tryd.pinned (.plain (OpenSpec.ofChange txLooksSpec)) txLooksCard

/-- THE TIED CARD OF 'plexuslaw05.TxMeans'. -/
def txMeansCard : Claim7 := { stood := { row := txMeansRow, standIns := [], harness := (true, "6494183472798bc3bb64662500868fc351cc64d467171a4e08a7b0518be560ab"), looks := false }, kinds := [], alts := [], laidByText := true, laidKinds := [.data, .data], laidTests := true, laidLooks := .later }
def TxMeansCardSaid : Prop := Claim7.holds Tryd.pinned (.plain (OpenSpec.ofChange txMeansSpec)) txMeansCard

/-- THE TIED CARD OF 'plexuslaw05.TxBounds'. -/
def txBoundsCard : Claim7 := { stood := { row := txBoundsRow, standIns := [], harness := (true, "6494183472798bc3bb64662500868fc351cc64d467171a4e08a7b0518be560ab"), looks := false }, kinds := [], alts := [], laidByText := true, laidKinds := [.data, .data], laidTests := true, laidLooks := .later }
def TxBoundsCardSaid : Prop := Claim7.holds Tryd.pinned (.plain (OpenSpec.ofChange txBoundsSpec)) txBoundsCard

/-- THE SECOND FORM's CARD OF 'plexuslaw05.TxChecks'. -/
def txChecksUptoCard : Claim7 := { stood := { row := txChecksUptoRow, standIns := [], harness := (true, "6494183472798bc3bb64662500868fc351cc64d467171a4e08a7b0518be560ab"), looks := false }, kinds := [], alts := [], laidByText := true, laidKinds := [.data, .data], laidTests := true, laidLooks := .later }
def TxChecksUptoCardSaid : Prop := Claim7.holds Tryd.pinned (.plain (OpenSpec.upto txChecksSpec)) txChecksUptoCard

/-- THE SECOND FORM's CARD OF 'plexuslaw05.TxLooks'. -/
def txLooksUptoCard : Claim7 := { stood := { row := txLooksUptoRow, standIns := [], harness := (true, "6494183472798bc3bb64662500868fc351cc64d467171a4e08a7b0518be560ab"), looks := false }, kinds := [], alts := [], laidByText := true, laidKinds := [.data, .data], laidTests := true, laidLooks := .later }
def TxLooksUptoCardSaid : Prop := Claim7.holds Tryd.pinned (.plain (OpenSpec.upto txLooksSpec)) txLooksUptoCard

/-- THE SECOND FORM's CARD OF 'plexuslaw05.TxMeans'. -/
def txMeansUptoCard : Claim7 := { stood := { row := txMeansUptoRow, standIns := [], harness := (true, "6494183472798bc3bb64662500868fc351cc64d467171a4e08a7b0518be560ab"), looks := false }, kinds := [], alts := [], laidByText := true, laidKinds := [.data, .data], laidTests := true, laidLooks := .later }
def TxMeansUptoCardSaid : Prop := Claim7.holds Tryd.pinned (.plain (OpenSpec.upto txMeansSpec)) txMeansUptoCard

/-- THE SECOND FORM's CARD OF 'plexuslaw05.TxBounds'. -/
def txBoundsUptoCard : Claim7 := { stood := { row := txBoundsUptoRow, standIns := [], harness := (true, "6494183472798bc3bb64662500868fc351cc64d467171a4e08a7b0518be560ab"), looks := false }, kinds := [], alts := [], laidByText := true, laidKinds := [.data, .data], laidTests := true, laidLooks := .later }
def TxBoundsUptoCardSaid : Prop := Claim7.holds Tryd.pinned (.plain (OpenSpec.upto txBoundsSpec)) txBoundsUptoCard
end Rows
end Go.Proofs.YtckomfffilonlaaDoor
