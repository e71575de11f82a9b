/-
  DERIVED. GIVEN WITH THE SEED: THE CARDS: each row of YtipjhjgjomfflaaDoorRows.lean that lists a variable, with what it lists TIED to the program's text (the seventh form; the later family's looks); each row that meets fmt, with fmt's text TOLD by the authors' own Lean function (tested against real Go, not proved from fmt's source: count such statements apart). THE CARD IS WHAT COUNTS. Prove the row's statement (the work); the ties are given (YtipjhjgjomfflaaDoorTie.lean); close each card by the builder's one call (the guide's Derived/Test/ToyasCard.lean, 'card_holds'). Laid BY PROGRAM, IN A SANDBOX (cutbox-door.mjs). By AI agents, Wed Nov 11 2026. No macro, syntax, notation, axiom, sorry.
-/
import Derived.Test.YtipjhjgjomfflaaDoorRows
import GoSem.ClaimSeven
namespace Go.Proofs.YtipjhjgjomfflaaDoor
namespace Rows

/-- THE TIED CARD OF 'plexuslaw04.MoneySums'. -/
def moneySumsCard : Claim7 := { stood := { row := moneySumsRow, standIns := [], harness := (true, "6eb2a799dc7d29b87f0c2b9f242faa505c8b6937a15c2b198e8c2a58f60fb7fb"), looks := false }, kinds := [], alts := [], laidByText := true, laidKinds := [.data, .data, .data, .data, .pinned], laidTests := true, laidLooks := .later }
def MoneySumsCardSaid : Prop := Claim7.holds Tryd.pinned (.plain (OpenSpec.ofChange moneySumsSpec)) moneySumsCard

/-- THE TIED CARD OF 'plexuslaw04.MoneyTexts'. -/
def moneyTextsCard : Claim7 := { stood := { row := moneyTextsRow, standIns := [], harness := (true, "6eb2a799dc7d29b87f0c2b9f242faa505c8b6937a15c2b198e8c2a58f60fb7fb"), looks := false }, kinds := [], alts := [], laidByText := true, laidKinds := [.data, .data, .data, .data, .pinned], laidTests := true, laidLooks := .later }
def MoneyTextsCardSaid : Prop := Claim7.holds Tryd.pinned (.plain (OpenSpec.ofChange moneyTextsSpec)) moneyTextsCard

/-- THE TIED CARD OF 'plexuslaw04.MoneyMeans'. -/
def moneyMeansCard : Claim7 := { stood := { row := moneyMeansRow, standIns := [], harness := (true, "6eb2a799dc7d29b87f0c2b9f242faa505c8b6937a15c2b198e8c2a58f60fb7fb"), looks := false }, kinds := [], alts := [], laidByText := true, laidKinds := [.data, .data, .data, .data, .pinned], laidTests := true, laidLooks := .later }
def MoneyMeansCardSaid : Prop := Claim7.holds Tryd.pinned (.plain (OpenSpec.ofChange moneyMeansSpec)) moneyMeansCard

/-- THE SECOND FORM's CARD OF 'plexuslaw04.MoneySums'. -/
def moneySumsUptoCard : Claim7 := { stood := { row := moneySumsUptoRow, standIns := [], harness := (true, "6eb2a799dc7d29b87f0c2b9f242faa505c8b6937a15c2b198e8c2a58f60fb7fb"), looks := false }, kinds := [], alts := [], laidByText := true, laidKinds := [.data, .data, .data, .data, .pinned], laidTests := true, laidLooks := .later }
def MoneySumsUptoCardSaid : Prop := Claim7.holds Tryd.pinned (.plain (OpenSpec.upto moneySumsSpec)) moneySumsUptoCard

/-- THE SECOND FORM's CARD OF 'plexuslaw04.MoneyTexts'. -/
def moneyTextsUptoCard : Claim7 := { stood := { row := moneyTextsUptoRow, standIns := [], harness := (true, "6eb2a799dc7d29b87f0c2b9f242faa505c8b6937a15c2b198e8c2a58f60fb7fb"), looks := false }, kinds := [], alts := [], laidByText := true, laidKinds := [.data, .data, .data, .data, .pinned], laidTests := true, laidLooks := .later }
def MoneyTextsUptoCardSaid : Prop := Claim7.holds Tryd.pinned (.plain (OpenSpec.upto moneyTextsSpec)) moneyTextsUptoCard

/-- THE SECOND FORM's CARD OF 'plexuslaw04.MoneyMeans'. -/
def moneyMeansUptoCard : Claim7 := { stood := { row := moneyMeansUptoRow, standIns := [], harness := (true, "6eb2a799dc7d29b87f0c2b9f242faa505c8b6937a15c2b198e8c2a58f60fb7fb"), looks := false }, kinds := [], alts := [], laidByText := true, laidKinds := [.data, .data, .data, .data, .pinned], laidTests := true, laidLooks := .later }
def MoneyMeansUptoCardSaid : Prop := Claim7.holds Tryd.pinned (.plain (OpenSpec.upto moneyMeansSpec)) moneyMeansUptoCard
end Rows
end Go.Proofs.YtipjhjgjomfflaaDoor
