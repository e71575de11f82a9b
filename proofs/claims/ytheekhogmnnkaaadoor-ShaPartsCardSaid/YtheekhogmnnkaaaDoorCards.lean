/-
  DERIVED. GIVEN WITH THE SEED: THE CARDS: each row of YtheekhogmnnkaaaDoorRows.lean that lists a variable, with what it lists TIED to the program's text (the seventh form; the later family's looks); each row that meets fmt, with fmt's text TOLD by the authors' own Lean function (tested against real Go, not proved from fmt's source: count such statements apart). THE CARD IS WHAT COUNTS. Prove the row's statement (the work); the ties are given (YtheekhogmnnkaaaDoorTie.lean); close each card by the builder's one call (the guide's Derived/Test/ToyasCard.lean, 'card_holds'). Laid BY PROGRAM, IN A SANDBOX (cutbox-door.mjs). By AI agents, Wed Nov 11 2026. No macro, syntax, notation, axiom, sorry.
-/
import Derived.Test.YtheekhogmnnkaaaDoorRows
import GoSem.ClaimSeven
namespace Go.Proofs.YtheekhogmnnkaaaDoor
namespace Rows

/-- THE TIED CARD OF 'plexuslaw02.ShaSums'. -/
def shaSumsCard : Claim7 := { stood := { row := shaSumsRow, standIns := [], harness := (true, "eaf894c1d8e0ac0145519d54cb55ad8b714d6e2f58246aed0be623bcbbdeb59b"), looks := false }, kinds := [], alts := [], laidByText := true, laidKinds := [.data, .data], laidTests := true, laidLooks := .later }
def ShaSumsCardSaid : Prop := Claim7.holds Tryd.pinned (.plain (OpenSpec.ofChange shaSumsSpec)) shaSumsCard

/-- THE TIED CARD OF 'plexuslaw02.ShaParts'. -/
def shaPartsCard : Claim7 := { stood := { row := shaPartsRow, standIns := [], harness := (true, "eaf894c1d8e0ac0145519d54cb55ad8b714d6e2f58246aed0be623bcbbdeb59b"), looks := false }, kinds := [], alts := [], laidByText := true, laidKinds := [.data, .data], laidTests := true, laidLooks := .later }
def ShaPartsCardSaid : Prop := Claim7.holds Tryd.pinned (.plain (OpenSpec.ofChange shaPartsSpec)) shaPartsCard

/-- THE TIED CARD OF 'plexuslaw02.ShaMeans'. -/
def shaMeansCard : Claim7 := { stood := { row := shaMeansRow, standIns := [], harness := (true, "eaf894c1d8e0ac0145519d54cb55ad8b714d6e2f58246aed0be623bcbbdeb59b"), looks := false }, kinds := [], alts := [], laidByText := true, laidKinds := [.data, .data], laidTests := true, laidLooks := .later }
def ShaMeansCardSaid : Prop := Claim7.holds Tryd.pinned (.plain (OpenSpec.ofChange shaMeansSpec)) shaMeansCard

/-- THE TIED CARD OF 'plexuslaw02.ShaTables'. -/
def shaTablesCard : Claim7 := { stood := { row := shaTablesRow, standIns := [], harness := (true, "eaf894c1d8e0ac0145519d54cb55ad8b714d6e2f58246aed0be623bcbbdeb59b"), looks := false }, kinds := [], alts := [], laidByText := true, laidKinds := [.data, .data], laidTests := true, laidLooks := .later }
def ShaTablesCardSaid : Prop := Claim7.holds Tryd.pinned (.plain (OpenSpec.ofChange shaTablesSpec)) shaTablesCard

/-- THE SECOND FORM's CARD OF 'plexuslaw02.ShaSums'. -/
def shaSumsUptoCard : Claim7 := { stood := { row := shaSumsUptoRow, standIns := [], harness := (true, "eaf894c1d8e0ac0145519d54cb55ad8b714d6e2f58246aed0be623bcbbdeb59b"), looks := false }, kinds := [], alts := [], laidByText := true, laidKinds := [.data, .data], laidTests := true, laidLooks := .later }
def ShaSumsUptoCardSaid : Prop := Claim7.holds Tryd.pinned (.plain (OpenSpec.upto shaSumsSpec)) shaSumsUptoCard

/-- THE SECOND FORM's CARD OF 'plexuslaw02.ShaParts'. -/
def shaPartsUptoCard : Claim7 := { stood := { row := shaPartsUptoRow, standIns := [], harness := (true, "eaf894c1d8e0ac0145519d54cb55ad8b714d6e2f58246aed0be623bcbbdeb59b"), looks := false }, kinds := [], alts := [], laidByText := true, laidKinds := [.data, .data], laidTests := true, laidLooks := .later }
def ShaPartsUptoCardSaid : Prop := Claim7.holds Tryd.pinned (.plain (OpenSpec.upto shaPartsSpec)) shaPartsUptoCard

/-- THE SECOND FORM's CARD OF 'plexuslaw02.ShaMeans'. -/
def shaMeansUptoCard : Claim7 := { stood := { row := shaMeansUptoRow, standIns := [], harness := (true, "eaf894c1d8e0ac0145519d54cb55ad8b714d6e2f58246aed0be623bcbbdeb59b"), looks := false }, kinds := [], alts := [], laidByText := true, laidKinds := [.data, .data], laidTests := true, laidLooks := .later }
def ShaMeansUptoCardSaid : Prop := Claim7.holds Tryd.pinned (.plain (OpenSpec.upto shaMeansSpec)) shaMeansUptoCard

/-- THE SECOND FORM's CARD OF 'plexuslaw02.ShaTables'. -/
def shaTablesUptoCard : Claim7 := { stood := { row := shaTablesUptoRow, standIns := [], harness := (true, "eaf894c1d8e0ac0145519d54cb55ad8b714d6e2f58246aed0be623bcbbdeb59b"), looks := false }, kinds := [], alts := [], laidByText := true, laidKinds := [.data, .data], laidTests := true, laidLooks := .later }
def ShaTablesUptoCardSaid : Prop := Claim7.holds Tryd.pinned (.plain (OpenSpec.upto shaTablesSpec)) shaTablesUptoCard
end Rows
end Go.Proofs.YtheekhogmnnkaaaDoor
