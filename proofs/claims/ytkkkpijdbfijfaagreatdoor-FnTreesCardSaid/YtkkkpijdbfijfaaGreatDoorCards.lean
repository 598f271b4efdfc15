/-
  DERIVED. GIVEN WITH THE SEED: THE CARDS: each row of YtkkkpijdbfijfaaGreatDoorRows.lean that lists a variable, with what it lists TIED to the program's text (the seventh form; the later family's looks); each row that meets fmt, with fmt's text TOLD by the authors' own Lean function (tested against real Go, not proved from fmt's source: count such statements apart). THE CARD IS WHAT COUNTS. Prove the row's statement (the work); the ties are given (YtkkkpijdbfijfaaGreatDoorTie.lean); close each card by the builder's one call (the guide's Derived/Test/ToyasCard.lean, 'card_holds'). Laid BY PROGRAM, IN A SANDBOX (cutbox-door.mjs). By AI agents, Wed Nov 11 2026. No macro, syntax, notation, axiom, sorry.
-/
import Derived.Test.YtkkkpijdbfijfaaGreatDoorRows
import GoSem.ClaimSeven
namespace Go.Proofs.YtkkkpijdbfijfaaGreatDoor
namespace Rows

/-- THE TIED CARD OF 'laws.FnTrees'. -/
def fnTreesCard : Claim7 := { stood := { row := fnTreesRow, standIns := [], harness := (true, "8682113701ad4cfceaf62c096d19e589413413f18e3b049f41ddd090db3a43fb"), looks := true }, kinds := [], alts := [], laidByText := true, laidKinds := [.data, .data, .data, .data, .sentinel, .sentinel, .pinned], laidTests := true, laidLooks := .later }
def FnTreesCardSaid : Prop := Claim7.holds Tryz.pinned (.plain (OpenSpec.ofChange fnTreesSpec)) fnTreesCard

/-- THE TIED CARD OF 'laws.FnEnsTexts'. -/
def fnEnsTextsCard : Claim7 := { stood := { row := fnEnsTextsRow, standIns := [], harness := (true, "8682113701ad4cfceaf62c096d19e589413413f18e3b049f41ddd090db3a43fb"), looks := true }, kinds := [], alts := [], laidByText := true, laidKinds := [.data, .data, .data, .data, .sentinel, .sentinel, .pinned], laidTests := true, laidLooks := .later }
def FnEnsTextsCardSaid : Prop := Claim7.holds Tryz.pinned (.plain (OpenSpec.ofChange fnEnsTextsSpec)) fnEnsTextsCard

/-- THE SECOND FORM's CARD OF 'laws.FnTrees'. -/
def fnTreesUptoCard : Claim7 := { stood := { row := fnTreesUptoRow, standIns := [], harness := (true, "8682113701ad4cfceaf62c096d19e589413413f18e3b049f41ddd090db3a43fb"), looks := true }, kinds := [], alts := [], laidByText := true, laidKinds := [.data, .data, .data, .data, .sentinel, .sentinel, .pinned], laidTests := true, laidLooks := .later }
def FnTreesUptoCardSaid : Prop := Claim7.holds Tryz.pinned (.plain (OpenSpec.upto fnTreesSpec)) fnTreesUptoCard

/-- THE SECOND FORM's CARD OF 'laws.FnEnsTexts'. -/
def fnEnsTextsUptoCard : Claim7 := { stood := { row := fnEnsTextsUptoRow, standIns := [], harness := (true, "8682113701ad4cfceaf62c096d19e589413413f18e3b049f41ddd090db3a43fb"), looks := true }, kinds := [], alts := [], laidByText := true, laidKinds := [.data, .data, .data, .data, .sentinel, .sentinel, .pinned], laidTests := true, laidLooks := .later }
def FnEnsTextsUptoCardSaid : Prop := Claim7.holds Tryz.pinned (.plain (OpenSpec.upto fnEnsTextsSpec)) fnEnsTextsUptoCard
end Rows
end Go.Proofs.YtkkkpijdbfijfaaGreatDoor
