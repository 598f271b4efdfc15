/-
  DERIVED. GIVEN WITH THE SEED: THE CARDS: each row of YthjphnopcgdgdaaDoorRows.lean that lists a variable, with what it lists TIED to the program's text (the seventh form; the later family's looks); each row that meets fmt, with fmt's text TOLD by the authors' own Lean function (tested against real Go, not proved from fmt's source: count such statements apart). THE CARD IS WHAT COUNTS. Prove the row's statement (the work); the ties are given (YthjphnopcgdgdaaDoorTie.lean); close each card by the builder's one call (the guide's Derived/Test/ToyasCard.lean, 'card_holds'). Laid BY PROGRAM, IN A SANDBOX (cutbox-door.mjs). By AI agents, Wed Nov 11 2026. No macro, syntax, notation, axiom, sorry.
-/
import Derived.Test.YthjphnopcgdgdaaDoorRows
import GoSem.ClaimSeven
namespace Go.Proofs.YthjphnopcgdgdaaDoor
namespace Rows

/-- THE TIED CARD OF 'laws.FnHits'. -/
def fnHitsCard : Claim7 := { stood := { row := fnHitsRow, standIns := [], harness := (true, "e6965dbf32317e98797d73fe3169150e7e3742ca56613ab3e9a227fdf7f8fe64"), looks := true }, kinds := [], alts := [], laidByText := true, laidKinds := [.data, .data, .data, .sentinel, .sentinel], laidTests := true, laidLooks := .later }
def FnHitsCardSaid : Prop := Claim7.holds Tryd.pinned (.plain (OpenSpec.ofChange fnHitsSpec)) fnHitsCard

/-- THE TIED CARD OF 'laws.FnSpans'. -/
def fnSpansCard : Claim7 := { stood := { row := fnSpansRow, standIns := [], harness := (true, "e6965dbf32317e98797d73fe3169150e7e3742ca56613ab3e9a227fdf7f8fe64"), looks := true }, kinds := [], alts := [], laidByText := true, laidKinds := [.data, .data, .data], laidTests := true, laidLooks := .later }
def FnSpansCardSaid : Prop := Claim7.holds Tryd.pinned (.plain (OpenSpec.ofChange fnSpansSpec)) fnSpansCard

/-- THE TIED CARD OF 'laws.FnBoxTexts'. -/
def fnBoxTextsCard : Claim7 := { stood := { row := fnBoxTextsRow, standIns := [], harness := (true, "e6965dbf32317e98797d73fe3169150e7e3742ca56613ab3e9a227fdf7f8fe64"), looks := true }, kinds := [], alts := [], laidByText := true, laidKinds := [.data, .data, .data], laidTests := true, laidLooks := .later }
def FnBoxTextsCardSaid : Prop := Claim7.holds Tryd.pinned (.plain (OpenSpec.ofChange fnBoxTextsSpec)) fnBoxTextsCard

/-- THE TIED CARD OF 'laws.FnAnswers'. -/
def fnAnswersCard : Claim7 := { stood := { row := fnAnswersRow, standIns := [], harness := (true, "e6965dbf32317e98797d73fe3169150e7e3742ca56613ab3e9a227fdf7f8fe64"), looks := true }, kinds := [], alts := [], laidByText := true, laidKinds := [.data, .data, .data], laidTests := true, laidLooks := .later }
def FnAnswersCardSaid : Prop := Claim7.holds Tryd.pinned (.plain (OpenSpec.ofChange fnAnswersSpec)) fnAnswersCard

/-- THE SECOND FORM's CARD OF 'laws.FnHits'. -/
def fnHitsUptoCard : Claim7 := { stood := { row := fnHitsUptoRow, standIns := [], harness := (true, "e6965dbf32317e98797d73fe3169150e7e3742ca56613ab3e9a227fdf7f8fe64"), looks := true }, kinds := [], alts := [], laidByText := true, laidKinds := [.data, .data, .data, .sentinel, .sentinel], laidTests := true, laidLooks := .later }
def FnHitsUptoCardSaid : Prop := Claim7.holds Tryd.pinned (.plain (OpenSpec.upto fnHitsSpec)) fnHitsUptoCard

/-- THE SECOND FORM's CARD OF 'laws.FnSpans'. -/
def fnSpansUptoCard : Claim7 := { stood := { row := fnSpansUptoRow, standIns := [], harness := (true, "e6965dbf32317e98797d73fe3169150e7e3742ca56613ab3e9a227fdf7f8fe64"), looks := true }, kinds := [], alts := [], laidByText := true, laidKinds := [.data, .data, .data], laidTests := true, laidLooks := .later }
def FnSpansUptoCardSaid : Prop := Claim7.holds Tryd.pinned (.plain (OpenSpec.upto fnSpansSpec)) fnSpansUptoCard

/-- THE SECOND FORM's CARD OF 'laws.FnBoxTexts'. -/
def fnBoxTextsUptoCard : Claim7 := { stood := { row := fnBoxTextsUptoRow, standIns := [], harness := (true, "e6965dbf32317e98797d73fe3169150e7e3742ca56613ab3e9a227fdf7f8fe64"), looks := true }, kinds := [], alts := [], laidByText := true, laidKinds := [.data, .data, .data], laidTests := true, laidLooks := .later }
def FnBoxTextsUptoCardSaid : Prop := Claim7.holds Tryd.pinned (.plain (OpenSpec.upto fnBoxTextsSpec)) fnBoxTextsUptoCard

/-- THE SECOND FORM's CARD OF 'laws.FnAnswers'. -/
def fnAnswersUptoCard : Claim7 := { stood := { row := fnAnswersUptoRow, standIns := [], harness := (true, "e6965dbf32317e98797d73fe3169150e7e3742ca56613ab3e9a227fdf7f8fe64"), looks := true }, kinds := [], alts := [], laidByText := true, laidKinds := [.data, .data, .data], laidTests := true, laidLooks := .later }
def FnAnswersUptoCardSaid : Prop := Claim7.holds Tryd.pinned (.plain (OpenSpec.upto fnAnswersSpec)) fnAnswersUptoCard
end Rows
end Go.Proofs.YthjphnopcgdgdaaDoor
