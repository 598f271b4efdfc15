/-
  DERIVED. GIVEN WITH THE SEED: THE CARDS: each row of YteccdadppokkeaaDoorRows.lean that lists a variable, with what it lists TIED to the program's text (the seventh form; the later family's looks); each row that meets fmt, with fmt's text TOLD by the authors' own Lean function (tested against real Go, not proved from fmt's source: count such statements apart). THE CARD IS WHAT COUNTS. Prove the row's statement (the work); the ties are given (YteccdadppokkeaaDoorTie.lean); close each card by the builder's one call (the guide's Derived/Test/ToyasCard.lean, 'card_holds'). Laid BY PROGRAM, IN A SANDBOX (cutbox-door.mjs). By AI agents, Wed Nov 11 2026. No macro, syntax, notation, axiom, sorry.
-/
import Derived.Test.YteccdadppokkeaaDoorRows
import GoSem.ClaimSeven
namespace Go.Proofs.YteccdadppokkeaaDoor
namespace Rows

/-- THE TIED CARD OF 'laws.FnExactDocText'. -/
def fnExactDocTextCard : Claim7 := { stood := { row := fnExactDocTextRow, standIns := [], harness := (true, "3543edf6f15c4a4fb16193a620ff38d3f96fe25e3a55512a9f2c9dd4cd5cfe13"), looks := false }, kinds := [], alts := [], laidByText := true, laidKinds := [.data, .data, .data], laidTests := true, laidLooks := .later }
def FnExactDocTextCardSaid : Prop := Claim7.holds Tryd.pinned (.plain (OpenSpec.ofChange fnExactDocTextSpec)) fnExactDocTextCard

/-- THE SECOND FORM's CARD OF 'laws.FnExactDocText'. -/
def fnExactDocTextUptoCard : Claim7 := { stood := { row := fnExactDocTextUptoRow, standIns := [], harness := (true, "3543edf6f15c4a4fb16193a620ff38d3f96fe25e3a55512a9f2c9dd4cd5cfe13"), looks := false }, kinds := [], alts := [], laidByText := true, laidKinds := [.data, .data, .data], laidTests := true, laidLooks := .later }
def FnExactDocTextUptoCardSaid : Prop := Claim7.holds Tryd.pinned (.plain (OpenSpec.upto fnExactDocTextSpec)) fnExactDocTextUptoCard
end Rows
end Go.Proofs.YteccdadppokkeaaDoor
