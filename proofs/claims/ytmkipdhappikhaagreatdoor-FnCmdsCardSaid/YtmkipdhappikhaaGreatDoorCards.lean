/-
  DERIVED. GIVEN WITH THE SEED: THE CARDS: each row of YtmkipdhappikhaaGreatDoorRows.lean that lists a variable, with what it lists TIED to the program's text (the seventh form; the later family's looks); each row that meets fmt, with fmt's text TOLD by the authors' own Lean function (tested against real Go, not proved from fmt's source: count such statements apart). THE CARD IS WHAT COUNTS. Prove the row's statement (the work); the ties are given (YtmkipdhappikhaaGreatDoorTie.lean); close each card by the builder's one call (the guide's Derived/Test/ToyasCard.lean, 'card_holds'). Laid BY PROGRAM, IN A SANDBOX (cutbox-door.mjs). By AI agents, Wed Nov 11 2026. No macro, syntax, notation, axiom, sorry.
-/
import Derived.Test.YtmkipdhappikhaaGreatDoorRows
import GoSem.ClaimSeven
namespace Go.Proofs.YtmkipdhappikhaaGreatDoor
namespace Rows

/-- THE TIED CARD OF 'laws.FnEnsTexts'. -/
def fnEnsTextsCard : Claim7 := { stood := { row := fnEnsTextsRow, standIns := [], harness := (true, "b6a5554ac679733a46c5993040d4434e84bcc4dfac802f4e3a427101c2b5f24d"), looks := true }, kinds := [], alts := [], laidByText := true, laidKinds := [.data, .data, .data, .data, .sentinel, .sentinel, .pinned], laidTests := true, laidLooks := .later }
def FnEnsTextsCardSaid : Prop := Claim7.holds Tryz.pinned (.plain (OpenSpec.ofChange fnEnsTextsSpec)) fnEnsTextsCard

/-- THE TIED CARD OF 'laws.FnCmds'. -/
def fnCmdsCard : Claim7 := { stood := { row := fnCmdsRow, standIns := [], harness := (true, "b6a5554ac679733a46c5993040d4434e84bcc4dfac802f4e3a427101c2b5f24d"), looks := true }, kinds := [], alts := [], laidByText := true, laidKinds := [.data, .data, .data, .data, .sentinel, .sentinel, .pinned], laidTests := true, laidLooks := .later }
def FnCmdsCardSaid : Prop := Claim7.holds Tryz.pinned (.plain (OpenSpec.ofChange fnCmdsSpec)) fnCmdsCard

/-- THE SECOND FORM's CARD OF 'laws.FnEnsTexts'. -/
def fnEnsTextsUptoCard : Claim7 := { stood := { row := fnEnsTextsUptoRow, standIns := [], harness := (true, "b6a5554ac679733a46c5993040d4434e84bcc4dfac802f4e3a427101c2b5f24d"), looks := true }, kinds := [], alts := [], laidByText := true, laidKinds := [.data, .data, .data, .data, .sentinel, .sentinel, .pinned], laidTests := true, laidLooks := .later }
def FnEnsTextsUptoCardSaid : Prop := Claim7.holds Tryz.pinned (.plain (OpenSpec.upto fnEnsTextsSpec)) fnEnsTextsUptoCard

/-- THE SECOND FORM's CARD OF 'laws.FnCmds'. -/
def fnCmdsUptoCard : Claim7 := { stood := { row := fnCmdsUptoRow, standIns := [], harness := (true, "b6a5554ac679733a46c5993040d4434e84bcc4dfac802f4e3a427101c2b5f24d"), looks := true }, kinds := [], alts := [], laidByText := true, laidKinds := [.data, .data, .data, .data, .sentinel, .sentinel, .pinned], laidTests := true, laidLooks := .later }
def FnCmdsUptoCardSaid : Prop := Claim7.holds Tryz.pinned (.plain (OpenSpec.upto fnCmdsSpec)) fnCmdsUptoCard
end Rows
end Go.Proofs.YtmkipdhappikhaaGreatDoor
