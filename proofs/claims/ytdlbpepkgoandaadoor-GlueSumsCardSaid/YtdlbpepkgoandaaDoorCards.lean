/-
  DERIVED. GIVEN WITH THE SEED: THE CARDS: each row of YtdlbpepkgoandaaDoorRows.lean that lists a variable, with what it lists TIED to the program's text (the seventh form; the later family's looks); each row that meets fmt, with fmt's text TOLD by the authors' own Lean function (tested against real Go, not proved from fmt's source: count such statements apart). THE CARD IS WHAT COUNTS. Prove the row's statement (the work); the ties are given (YtdlbpepkgoandaaDoorTie.lean); close each card by the builder's one call (the guide's Derived/Test/ToyasCard.lean, 'card_holds'). Laid BY PROGRAM, IN A SANDBOX (cutbox-door.mjs). By AI agents, Wed Nov 11 2026. No macro, syntax, notation, axiom, sorry.
-/
import Derived.Test.YtdlbpepkgoandaaDoorRows
import GoSem.ClaimSeven
namespace Go.Proofs.YtdlbpepkgoandaaDoor
namespace Rows

/-- THE TIED CARD OF 'galleylaw01.ScaledParts'. -/
def scaledPartsCard : Claim7 := { stood := { row := scaledPartsRow, standIns := [], harness := (true, "3112023742b395e720a62e6919cb27c8ed94fb076dc0ff12524c580d6ce7e531"), looks := false }, kinds := [], alts := [], laidByText := true, laidKinds := [.data, .data, .data], laidTests := true, laidLooks := .later }
def ScaledPartsCardSaid : Prop := Claim7.holds Tryd.pinned (.plain (OpenSpec.ofChange scaledPartsSpec)) scaledPartsCard

/-- THE TIED CARD OF 'galleylaw02.GlueSums'. -/
def glueSumsCard : Claim7 := { stood := { row := glueSumsRow, standIns := [], harness := (true, "3112023742b395e720a62e6919cb27c8ed94fb076dc0ff12524c580d6ce7e531"), looks := false }, kinds := [], alts := [], laidByText := true, laidKinds := [.data, .data, .data, .data], laidTests := true, laidLooks := .later }
def GlueSumsCardSaid : Prop := Claim7.holds Tryd.pinned (.plain (OpenSpec.ofChange glueSumsSpec)) glueSumsCard

/-- THE SECOND FORM's CARD OF 'galleylaw01.ScaledParts'. -/
def scaledPartsUptoCard : Claim7 := { stood := { row := scaledPartsUptoRow, standIns := [], harness := (true, "3112023742b395e720a62e6919cb27c8ed94fb076dc0ff12524c580d6ce7e531"), looks := false }, kinds := [], alts := [], laidByText := true, laidKinds := [.data, .data, .data], laidTests := true, laidLooks := .later }
def ScaledPartsUptoCardSaid : Prop := Claim7.holds Tryd.pinned (.plain (OpenSpec.upto scaledPartsSpec)) scaledPartsUptoCard

/-- THE SECOND FORM's CARD OF 'galleylaw02.GlueSums'. -/
def glueSumsUptoCard : Claim7 := { stood := { row := glueSumsUptoRow, standIns := [], harness := (true, "3112023742b395e720a62e6919cb27c8ed94fb076dc0ff12524c580d6ce7e531"), looks := false }, kinds := [], alts := [], laidByText := true, laidKinds := [.data, .data, .data, .data], laidTests := true, laidLooks := .later }
def GlueSumsUptoCardSaid : Prop := Claim7.holds Tryd.pinned (.plain (OpenSpec.upto glueSumsSpec)) glueSumsUptoCard
end Rows
end Go.Proofs.YtdlbpepkgoandaaDoor
