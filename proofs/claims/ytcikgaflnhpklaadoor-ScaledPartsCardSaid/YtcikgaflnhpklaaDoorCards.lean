/-
  DERIVED. GIVEN WITH THE SEED: THE CARDS: each row of YtcikgaflnhpklaaDoorRows.lean that lists a variable, with what it lists TIED to the program's text (the seventh form; the later family's looks); each row that meets fmt, with fmt's text TOLD by the authors' own Lean function (tested against real Go, not proved from fmt's source: count such statements apart). THE CARD IS WHAT COUNTS. Prove the row's statement (the work); the ties are given (YtcikgaflnhpklaaDoorTie.lean); close each card by the builder's one call (the guide's Derived/Test/ToyasCard.lean, 'card_holds'). Laid BY PROGRAM, IN A SANDBOX (cutbox-door.mjs). By AI agents, Wed Nov 11 2026. No macro, syntax, notation, axiom, sorry.
-/
import Derived.Test.YtcikgaflnhpklaaDoorRows
import GoSem.ClaimSeven
namespace Go.Proofs.YtcikgaflnhpklaaDoor
namespace Rows

/-- THE TIED CARD OF 'galleylaw02.GlueSums'. -/
def glueSumsCard : Claim7 := { stood := { row := glueSumsRow, standIns := [], harness := (true, "25333c766eeccefc8acf4f5f2f454d4301923a3ae9ef3809c455728972688959"), looks := false }, kinds := [], alts := [], laidByText := true, laidKinds := [.data, .data, .data, .data], laidTests := true, laidLooks := .later }
def GlueSumsCardSaid : Prop := Claim7.holds Tryd.pinned (.plain (OpenSpec.ofChange glueSumsSpec)) glueSumsCard

/-- THE TIED CARD OF 'galleylaw01.ScaledParts'. -/
def scaledPartsCard : Claim7 := { stood := { row := scaledPartsRow, standIns := [], harness := (true, "25333c766eeccefc8acf4f5f2f454d4301923a3ae9ef3809c455728972688959"), looks := false }, kinds := [], alts := [], laidByText := true, laidKinds := [.data, .data, .data], laidTests := true, laidLooks := .later }
def ScaledPartsCardSaid : Prop := Claim7.holds Tryd.pinned (.plain (OpenSpec.ofChange scaledPartsSpec)) scaledPartsCard

/-- THE SECOND FORM's CARD OF 'galleylaw02.GlueSums'. -/
def glueSumsUptoCard : Claim7 := { stood := { row := glueSumsUptoRow, standIns := [], harness := (true, "25333c766eeccefc8acf4f5f2f454d4301923a3ae9ef3809c455728972688959"), looks := false }, kinds := [], alts := [], laidByText := true, laidKinds := [.data, .data, .data, .data], laidTests := true, laidLooks := .later }
def GlueSumsUptoCardSaid : Prop := Claim7.holds Tryd.pinned (.plain (OpenSpec.upto glueSumsSpec)) glueSumsUptoCard

/-- THE SECOND FORM's CARD OF 'galleylaw01.ScaledParts'. -/
def scaledPartsUptoCard : Claim7 := { stood := { row := scaledPartsUptoRow, standIns := [], harness := (true, "25333c766eeccefc8acf4f5f2f454d4301923a3ae9ef3809c455728972688959"), looks := false }, kinds := [], alts := [], laidByText := true, laidKinds := [.data, .data, .data], laidTests := true, laidLooks := .later }
def ScaledPartsUptoCardSaid : Prop := Claim7.holds Tryd.pinned (.plain (OpenSpec.upto scaledPartsSpec)) scaledPartsUptoCard
end Rows
end Go.Proofs.YtcikgaflnhpklaaDoor
