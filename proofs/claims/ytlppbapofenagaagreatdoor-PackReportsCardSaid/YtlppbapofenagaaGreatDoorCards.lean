/-
  DERIVED. GIVEN WITH THE SEED: THE CARDS: each row of YtlppbapofenagaaGreatDoorRows.lean that lists a variable, with what it lists TIED to the program's text (the seventh form; the later family's looks); each row that meets fmt, with fmt's text TOLD by the authors' own Lean function (tested against real Go, not proved from fmt's source: count such statements apart). THE CARD IS WHAT COUNTS. Prove the row's statement (the work); the ties are given (YtlppbapofenagaaGreatDoorTie.lean); close each card by the builder's one call (the guide's Derived/Test/ToyasCard.lean, 'card_holds'). Laid BY PROGRAM, IN A SANDBOX (cutbox-door.mjs). By AI agents, Wed Nov 11 2026. No macro, syntax, notation, axiom, sorry.
-/
import Derived.Test.YtlppbapofenagaaGreatDoorRows
import GoSem.ClaimSeven
namespace Go.Proofs.YtlppbapofenagaaGreatDoor
namespace Rows

/-- THE TIED CARD OF 'galleylaw06.PackReports'. -/
def packReportsCard : Claim7 := { stood := { row := packReportsRow, standIns := [], harness := (true, "86deae04023b167fcf87ed73cdc91d95afbdda1d8b3192896f8d5ab10f017ccf"), looks := false }, kinds := [], alts := [], laidByText := true, laidKinds := [.data, .data, .data], laidTests := true, laidLooks := .later }
def PackReportsCardSaid : Prop := Claim7.holds Tryz.pinned (.plain (OpenSpec.ofChange packReportsSpec)) packReportsCard

/-- THE TIED CARD OF 'galleylaw06.PackNatural'. -/
def packNaturalCard : Claim7 := { stood := { row := packNaturalRow, standIns := [], harness := (true, "86deae04023b167fcf87ed73cdc91d95afbdda1d8b3192896f8d5ab10f017ccf"), looks := false }, kinds := [], alts := [], laidByText := true, laidKinds := [.data, .data, .data], laidTests := true, laidLooks := .later }
def PackNaturalCardSaid : Prop := Claim7.holds Tryz.pinned (.plain (OpenSpec.ofChange packNaturalSpec)) packNaturalCard

/-- THE SECOND FORM's CARD OF 'galleylaw06.PackReports'. -/
def packReportsUptoCard : Claim7 := { stood := { row := packReportsUptoRow, standIns := [], harness := (true, "86deae04023b167fcf87ed73cdc91d95afbdda1d8b3192896f8d5ab10f017ccf"), looks := false }, kinds := [], alts := [], laidByText := true, laidKinds := [.data, .data, .data], laidTests := true, laidLooks := .later }
def PackReportsUptoCardSaid : Prop := Claim7.holds Tryz.pinned (.plain (OpenSpec.upto packReportsSpec)) packReportsUptoCard

/-- THE SECOND FORM's CARD OF 'galleylaw06.PackNatural'. -/
def packNaturalUptoCard : Claim7 := { stood := { row := packNaturalUptoRow, standIns := [], harness := (true, "86deae04023b167fcf87ed73cdc91d95afbdda1d8b3192896f8d5ab10f017ccf"), looks := false }, kinds := [], alts := [], laidByText := true, laidKinds := [.data, .data, .data], laidTests := true, laidLooks := .later }
def PackNaturalUptoCardSaid : Prop := Claim7.holds Tryz.pinned (.plain (OpenSpec.upto packNaturalSpec)) packNaturalUptoCard
end Rows
end Go.Proofs.YtlppbapofenagaaGreatDoor
