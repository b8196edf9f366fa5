/-
  No cell of these rows narrows 'for every input' (looked for: loops, veiled, ifaces, maps, wideKeys, modest, calm, conditions, laid).
  DERIVED. THE GIVEN ROWS OF THIS SEAT. 3 by the template 'for every input the law returns true; each argument reads behind the call as it read before'; 0 by the template 'total and deterministic' (their statements: YtcncfmjfgdbfeabTotals.lean).
  GIVEN WITH THE SEED: the statements are not yours to turn. If you find one false, say at which input.
  Laid BY PROGRAM, IN A SANDBOX (cutbox-rows.mjs): the forced cells as the released guide's own fill.sh prints them over the translation c4ea6f01397e08fd… (all of the seat's roots in one cut). By AI agents, Wed Nov 11 2026. No macro, syntax, notation, axiom, sorry.
-/
import Derived.Test.YtcncfmjfgdbfeabChecked
import GoSem.Claim
import GoSem.ClaimJoined
import GoSem.ClaimMapViews
import Derived.JoinedTies
import Derived.KernelRfl
namespace Go.Proofs.Ytcncfmjfgdbfeab
/- THE CELL 'sum', in the pinned program and in every row, IS THE sha256 OF THE DUMP (.gsa) THAT YtcncfmjfgdbfeabProg.lean LOADS. Nothing in Lean hashes anything: it is a label: what it is worth is what the hold of that sum in a sandbox is worth. -/
noncomputable def Try.pinned : Pinned := { name := "ytcncfmjfgdbfeab", sum := "c4ea6f01397e08fda51e06417898e34ee0b2ba87bba4d4d1798489413567433e", checked := Try.checked }
namespace Rows
def none {H : Type} : Left H := { results := [], args := [] }

/-- 'galleylaw11.VlistPrunes': WHATEVER THE INPUT: true; the input reads as it did. -/
def vlistPrunesSpec : ChangeSpec := { name := "vlistPrunes", fn := fun _ => fun
  | [d1, d2] => { results := [.lit (.bool true)], args := [d1, d2] }
  | _ => none }
def vlistPrunesRow : OpenClaim := { program := "ytcncfmjfgdbfeab", sum := "c4ea6f01397e08fda51e06417898e34ee0b2ba87bba4d4d1798489413567433e", func := "galley/galleylaw11.VlistPrunes", spec := "vlistPrunes", unfollowed := true, recurses := true, apart := false }
def VlistPrunesSaid : Prop := vlistPrunesRow.holds Try.pinned (OpenSpec.ofChange vlistPrunesSpec)

/-- ITS FALSE NEIGHBOUR: 'it returns false'. Refute it at one input. -/
def vlistPrunesWrong : ChangeSpec := { name := "vlistPrunes", fn := fun _ => fun
  | [d1, d2] => { results := [.lit (.bool false)], args := [d1, d2] }
  | _ => none }
def VlistPrunesWrongFalsely : Prop := vlistPrunesRow.holds Try.pinned (OpenSpec.ofChange vlistPrunesWrong)

/-- 'galleylaw11.VlistBest': WHATEVER THE INPUT: true; the input reads as it did. -/
def vlistBestSpec : ChangeSpec := { name := "vlistBest", fn := fun _ => fun
  | [d1, d2, d3] => { results := [.lit (.bool true)], args := [d1, d2, d3] }
  | _ => none }
def vlistBestRow : OpenClaim := { program := "ytcncfmjfgdbfeab", sum := "c4ea6f01397e08fda51e06417898e34ee0b2ba87bba4d4d1798489413567433e", func := "galley/galleylaw11.VlistBest", spec := "vlistBest", unfollowed := true, recurses := true, apart := false }
def VlistBestSaid : Prop := vlistBestRow.holds Try.pinned (OpenSpec.ofChange vlistBestSpec)

/-- ITS FALSE NEIGHBOUR: 'it returns false'. Refute it at one input. -/
def vlistBestWrong : ChangeSpec := { name := "vlistBest", fn := fun _ => fun
  | [d1, d2, d3] => { results := [.lit (.bool false)], args := [d1, d2, d3] }
  | _ => none }
def VlistBestWrongFalsely : Prop := vlistBestRow.holds Try.pinned (OpenSpec.ofChange vlistBestWrong)

/-- 'galleylaw11.VlistApart': WHATEVER THE INPUT: true; the input reads as it did. -/
def vlistApartSpec : ChangeSpec := { name := "vlistApart", fn := fun _ => fun
  | [d1, d2, d3, d4, d5] => { results := [.lit (.bool true)], args := [d1, d2, d3, d4, d5] }
  | _ => none }
def vlistApartRow : OpenClaim := { program := "ytcncfmjfgdbfeab", sum := "c4ea6f01397e08fda51e06417898e34ee0b2ba87bba4d4d1798489413567433e", func := "galley/galleylaw11.VlistApart", spec := "vlistApart", unfollowed := true, recurses := true, apart := false }
def VlistApartSaid : Prop := vlistApartRow.holds Try.pinned (OpenSpec.ofChange vlistApartSpec)

/-- ITS FALSE NEIGHBOUR: 'it returns false'. Refute it at one input. -/
def vlistApartWrong : ChangeSpec := { name := "vlistApart", fn := fun _ => fun
  | [d1, d2, d3, d4, d5] => { results := [.lit (.bool false)], args := [d1, d2, d3, d4, d5] }
  | _ => none }
def VlistApartWrongFalsely : Prop := vlistApartRow.holds Try.pinned (OpenSpec.ofChange vlistApartWrong)

/- THE SECOND FORM. 'bulk': how many values and letters a reading holds, each counted each time it is reached (what is shared counts as often as it is met; a slice's spare places count too). A statement '..UptoSaid' is the law's where the arguments, and the package variables that the reading takes, are together of bulk at most 1048576: NARROWER than '..Said'. Prove '..Said' where nothing that the law and all that it calls make is longer than what came in: it says more and counts as full. Else prove '..UptoSaid'. A law counts once. -/
mutual
def uptoBulk {H : Type} : DataW H → Nat
  | .lit (.string bytes) => bytes.length + 1
  | .lit _ => 1
  | .nil => 1
  | .ptr d => uptoBulk d + 1
  | .slice elems spare => uptoBulkAll elems + uptoBulkAll spare + 1
  | .agg parts => uptoBulkAll parts + 1
  | .iface _ d => uptoBulk d + 1
  | .map entries => uptoBulkEntries entries + 1
  | .held _ => 1
def uptoBulkAll {H : Type} : List (DataW H) → Nat
  | [] => 0
  | d :: r => uptoBulk d + uptoBulkAll r
def uptoBulkEntries {H : Type} : List (Lit × DataW H) → Nat
  | [] => 0
  | x :: r => uptoBulkEntry x + uptoBulkEntries r
def uptoBulkEntry {H : Type} : Lit × DataW H → Nat
  | (.string bytes, d) => bytes.length + uptoBulk d + 1
  | (_, d) => uptoBulk d + 1
 end
def uptoSmall : (H : Type) → List (DataW H) → Bool := fun _ ds => decide (uptoBulkAll ds ≤ 1048576)
def OpenSpec.upto (s : _root_.Go.ChangeSpec) : _root_.Go.OpenSpec := { _root_.Go.OpenSpec.ofChange s with cond := some uptoSmall }

/-- 'galleylaw11.VlistPrunes', WHERE WHAT IT READS IS OF BULK AT MOST 1048576: true; the input reads as it did. -/
def vlistPrunesUptoRow : OpenClaim := { program := "ytcncfmjfgdbfeab", sum := "c4ea6f01397e08fda51e06417898e34ee0b2ba87bba4d4d1798489413567433e", func := "galley/galleylaw11.VlistPrunes", spec := "vlistPrunes", unfollowed := true, recurses := true, apart := false, narrowed := true }
def VlistPrunesUptoSaid : Prop := vlistPrunesUptoRow.holds Try.pinned (OpenSpec.upto vlistPrunesSpec)

/-- 'galleylaw11.VlistBest', WHERE WHAT IT READS IS OF BULK AT MOST 1048576: true; the input reads as it did. -/
def vlistBestUptoRow : OpenClaim := { program := "ytcncfmjfgdbfeab", sum := "c4ea6f01397e08fda51e06417898e34ee0b2ba87bba4d4d1798489413567433e", func := "galley/galleylaw11.VlistBest", spec := "vlistBest", unfollowed := true, recurses := true, apart := false, narrowed := true }
def VlistBestUptoSaid : Prop := vlistBestUptoRow.holds Try.pinned (OpenSpec.upto vlistBestSpec)

/-- 'galleylaw11.VlistApart', WHERE WHAT IT READS IS OF BULK AT MOST 1048576: true; the input reads as it did. -/
def vlistApartUptoRow : OpenClaim := { program := "ytcncfmjfgdbfeab", sum := "c4ea6f01397e08fda51e06417898e34ee0b2ba87bba4d4d1798489413567433e", func := "galley/galleylaw11.VlistApart", spec := "vlistApart", unfollowed := true, recurses := true, apart := false, narrowed := true }
def VlistApartUptoSaid : Prop := vlistApartUptoRow.holds Try.pinned (OpenSpec.upto vlistApartSpec)

end Rows
end Go.Proofs.Ytcncfmjfgdbfeab
