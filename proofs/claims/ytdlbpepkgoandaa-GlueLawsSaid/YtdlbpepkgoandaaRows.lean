/-
  No cell of these rows narrows 'for every input' (looked for: loops, veiled, ifaces, maps, wideKeys, modest, calm, conditions, laid).
  DERIVED. THE GIVEN ROWS OF THIS SEAT. 6 by the template 'for every input the law returns true; each argument reads behind the call as it read before'; 0 by the template 'total and deterministic' (their statements: YtdlbpepkgoandaaTotals.lean).
  GIVEN WITH THE SEED: the statements are not yours to turn. If you find one false, say at which input.
  Laid BY PROGRAM, IN A SANDBOX (cutbox-rows.mjs): the forced cells as the released guide's own fill.sh prints them over the translation a57191ed103c8d21… (all of the seat's roots in one cut). By AI agents, Wed Nov 11 2026. No macro, syntax, notation, axiom, sorry.
-/
import Derived.Test.YtdlbpepkgoandaaChecked
import GoSem.Claim
import GoSem.ClaimJoined
import GoSem.ClaimMapViews
import Derived.JoinedTies
import Derived.KernelRfl
namespace Go.Proofs.Ytdlbpepkgoandaa
/- THE CELL 'sum', in the pinned program and in every row, IS THE sha256 OF THE DUMP (.gsa) THAT YtdlbpepkgoandaaProg.lean LOADS. Nothing in Lean hashes anything: it is a label: what it is worth is what the hold of that sum in a sandbox is worth. -/
noncomputable def Try.pinned : Pinned := { name := "ytdlbpepkgoandaa", sum := "a57191ed103c8d2164dba9f936d4d16557ac8d07c624b2e77d080401e33d8336", checked := Try.checked }
namespace Rows
def none {H : Type} : Left H := { results := [], args := [] }

/-- 'galleylaw02.GlueFits': WHATEVER THE INPUT: true; the input reads as it did. -/
def glueFitsSpec : ChangeSpec := { name := "glueFits", fn := fun _ => fun
  | [d1, d2] => { results := [.lit (.bool true)], args := [d1, d2] }
  | _ => none }
def glueFitsRow : OpenClaim := { program := "ytdlbpepkgoandaa", sum := "a57191ed103c8d2164dba9f936d4d16557ac8d07c624b2e77d080401e33d8336", func := "galley/galleylaw02.GlueFits", spec := "glueFits", unfollowed := true, recurses := true, named := ["math/bits.divideError", "math/bits.overflowError"], apart := false }
def GlueFitsSaid : Prop := glueFitsRow.holds Try.pinned (OpenSpec.ofChange glueFitsSpec)

/-- ITS FALSE NEIGHBOUR: 'it returns false'. Refute it at one input. -/
def glueFitsWrong : ChangeSpec := { name := "glueFits", fn := fun _ => fun
  | [d1, d2] => { results := [.lit (.bool false)], args := [d1, d2] }
  | _ => none }
def GlueFitsWrongFalsely : Prop := glueFitsRow.holds Try.pinned (OpenSpec.ofChange glueFitsWrong)

/-- 'galleylaw02.GlueShares': WHATEVER THE INPUT: true; the input reads as it did. -/
def glueSharesSpec : ChangeSpec := { name := "glueShares", fn := fun _ => fun
  | [d1, d2, d3] => { results := [.lit (.bool true)], args := [d1, d2, d3] }
  | _ => none }
def glueSharesRow : OpenClaim := { program := "ytdlbpepkgoandaa", sum := "a57191ed103c8d2164dba9f936d4d16557ac8d07c624b2e77d080401e33d8336", func := "galley/galleylaw02.GlueShares", spec := "glueShares", unfollowed := true, recurses := true, named := ["math/bits.divideError", "math/bits.overflowError"], apart := false }
def GlueSharesSaid : Prop := glueSharesRow.holds Try.pinned (OpenSpec.ofChange glueSharesSpec)

/-- ITS FALSE NEIGHBOUR: 'it returns false'. Refute it at one input. -/
def glueSharesWrong : ChangeSpec := { name := "glueShares", fn := fun _ => fun
  | [d1, d2, d3] => { results := [.lit (.bool false)], args := [d1, d2, d3] }
  | _ => none }
def GlueSharesWrongFalsely : Prop := glueSharesRow.holds Try.pinned (OpenSpec.ofChange glueSharesWrong)

/-- 'galleylaw02.GlueJust': WHATEVER THE INPUT: true; the input reads as it did. -/
def glueJustSpec : ChangeSpec := { name := "glueJust", fn := fun _ => fun
  | [d1, d2] => { results := [.lit (.bool true)], args := [d1, d2] }
  | _ => none }
def glueJustRow : OpenClaim := { program := "ytdlbpepkgoandaa", sum := "a57191ed103c8d2164dba9f936d4d16557ac8d07c624b2e77d080401e33d8336", func := "galley/galleylaw02.GlueJust", spec := "glueJust", unfollowed := true, recurses := true, named := ["math/bits.divideError", "math/bits.overflowError"], apart := false }
def GlueJustSaid : Prop := glueJustRow.holds Try.pinned (OpenSpec.ofChange glueJustSpec)

/-- ITS FALSE NEIGHBOUR: 'it returns false'. Refute it at one input. -/
def glueJustWrong : ChangeSpec := { name := "glueJust", fn := fun _ => fun
  | [d1, d2] => { results := [.lit (.bool false)], args := [d1, d2] }
  | _ => none }
def GlueJustWrongFalsely : Prop := glueJustRow.holds Try.pinned (OpenSpec.ofChange glueJustWrong)

/-- 'galleylaw02.GlueFair': WHATEVER THE INPUT: true; the input reads as it did. -/
def glueFairSpec : ChangeSpec := { name := "glueFair", fn := fun _ => fun
  | [d1, d2, d3] => { results := [.lit (.bool true)], args := [d1, d2, d3] }
  | _ => none }
def glueFairRow : OpenClaim := { program := "ytdlbpepkgoandaa", sum := "a57191ed103c8d2164dba9f936d4d16557ac8d07c624b2e77d080401e33d8336", func := "galley/galleylaw02.GlueFair", spec := "glueFair", unfollowed := true, recurses := true, named := ["math/bits.divideError", "math/bits.overflowError"], apart := false }
def GlueFairSaid : Prop := glueFairRow.holds Try.pinned (OpenSpec.ofChange glueFairSpec)

/-- ITS FALSE NEIGHBOUR: 'it returns false'. Refute it at one input. -/
def glueFairWrong : ChangeSpec := { name := "glueFair", fn := fun _ => fun
  | [d1, d2, d3] => { results := [.lit (.bool false)], args := [d1, d2, d3] }
  | _ => none }
def GlueFairWrongFalsely : Prop := glueFairRow.holds Try.pinned (OpenSpec.ofChange glueFairWrong)

/-- 'galleylaw02.GlueLaws': WHATEVER THE INPUT: true; the input reads as it did. -/
def glueLawsSpec : ChangeSpec := { name := "glueLaws", fn := fun _ => fun
  | [d1, d2, d3, d4] => { results := [.lit (.bool true)], args := [d1, d2, d3, d4] }
  | _ => none }
def glueLawsRow : OpenClaim := { program := "ytdlbpepkgoandaa", sum := "a57191ed103c8d2164dba9f936d4d16557ac8d07c624b2e77d080401e33d8336", func := "galley/galleylaw02.GlueLaws", spec := "glueLaws", unfollowed := true, recurses := true, named := ["math/bits.divideError", "math/bits.overflowError"], apart := false }
def GlueLawsSaid : Prop := glueLawsRow.holds Try.pinned (OpenSpec.ofChange glueLawsSpec)

/-- ITS FALSE NEIGHBOUR: 'it returns false'. Refute it at one input. -/
def glueLawsWrong : ChangeSpec := { name := "glueLaws", fn := fun _ => fun
  | [d1, d2, d3, d4] => { results := [.lit (.bool false)], args := [d1, d2, d3, d4] }
  | _ => none }
def GlueLawsWrongFalsely : Prop := glueLawsRow.holds Try.pinned (OpenSpec.ofChange glueLawsWrong)

/-- 'galleylaw02.GlueRounds': WHATEVER THE INPUT: true; the input reads as it did. -/
def glueRoundsSpec : ChangeSpec := { name := "glueRounds", fn := fun _ => fun
  | [d1, d2, d3, d4] => { results := [.lit (.bool true)], args := [d1, d2, d3, d4] }
  | _ => none }
def glueRoundsRow : OpenClaim := { program := "ytdlbpepkgoandaa", sum := "a57191ed103c8d2164dba9f936d4d16557ac8d07c624b2e77d080401e33d8336", func := "galley/galleylaw02.GlueRounds", spec := "glueRounds", unfollowed := true, recurses := true, named := ["math/bits.divideError", "math/bits.overflowError"], apart := false }
def GlueRoundsSaid : Prop := glueRoundsRow.holds Try.pinned (OpenSpec.ofChange glueRoundsSpec)

/-- ITS FALSE NEIGHBOUR: 'it returns false'. Refute it at one input. -/
def glueRoundsWrong : ChangeSpec := { name := "glueRounds", fn := fun _ => fun
  | [d1, d2, d3, d4] => { results := [.lit (.bool false)], args := [d1, d2, d3, d4] }
  | _ => none }
def GlueRoundsWrongFalsely : Prop := glueRoundsRow.holds Try.pinned (OpenSpec.ofChange glueRoundsWrong)

/- THE SECOND FORM. 'bulk': how many values and letters a reading holds, each counted each time it is reached (what is shared counts as often as it is met; a slice's spare places count too). A statement '..UptoSaid' is the law's where the arguments, and the package variables that the reading takes, are together of bulk at most 1048576: NARROWER than '..Said'. Prove '..Said' where nothing that the law and all that it calls make is longer than what came in: it says more and counts as full. Else prove '..UptoSaid'. A law counts once. -/
mutual
def uptoBulk {H : Type} : DataW H → Nat
  | .lit (.string bytes) => bytes.length + 1
  | .lit _ => 1
  | .nil => 1
  | .ptr d => uptoBulk d + 1
  | .slice elems spare => uptoBulkAll elems + uptoBulkAll spare + 1
  | .agg parts => uptoBulkAll parts + 1
  | .iface _ d => uptoBulk d + 1
  | .map entries => uptoBulkEntries entries + 1
  | .held _ => 1
def uptoBulkAll {H : Type} : List (DataW H) → Nat
  | [] => 0
  | d :: r => uptoBulk d + uptoBulkAll r
def uptoBulkEntries {H : Type} : List (Lit × DataW H) → Nat
  | [] => 0
  | x :: r => uptoBulkEntry x + uptoBulkEntries r
def uptoBulkEntry {H : Type} : Lit × DataW H → Nat
  | (.string bytes, d) => bytes.length + uptoBulk d + 1
  | (_, d) => uptoBulk d + 1
 end
def uptoSmall : (H : Type) → List (DataW H) → Bool := fun _ ds => decide (uptoBulkAll ds ≤ 1048576)
def OpenSpec.upto (s : _root_.Go.ChangeSpec) : _root_.Go.OpenSpec := { _root_.Go.OpenSpec.ofChange s with cond := some uptoSmall }

/-- 'galleylaw02.GlueFits', WHERE WHAT IT READS IS OF BULK AT MOST 1048576: true; the input reads as it did. -/
def glueFitsUptoRow : OpenClaim := { program := "ytdlbpepkgoandaa", sum := "a57191ed103c8d2164dba9f936d4d16557ac8d07c624b2e77d080401e33d8336", func := "galley/galleylaw02.GlueFits", spec := "glueFits", unfollowed := true, recurses := true, named := ["math/bits.divideError", "math/bits.overflowError"], apart := false, narrowed := true }
def GlueFitsUptoSaid : Prop := glueFitsUptoRow.holds Try.pinned (OpenSpec.upto glueFitsSpec)

/-- 'galleylaw02.GlueShares', WHERE WHAT IT READS IS OF BULK AT MOST 1048576: true; the input reads as it did. -/
def glueSharesUptoRow : OpenClaim := { program := "ytdlbpepkgoandaa", sum := "a57191ed103c8d2164dba9f936d4d16557ac8d07c624b2e77d080401e33d8336", func := "galley/galleylaw02.GlueShares", spec := "glueShares", unfollowed := true, recurses := true, named := ["math/bits.divideError", "math/bits.overflowError"], apart := false, narrowed := true }
def GlueSharesUptoSaid : Prop := glueSharesUptoRow.holds Try.pinned (OpenSpec.upto glueSharesSpec)

/-- 'galleylaw02.GlueJust', WHERE WHAT IT READS IS OF BULK AT MOST 1048576: true; the input reads as it did. -/
def glueJustUptoRow : OpenClaim := { program := "ytdlbpepkgoandaa", sum := "a57191ed103c8d2164dba9f936d4d16557ac8d07c624b2e77d080401e33d8336", func := "galley/galleylaw02.GlueJust", spec := "glueJust", unfollowed := true, recurses := true, named := ["math/bits.divideError", "math/bits.overflowError"], apart := false, narrowed := true }
def GlueJustUptoSaid : Prop := glueJustUptoRow.holds Try.pinned (OpenSpec.upto glueJustSpec)

/-- 'galleylaw02.GlueFair', WHERE WHAT IT READS IS OF BULK AT MOST 1048576: true; the input reads as it did. -/
def glueFairUptoRow : OpenClaim := { program := "ytdlbpepkgoandaa", sum := "a57191ed103c8d2164dba9f936d4d16557ac8d07c624b2e77d080401e33d8336", func := "galley/galleylaw02.GlueFair", spec := "glueFair", unfollowed := true, recurses := true, named := ["math/bits.divideError", "math/bits.overflowError"], apart := false, narrowed := true }
def GlueFairUptoSaid : Prop := glueFairUptoRow.holds Try.pinned (OpenSpec.upto glueFairSpec)

/-- 'galleylaw02.GlueLaws', WHERE WHAT IT READS IS OF BULK AT MOST 1048576: true; the input reads as it did. -/
def glueLawsUptoRow : OpenClaim := { program := "ytdlbpepkgoandaa", sum := "a57191ed103c8d2164dba9f936d4d16557ac8d07c624b2e77d080401e33d8336", func := "galley/galleylaw02.GlueLaws", spec := "glueLaws", unfollowed := true, recurses := true, named := ["math/bits.divideError", "math/bits.overflowError"], apart := false, narrowed := true }
def GlueLawsUptoSaid : Prop := glueLawsUptoRow.holds Try.pinned (OpenSpec.upto glueLawsSpec)

/-- 'galleylaw02.GlueRounds', WHERE WHAT IT READS IS OF BULK AT MOST 1048576: true; the input reads as it did. -/
def glueRoundsUptoRow : OpenClaim := { program := "ytdlbpepkgoandaa", sum := "a57191ed103c8d2164dba9f936d4d16557ac8d07c624b2e77d080401e33d8336", func := "galley/galleylaw02.GlueRounds", spec := "glueRounds", unfollowed := true, recurses := true, named := ["math/bits.divideError", "math/bits.overflowError"], apart := false, narrowed := true }
def GlueRoundsUptoSaid : Prop := glueRoundsUptoRow.holds Try.pinned (OpenSpec.upto glueRoundsSpec)

end Rows
end Go.Proofs.Ytdlbpepkgoandaa
