/-
  No cell of these rows narrows 'for every input' (looked for: loops, veiled, ifaces, maps, wideKeys, modest, calm, conditions, laid).
  DERIVED. THE GIVEN ROWS OF THIS SEAT. 11 by the template 'for every input the law returns true; each argument reads behind the call as it read before'; 0 by the template 'total and deterministic' (their statements: YtcncfmjfgdbfeaaTotals.lean).
  GIVEN WITH THE SEED: the statements are not yours to turn. If you find one false, say at which input.
  Laid BY PROGRAM, IN A SANDBOX (cutbox-rows.mjs): the forced cells as the released guide's own fill.sh prints them over the translation bd89cf4d46b96b21… (all of the seat's roots in one cut). By AI agents, Wed Nov 11 2026. No macro, syntax, notation, axiom, sorry.
-/
import Derived.Test.YtcncfmjfgdbfeaaChecked
import GoSem.Claim
import GoSem.ClaimJoined
import GoSem.ClaimMapViews
import Derived.JoinedTies
import Derived.KernelRfl
namespace Go.Proofs.Ytcncfmjfgdbfeaa
/- THE CELL 'sum', in the pinned program and in every row, IS THE sha256 OF THE DUMP (.gsa) THAT YtcncfmjfgdbfeaaProg.lean LOADS. Nothing in Lean hashes anything: it is a label: what it is worth is what the hold of that sum in a sandbox is worth. -/
noncomputable def Try.pinned : Pinned := { name := "ytcncfmjfgdbfeaa", sum := "bd89cf4d46b96b214ec2ee7cc80b5c00f11ddf3e9bf44efe46efb395b69307fd", checked := Try.checked }
namespace Rows
def none {H : Type} : Left H := { results := [], args := [] }

/-- 'galleylaw04.LigkernLooks': WHATEVER THE INPUT: true; the input reads as it did. -/
def ligkernLooksSpec : ChangeSpec := { name := "ligkernLooks", fn := fun _ => fun
  | [d1, d2, d3] => { results := [.lit (.bool true)], args := [d1, d2, d3] }
  | _ => none }
def ligkernLooksRow : OpenClaim := { program := "ytcncfmjfgdbfeaa", sum := "bd89cf4d46b96b214ec2ee7cc80b5c00f11ddf3e9bf44efe46efb395b69307fd", func := "galley/galleylaw04.LigkernLooks", spec := "ligkernLooks", unfollowed := true, recurses := true, apart := false }
def LigkernLooksSaid : Prop := ligkernLooksRow.holds Try.pinned (OpenSpec.ofChange ligkernLooksSpec)

/-- ITS FALSE NEIGHBOUR: 'it returns false'. Refute it at one input. -/
def ligkernLooksWrong : ChangeSpec := { name := "ligkernLooks", fn := fun _ => fun
  | [d1, d2, d3] => { results := [.lit (.bool false)], args := [d1, d2, d3] }
  | _ => none }
def LigkernLooksWrongFalsely : Prop := ligkernLooksRow.holds Try.pinned (OpenSpec.ofChange ligkernLooksWrong)

/-- 'galleylaw04.LigkernRuns': WHATEVER THE INPUT: true; the input reads as it did. -/
def ligkernRunsSpec : ChangeSpec := { name := "ligkernRuns", fn := fun _ => fun
  | [d1, d2, d3, d4] => { results := [.lit (.bool true)], args := [d1, d2, d3, d4] }
  | _ => none }
def ligkernRunsRow : OpenClaim := { program := "ytcncfmjfgdbfeaa", sum := "bd89cf4d46b96b214ec2ee7cc80b5c00f11ddf3e9bf44efe46efb395b69307fd", func := "galley/galleylaw04.LigkernRuns", spec := "ligkernRuns", unfollowed := true, recurses := true, apart := false }
def LigkernRunsSaid : Prop := ligkernRunsRow.holds Try.pinned (OpenSpec.ofChange ligkernRunsSpec)

/-- ITS FALSE NEIGHBOUR: 'it returns false'. Refute it at one input. -/
def ligkernRunsWrong : ChangeSpec := { name := "ligkernRuns", fn := fun _ => fun
  | [d1, d2, d3, d4] => { results := [.lit (.bool false)], args := [d1, d2, d3, d4] }
  | _ => none }
def LigkernRunsWrongFalsely : Prop := ligkernRunsRow.holds Try.pinned (OpenSpec.ofChange ligkernRunsWrong)

/-- 'galleylaw04.LigkernPairs': WHATEVER THE INPUT: true; the input reads as it did. -/
def ligkernPairsSpec : ChangeSpec := { name := "ligkernPairs", fn := fun _ => fun
  | [d1, d2, d3] => { results := [.lit (.bool true)], args := [d1, d2, d3] }
  | _ => none }
def ligkernPairsRow : OpenClaim := { program := "ytcncfmjfgdbfeaa", sum := "bd89cf4d46b96b214ec2ee7cc80b5c00f11ddf3e9bf44efe46efb395b69307fd", func := "galley/galleylaw04.LigkernPairs", spec := "ligkernPairs", unfollowed := true, recurses := true, apart := false }
def LigkernPairsSaid : Prop := ligkernPairsRow.holds Try.pinned (OpenSpec.ofChange ligkernPairsSpec)

/-- ITS FALSE NEIGHBOUR: 'it returns false'. Refute it at one input. -/
def ligkernPairsWrong : ChangeSpec := { name := "ligkernPairs", fn := fun _ => fun
  | [d1, d2, d3] => { results := [.lit (.bool false)], args := [d1, d2, d3] }
  | _ => none }
def LigkernPairsWrongFalsely : Prop := ligkernPairsRow.holds Try.pinned (OpenSpec.ofChange ligkernPairsWrong)

/-- 'galleylaw04.LigkernLetters': WHATEVER THE INPUT: true; the input reads as it did. -/
def ligkernLettersSpec : ChangeSpec := { name := "ligkernLetters", fn := fun _ => fun
  | [d1, d2, d3, d4] => { results := [.lit (.bool true)], args := [d1, d2, d3, d4] }
  | _ => none }
def ligkernLettersRow : OpenClaim := { program := "ytcncfmjfgdbfeaa", sum := "bd89cf4d46b96b214ec2ee7cc80b5c00f11ddf3e9bf44efe46efb395b69307fd", func := "galley/galleylaw04.LigkernLetters", spec := "ligkernLetters", unfollowed := true, recurses := true, apart := false }
def LigkernLettersSaid : Prop := ligkernLettersRow.holds Try.pinned (OpenSpec.ofChange ligkernLettersSpec)

/-- ITS FALSE NEIGHBOUR: 'it returns false'. Refute it at one input. -/
def ligkernLettersWrong : ChangeSpec := { name := "ligkernLetters", fn := fun _ => fun
  | [d1, d2, d3, d4] => { results := [.lit (.bool false)], args := [d1, d2, d3, d4] }
  | _ => none }
def LigkernLettersWrongFalsely : Prop := ligkernLettersRow.holds Try.pinned (OpenSpec.ofChange ligkernLettersWrong)

/-- 'galleylaw04.LigkernPlain': WHATEVER THE INPUT: true; the input reads as it did. -/
def ligkernPlainSpec : ChangeSpec := { name := "ligkernPlain", fn := fun _ => fun
  | [d1, d2] => { results := [.lit (.bool true)], args := [d1, d2] }
  | _ => none }
def ligkernPlainRow : OpenClaim := { program := "ytcncfmjfgdbfeaa", sum := "bd89cf4d46b96b214ec2ee7cc80b5c00f11ddf3e9bf44efe46efb395b69307fd", func := "galley/galleylaw04.LigkernPlain", spec := "ligkernPlain", unfollowed := true, recurses := true, apart := false }
def LigkernPlainSaid : Prop := ligkernPlainRow.holds Try.pinned (OpenSpec.ofChange ligkernPlainSpec)

/-- ITS FALSE NEIGHBOUR: 'it returns false'. Refute it at one input. -/
def ligkernPlainWrong : ChangeSpec := { name := "ligkernPlain", fn := fun _ => fun
  | [d1, d2] => { results := [.lit (.bool false)], args := [d1, d2] }
  | _ => none }
def LigkernPlainWrongFalsely : Prop := ligkernPlainRow.holds Try.pinned (OpenSpec.ofChange ligkernPlainWrong)

/-- 'galleylaw04.LigkernKerns': WHATEVER THE INPUT: true; the input reads as it did. -/
def ligkernKernsSpec : ChangeSpec := { name := "ligkernKerns", fn := fun _ => fun
  | [d1, d2] => { results := [.lit (.bool true)], args := [d1, d2] }
  | _ => none }
def ligkernKernsRow : OpenClaim := { program := "ytcncfmjfgdbfeaa", sum := "bd89cf4d46b96b214ec2ee7cc80b5c00f11ddf3e9bf44efe46efb395b69307fd", func := "galley/galleylaw04.LigkernKerns", spec := "ligkernKerns", unfollowed := true, recurses := true, apart := false }
def LigkernKernsSaid : Prop := ligkernKernsRow.holds Try.pinned (OpenSpec.ofChange ligkernKernsSpec)

/-- ITS FALSE NEIGHBOUR: 'it returns false'. Refute it at one input. -/
def ligkernKernsWrong : ChangeSpec := { name := "ligkernKerns", fn := fun _ => fun
  | [d1, d2] => { results := [.lit (.bool false)], args := [d1, d2] }
  | _ => none }
def LigkernKernsWrongFalsely : Prop := ligkernKernsRow.holds Try.pinned (OpenSpec.ofChange ligkernKernsWrong)

/-- 'galleylaw05.NodesParts': WHATEVER THE INPUT: true; the input reads as it did. -/
def nodesPartsSpec : ChangeSpec := { name := "nodesParts", fn := fun _ => fun
  | [d1, d2, d3] => { results := [.lit (.bool true)], args := [d1, d2, d3] }
  | _ => none }
def nodesPartsRow : OpenClaim := { program := "ytcncfmjfgdbfeaa", sum := "bd89cf4d46b96b214ec2ee7cc80b5c00f11ddf3e9bf44efe46efb395b69307fd", func := "galley/galleylaw05.NodesParts", spec := "nodesParts", unfollowed := true, recurses := true, apart := false }
def NodesPartsSaid : Prop := nodesPartsRow.holds Try.pinned (OpenSpec.ofChange nodesPartsSpec)

/-- ITS FALSE NEIGHBOUR: 'it returns false'. Refute it at one input. -/
def nodesPartsWrong : ChangeSpec := { name := "nodesParts", fn := fun _ => fun
  | [d1, d2, d3] => { results := [.lit (.bool false)], args := [d1, d2, d3] }
  | _ => none }
def NodesPartsWrongFalsely : Prop := nodesPartsRow.holds Try.pinned (OpenSpec.ofChange nodesPartsWrong)

/-- 'galleylaw05.NodesMeasures': WHATEVER THE INPUT: true; the input reads as it did. -/
def nodesMeasuresSpec : ChangeSpec := { name := "nodesMeasures", fn := fun _ => fun
  | [d1, d2] => { results := [.lit (.bool true)], args := [d1, d2] }
  | _ => none }
def nodesMeasuresRow : OpenClaim := { program := "ytcncfmjfgdbfeaa", sum := "bd89cf4d46b96b214ec2ee7cc80b5c00f11ddf3e9bf44efe46efb395b69307fd", func := "galley/galleylaw05.NodesMeasures", spec := "nodesMeasures", unfollowed := true, recurses := true, apart := false }
def NodesMeasuresSaid : Prop := nodesMeasuresRow.holds Try.pinned (OpenSpec.ofChange nodesMeasuresSpec)

/-- ITS FALSE NEIGHBOUR: 'it returns false'. Refute it at one input. -/
def nodesMeasuresWrong : ChangeSpec := { name := "nodesMeasures", fn := fun _ => fun
  | [d1, d2] => { results := [.lit (.bool false)], args := [d1, d2] }
  | _ => none }
def NodesMeasuresWrongFalsely : Prop := nodesMeasuresRow.holds Try.pinned (OpenSpec.ofChange nodesMeasuresWrong)

/-- 'galleylaw05.NodesFlat': WHATEVER THE INPUT: true; the input reads as it did. -/
def nodesFlatSpec : ChangeSpec := { name := "nodesFlat", fn := fun _ => fun
  | [d] => { results := [.lit (.bool true)], args := [d] }
  | _ => none }
def nodesFlatRow : OpenClaim := { program := "ytcncfmjfgdbfeaa", sum := "bd89cf4d46b96b214ec2ee7cc80b5c00f11ddf3e9bf44efe46efb395b69307fd", func := "galley/galleylaw05.NodesFlat", spec := "nodesFlat", unfollowed := true, recurses := true, apart := false }
def NodesFlatSaid : Prop := nodesFlatRow.holds Try.pinned (OpenSpec.ofChange nodesFlatSpec)

/-- ITS FALSE NEIGHBOUR: 'it returns false'. Refute it at one input. -/
def nodesFlatWrong : ChangeSpec := { name := "nodesFlat", fn := fun _ => fun
  | [d] => { results := [.lit (.bool false)], args := [d] }
  | _ => none }
def NodesFlatWrongFalsely : Prop := nodesFlatRow.holds Try.pinned (OpenSpec.ofChange nodesFlatWrong)

/-- 'galleylaw05.NodesJoined': WHATEVER THE INPUT: true; the input reads as it did. -/
def nodesJoinedSpec : ChangeSpec := { name := "nodesJoined", fn := fun _ => fun
  | [d1, d2, d3] => { results := [.lit (.bool true)], args := [d1, d2, d3] }
  | _ => none }
def nodesJoinedRow : OpenClaim := { program := "ytcncfmjfgdbfeaa", sum := "bd89cf4d46b96b214ec2ee7cc80b5c00f11ddf3e9bf44efe46efb395b69307fd", func := "galley/galleylaw05.NodesJoined", spec := "nodesJoined", unfollowed := true, recurses := true, apart := false }
def NodesJoinedSaid : Prop := nodesJoinedRow.holds Try.pinned (OpenSpec.ofChange nodesJoinedSpec)

/-- ITS FALSE NEIGHBOUR: 'it returns false'. Refute it at one input. -/
def nodesJoinedWrong : ChangeSpec := { name := "nodesJoined", fn := fun _ => fun
  | [d1, d2, d3] => { results := [.lit (.bool false)], args := [d1, d2, d3] }
  | _ => none }
def NodesJoinedWrongFalsely : Prop := nodesJoinedRow.holds Try.pinned (OpenSpec.ofChange nodesJoinedWrong)

/-- 'galleylaw05.NodesBroken': WHATEVER THE INPUT: true; the input reads as it did. -/
def nodesBrokenSpec : ChangeSpec := { name := "nodesBroken", fn := fun _ => fun
  | [d1, d2] => { results := [.lit (.bool true)], args := [d1, d2] }
  | _ => none }
def nodesBrokenRow : OpenClaim := { program := "ytcncfmjfgdbfeaa", sum := "bd89cf4d46b96b214ec2ee7cc80b5c00f11ddf3e9bf44efe46efb395b69307fd", func := "galley/galleylaw05.NodesBroken", spec := "nodesBroken", unfollowed := true, recurses := true, apart := false }
def NodesBrokenSaid : Prop := nodesBrokenRow.holds Try.pinned (OpenSpec.ofChange nodesBrokenSpec)

/-- ITS FALSE NEIGHBOUR: 'it returns false'. Refute it at one input. -/
def nodesBrokenWrong : ChangeSpec := { name := "nodesBroken", fn := fun _ => fun
  | [d1, d2] => { results := [.lit (.bool false)], args := [d1, d2] }
  | _ => none }
def NodesBrokenWrongFalsely : Prop := nodesBrokenRow.holds Try.pinned (OpenSpec.ofChange nodesBrokenWrong)

/- THE SECOND FORM. 'bulk': how many values and letters a reading holds, each counted each time it is reached (what is shared counts as often as it is met; a slice's spare places count too). A statement '..UptoSaid' is the law's where the arguments, and the package variables that the reading takes, are together of bulk at most 1048576: NARROWER than '..Said'. Prove '..Said' where nothing that the law and all that it calls make is longer than what came in: it says more and counts as full. Else prove '..UptoSaid'. A law counts once. -/
mutual
def uptoBulk {H : Type} : DataW H → Nat
  | .lit (.string bytes) => bytes.length + 1
  | .lit _ => 1
  | .nil => 1
  | .ptr d => uptoBulk d + 1
  | .slice elems spare => uptoBulkAll elems + uptoBulkAll spare + 1
  | .agg parts => uptoBulkAll parts + 1
  | .iface _ d => uptoBulk d + 1
  | .map entries => uptoBulkEntries entries + 1
  | .held _ => 1
def uptoBulkAll {H : Type} : List (DataW H) → Nat
  | [] => 0
  | d :: r => uptoBulk d + uptoBulkAll r
def uptoBulkEntries {H : Type} : List (Lit × DataW H) → Nat
  | [] => 0
  | x :: r => uptoBulkEntry x + uptoBulkEntries r
def uptoBulkEntry {H : Type} : Lit × DataW H → Nat
  | (.string bytes, d) => bytes.length + uptoBulk d + 1
  | (_, d) => uptoBulk d + 1
 end
def uptoSmall : (H : Type) → List (DataW H) → Bool := fun _ ds => decide (uptoBulkAll ds ≤ 1048576)
def OpenSpec.upto (s : _root_.Go.ChangeSpec) : _root_.Go.OpenSpec := { _root_.Go.OpenSpec.ofChange s with cond := some uptoSmall }

/-- 'galleylaw04.LigkernLooks', WHERE WHAT IT READS IS OF BULK AT MOST 1048576: true; the input reads as it did. -/
def ligkernLooksUptoRow : OpenClaim := { program := "ytcncfmjfgdbfeaa", sum := "bd89cf4d46b96b214ec2ee7cc80b5c00f11ddf3e9bf44efe46efb395b69307fd", func := "galley/galleylaw04.LigkernLooks", spec := "ligkernLooks", unfollowed := true, recurses := true, apart := false, narrowed := true }
def LigkernLooksUptoSaid : Prop := ligkernLooksUptoRow.holds Try.pinned (OpenSpec.upto ligkernLooksSpec)

/-- 'galleylaw04.LigkernRuns', WHERE WHAT IT READS IS OF BULK AT MOST 1048576: true; the input reads as it did. -/
def ligkernRunsUptoRow : OpenClaim := { program := "ytcncfmjfgdbfeaa", sum := "bd89cf4d46b96b214ec2ee7cc80b5c00f11ddf3e9bf44efe46efb395b69307fd", func := "galley/galleylaw04.LigkernRuns", spec := "ligkernRuns", unfollowed := true, recurses := true, apart := false, narrowed := true }
def LigkernRunsUptoSaid : Prop := ligkernRunsUptoRow.holds Try.pinned (OpenSpec.upto ligkernRunsSpec)

/-- 'galleylaw04.LigkernPairs', WHERE WHAT IT READS IS OF BULK AT MOST 1048576: true; the input reads as it did. -/
def ligkernPairsUptoRow : OpenClaim := { program := "ytcncfmjfgdbfeaa", sum := "bd89cf4d46b96b214ec2ee7cc80b5c00f11ddf3e9bf44efe46efb395b69307fd", func := "galley/galleylaw04.LigkernPairs", spec := "ligkernPairs", unfollowed := true, recurses := true, apart := false, narrowed := true }
def LigkernPairsUptoSaid : Prop := ligkernPairsUptoRow.holds Try.pinned (OpenSpec.upto ligkernPairsSpec)

/-- 'galleylaw04.LigkernLetters', WHERE WHAT IT READS IS OF BULK AT MOST 1048576: true; the input reads as it did. -/
def ligkernLettersUptoRow : OpenClaim := { program := "ytcncfmjfgdbfeaa", sum := "bd89cf4d46b96b214ec2ee7cc80b5c00f11ddf3e9bf44efe46efb395b69307fd", func := "galley/galleylaw04.LigkernLetters", spec := "ligkernLetters", unfollowed := true, recurses := true, apart := false, narrowed := true }
def LigkernLettersUptoSaid : Prop := ligkernLettersUptoRow.holds Try.pinned (OpenSpec.upto ligkernLettersSpec)

/-- 'galleylaw04.LigkernPlain', WHERE WHAT IT READS IS OF BULK AT MOST 1048576: true; the input reads as it did. -/
def ligkernPlainUptoRow : OpenClaim := { program := "ytcncfmjfgdbfeaa", sum := "bd89cf4d46b96b214ec2ee7cc80b5c00f11ddf3e9bf44efe46efb395b69307fd", func := "galley/galleylaw04.LigkernPlain", spec := "ligkernPlain", unfollowed := true, recurses := true, apart := false, narrowed := true }
def LigkernPlainUptoSaid : Prop := ligkernPlainUptoRow.holds Try.pinned (OpenSpec.upto ligkernPlainSpec)

/-- 'galleylaw04.LigkernKerns', WHERE WHAT IT READS IS OF BULK AT MOST 1048576: true; the input reads as it did. -/
def ligkernKernsUptoRow : OpenClaim := { program := "ytcncfmjfgdbfeaa", sum := "bd89cf4d46b96b214ec2ee7cc80b5c00f11ddf3e9bf44efe46efb395b69307fd", func := "galley/galleylaw04.LigkernKerns", spec := "ligkernKerns", unfollowed := true, recurses := true, apart := false, narrowed := true }
def LigkernKernsUptoSaid : Prop := ligkernKernsUptoRow.holds Try.pinned (OpenSpec.upto ligkernKernsSpec)

/-- 'galleylaw05.NodesParts', WHERE WHAT IT READS IS OF BULK AT MOST 1048576: true; the input reads as it did. -/
def nodesPartsUptoRow : OpenClaim := { program := "ytcncfmjfgdbfeaa", sum := "bd89cf4d46b96b214ec2ee7cc80b5c00f11ddf3e9bf44efe46efb395b69307fd", func := "galley/galleylaw05.NodesParts", spec := "nodesParts", unfollowed := true, recurses := true, apart := false, narrowed := true }
def NodesPartsUptoSaid : Prop := nodesPartsUptoRow.holds Try.pinned (OpenSpec.upto nodesPartsSpec)

/-- 'galleylaw05.NodesMeasures', WHERE WHAT IT READS IS OF BULK AT MOST 1048576: true; the input reads as it did. -/
def nodesMeasuresUptoRow : OpenClaim := { program := "ytcncfmjfgdbfeaa", sum := "bd89cf4d46b96b214ec2ee7cc80b5c00f11ddf3e9bf44efe46efb395b69307fd", func := "galley/galleylaw05.NodesMeasures", spec := "nodesMeasures", unfollowed := true, recurses := true, apart := false, narrowed := true }
def NodesMeasuresUptoSaid : Prop := nodesMeasuresUptoRow.holds Try.pinned (OpenSpec.upto nodesMeasuresSpec)

/-- 'galleylaw05.NodesFlat', WHERE WHAT IT READS IS OF BULK AT MOST 1048576: true; the input reads as it did. -/
def nodesFlatUptoRow : OpenClaim := { program := "ytcncfmjfgdbfeaa", sum := "bd89cf4d46b96b214ec2ee7cc80b5c00f11ddf3e9bf44efe46efb395b69307fd", func := "galley/galleylaw05.NodesFlat", spec := "nodesFlat", unfollowed := true, recurses := true, apart := false, narrowed := true }
def NodesFlatUptoSaid : Prop := nodesFlatUptoRow.holds Try.pinned (OpenSpec.upto nodesFlatSpec)

/-- 'galleylaw05.NodesJoined', WHERE WHAT IT READS IS OF BULK AT MOST 1048576: true; the input reads as it did. -/
def nodesJoinedUptoRow : OpenClaim := { program := "ytcncfmjfgdbfeaa", sum := "bd89cf4d46b96b214ec2ee7cc80b5c00f11ddf3e9bf44efe46efb395b69307fd", func := "galley/galleylaw05.NodesJoined", spec := "nodesJoined", unfollowed := true, recurses := true, apart := false, narrowed := true }
def NodesJoinedUptoSaid : Prop := nodesJoinedUptoRow.holds Try.pinned (OpenSpec.upto nodesJoinedSpec)

/-- 'galleylaw05.NodesBroken', WHERE WHAT IT READS IS OF BULK AT MOST 1048576: true; the input reads as it did. -/
def nodesBrokenUptoRow : OpenClaim := { program := "ytcncfmjfgdbfeaa", sum := "bd89cf4d46b96b214ec2ee7cc80b5c00f11ddf3e9bf44efe46efb395b69307fd", func := "galley/galleylaw05.NodesBroken", spec := "nodesBroken", unfollowed := true, recurses := true, apart := false, narrowed := true }
def NodesBrokenUptoSaid : Prop := nodesBrokenUptoRow.holds Try.pinned (OpenSpec.upto nodesBrokenSpec)

end Rows
end Go.Proofs.Ytcncfmjfgdbfeaa
