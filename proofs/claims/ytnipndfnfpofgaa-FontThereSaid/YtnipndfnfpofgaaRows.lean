/-
  No cell of these rows narrows 'for every input' (looked for: loops, veiled, ifaces, maps, wideKeys, modest, calm, conditions, laid).
  DERIVED. THE GIVEN ROWS OF THIS SEAT. 10 by the template 'for every input the law returns true; each argument reads behind the call as it read before'; 0 by the template 'total and deterministic' (their statements: YtnipndfnfpofgaaTotals.lean).
  GIVEN WITH THE SEED: the statements are not yours to turn. If you find one false, say at which input.
  Laid BY PROGRAM, IN A SANDBOX (cutbox-rows.mjs): the forced cells as the released guide's own fill.sh prints them over the translation fe8345964b40de64… (all of the seat's roots in one cut). By AI agents, Wed Nov 11 2026. No macro, syntax, notation, axiom, sorry.
-/
import Derived.Test.YtnipndfnfpofgaaChecked
import GoSem.Claim
import GoSem.ClaimJoined
import GoSem.ClaimMapViews
import Derived.JoinedTies
import Derived.KernelRfl
namespace Go.Proofs.Ytnipndfnfpofgaa
/- THE CELL 'sum', in the pinned program and in every row, IS THE sha256 OF THE DUMP (.gsa) THAT YtnipndfnfpofgaaProg.lean LOADS. Nothing in Lean hashes anything: it is a label: what it is worth is what the hold of that sum in a sandbox is worth. -/
noncomputable def Try.pinned : Pinned := { name := "ytnipndfnfpofgaa", sum := "fe8345964b40de64a161185438e326a72061c7c275e1d76fccd8adb3146334c8", checked := Try.checked }
namespace Rows
def none {H : Type} : Left H := { results := [], args := [] }

/-- 'galleylaw03.FontBack': WHATEVER THE INPUT: true; the input reads as it did. -/
def fontBackSpec : ChangeSpec := { name := "fontBack", fn := fun _ => fun
  | [d1, d2] => { results := [.lit (.bool true)], args := [d1, d2] }
  | _ => none }
def fontBackRow : OpenClaim := { program := "ytnipndfnfpofgaa", sum := "fe8345964b40de64a161185438e326a72061c7c275e1d76fccd8adb3146334c8", func := "galley/galleylaw03.FontBack", spec := "fontBack", unfollowed := true, recurses := true, apart := false }
def FontBackSaid : Prop := fontBackRow.holds Try.pinned (OpenSpec.ofChange fontBackSpec)

/-- ITS FALSE NEIGHBOUR: 'it returns false'. Refute it at one input. -/
def fontBackWrong : ChangeSpec := { name := "fontBack", fn := fun _ => fun
  | [d1, d2] => { results := [.lit (.bool false)], args := [d1, d2] }
  | _ => none }
def FontBackWrongFalsely : Prop := fontBackRow.holds Try.pinned (OpenSpec.ofChange fontBackWrong)

/-- 'galleylaw03.FontSizes': WHATEVER THE INPUT: true; the input reads as it did. -/
def fontSizesSpec : ChangeSpec := { name := "fontSizes", fn := fun _ => fun
  | [d1, d2, d3] => { results := [.lit (.bool true)], args := [d1, d2, d3] }
  | _ => none }
def fontSizesRow : OpenClaim := { program := "ytnipndfnfpofgaa", sum := "fe8345964b40de64a161185438e326a72061c7c275e1d76fccd8adb3146334c8", func := "galley/galleylaw03.FontSizes", spec := "fontSizes", unfollowed := true, recurses := true, apart := false }
def FontSizesSaid : Prop := fontSizesRow.holds Try.pinned (OpenSpec.ofChange fontSizesSpec)

/-- ITS FALSE NEIGHBOUR: 'it returns false'. Refute it at one input. -/
def fontSizesWrong : ChangeSpec := { name := "fontSizes", fn := fun _ => fun
  | [d1, d2, d3] => { results := [.lit (.bool false)], args := [d1, d2, d3] }
  | _ => none }
def FontSizesWrongFalsely : Prop := fontSizesRow.holds Try.pinned (OpenSpec.ofChange fontSizesWrong)

/-- 'galleylaw03.FontChains': WHATEVER THE INPUT: true; the input reads as it did. -/
def fontChainsSpec : ChangeSpec := { name := "fontChains", fn := fun _ => fun
  | [d1, d2] => { results := [.lit (.bool true)], args := [d1, d2] }
  | _ => none }
def fontChainsRow : OpenClaim := { program := "ytnipndfnfpofgaa", sum := "fe8345964b40de64a161185438e326a72061c7c275e1d76fccd8adb3146334c8", func := "galley/galleylaw03.FontChains", spec := "fontChains", unfollowed := true, recurses := true, apart := false }
def FontChainsSaid : Prop := fontChainsRow.holds Try.pinned (OpenSpec.ofChange fontChainsSpec)

/-- ITS FALSE NEIGHBOUR: 'it returns false'. Refute it at one input. -/
def fontChainsWrong : ChangeSpec := { name := "fontChains", fn := fun _ => fun
  | [d1, d2] => { results := [.lit (.bool false)], args := [d1, d2] }
  | _ => none }
def FontChainsWrongFalsely : Prop := fontChainsRow.holds Try.pinned (OpenSpec.ofChange fontChainsWrong)

/-- 'galleylaw03.FontThere': WHATEVER THE INPUT: true; the input reads as it did. -/
def fontThereSpec : ChangeSpec := { name := "fontThere", fn := fun _ => fun
  | [d1, d2] => { results := [.lit (.bool true)], args := [d1, d2] }
  | _ => none }
def fontThereRow : OpenClaim := { program := "ytnipndfnfpofgaa", sum := "fe8345964b40de64a161185438e326a72061c7c275e1d76fccd8adb3146334c8", func := "galley/galleylaw03.FontThere", spec := "fontThere", unfollowed := true, recurses := true, apart := false }
def FontThereSaid : Prop := fontThereRow.holds Try.pinned (OpenSpec.ofChange fontThereSpec)

/-- ITS FALSE NEIGHBOUR: 'it returns false'. Refute it at one input. -/
def fontThereWrong : ChangeSpec := { name := "fontThere", fn := fun _ => fun
  | [d1, d2] => { results := [.lit (.bool false)], args := [d1, d2] }
  | _ => none }
def FontThereWrongFalsely : Prop := fontThereRow.holds Try.pinned (OpenSpec.ofChange fontThereWrong)

/-- 'galleylaw04.LigkernLooks': WHATEVER THE INPUT: true; the input reads as it did. -/
def ligkernLooksSpec : ChangeSpec := { name := "ligkernLooks", fn := fun _ => fun
  | [d1, d2, d3] => { results := [.lit (.bool true)], args := [d1, d2, d3] }
  | _ => none }
def ligkernLooksRow : OpenClaim := { program := "ytnipndfnfpofgaa", sum := "fe8345964b40de64a161185438e326a72061c7c275e1d76fccd8adb3146334c8", func := "galley/galleylaw04.LigkernLooks", spec := "ligkernLooks", unfollowed := true, recurses := true, apart := false }
def LigkernLooksSaid : Prop := ligkernLooksRow.holds Try.pinned (OpenSpec.ofChange ligkernLooksSpec)

/-- ITS FALSE NEIGHBOUR: 'it returns false'. Refute it at one input. -/
def ligkernLooksWrong : ChangeSpec := { name := "ligkernLooks", fn := fun _ => fun
  | [d1, d2, d3] => { results := [.lit (.bool false)], args := [d1, d2, d3] }
  | _ => none }
def LigkernLooksWrongFalsely : Prop := ligkernLooksRow.holds Try.pinned (OpenSpec.ofChange ligkernLooksWrong)

/-- 'galleylaw04.LigkernRuns': WHATEVER THE INPUT: true; the input reads as it did. -/
def ligkernRunsSpec : ChangeSpec := { name := "ligkernRuns", fn := fun _ => fun
  | [d1, d2, d3, d4] => { results := [.lit (.bool true)], args := [d1, d2, d3, d4] }
  | _ => none }
def ligkernRunsRow : OpenClaim := { program := "ytnipndfnfpofgaa", sum := "fe8345964b40de64a161185438e326a72061c7c275e1d76fccd8adb3146334c8", func := "galley/galleylaw04.LigkernRuns", spec := "ligkernRuns", unfollowed := true, recurses := true, apart := false }
def LigkernRunsSaid : Prop := ligkernRunsRow.holds Try.pinned (OpenSpec.ofChange ligkernRunsSpec)

/-- ITS FALSE NEIGHBOUR: 'it returns false'. Refute it at one input. -/
def ligkernRunsWrong : ChangeSpec := { name := "ligkernRuns", fn := fun _ => fun
  | [d1, d2, d3, d4] => { results := [.lit (.bool false)], args := [d1, d2, d3, d4] }
  | _ => none }
def LigkernRunsWrongFalsely : Prop := ligkernRunsRow.holds Try.pinned (OpenSpec.ofChange ligkernRunsWrong)

/-- 'galleylaw04.LigkernPairs': WHATEVER THE INPUT: true; the input reads as it did. -/
def ligkernPairsSpec : ChangeSpec := { name := "ligkernPairs", fn := fun _ => fun
  | [d1, d2, d3] => { results := [.lit (.bool true)], args := [d1, d2, d3] }
  | _ => none }
def ligkernPairsRow : OpenClaim := { program := "ytnipndfnfpofgaa", sum := "fe8345964b40de64a161185438e326a72061c7c275e1d76fccd8adb3146334c8", func := "galley/galleylaw04.LigkernPairs", spec := "ligkernPairs", unfollowed := true, recurses := true, apart := false }
def LigkernPairsSaid : Prop := ligkernPairsRow.holds Try.pinned (OpenSpec.ofChange ligkernPairsSpec)

/-- ITS FALSE NEIGHBOUR: 'it returns false'. Refute it at one input. -/
def ligkernPairsWrong : ChangeSpec := { name := "ligkernPairs", fn := fun _ => fun
  | [d1, d2, d3] => { results := [.lit (.bool false)], args := [d1, d2, d3] }
  | _ => none }
def LigkernPairsWrongFalsely : Prop := ligkernPairsRow.holds Try.pinned (OpenSpec.ofChange ligkernPairsWrong)

/-- 'galleylaw04.LigkernLetters': WHATEVER THE INPUT: true; the input reads as it did. -/
def ligkernLettersSpec : ChangeSpec := { name := "ligkernLetters", fn := fun _ => fun
  | [d1, d2, d3, d4] => { results := [.lit (.bool true)], args := [d1, d2, d3, d4] }
  | _ => none }
def ligkernLettersRow : OpenClaim := { program := "ytnipndfnfpofgaa", sum := "fe8345964b40de64a161185438e326a72061c7c275e1d76fccd8adb3146334c8", func := "galley/galleylaw04.LigkernLetters", spec := "ligkernLetters", unfollowed := true, recurses := true, apart := false }
def LigkernLettersSaid : Prop := ligkernLettersRow.holds Try.pinned (OpenSpec.ofChange ligkernLettersSpec)

/-- ITS FALSE NEIGHBOUR: 'it returns false'. Refute it at one input. -/
def ligkernLettersWrong : ChangeSpec := { name := "ligkernLetters", fn := fun _ => fun
  | [d1, d2, d3, d4] => { results := [.lit (.bool false)], args := [d1, d2, d3, d4] }
  | _ => none }
def LigkernLettersWrongFalsely : Prop := ligkernLettersRow.holds Try.pinned (OpenSpec.ofChange ligkernLettersWrong)

/-- 'galleylaw04.LigkernPlain': WHATEVER THE INPUT: true; the input reads as it did. -/
def ligkernPlainSpec : ChangeSpec := { name := "ligkernPlain", fn := fun _ => fun
  | [d1, d2] => { results := [.lit (.bool true)], args := [d1, d2] }
  | _ => none }
def ligkernPlainRow : OpenClaim := { program := "ytnipndfnfpofgaa", sum := "fe8345964b40de64a161185438e326a72061c7c275e1d76fccd8adb3146334c8", func := "galley/galleylaw04.LigkernPlain", spec := "ligkernPlain", unfollowed := true, recurses := true, apart := false }
def LigkernPlainSaid : Prop := ligkernPlainRow.holds Try.pinned (OpenSpec.ofChange ligkernPlainSpec)

/-- ITS FALSE NEIGHBOUR: 'it returns false'. Refute it at one input. -/
def ligkernPlainWrong : ChangeSpec := { name := "ligkernPlain", fn := fun _ => fun
  | [d1, d2] => { results := [.lit (.bool false)], args := [d1, d2] }
  | _ => none }
def LigkernPlainWrongFalsely : Prop := ligkernPlainRow.holds Try.pinned (OpenSpec.ofChange ligkernPlainWrong)

/-- 'galleylaw04.LigkernKerns': WHATEVER THE INPUT: true; the input reads as it did. -/
def ligkernKernsSpec : ChangeSpec := { name := "ligkernKerns", fn := fun _ => fun
  | [d1, d2] => { results := [.lit (.bool true)], args := [d1, d2] }
  | _ => none }
def ligkernKernsRow : OpenClaim := { program := "ytnipndfnfpofgaa", sum := "fe8345964b40de64a161185438e326a72061c7c275e1d76fccd8adb3146334c8", func := "galley/galleylaw04.LigkernKerns", spec := "ligkernKerns", unfollowed := true, recurses := true, apart := false }
def LigkernKernsSaid : Prop := ligkernKernsRow.holds Try.pinned (OpenSpec.ofChange ligkernKernsSpec)

/-- ITS FALSE NEIGHBOUR: 'it returns false'. Refute it at one input. -/
def ligkernKernsWrong : ChangeSpec := { name := "ligkernKerns", fn := fun _ => fun
  | [d1, d2] => { results := [.lit (.bool false)], args := [d1, d2] }
  | _ => none }
def LigkernKernsWrongFalsely : Prop := ligkernKernsRow.holds Try.pinned (OpenSpec.ofChange ligkernKernsWrong)

/- THE SECOND FORM. 'bulk': how many values and letters a reading holds, each counted each time it is reached (what is shared counts as often as it is met; a slice's spare places count too). A statement '..UptoSaid' is the law's where the arguments, and the package variables that the reading takes, are together of bulk at most 1048576: NARROWER than '..Said'. Prove '..Said' where nothing that the law and all that it calls make is longer than what came in: it says more and counts as full. Else prove '..UptoSaid'. A law counts once. -/
mutual
def uptoBulk {H : Type} : DataW H → Nat
  | .lit (.string bytes) => bytes.length + 1
  | .lit _ => 1
  | .nil => 1
  | .ptr d => uptoBulk d + 1
  | .slice elems spare => uptoBulkAll elems + uptoBulkAll spare + 1
  | .agg parts => uptoBulkAll parts + 1
  | .iface _ d => uptoBulk d + 1
  | .map entries => uptoBulkEntries entries + 1
  | .held _ => 1
def uptoBulkAll {H : Type} : List (DataW H) → Nat
  | [] => 0
  | d :: r => uptoBulk d + uptoBulkAll r
def uptoBulkEntries {H : Type} : List (Lit × DataW H) → Nat
  | [] => 0
  | x :: r => uptoBulkEntry x + uptoBulkEntries r
def uptoBulkEntry {H : Type} : Lit × DataW H → Nat
  | (.string bytes, d) => bytes.length + uptoBulk d + 1
  | (_, d) => uptoBulk d + 1
 end
def uptoSmall : (H : Type) → List (DataW H) → Bool := fun _ ds => decide (uptoBulkAll ds ≤ 1048576)
def OpenSpec.upto (s : _root_.Go.ChangeSpec) : _root_.Go.OpenSpec := { _root_.Go.OpenSpec.ofChange s with cond := some uptoSmall }

/-- 'galleylaw03.FontBack', WHERE WHAT IT READS IS OF BULK AT MOST 1048576: true; the input reads as it did. -/
def fontBackUptoRow : OpenClaim := { program := "ytnipndfnfpofgaa", sum := "fe8345964b40de64a161185438e326a72061c7c275e1d76fccd8adb3146334c8", func := "galley/galleylaw03.FontBack", spec := "fontBack", unfollowed := true, recurses := true, apart := false, narrowed := true }
def FontBackUptoSaid : Prop := fontBackUptoRow.holds Try.pinned (OpenSpec.upto fontBackSpec)

/-- 'galleylaw03.FontSizes', WHERE WHAT IT READS IS OF BULK AT MOST 1048576: true; the input reads as it did. -/
def fontSizesUptoRow : OpenClaim := { program := "ytnipndfnfpofgaa", sum := "fe8345964b40de64a161185438e326a72061c7c275e1d76fccd8adb3146334c8", func := "galley/galleylaw03.FontSizes", spec := "fontSizes", unfollowed := true, recurses := true, apart := false, narrowed := true }
def FontSizesUptoSaid : Prop := fontSizesUptoRow.holds Try.pinned (OpenSpec.upto fontSizesSpec)

/-- 'galleylaw03.FontChains', WHERE WHAT IT READS IS OF BULK AT MOST 1048576: true; the input reads as it did. -/
def fontChainsUptoRow : OpenClaim := { program := "ytnipndfnfpofgaa", sum := "fe8345964b40de64a161185438e326a72061c7c275e1d76fccd8adb3146334c8", func := "galley/galleylaw03.FontChains", spec := "fontChains", unfollowed := true, recurses := true, apart := false, narrowed := true }
def FontChainsUptoSaid : Prop := fontChainsUptoRow.holds Try.pinned (OpenSpec.upto fontChainsSpec)

/-- 'galleylaw03.FontThere', WHERE WHAT IT READS IS OF BULK AT MOST 1048576: true; the input reads as it did. -/
def fontThereUptoRow : OpenClaim := { program := "ytnipndfnfpofgaa", sum := "fe8345964b40de64a161185438e326a72061c7c275e1d76fccd8adb3146334c8", func := "galley/galleylaw03.FontThere", spec := "fontThere", unfollowed := true, recurses := true, apart := false, narrowed := true }
def FontThereUptoSaid : Prop := fontThereUptoRow.holds Try.pinned (OpenSpec.upto fontThereSpec)

/-- 'galleylaw04.LigkernLooks', WHERE WHAT IT READS IS OF BULK AT MOST 1048576: true; the input reads as it did. -/
def ligkernLooksUptoRow : OpenClaim := { program := "ytnipndfnfpofgaa", sum := "fe8345964b40de64a161185438e326a72061c7c275e1d76fccd8adb3146334c8", func := "galley/galleylaw04.LigkernLooks", spec := "ligkernLooks", unfollowed := true, recurses := true, apart := false, narrowed := true }
def LigkernLooksUptoSaid : Prop := ligkernLooksUptoRow.holds Try.pinned (OpenSpec.upto ligkernLooksSpec)

/-- 'galleylaw04.LigkernRuns', WHERE WHAT IT READS IS OF BULK AT MOST 1048576: true; the input reads as it did. -/
def ligkernRunsUptoRow : OpenClaim := { program := "ytnipndfnfpofgaa", sum := "fe8345964b40de64a161185438e326a72061c7c275e1d76fccd8adb3146334c8", func := "galley/galleylaw04.LigkernRuns", spec := "ligkernRuns", unfollowed := true, recurses := true, apart := false, narrowed := true }
def LigkernRunsUptoSaid : Prop := ligkernRunsUptoRow.holds Try.pinned (OpenSpec.upto ligkernRunsSpec)

/-- 'galleylaw04.LigkernPairs', WHERE WHAT IT READS IS OF BULK AT MOST 1048576: true; the input reads as it did. -/
def ligkernPairsUptoRow : OpenClaim := { program := "ytnipndfnfpofgaa", sum := "fe8345964b40de64a161185438e326a72061c7c275e1d76fccd8adb3146334c8", func := "galley/galleylaw04.LigkernPairs", spec := "ligkernPairs", unfollowed := true, recurses := true, apart := false, narrowed := true }
def LigkernPairsUptoSaid : Prop := ligkernPairsUptoRow.holds Try.pinned (OpenSpec.upto ligkernPairsSpec)

/-- 'galleylaw04.LigkernLetters', WHERE WHAT IT READS IS OF BULK AT MOST 1048576: true; the input reads as it did. -/
def ligkernLettersUptoRow : OpenClaim := { program := "ytnipndfnfpofgaa", sum := "fe8345964b40de64a161185438e326a72061c7c275e1d76fccd8adb3146334c8", func := "galley/galleylaw04.LigkernLetters", spec := "ligkernLetters", unfollowed := true, recurses := true, apart := false, narrowed := true }
def LigkernLettersUptoSaid : Prop := ligkernLettersUptoRow.holds Try.pinned (OpenSpec.upto ligkernLettersSpec)

/-- 'galleylaw04.LigkernPlain', WHERE WHAT IT READS IS OF BULK AT MOST 1048576: true; the input reads as it did. -/
def ligkernPlainUptoRow : OpenClaim := { program := "ytnipndfnfpofgaa", sum := "fe8345964b40de64a161185438e326a72061c7c275e1d76fccd8adb3146334c8", func := "galley/galleylaw04.LigkernPlain", spec := "ligkernPlain", unfollowed := true, recurses := true, apart := false, narrowed := true }
def LigkernPlainUptoSaid : Prop := ligkernPlainUptoRow.holds Try.pinned (OpenSpec.upto ligkernPlainSpec)

/-- 'galleylaw04.LigkernKerns', WHERE WHAT IT READS IS OF BULK AT MOST 1048576: true; the input reads as it did. -/
def ligkernKernsUptoRow : OpenClaim := { program := "ytnipndfnfpofgaa", sum := "fe8345964b40de64a161185438e326a72061c7c275e1d76fccd8adb3146334c8", func := "galley/galleylaw04.LigkernKerns", spec := "ligkernKerns", unfollowed := true, recurses := true, apart := false, narrowed := true }
def LigkernKernsUptoSaid : Prop := ligkernKernsUptoRow.holds Try.pinned (OpenSpec.upto ligkernKernsSpec)

end Rows
end Go.Proofs.Ytnipndfnfpofgaa
