/- nodes: only, bare, glyph, by the kernel's reckoning. -/
import Derived.Test.YtdadfhhcfmdfkaaNod
import Derived.Test.YtdadfhhcfmdfkaaFast3
namespace Go.Proofs.Ytdadfhhcfmdfkaa
open Go.RowKit

def nodL (n : Nod) : List Value := [.int .i64 n.kind, .int .i64 n.font, .int .u8 n.char, .int .i64 n.w, .int .i64 n.h, .int .i64 n.d, .int .i64 n.shift, .int .i64 n.nat, .int .i64 n.str, .int .i64 n.shr, .int .i64 n.so, .int .i64 n.sho, .int .i64 n.sign, .int .i64 n.ord, .int .i64 n.num, .int .i64 n.den, .int .i64 n.pen, .int .i64 n.sub, .string n.text]
def onlyB (n f : Nod) : Bool := decide (n = { f with kind := n.kind })
theorem sat1 {w : World} {b : Nat} {cs : List Value} {T : TypeId} (h : w.heap[b]? = some (.cells cs.toArray T (0, 0))) : Sat w [] [.obj false b cs T] w :=
  ⟨.refl _ _, fun e he => by rw [List.mem_singleton.1 he]; exact ⟨h, fun e => by cases e⟩, fun i j e e' hij hi hj ho => by
    have := List.mem_of_getElem? hi
    rw [List.mem_singleton.1 this] at ho
    cases ho⟩
theorem only_eql (n f : Nod) (w : World) : (eqlSem 201 (.tmp 8) (.tmp 9) (nodV n) (nodV { f with kind := n.kind })).run Try.prog w = .ok (.value (.bool (onlyB n f))) w :=
  eql_run (by kernel_rfl) (node_eql n { f with kind := n.kind } w)
theorem sat0 (w : World) : Sat w [] [] w := ⟨.refl _ _, fun e he => by simp at he, fun i j e e' _ hi => by simp at hi⟩

set_option maxRecDepth 100000 in
theorem only_any (n f : Nod) (w : World) :
    Calls Try.prog 184 #[nodV n, nodV f] w fun e w' => e = .returned (.bool (onlyB n f)) ∧ Kept w w' := by
  refine g_enter (args := [nodV n, nodV f]) [] [] Try.func184 rfl Try.ntmps184 (Nat.le_of_ble_eq_true (by kernel_rfl)) (sat0 w) ?_
  refine g_run 999 [] 0 (by kernel_rfl) ?_
  refine g_new (fun b => by kernel_rfl) fun b0 h0 => ?_
  refine g_new (fun b => by kernel_rfl) fun b1 h1 => ?_
  refine g_run 10 ([0, 1] ++ List.replicate 19 0 ++ List.replicate 19 1) 0 (by kernel_rfl) ?_
  refine g_val (eqlSem 201 (.tmp 8) (.tmp 9) (nodV n) (nodV { f with kind := n.kind })) (.bool (onlyB n f)) (by kernel_rfl) (fun w _ => only_eql n f w) ?_
  refine g_run 999 [] 0 (by kernel_rfl) ?_
  exact g_ret [] (.bool (onlyB n f)) (by kernel_rfl) (by kernel_rfl) (by kernel_rfl) fun w' hs => ⟨rfl, hs.kept.kept⟩
end Go.Proofs.Ytdadfhhcfmdfkaa
