/- Nod NodF. -/
import Derived.Test.YtcncfmjfgdbfeabBase
import Derived.Laws.StructEq
import Derived.LoopN
import Derived.Test.YtcncfmjfgdbfeabFast3
namespace Go.Proofs.Ytcncfmjfgdbfeab
open Go.RowKit

structure Nod where
  kind : Int
  font : Int
  char : Int
  w : Int
  h : Int
  d : Int
  shift : Int
  nat : Int
  str : Int
  shr : Int
  so : Int
  sho : Int
  sign : Int
  ord : Int
  num : Int
  den : Int
  pen : Int
  sub : Int
  text : ByteArray
deriving DecidableEq
abbrev nodV (n : Nod) : Value := .agg #[.int .i64 n.kind, .int .i64 n.font, .int .u8 n.char, .int .i64 n.w, .int .i64 n.h, .int .i64 n.d, .int .i64 n.shift, .int .i64 n.nat, .int .i64 n.str, .int .i64 n.shr, .int .i64 n.so, .int .i64 n.sho, .int .i64 n.sign, .int .i64 n.ord, .int .i64 n.num, .int .i64 n.den, .int .i64 n.pen, .int .i64 n.sub, .string n.text]
theorem ba_ne {a b : ByteArray} (h : a ≠ b) : (a.toList == b.toList) = false := by
  refine beq_eq_false_iff_ne.2 fun e => h ?_
  rw [ByteArray.toList_eq, ByteArray.toList_eq] at e
  obtain ⟨⟨x⟩⟩ := a
  obtain ⟨⟨y⟩⟩ := b
  have e' : x = y := e
  rw [e']
theorem ba_eq (a : ByteArray) : (a.toList == a.toList) = true := by
  exact beq_self_eq_true a.toList

set_option maxRecDepth 100000 in
set_option maxHeartbeats 8000000 in
theorem node_neq (x y : Nod) (h : x ≠ y) (w : World) : (binOp .eql 136 (nodV x) (nodV y)).run Try.prog w = .ok (.bool false) w := by
  obtain ⟨x0, x1, x2, x3, x4, x5, x6, x7, x8, x9, x10, x11, x12, x13, x14, x15, x16, x17, x18⟩ := x
  obtain ⟨y0, y1, y2, y3, y4, y5, y6, y7, y8, y9, y10, y11, y12, y13, y14, y15, y16, y17, y18⟩ := y

  by_cases h0 : x0 = y0
  case neg =>
    have e : (x0 == y0) = false := by simpa using h0
    clear h h0
    go_simp
  subst h0
  by_cases h1 : x1 = y1
  case neg =>
    have e : (x1 == y1) = false := by simpa using h1
    clear h h1
    go_simp
  subst h1
  by_cases h2 : x2 = y2
  case neg =>
    have e : (x2 == y2) = false := by simpa using h2
    clear h h2
    go_simp
  subst h2
  by_cases h3 : x3 = y3
  case neg =>
    have e : (x3 == y3) = false := by simpa using h3
    clear h h3
    go_simp
  subst h3
  by_cases h4 : x4 = y4
  case neg =>
    have e : (x4 == y4) = false := by simpa using h4
    clear h h4
    go_simp
  subst h4
  by_cases h5 : x5 = y5
  case neg =>
    have e : (x5 == y5) = false := by simpa using h5
    clear h h5
    go_simp
  subst h5
  by_cases h6 : x6 = y6
  case neg =>
    have e : (x6 == y6) = false := by simpa using h6
    clear h h6
    go_simp
  subst h6
  by_cases h7 : x7 = y7
  case neg =>
    have e : (x7 == y7) = false := by simpa using h7
    clear h h7
    go_simp
  subst h7
  by_cases h8 : x8 = y8
  case neg =>
    have e : (x8 == y8) = false := by simpa using h8
    clear h h8
    go_simp
  subst h8
  by_cases h9 : x9 = y9
  case neg =>
    have e : (x9 == y9) = false := by simpa using h9
    clear h h9
    go_simp
  subst h9
  by_cases h10 : x10 = y10
  case neg =>
    have e : (x10 == y10) = false := by simpa using h10
    clear h h10
    go_simp
  subst h10
  by_cases h11 : x11 = y11
  case neg =>
    have e : (x11 == y11) = false := by simpa using h11
    clear h h11
    go_simp
  subst h11
  by_cases h12 : x12 = y12
  case neg =>
    have e : (x12 == y12) = false := by simpa using h12
    clear h h12
    go_simp
  subst h12
  by_cases h13 : x13 = y13
  case neg =>
    have e : (x13 == y13) = false := by simpa using h13
    clear h h13
    go_simp
  subst h13
  by_cases h14 : x14 = y14
  case neg =>
    have e : (x14 == y14) = false := by simpa using h14
    clear h h14
    go_simp
  subst h14
  by_cases h15 : x15 = y15
  case neg =>
    have e : (x15 == y15) = false := by simpa using h15
    clear h h15
    go_simp
  subst h15
  by_cases h16 : x16 = y16
  case neg =>
    have e : (x16 == y16) = false := by simpa using h16
    clear h h16
    go_simp
  subst h16
  by_cases h17 : x17 = y17
  case neg =>
    have e : (x17 == y17) = false := by simpa using h17
    clear h h17
    go_simp
  subst h17
  by_cases h18 : x18 = y18
  case neg =>
    have e : (x18.toList == y18.toList) = false := ba_ne h18
    clear h h18
    go_simp
  subst h18
  exact absurd rfl h
set_option maxRecDepth 100000 in
set_option maxHeartbeats 8000000 in
theorem node_same (x : Nod) (w : World) : (binOp .eql 136 (nodV x) (nodV x)).run Try.prog w = .ok (.bool true) w := by
  have e := ba_eq x.text
  go_simp
theorem node_eql (x y : Nod) (w : World) : (binOp .eql 136 (nodV x) (nodV y)).run Try.prog w = .ok (.bool (decide (x = y))) w := by
  by_cases h : x = y
  · subst h; rw [node_same, decide_eq_true rfl]
  · rw [node_neq x y h, decide_eq_false h]

set_option maxRecDepth 100000 in
set_option maxHeartbeats 8000000 in
theorem apiNode_neq (x y : Nod) (h : x ≠ y) (w : World) : (binOp .eql 55 (nodV x) (nodV y)).run Try.prog w = .ok (.bool false) w := by
  obtain ⟨x0, x1, x2, x3, x4, x5, x6, x7, x8, x9, x10, x11, x12, x13, x14, x15, x16, x17, x18⟩ := x
  obtain ⟨y0, y1, y2, y3, y4, y5, y6, y7, y8, y9, y10, y11, y12, y13, y14, y15, y16, y17, y18⟩ := y

  by_cases h0 : x0 = y0
  case neg =>
    have e : (x0 == y0) = false := by simpa using h0
    clear h h0
    go_simp
  subst h0
  by_cases h1 : x1 = y1
  case neg =>
    have e : (x1 == y1) = false := by simpa using h1
    clear h h1
    go_simp
  subst h1
  by_cases h2 : x2 = y2
  case neg =>
    have e : (x2 == y2) = false := by simpa using h2
    clear h h2
    go_simp
  subst h2
  by_cases h3 : x3 = y3
  case neg =>
    have e : (x3 == y3) = false := by simpa using h3
    clear h h3
    go_simp
  subst h3
  by_cases h4 : x4 = y4
  case neg =>
    have e : (x4 == y4) = false := by simpa using h4
    clear h h4
    go_simp
  subst h4
  by_cases h5 : x5 = y5
  case neg =>
    have e : (x5 == y5) = false := by simpa using h5
    clear h h5
    go_simp
  subst h5
  by_cases h6 : x6 = y6
  case neg =>
    have e : (x6 == y6) = false := by simpa using h6
    clear h h6
    go_simp
  subst h6
  by_cases h7 : x7 = y7
  case neg =>
    have e : (x7 == y7) = false := by simpa using h7
    clear h h7
    go_simp
  subst h7
  by_cases h8 : x8 = y8
  case neg =>
    have e : (x8 == y8) = false := by simpa using h8
    clear h h8
    go_simp
  subst h8
  by_cases h9 : x9 = y9
  case neg =>
    have e : (x9 == y9) = false := by simpa using h9
    clear h h9
    go_simp
  subst h9
  by_cases h10 : x10 = y10
  case neg =>
    have e : (x10 == y10) = false := by simpa using h10
    clear h h10
    go_simp
  subst h10
  by_cases h11 : x11 = y11
  case neg =>
    have e : (x11 == y11) = false := by simpa using h11
    clear h h11
    go_simp
  subst h11
  by_cases h12 : x12 = y12
  case neg =>
    have e : (x12 == y12) = false := by simpa using h12
    clear h h12
    go_simp
  subst h12
  by_cases h13 : x13 = y13
  case neg =>
    have e : (x13 == y13) = false := by simpa using h13
    clear h h13
    go_simp
  subst h13
  by_cases h14 : x14 = y14
  case neg =>
    have e : (x14 == y14) = false := by simpa using h14
    clear h h14
    go_simp
  subst h14
  by_cases h15 : x15 = y15
  case neg =>
    have e : (x15 == y15) = false := by simpa using h15
    clear h h15
    go_simp
  subst h15
  by_cases h16 : x16 = y16
  case neg =>
    have e : (x16 == y16) = false := by simpa using h16
    clear h h16
    go_simp
  subst h16
  by_cases h17 : x17 = y17
  case neg =>
    have e : (x17 == y17) = false := by simpa using h17
    clear h h17
    go_simp
  subst h17
  by_cases h18 : x18 = y18
  case neg =>
    have e : (x18.toList == y18.toList) = false := ba_ne h18
    clear h h18
    go_simp
  subst h18
  exact absurd rfl h
set_option maxRecDepth 100000 in
set_option maxHeartbeats 8000000 in
theorem apiNode_same (x : Nod) (w : World) : (binOp .eql 55 (nodV x) (nodV x)).run Try.prog w = .ok (.bool true) w := by
  have e := ba_eq x.text
  go_simp
theorem apiNode_eql (x y : Nod) (w : World) : (binOp .eql 55 (nodV x) (nodV y)).run Try.prog w = .ok (.bool (decide (x = y))) w := by
  by_cases h : x = y
  · subst h; rw [apiNode_same, decide_eq_true rfl]
  · rw [apiNode_neq x y h, decide_eq_false h]

end Go.Proofs.Ytcncfmjfgdbfeab
namespace Go.Proofs.Ytcncfmjfgdbfeab
open Go.RowKit

def nodL (n : Nod) : List Value := [.int .i64 n.kind, .int .i64 n.font, .int .u8 n.char, .int .i64 n.w, .int .i64 n.h, .int .i64 n.d, .int .i64 n.shift, .int .i64 n.nat, .int .i64 n.str, .int .i64 n.shr, .int .i64 n.so, .int .i64 n.sho, .int .i64 n.sign, .int .i64 n.ord, .int .i64 n.num, .int .i64 n.den, .int .i64 n.pen, .int .i64 n.sub, .string n.text]
def onlyB (n f : Nod) : Bool := decide (n = { f with kind := n.kind })
theorem sat1 {w : World} {b : Nat} {cs : List Value} {T : TypeId} (h : w.heap[b]? = some (.cells cs.toArray T (0, 0))) : Sat w [] [.obj false b cs T] w :=
  ⟨.refl _ _, fun e he => by rw [List.mem_singleton.1 he]; exact ⟨h, fun e => by cases e⟩, fun i j e e' hij hi hj ho => by
    have := List.mem_of_getElem? hi
    rw [List.mem_singleton.1 this] at ho
    cases ho⟩
theorem only_eql (n f : Nod) (w : World) : (eqlSem 136 (.tmp 8) (.tmp 9) (nodV n) (nodV { f with kind := n.kind })).run Try.prog w = .ok (.value (.bool (onlyB n f))) w :=
  eql_run (by kernel_rfl) (node_eql n { f with kind := n.kind } w)
theorem sat0 (w : World) : Sat w [] [] w := ⟨.refl _ _, fun e he => by simp at he, fun i j e e' _ hi => by simp at hi⟩

set_option maxRecDepth 100000 in
theorem only_any (n f : Nod) (w : World) :
    Calls Try.prog 108 #[nodV n, nodV f] w fun e w' => e = .returned (.bool (onlyB n f)) ∧ Kept w w' := by
  refine g_enter (args := [nodV n, nodV f]) [] [] Try.func108 rfl Try.ntmps108 (Nat.le_of_ble_eq_true (by kernel_rfl)) (sat0 w) ?_
  refine g_run 999 [] 0 (by kernel_rfl) ?_
  refine g_new (fun b => by kernel_rfl) fun b0 h0 => ?_
  refine g_new (fun b => by kernel_rfl) fun b1 h1 => ?_
  refine g_run 10 ([0, 1] ++ List.replicate 19 0 ++ List.replicate 19 1) 0 (by kernel_rfl) ?_
  refine g_val (eqlSem 136 (.tmp 8) (.tmp 9) (nodV n) (nodV { f with kind := n.kind })) (.bool (onlyB n f)) (by kernel_rfl) (fun w _ => only_eql n f w) ?_
  refine g_run 999 [] 0 (by kernel_rfl) ?_
  exact g_ret [] (.bool (onlyB n f)) (by kernel_rfl) (by kernel_rfl) (by kernel_rfl) fun w' hs => ⟨rfl, hs.kept.kept⟩
end Go.Proofs.Ytcncfmjfgdbfeab
