/- NodF NodG NodH NodI. -/
import Derived.Test.YtcncfmjfgdbfeabM0
import Derived.Test.YtcncfmjfgdbfeabFast3
namespace Go.Proofs.Ytcncfmjfgdbfeab
open Go.RowKit
def nodL (n : Nod) : List Value := [.int .i64 n.kind, .int .i64 n.font, .int .u8 n.char, .int .i64 n.w, .int .i64 n.h, .int .i64 n.d, .int .i64 n.shift, .int .i64 n.nat, .int .i64 n.str, .int .i64 n.shr, .int .i64 n.so, .int .i64 n.sho, .int .i64 n.sign, .int .i64 n.ord, .int .i64 n.num, .int .i64 n.den, .int .i64 n.pen, .int .i64 n.sub, .string n.text]
def onlyB (n f : Nod) : Bool := decide (n = { f with kind := n.kind })
theorem sat1 {w : World} {b : Nat} {cs : List Value} {T : TypeId} (h : w.heap[b]? = some (.cells cs.toArray T (0, 0))) : Sat w [] [.obj false b cs T] w :=
 ⟨.refl _ _, fun e he => by rw [List.mem_singleton.1 he]; exact ⟨h, fun e => by cases e⟩, fun i j e e' hij hi hj ho => by
  have := List.mem_of_getElem? hi
  rw [List.mem_singleton.1 this] at ho
  cases ho⟩
theorem only_eql (n f : Nod) (w : World) : (eqlSem 136 (.tmp 8) (.tmp 9) (nodV n) (nodV { f with kind := n.kind })).run Try.prog w = .ok (.value (.bool (onlyB n f))) w :=
 eql_run kR (node_eql n { f with kind := n.kind } w)
theorem sat0 (w : World) : Sat w [] [] w := ⟨.refl _ _, fun e he => by simp at he, fun i j e e' _ hi => by simp at hi⟩
set_option maxRecDepth 100000 in
theorem only_any (n f : Nod) (w : World) :
  Calls Try.prog 108 #[nodV n, nodV f] w fun e w' => e = .returned (.bool (onlyB n f)) ∧ Kept w w' := by
 refine g_enter (args := [nodV n, nodV f]) [] [] Try.func108 rfl Try.ntmps108 kL (sat0 w) ?_
 refine gU 999 [] 0 ?_
 refine gN fun b0 h0 => ?_
 refine gN fun b1 h1 => ?_
 refine gU 10 ([0, 1] ++ List.replicate 19 0 ++ List.replicate 19 1) 0 ?_
 refine g_val (eqlSem 136 (.tmp 8) (.tmp 9) (nodV n) (nodV { f with kind := n.kind })) (.bool (onlyB n f)) kR (fun w _ => only_eql n f w) ?_
 refine gU 999 [] 0 ?_
 exact g_ret [] (.bool (onlyB n f)) kR kR kR fun w' hs => ⟨rfl, hs.kk⟩
end Go.Proofs.Ytcncfmjfgdbfeab
namespace Go.Proofs.Ytcncfmjfgdbfeab
set_option maxRecDepth 100000
set_option maxHeartbeats 4000000
open Go.RowKit
def dimB (x : Int) : Bool := decide (-1073741823 ≤ x ∧ x ≤ 1073741823)
def d2B (x y : Int) : Bool := dimB x && dimB y
def d3B (x y z : Int) : Bool := dimB x && dimB y && dimB z
def d4B (x y z u : Int) : Bool := dimB x && dimB y && dimB z && dimB u
theorem dimB_iff (x : Int) : dimB x = true ↔ -1073741823 ≤ x ∧ x ≤ 1073741823 := by simp [dimB]
theorem dims1 (b : Nat) (x : Int) (w : World) (h : w.heap[b]? = some (.cells #[.int .i64 x] 3 (0, 0))) :
  Calls Try.prog 109 #[.slice (some ⟨b, 0, none⟩) 1 1] w fun e w' => e = .returned (.bool (dimB x)) ∧ Kept w w' := by
 refine g_enter (args := [.slice (some ⟨b, 0, none⟩) 1 1]) [] [.obj false b [.int .i64 x] 3] Try.func109 rfl Try.ntmps109 kL (sat1 h) ?_
 refine g0 ?_
 refine g_unroll 3 kR ?_
 refine gA ([0]) 1 ?_
 refine g_dec 13 (decide (x < -1073741823)) kR (fun h13 => ?_) (fun h13 => ?_)
 ·refine gA [] 3 ?_
  refine gR (Value.bool false) fun w' hs => ?_
  exact ⟨ret_bool (by clear hs; simp only [decide_eq_true_eq] at *; rw [Bool.eq_iff_iff]; simp [dimB]; omega), hs.kk⟩
 refine gA [] 2 ?_
 refine g_dec 16 (decide (x > 1073741823)) kR (fun h16 => ?_) (fun h16 => ?_)
 ·refine gA [] 1 ?_
  refine gR (Value.bool false) fun w' hs => ?_
  exact ⟨ret_bool (by clear hs; simp only [decide_eq_true_eq, decide_eq_false_iff_not] at *; rw [Bool.eq_iff_iff]; simp [dimB]; omega), hs.kk⟩
 refine gA [] 2 ?_
 refine gR (Value.bool true) fun w' hs => ?_
 exact ⟨ret_bool (by clear hs; simp only [decide_eq_false_iff_not] at *; rw [Bool.eq_iff_iff]; simp [dimB]; omega), hs.kk⟩
theorem dims2 (b : Nat) (x y : Int) (w : World) (h : w.heap[b]? = some (.cells #[.int .i64 x, .int .i64 y] 3 (0, 0))) :
  Calls Try.prog 109 #[.slice (some ⟨b, 0, none⟩) 2 2] w fun e w' => e = .returned (.bool (d2B x y)) ∧ Kept w w' := by
 refine g_enter (args := [.slice (some ⟨b, 0, none⟩) 2 2]) [] [.obj false b [.int .i64 x, .int .i64 y] 3] Try.func109 rfl Try.ntmps109 kL (sat1 h) ?_
 refine g0 ?_
 refine g_unroll 4 kR ?_
 refine gA ([0]) 1 ?_
 refine g_dec 13 (decide (x < -1073741823)) kR (fun h13 => ?_) (fun h13 => ?_)
 ·refine gA [] 3 ?_
  refine gR (Value.bool false) fun w' hs => ?_
  exact ⟨ret_bool (by clear hs; simp only [decide_eq_true_eq] at *; rw [Bool.eq_iff_iff]; simp [d2B, dimB]; omega), hs.kk⟩
 refine gA [] 2 ?_
 refine g_dec 16 (decide (x > 1073741823)) kR (fun h16 => ?_) (fun h16 => ?_)
 ·refine gA [] 1 ?_
  refine gR (Value.bool false) fun w' hs => ?_
  exact ⟨ret_bool (by clear hs; simp only [decide_eq_true_eq, decide_eq_false_iff_not] at *; rw [Bool.eq_iff_iff]; simp [d2B, dimB]; omega), hs.kk⟩
 refine gA ([0]) 2 ?_
 refine g_dec 13 (decide (y < -1073741823)) kR (fun h13 => ?_) (fun h13 => ?_)
 ·refine gA [] 3 ?_
  refine gR (Value.bool false) fun w' hs => ?_
  exact ⟨ret_bool (by clear hs; simp only [decide_eq_true_eq, decide_eq_false_iff_not] at *; rw [Bool.eq_iff_iff]; simp [d2B, dimB]; omega), hs.kk⟩
 refine gA [] 2 ?_
 refine g_dec 16 (decide (y > 1073741823)) kR (fun h16 => ?_) (fun h16 => ?_)
 ·refine gA [] 1 ?_
  refine gR (Value.bool false) fun w' hs => ?_
  exact ⟨ret_bool (by clear hs; simp only [decide_eq_true_eq, decide_eq_false_iff_not] at *; rw [Bool.eq_iff_iff]; simp [d2B, dimB]; omega), hs.kk⟩
 refine gA [] 2 ?_
 refine gR (Value.bool true) fun w' hs => ?_
 exact ⟨ret_bool (by clear hs; simp only [decide_eq_false_iff_not] at *; rw [Bool.eq_iff_iff]; simp [d2B, dimB]; omega), hs.kk⟩
theorem dims3 (b : Nat) (x y z : Int) (w : World) (h : w.heap[b]? = some (.cells #[.int .i64 x, .int .i64 y, .int .i64 z] 3 (0, 0))) :
  Calls Try.prog 109 #[.slice (some ⟨b, 0, none⟩) 3 3] w fun e w' => e = .returned (.bool (d3B x y z)) ∧ Kept w w' := by
 refine g_enter (args := [.slice (some ⟨b, 0, none⟩) 3 3]) [] [.obj false b [.int .i64 x, .int .i64 y, .int .i64 z] 3] Try.func109 rfl Try.ntmps109 kL (sat1 h) ?_
 refine g0 ?_
 refine g_unroll 5 kR ?_
 refine gA ([0]) 1 ?_
 refine g_dec 13 (decide (x < -1073741823)) kR (fun h13 => ?_) (fun h13 => ?_)
 ·refine gA [] 3 ?_
  refine gR (Value.bool false) fun w' hs => ?_
  exact ⟨ret_bool (by clear hs; simp only [decide_eq_true_eq] at *; rw [Bool.eq_iff_iff]; simp [d3B, dimB]; omega), hs.kk⟩
 refine gA [] 2 ?_
 refine g_dec 16 (decide (x > 1073741823)) kR (fun h16 => ?_) (fun h16 => ?_)
 ·refine gA [] 1 ?_
  refine gR (Value.bool false) fun w' hs => ?_
  exact ⟨ret_bool (by clear hs; simp only [decide_eq_true_eq, decide_eq_false_iff_not] at *; rw [Bool.eq_iff_iff]; simp [d3B, dimB]; omega), hs.kk⟩
 refine gA ([0]) 2 ?_
 refine g_dec 13 (decide (y < -1073741823)) kR (fun h13 => ?_) (fun h13 => ?_)
 ·refine gA [] 3 ?_
  refine gR (Value.bool false) fun w' hs => ?_
  exact ⟨ret_bool (by clear hs; simp only [decide_eq_true_eq, decide_eq_false_iff_not] at *; rw [Bool.eq_iff_iff]; simp [d3B, dimB]; omega), hs.kk⟩
 refine gA [] 2 ?_
 refine g_dec 16 (decide (y > 1073741823)) kR (fun h16 => ?_) (fun h16 => ?_)
 ·refine gA [] 1 ?_
  refine gR (Value.bool false) fun w' hs => ?_
  exact ⟨ret_bool (by clear hs; simp only [decide_eq_true_eq, decide_eq_false_iff_not] at *; rw [Bool.eq_iff_iff]; simp [d3B, dimB]; omega), hs.kk⟩
 refine gA ([0]) 2 ?_
 refine g_dec 13 (decide (z < -1073741823)) kR (fun h13 => ?_) (fun h13 => ?_)
 ·refine gA [] 3 ?_
  refine gR (Value.bool false) fun w' hs => ?_
  exact ⟨ret_bool (by clear hs; simp only [decide_eq_true_eq, decide_eq_false_iff_not] at *; rw [Bool.eq_iff_iff]; simp [d3B, dimB]; omega), hs.kk⟩
 refine gA [] 2 ?_
 refine g_dec 16 (decide (z > 1073741823)) kR (fun h16 => ?_) (fun h16 => ?_)
 ·refine gA [] 1 ?_
  refine gR (Value.bool false) fun w' hs => ?_
  exact ⟨ret_bool (by clear hs; simp only [decide_eq_true_eq, decide_eq_false_iff_not] at *; rw [Bool.eq_iff_iff]; simp [d3B, dimB]; omega), hs.kk⟩
 refine gA [] 2 ?_
 refine gR (Value.bool true) fun w' hs => ?_
 exact ⟨ret_bool (by clear hs; simp only [decide_eq_false_iff_not] at *; rw [Bool.eq_iff_iff]; simp [d3B, dimB]; omega), hs.kk⟩
theorem dims4 (b : Nat) (x y z u : Int) (w : World) (h : w.heap[b]? = some (.cells #[.int .i64 x, .int .i64 y, .int .i64 z, .int .i64 u] 3 (0, 0))) :
  Calls Try.prog 109 #[.slice (some ⟨b, 0, none⟩) 4 4] w fun e w' => e = .returned (.bool (d4B x y z u)) ∧ Kept w w' := by
 refine g_enter (args := [.slice (some ⟨b, 0, none⟩) 4 4]) [] [.obj false b [.int .i64 x, .int .i64 y, .int .i64 z, .int .i64 u] 3] Try.func109 rfl Try.ntmps109 kL (sat1 h) ?_
 refine g0 ?_
 refine g_unroll 6 kR ?_
 refine gA ([0]) 1 ?_
 refine g_dec 13 (decide (x < -1073741823)) kR (fun h13 => ?_) (fun h13 => ?_)
 ·refine gA [] 3 ?_
  refine gR (Value.bool false) fun w' hs => ?_
  exact ⟨ret_bool (by clear hs; simp only [decide_eq_true_eq] at *; rw [Bool.eq_iff_iff]; simp [d4B, dimB]; omega), hs.kk⟩
 refine gA [] 2 ?_
 refine g_dec 16 (decide (x > 1073741823)) kR (fun h16 => ?_) (fun h16 => ?_)
 ·refine gA [] 1 ?_
  refine gR (Value.bool false) fun w' hs => ?_
  exact ⟨ret_bool (by clear hs; simp only [decide_eq_true_eq, decide_eq_false_iff_not] at *; rw [Bool.eq_iff_iff]; simp [d4B, dimB]; omega), hs.kk⟩
 refine gA ([0]) 2 ?_
 refine g_dec 13 (decide (y < -1073741823)) kR (fun h13 => ?_) (fun h13 => ?_)
 ·refine gA [] 3 ?_
  refine gR (Value.bool false) fun w' hs => ?_
  exact ⟨ret_bool (by clear hs; simp only [decide_eq_true_eq, decide_eq_false_iff_not] at *; rw [Bool.eq_iff_iff]; simp [d4B, dimB]; omega), hs.kk⟩
 refine gA [] 2 ?_
 refine g_dec 16 (decide (y > 1073741823)) kR (fun h16 => ?_) (fun h16 => ?_)
 ·refine gA [] 1 ?_
  refine gR (Value.bool false) fun w' hs => ?_
  exact ⟨ret_bool (by clear hs; simp only [decide_eq_true_eq, decide_eq_false_iff_not] at *; rw [Bool.eq_iff_iff]; simp [d4B, dimB]; omega), hs.kk⟩
 refine gA ([0]) 2 ?_
 refine g_dec 13 (decide (z < -1073741823)) kR (fun h13 => ?_) (fun h13 => ?_)
 ·refine gA [] 3 ?_
  refine gR (Value.bool false) fun w' hs => ?_
  exact ⟨ret_bool (by clear hs; simp only [decide_eq_true_eq, decide_eq_false_iff_not] at *; rw [Bool.eq_iff_iff]; simp [d4B, dimB]; omega), hs.kk⟩
 refine gA [] 2 ?_
 refine g_dec 16 (decide (z > 1073741823)) kR (fun h16 => ?_) (fun h16 => ?_)
 ·refine gA [] 1 ?_
  refine gR (Value.bool false) fun w' hs => ?_
  exact ⟨ret_bool (by clear hs; simp only [decide_eq_true_eq, decide_eq_false_iff_not] at *; rw [Bool.eq_iff_iff]; simp [d4B, dimB]; omega), hs.kk⟩
 refine gA ([0]) 2 ?_
 refine g_dec 13 (decide (u < -1073741823)) kR (fun h13 => ?_) (fun h13 => ?_)
 ·refine gA [] 3 ?_
  refine gR (Value.bool false) fun w' hs => ?_
  exact ⟨ret_bool (by clear hs; simp only [decide_eq_true_eq, decide_eq_false_iff_not] at *; rw [Bool.eq_iff_iff]; simp [d4B, dimB]; omega), hs.kk⟩
 refine gA [] 2 ?_
 refine g_dec 16 (decide (u > 1073741823)) kR (fun h16 => ?_) (fun h16 => ?_)
 ·refine gA [] 1 ?_
  refine gR (Value.bool false) fun w' hs => ?_
  exact ⟨ret_bool (by clear hs; simp only [decide_eq_true_eq, decide_eq_false_iff_not] at *; rw [Bool.eq_iff_iff]; simp [d4B, dimB]; omega), hs.kk⟩
 refine gA [] 2 ?_
 refine gR (Value.bool true) fun w' hs => ?_
 exact ⟨ret_bool (by clear hs; simp only [decide_eq_false_iff_not] at *; rw [Bool.eq_iff_iff]; simp [d4B, dimB]; omega), hs.kk⟩
theorem gdim_any (x : Int) (w : World) :
  Calls Try.prog 62 #[.int .i64 x] w fun e w' => e = .returned (.bool (dimB x)) ∧ Kept w w' := by
 refine g_enter (args := [.int .i64 x]) [] [] Try.func62 rfl Try.ntmps62 kL (sat0 w) ?_
 refine g0 ?_
 refine g_dec 5 (decide (x ≥ -1073741823)) kR (fun h5 => ?_) (fun h5 => ?_)
 ·refine gA [] 2 ?_
  refine gR (Value.bool (decide (x ≤ 1073741823))) fun w' hs => ?_
  exact ⟨ret_bool (by clear hs; simp only [decide_eq_true_eq] at *; rw [Bool.eq_iff_iff]; simp [dimB]; omega), hs.kk⟩
 refine gA [] 2 ?_
 refine gR (Value.bool false) fun w' hs => ?_
 exact ⟨ret_bool (by clear hs; simp only [decide_eq_false_iff_not] at *; rw [Bool.eq_iff_iff]; simp [dimB]; omega), hs.kk⟩
def flexV (s o : Int) : Value := .agg #[.int .i64 s, .int .i64 o]
def ordB (o : Int) : Bool := decide (0 ≤ o) && decide (o < 4)
theorem stretch_any (a b c d f : Int) (w : World) :
  Calls Try.prog 63 #[.agg #[.int .i64 a, .int .i64 b, .int .i64 c, .int .i64 d, .int .i64 f]] w fun e w' => e = .returned (flexV b d) ∧ Kept w w' := by
 refine g_enter (args := [.agg #[.int .i64 a, .int .i64 b, .int .i64 c, .int .i64 d, .int .i64 f]]) [] [] Try.func63 rfl Try.ntmps63 kL (sat0 w) ?_
 refine g0 ?_
 refine gN fun b0 hb0 => ?_
 refine gN fun b1 hb1 => ?_
 refine gA ([0, 0] ++ [1, 1]) 0 ?_
 refine g_ret ([1, 1]) (Value.agg { toList := [Value.int IntKind.i64 b, Value.int IntKind.i64 d] }) kR kR kR fun w' hs => ?_
 exact ⟨rfl, hs.kk⟩
theorem shrink_any (a b c d f : Int) (w : World) :
  Calls Try.prog 65 #[.agg #[.int .i64 a, .int .i64 b, .int .i64 c, .int .i64 d, .int .i64 f]] w fun e w' => e = .returned (flexV c f) ∧ Kept w w' := by
 refine g_enter (args := [.agg #[.int .i64 a, .int .i64 b, .int .i64 c, .int .i64 d, .int .i64 f]]) [] [] Try.func65 rfl Try.ntmps65 kL (sat0 w) ?_
 refine g0 ?_
 refine gN fun b0 hb0 => ?_
 refine gN fun b1 hb1 => ?_
 refine gA ([0, 0] ++ [1, 1]) 0 ?_
 refine g_ret ([1, 1]) (Value.agg { toList := [Value.int IntKind.i64 c, Value.int IntKind.i64 f] }) kR kR kR fun w' hs => ?_
 exact ⟨rfl, hs.kk⟩
end Go.Proofs.Ytcncfmjfgdbfeab
namespace Go.Proofs.Ytcncfmjfgdbfeab
set_option maxRecDepth 100000
set_option maxHeartbeats 4000000
open Go.RowKit
def flB (s o : Int) : Bool := dimB s && ordB o
theorem fright_any (s o : Int) (w : World) :
  Calls Try.prog 64 #[flexV s o] w fun e w' => e = .returned (.bool (flB s o)) ∧ Kept w w' := by
 refine g_enter (args := [flexV s o]) [] [] Try.func64 rfl Try.ntmps64 kL (sat0 w) ?_
 refine g0 ?_
 refine gN fun b0 hb0 => ?_
 refine gA ([0]) 0 ?_
 refine g_callq _ _ _ ?_ (fun w hs => gdim_any s w) ?_
 ·kernel_rfl
 refine g0 ?_
 refine g_dec 6 (dimB s) kR (fun h6 => ?_) (fun h6 => ?_)
 ·refine gA ([0]) 3 ?_
  refine g_dec 11 (decide (o ≥ 0)) kR (fun h11 => ?_) (fun h11 => ?_)
  ·refine gA ([0]) 3 ?_
   refine gR (Value.bool (decide (o < 4))) fun w' hs => ?_
   exact ⟨ret_bool (by clear hs; (try simp at *); simp [flB, ordB, *]), hs.kk⟩
  refine gA [] 3 ?_
  refine gR (Value.bool false) fun w' hs => ?_
  exact ⟨ret_bool (by clear hs; (try simp at *); simp [flB, ordB, *]; omega), hs.kk⟩
 refine gA [] 6 ?_
 refine gR (Value.bool false) fun w' hs => ?_
 exact ⟨ret_bool (by clear hs; (try simp at *); simp [flB, ordB, *]), hs.kk⟩
def glueB (a b c d f : Int) : Bool := dimB a && flB b d && flB c f
def errG (ok : Bool) : Int := bif ok then 0 else 30
theorem gcheck_any (a b c d f : Int) (w : World) :
  Calls Try.prog 40 #[.agg #[.int .i64 a, .int .i64 b, .int .i64 c, .int .i64 d, .int .i64 f]] w fun e w' => e = .returned (.int .i64 (errG (glueB a b c d f))) ∧ Kept w w' := by
 refine g_enter (args := [.agg #[.int .i64 a, .int .i64 b, .int .i64 c, .int .i64 d, .int .i64 f]]) [] [] Try.func40 rfl Try.ntmps40 kL (sat0 w) ?_
 refine g0 ?_
 refine gN fun b0 hb0 => ?_
 refine gA ([0]) 0 ?_
 refine g_callq _ _ _ ?_ (fun w hs => gdim_any a w) ?_
 ·kernel_rfl
 refine g0 ?_
 refine g_dec 7 (!dimB a) kR (fun h7 => ?_) (fun h7 => ?_)
 ·refine gA [] 9 ?_
  refine gR (Value.int IntKind.i64 30) fun w' hs => ?_
  exact ⟨ret_int (by clear hs; (try simp at *); simp [glueB, errG, *]), hs.kk⟩
 refine gA (List.replicate 5 0) 1 ?_
 refine g_callq _ _ _ ?_ (fun w hs => stretch_any a b c d f w) ?_
 ·kernel_rfl
 refine g_callq _ _ _ ?_ (fun w hs => fright_any b d w) ?_
 ·kernel_rfl
 refine gA [] 1 ?_
 refine g_dec 13 (!flB b d) kR (fun h13 => ?_) (fun h13 => ?_)
 ·refine gA [] 5 ?_
  refine gR (Value.int IntKind.i64 30) fun w' hs => ?_
  exact ⟨ret_int (by clear hs; (try simp at *); simp [glueB, errG, *]), hs.kk⟩
 refine gA (List.replicate 5 0) 1 ?_
 refine g_callq _ _ _ ?_ (fun w hs => shrink_any a b c d f w) ?_
 ·kernel_rfl
 refine g_callq _ _ _ ?_ (fun w hs => fright_any c f w) ?_
 ·kernel_rfl
 refine gA [] 1 ?_
 refine g_dec 18 (!flB c f) kR (fun h18 => ?_) (fun h18 => ?_)
 ·refine gA [] 1 ?_
  refine gR (Value.int IntKind.i64 30) fun w' hs => ?_
  exact ⟨ret_int (by clear hs; (try simp at *); simp [glueB, errG, *]), hs.kk⟩
 refine gA [] 1 ?_
 refine gR (Value.int IntKind.i64 0) fun w' hs => ?_
 exact ⟨ret_int (by clear hs; (try simp at *); simp [glueB, errG, *]), hs.kk⟩
end Go.Proofs.Ytcncfmjfgdbfeab
namespace Go.Proofs.Ytcncfmjfgdbfeab
set_option maxRecDepth 100000
set_option maxHeartbeats 4000000
open Go.RowKit
def zeroN : Nod := ⟨0, 0, 0, 0, 0, 0, 0, 0, 0, 0, 0, 0, 0, 0, 0, 0, 0, 0, ⟨#[]⟩⟩
def glyphB (n : Nod) : Bool := decide (0 ≤ n.font) && decide (n.font < 64) && d3B n.w n.h n.d
def charB (n : Nod) : Bool := glyphB n && onlyB n ⟨0, n.font, n.char, n.w, n.h, n.d, 0, 0, 0, 0, 0, 0, 0, 0, 0, 0, 0, 0, ⟨#[]⟩⟩
def ligB (n : Nod) : Bool := glyphB n && decide (1 ≤ (n.text.size : Int)) && decide ((n.text.size : Int) ≤ 63) && onlyB n ⟨0, n.font, n.char, n.w, n.h, n.d, 0, 0, 0, 0, 0, 0, 0, 0, 0, 0, 0, 0, n.text⟩
def kernB (n : Nod) : Bool := dimB n.w && decide (0 ≤ n.sub) && decide (n.sub ≤ 2) && onlyB n ⟨0, 0, 0, n.w, 0, 0, 0, 0, 0, 0, 0, 0, 0, 0, 0, 0, 0, n.sub, ⟨#[]⟩⟩
def pricedB (n : Nod) : Bool := decide (-2147483647 ≤ n.pen) && decide (n.pen ≤ 2147483647)
def penB (n : Nod) : Bool := pricedB n && onlyB n ⟨0, 0, 0, 0, 0, 0, 0, 0, 0, 0, 0, 0, 0, 0, 0, 0, n.pen, 0, ⟨#[]⟩⟩
def msgB (n : Nod) : Bool := decide ((n.text.size : Int) ≤ 1000) && onlyB n ⟨0, 0, 0, 0, 0, 0, 0, 0, 0, 0, 0, 0, 0, 0, 0, 0, 0, 0, n.text⟩
def mathB (n : Nod) : Bool := dimB n.w && onlyB n ⟨0, 0, 0, n.w, 0, 0, 0, 0, 0, 0, 0, 0, 0, 0, 0, 0, 0, 0, ⟨#[]⟩⟩
def gluedB (n : Nod) : Bool := glueB n.nat n.str n.shr n.so n.sho
def skipB (n : Nod) : Bool := gluedB n && decide (0 ≤ n.sub) && decide (n.sub ≤ 20) && onlyB n ⟨0, 0, 0, 0, 0, 0, 0, n.nat, n.str, n.shr, n.so, n.sho, 0, 0, 0, 0, 0, n.sub, ⟨#[]⟩⟩
def insB (n : Nod) : Bool := decide (0 ≤ n.sub) && decide (n.sub ≤ 254) && d2B n.h n.d && pricedB n && gluedB n && onlyB n ⟨0, 0, 0, 0, n.h, n.d, 0, n.nat, n.str, n.shr, n.so, n.sho, 0, 0, 0, 0, n.pen, n.sub, ⟨#[]⟩⟩
def setB (n : Nod) : Bool :=
 bif decide (n.sign = 0) then decide (n.ord = 0) && decide (n.num = 0) && decide (n.den = 0)
 else bif decide (n.sign = 1) || decide (n.sign = 2) then
  !(decide (n.sign = 2) && decide (n.ord = 0) && decide (n.num > n.den)) &&
   (decide (0 ≤ n.ord) && decide (n.ord ≤ 3) && decide (1 ≤ n.num) && decide (n.num ≤ 1152921504606846976) && decide (1 ≤ n.den) && decide (n.den ≤ 1152921504606846976))
 else false
def boxB (n : Nod) : Bool := d4B n.w n.h n.d n.shift && setB n && onlyB n ⟨0, 0, 0, n.w, n.h, n.d, n.shift, 0, 0, 0, 0, 0, n.sign, n.ord, n.num, n.den, 0, 0, ⟨#[]⟩⟩
def ownN (n : Nod) : Nod :=
 bif decide (n.sub = 0) then ⟨0, 0, 0, n.w, n.h, n.d, 0, 0, 0, 0, 0, 0, 0, 0, 0, 0, 0, n.sub, ⟨#[]⟩⟩ else bif decide (n.sub = 1) then ⟨0, 0, 0, 0, n.h, n.d, 0, 0, 0, 0, 0, 0, 0, 0, 0, 0, 0, n.sub, ⟨#[]⟩⟩ else bif decide (n.sub = 2) then ⟨0, 0, 0, n.w, 0, 0, 0, 0, 0, 0, 0, 0, 0, 0, 0, 0, 0, n.sub, ⟨#[]⟩⟩ else ⟨0, 0, 0, 0, 0, 0, 0, 0, 0, 0, 0, 0, 0, 0, 0, 0, 0, n.sub, ⟨#[]⟩⟩
def ruleB (n : Nod) : Bool := (decide (0 ≤ n.sub) && decide (n.sub ≤ 3)) && d3B n.w n.h n.d && onlyB n (ownN n)
theorem bare_any (n : Nod) (w : World) :
  Calls Try.prog 96 #[nodV n] w fun e w' => e = .returned (.bool ((fun n => onlyB n zeroN) n)) ∧ Kept w w' := by
 refine g_enter (args := [nodV n]) [] [] Try.func96 rfl Try.ntmps96 kL (sat0 w) ?_
 refine g0 ?_
 refine gN fun b0 hb0 => ?_
 refine gA (List.replicate 19 0) 0 ?_
 refine g_callq _ _ _ ?_ (fun w hs => only_any n zeroN w) ?_
 ·kernel_rfl
 refine g0 ?_
 refine gR (Value.bool (onlyB n zeroN)) fun w' hs => ?_
 exact ⟨rfl, hs.kk⟩
theorem glyph_any (n : Nod) (w : World) :
  Calls Try.prog 107 #[nodV n] w fun e w' => e = .returned (.bool (glyphB n)) ∧ Kept w w' := by
 refine g_enter (args := [nodV n]) [] [] Try.func107 rfl Try.ntmps107 kL (sat0 w) ?_
 refine g0 ?_
 refine gN fun b0 hb0 => ?_
 refine gA ([0]) 0 ?_
 refine g_dec 6 (decide (n.font ≥ 0)) kR (fun h6 => ?_) (fun h6 => ?_)
 ·refine gA ([0]) 3 ?_
  refine g_dec 11 (decide (n.font < 64)) kR (fun h11 => ?_) (fun h11 => ?_)
  ·refine gA ([0, 0, 0]) 6 ?_
   refine gN fun b1 hb1 => ?_
   refine g_callq _ _ _ ?_ (fun w hs => dims3 b1 n.w n.h n.d w (hs.obj (o := true) (i := 1) kR)) ?_
   ·kernel_rfl
   refine g0 ?_
   refine gR (Value.bool (d3B n.w n.h n.d)) fun w' hs => ?_
   exact ⟨ret_bool (by clear hs; (try simp at *); simp [glyphB, *]), hs.kk⟩
  refine gA [] 8 ?_
  refine gR (Value.bool false) fun w' hs => ?_
  exact ⟨ret_bool (by clear hs; (try simp at *); simp [glyphB, *]; omega), hs.kk⟩
 refine gA [] 11 ?_
 refine gR (Value.bool false) fun w' hs => ?_
 exact ⟨ret_bool (by clear hs; (try simp at *); simp [glyphB, *]; omega), hs.kk⟩
theorem char_any (n : Nod) (w : World) :
  Calls Try.prog 92 #[nodV n] w fun e w' => e = .returned (.bool (charB n)) ∧ Kept w w' := by
 refine g_enter (args := [nodV n]) [] [] Try.func92 rfl Try.ntmps92 kL (sat0 w) ?_
 refine g0 ?_
 refine gN fun b0 hb0 => ?_
 refine gA (List.replicate 19 0) 0 ?_
 refine g_callq _ _ _ ?_ (fun w hs => glyph_any n w) ?_
 ·kernel_rfl
 refine g0 ?_
 refine g_dec 5 (glyphB n) kR (fun h5 => ?_) (fun h5 => ?_)
 ·refine gA (List.replicate 24 0) 12 ?_
  refine g_callq _ _ _ ?_ (fun w hs => only_any n ⟨0, n.font, n.char, n.w, n.h, n.d, 0, 0, 0, 0, 0, 0, 0, 0, 0, 0, 0, 0, ⟨#[]⟩⟩ w) ?_
  ·kernel_rfl
  refine g0 ?_
  refine gR (Value.bool (onlyB n { kind := 0, font := n.font, char := n.char, w := n.w, h := n.h, d := n.d, shift := 0, nat := 0, str := 0, shr := 0, so := 0, sho := 0, sign := 0, ord := 0, num := 0, den := 0, pen := 0, sub := 0, text := { data := #[] } })) fun w' hs => ?_
  exact ⟨ret_bool (by clear hs; (try simp at *); simp [charB, *]), hs.kk⟩
 refine gA [] 13 ?_
 refine gR (Value.bool false) fun w' hs => ?_
 exact ⟨ret_bool (by clear hs; (try simp at *); simp [charB, *]), hs.kk⟩
end Go.Proofs.Ytcncfmjfgdbfeab
