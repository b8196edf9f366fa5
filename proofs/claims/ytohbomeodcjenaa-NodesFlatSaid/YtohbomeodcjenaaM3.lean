/- NodF NodG. -/
import Derived.Test.YtohbomeodcjenaaM0
import Derived.Test.YtohbomeodcjenaaFast3
namespace Go.Proofs.Ytohbomeodcjenaa
open Go.RowKit

def nodL (n : Nod) : List Value := [.int .i64 n.kind, .int .i64 n.font, .int .u8 n.char, .int .i64 n.w, .int .i64 n.h, .int .i64 n.d, .int .i64 n.shift, .int .i64 n.nat, .int .i64 n.str, .int .i64 n.shr, .int .i64 n.so, .int .i64 n.sho, .int .i64 n.sign, .int .i64 n.ord, .int .i64 n.num, .int .i64 n.den, .int .i64 n.pen, .int .i64 n.sub, .string n.text]
def onlyB (n f : Nod) : Bool := decide (n = { f with kind := n.kind })
theorem sat1 {w : World} {b : Nat} {cs : List Value} {T : TypeId} (h : w.heap[b]? = some (.cells cs.toArray T (0, 0))) : Sat w [] [.obj false b cs T] w :=
  ⟨.refl _ _, fun e he => by rw [List.mem_singleton.1 he]; exact ⟨h, fun e => by cases e⟩, fun i j e e' hij hi hj ho => by
    have := List.mem_of_getElem? hi
    rw [List.mem_singleton.1 this] at ho
    cases ho⟩
theorem only_eql (n f : Nod) (w : World) : (eqlSem 201 (.tmp 8) (.tmp 9) (nodV n) (nodV { f with kind := n.kind })).run Try.prog w = .ok (.value (.bool (onlyB n f))) w :=
  eql_run (by kernel_rfl) (node_eql n { f with kind := n.kind } w)
theorem sat0 (w : World) : Sat w [] [] w := ⟨.refl _ _, fun e he => by simp at he, fun i j e e' _ hi => by simp at hi⟩

set_option maxRecDepth 100000 in
theorem only_any (n f : Nod) (w : World) :
    Calls Try.prog 184 #[nodV n, nodV f] w fun e w' => e = .returned (.bool (onlyB n f)) ∧ Kept w w' := by
  refine g_enter (args := [nodV n, nodV f]) [] [] Try.func184 rfl Try.ntmps184 (Nat.le_of_ble_eq_true (by kernel_rfl)) (sat0 w) ?_
  refine g_run 999 [] 0 (by kernel_rfl) ?_
  refine g_new (fun b => by kernel_rfl) fun b0 h0 => ?_
  refine g_new (fun b => by kernel_rfl) fun b1 h1 => ?_
  refine g_run 10 ([0, 1] ++ List.replicate 19 0 ++ List.replicate 19 1) 0 (by kernel_rfl) ?_
  refine g_val (eqlSem 201 (.tmp 8) (.tmp 9) (nodV n) (nodV { f with kind := n.kind })) (.bool (onlyB n f)) (by kernel_rfl) (fun w _ => only_eql n f w) ?_
  refine g_run 999 [] 0 (by kernel_rfl) ?_
  exact g_ret [] (.bool (onlyB n f)) (by kernel_rfl) (by kernel_rfl) (by kernel_rfl) fun w' hs => ⟨rfl, hs.kept.kept⟩
end Go.Proofs.Ytohbomeodcjenaa
namespace Go.Proofs.Ytohbomeodcjenaa
open Go.RowKit

/-- may it be a size? -/
def dimB (x : Int) : Bool := decide (-1073741823 ≤ x ∧ x ≤ 1073741823)
def d2B (x y : Int) : Bool := dimB x && dimB y
def d3B (x y z : Int) : Bool := dimB x && dimB y && dimB z
def d4B (x y z u : Int) : Bool := dimB x && dimB y && dimB z && dimB u
theorem dimB_iff (x : Int) : dimB x = true ↔ -1073741823 ≤ x ∧ x ≤ 1073741823 := by simp [dimB]
set_option maxRecDepth 100000 in
set_option maxHeartbeats 4000000 in
theorem dims1 (b : Nat) (x : Int) (w : World) (h : w.heap[b]? = some (.cells #[.int .i64 x] 3 (0, 0))) :
    Calls Try.prog 120 #[.slice (some ⟨b, 0, none⟩) 1 1] w fun e w' => e = .returned (.bool (dimB x)) ∧ Kept w w' := by
  refine g_enter (args := [.slice (some ⟨b, 0, none⟩) 1 1]) [] [.obj false b [.int .i64 x] 3] Try.func120 rfl Try.ntmps120 (Nat.le_of_ble_eq_true (by kernel_rfl)) (sat1 h) ?_
  refine g_run 9999 [] 0 (by kernel_rfl) ?_
  refine g_unroll 3 (by kernel_rfl) ?_
  refine g_run 9999 ([0]) 1 (by kernel_rfl) ?_
  refine g_dec 13 (decide (x < -1073741823)) (by kernel_rfl) (fun h13 => ?_) (fun h13 => ?_)
  · refine g_run 9999 [] 3 (by kernel_rfl) ?_
    refine g_ret [] (Value.bool false) (by kernel_rfl) (by kernel_rfl) (by kernel_rfl) fun w' hs => ?_
    exact ⟨ret_bool (by clear hs; simp only [decide_eq_true_eq] at *; rw [Bool.eq_iff_iff]; simp [dimB]; omega), hs.kept.kept⟩
  · refine g_run 9999 [] 2 (by kernel_rfl) ?_
    refine g_dec 16 (decide (x > 1073741823)) (by kernel_rfl) (fun h16 => ?_) (fun h16 => ?_)
    · refine g_run 9999 [] 1 (by kernel_rfl) ?_
      refine g_ret [] (Value.bool false) (by kernel_rfl) (by kernel_rfl) (by kernel_rfl) fun w' hs => ?_
      exact ⟨ret_bool (by clear hs; simp only [decide_eq_true_eq, decide_eq_false_iff_not] at *; rw [Bool.eq_iff_iff]; simp [dimB]; omega), hs.kept.kept⟩
    · refine g_run 9999 [] 2 (by kernel_rfl) ?_
      refine g_ret [] (Value.bool true) (by kernel_rfl) (by kernel_rfl) (by kernel_rfl) fun w' hs => ?_
      exact ⟨ret_bool (by clear hs; simp only [decide_eq_false_iff_not] at *; rw [Bool.eq_iff_iff]; simp [dimB]; omega), hs.kept.kept⟩
set_option maxRecDepth 100000 in
set_option maxHeartbeats 4000000 in
theorem dims2 (b : Nat) (x y : Int) (w : World) (h : w.heap[b]? = some (.cells #[.int .i64 x, .int .i64 y] 3 (0, 0))) :
    Calls Try.prog 120 #[.slice (some ⟨b, 0, none⟩) 2 2] w fun e w' => e = .returned (.bool (d2B x y)) ∧ Kept w w' := by
  refine g_enter (args := [.slice (some ⟨b, 0, none⟩) 2 2]) [] [.obj false b [.int .i64 x, .int .i64 y] 3] Try.func120 rfl Try.ntmps120 (Nat.le_of_ble_eq_true (by kernel_rfl)) (sat1 h) ?_
  refine g_run 9999 [] 0 (by kernel_rfl) ?_
  refine g_unroll 4 (by kernel_rfl) ?_
  refine g_run 9999 ([0]) 1 (by kernel_rfl) ?_
  refine g_dec 13 (decide (x < -1073741823)) (by kernel_rfl) (fun h13 => ?_) (fun h13 => ?_)
  · refine g_run 9999 [] 3 (by kernel_rfl) ?_
    refine g_ret [] (Value.bool false) (by kernel_rfl) (by kernel_rfl) (by kernel_rfl) fun w' hs => ?_
    exact ⟨ret_bool (by clear hs; simp only [decide_eq_true_eq] at *; rw [Bool.eq_iff_iff]; simp [d2B, dimB]; omega), hs.kept.kept⟩
  · refine g_run 9999 [] 2 (by kernel_rfl) ?_
    refine g_dec 16 (decide (x > 1073741823)) (by kernel_rfl) (fun h16 => ?_) (fun h16 => ?_)
    · refine g_run 9999 [] 1 (by kernel_rfl) ?_
      refine g_ret [] (Value.bool false) (by kernel_rfl) (by kernel_rfl) (by kernel_rfl) fun w' hs => ?_
      exact ⟨ret_bool (by clear hs; simp only [decide_eq_true_eq, decide_eq_false_iff_not] at *; rw [Bool.eq_iff_iff]; simp [d2B, dimB]; omega), hs.kept.kept⟩
    · refine g_run 9999 ([0]) 2 (by kernel_rfl) ?_
      refine g_dec 13 (decide (y < -1073741823)) (by kernel_rfl) (fun h13 => ?_) (fun h13 => ?_)
      · refine g_run 9999 [] 3 (by kernel_rfl) ?_
        refine g_ret [] (Value.bool false) (by kernel_rfl) (by kernel_rfl) (by kernel_rfl) fun w' hs => ?_
        exact ⟨ret_bool (by clear hs; simp only [decide_eq_true_eq, decide_eq_false_iff_not] at *; rw [Bool.eq_iff_iff]; simp [d2B, dimB]; omega), hs.kept.kept⟩
      · refine g_run 9999 [] 2 (by kernel_rfl) ?_
        refine g_dec 16 (decide (y > 1073741823)) (by kernel_rfl) (fun h16 => ?_) (fun h16 => ?_)
        · refine g_run 9999 [] 1 (by kernel_rfl) ?_
          refine g_ret [] (Value.bool false) (by kernel_rfl) (by kernel_rfl) (by kernel_rfl) fun w' hs => ?_
          exact ⟨ret_bool (by clear hs; simp only [decide_eq_true_eq, decide_eq_false_iff_not] at *; rw [Bool.eq_iff_iff]; simp [d2B, dimB]; omega), hs.kept.kept⟩
        · refine g_run 9999 [] 2 (by kernel_rfl) ?_
          refine g_ret [] (Value.bool true) (by kernel_rfl) (by kernel_rfl) (by kernel_rfl) fun w' hs => ?_
          exact ⟨ret_bool (by clear hs; simp only [decide_eq_false_iff_not] at *; rw [Bool.eq_iff_iff]; simp [d2B, dimB]; omega), hs.kept.kept⟩
set_option maxRecDepth 100000 in
set_option maxHeartbeats 4000000 in
theorem dims3 (b : Nat) (x y z : Int) (w : World) (h : w.heap[b]? = some (.cells #[.int .i64 x, .int .i64 y, .int .i64 z] 3 (0, 0))) :
    Calls Try.prog 120 #[.slice (some ⟨b, 0, none⟩) 3 3] w fun e w' => e = .returned (.bool (d3B x y z)) ∧ Kept w w' := by
  refine g_enter (args := [.slice (some ⟨b, 0, none⟩) 3 3]) [] [.obj false b [.int .i64 x, .int .i64 y, .int .i64 z] 3] Try.func120 rfl Try.ntmps120 (Nat.le_of_ble_eq_true (by kernel_rfl)) (sat1 h) ?_
  refine g_run 9999 [] 0 (by kernel_rfl) ?_
  refine g_unroll 5 (by kernel_rfl) ?_
  refine g_run 9999 ([0]) 1 (by kernel_rfl) ?_
  refine g_dec 13 (decide (x < -1073741823)) (by kernel_rfl) (fun h13 => ?_) (fun h13 => ?_)
  · refine g_run 9999 [] 3 (by kernel_rfl) ?_
    refine g_ret [] (Value.bool false) (by kernel_rfl) (by kernel_rfl) (by kernel_rfl) fun w' hs => ?_
    exact ⟨ret_bool (by clear hs; simp only [decide_eq_true_eq] at *; rw [Bool.eq_iff_iff]; simp [d3B, dimB]; omega), hs.kept.kept⟩
  · refine g_run 9999 [] 2 (by kernel_rfl) ?_
    refine g_dec 16 (decide (x > 1073741823)) (by kernel_rfl) (fun h16 => ?_) (fun h16 => ?_)
    · refine g_run 9999 [] 1 (by kernel_rfl) ?_
      refine g_ret [] (Value.bool false) (by kernel_rfl) (by kernel_rfl) (by kernel_rfl) fun w' hs => ?_
      exact ⟨ret_bool (by clear hs; simp only [decide_eq_true_eq, decide_eq_false_iff_not] at *; rw [Bool.eq_iff_iff]; simp [d3B, dimB]; omega), hs.kept.kept⟩
    · refine g_run 9999 ([0]) 2 (by kernel_rfl) ?_
      refine g_dec 13 (decide (y < -1073741823)) (by kernel_rfl) (fun h13 => ?_) (fun h13 => ?_)
      · refine g_run 9999 [] 3 (by kernel_rfl) ?_
        refine g_ret [] (Value.bool false) (by kernel_rfl) (by kernel_rfl) (by kernel_rfl) fun w' hs => ?_
        exact ⟨ret_bool (by clear hs; simp only [decide_eq_true_eq, decide_eq_false_iff_not] at *; rw [Bool.eq_iff_iff]; simp [d3B, dimB]; omega), hs.kept.kept⟩
      · refine g_run 9999 [] 2 (by kernel_rfl) ?_
        refine g_dec 16 (decide (y > 1073741823)) (by kernel_rfl) (fun h16 => ?_) (fun h16 => ?_)
        · refine g_run 9999 [] 1 (by kernel_rfl) ?_
          refine g_ret [] (Value.bool false) (by kernel_rfl) (by kernel_rfl) (by kernel_rfl) fun w' hs => ?_
          exact ⟨ret_bool (by clear hs; simp only [decide_eq_true_eq, decide_eq_false_iff_not] at *; rw [Bool.eq_iff_iff]; simp [d3B, dimB]; omega), hs.kept.kept⟩
        · refine g_run 9999 ([0]) 2 (by kernel_rfl) ?_
          refine g_dec 13 (decide (z < -1073741823)) (by kernel_rfl) (fun h13 => ?_) (fun h13 => ?_)
          · refine g_run 9999 [] 3 (by kernel_rfl) ?_
            refine g_ret [] (Value.bool false) (by kernel_rfl) (by kernel_rfl) (by kernel_rfl) fun w' hs => ?_
            exact ⟨ret_bool (by clear hs; simp only [decide_eq_true_eq, decide_eq_false_iff_not] at *; rw [Bool.eq_iff_iff]; simp [d3B, dimB]; omega), hs.kept.kept⟩
          · refine g_run 9999 [] 2 (by kernel_rfl) ?_
            refine g_dec 16 (decide (z > 1073741823)) (by kernel_rfl) (fun h16 => ?_) (fun h16 => ?_)
            · refine g_run 9999 [] 1 (by kernel_rfl) ?_
              refine g_ret [] (Value.bool false) (by kernel_rfl) (by kernel_rfl) (by kernel_rfl) fun w' hs => ?_
              exact ⟨ret_bool (by clear hs; simp only [decide_eq_true_eq, decide_eq_false_iff_not] at *; rw [Bool.eq_iff_iff]; simp [d3B, dimB]; omega), hs.kept.kept⟩
            · refine g_run 9999 [] 2 (by kernel_rfl) ?_
              refine g_ret [] (Value.bool true) (by kernel_rfl) (by kernel_rfl) (by kernel_rfl) fun w' hs => ?_
              exact ⟨ret_bool (by clear hs; simp only [decide_eq_false_iff_not] at *; rw [Bool.eq_iff_iff]; simp [d3B, dimB]; omega), hs.kept.kept⟩
set_option maxRecDepth 100000 in
set_option maxHeartbeats 4000000 in
theorem dims4 (b : Nat) (x y z u : Int) (w : World) (h : w.heap[b]? = some (.cells #[.int .i64 x, .int .i64 y, .int .i64 z, .int .i64 u] 3 (0, 0))) :
    Calls Try.prog 120 #[.slice (some ⟨b, 0, none⟩) 4 4] w fun e w' => e = .returned (.bool (d4B x y z u)) ∧ Kept w w' := by
  refine g_enter (args := [.slice (some ⟨b, 0, none⟩) 4 4]) [] [.obj false b [.int .i64 x, .int .i64 y, .int .i64 z, .int .i64 u] 3] Try.func120 rfl Try.ntmps120 (Nat.le_of_ble_eq_true (by kernel_rfl)) (sat1 h) ?_
  refine g_run 9999 [] 0 (by kernel_rfl) ?_
  refine g_unroll 6 (by kernel_rfl) ?_
  refine g_run 9999 ([0]) 1 (by kernel_rfl) ?_
  refine g_dec 13 (decide (x < -1073741823)) (by kernel_rfl) (fun h13 => ?_) (fun h13 => ?_)
  · refine g_run 9999 [] 3 (by kernel_rfl) ?_
    refine g_ret [] (Value.bool false) (by kernel_rfl) (by kernel_rfl) (by kernel_rfl) fun w' hs => ?_
    exact ⟨ret_bool (by clear hs; simp only [decide_eq_true_eq] at *; rw [Bool.eq_iff_iff]; simp [d4B, dimB]; omega), hs.kept.kept⟩
  · refine g_run 9999 [] 2 (by kernel_rfl) ?_
    refine g_dec 16 (decide (x > 1073741823)) (by kernel_rfl) (fun h16 => ?_) (fun h16 => ?_)
    · refine g_run 9999 [] 1 (by kernel_rfl) ?_
      refine g_ret [] (Value.bool false) (by kernel_rfl) (by kernel_rfl) (by kernel_rfl) fun w' hs => ?_
      exact ⟨ret_bool (by clear hs; simp only [decide_eq_true_eq, decide_eq_false_iff_not] at *; rw [Bool.eq_iff_iff]; simp [d4B, dimB]; omega), hs.kept.kept⟩
    · refine g_run 9999 ([0]) 2 (by kernel_rfl) ?_
      refine g_dec 13 (decide (y < -1073741823)) (by kernel_rfl) (fun h13 => ?_) (fun h13 => ?_)
      · refine g_run 9999 [] 3 (by kernel_rfl) ?_
        refine g_ret [] (Value.bool false) (by kernel_rfl) (by kernel_rfl) (by kernel_rfl) fun w' hs => ?_
        exact ⟨ret_bool (by clear hs; simp only [decide_eq_true_eq, decide_eq_false_iff_not] at *; rw [Bool.eq_iff_iff]; simp [d4B, dimB]; omega), hs.kept.kept⟩
      · refine g_run 9999 [] 2 (by kernel_rfl) ?_
        refine g_dec 16 (decide (y > 1073741823)) (by kernel_rfl) (fun h16 => ?_) (fun h16 => ?_)
        · refine g_run 9999 [] 1 (by kernel_rfl) ?_
          refine g_ret [] (Value.bool false) (by kernel_rfl) (by kernel_rfl) (by kernel_rfl) fun w' hs => ?_
          exact ⟨ret_bool (by clear hs; simp only [decide_eq_true_eq, decide_eq_false_iff_not] at *; rw [Bool.eq_iff_iff]; simp [d4B, dimB]; omega), hs.kept.kept⟩
        · refine g_run 9999 ([0]) 2 (by kernel_rfl) ?_
          refine g_dec 13 (decide (z < -1073741823)) (by kernel_rfl) (fun h13 => ?_) (fun h13 => ?_)
          · refine g_run 9999 [] 3 (by kernel_rfl) ?_
            refine g_ret [] (Value.bool false) (by kernel_rfl) (by kernel_rfl) (by kernel_rfl) fun w' hs => ?_
            exact ⟨ret_bool (by clear hs; simp only [decide_eq_true_eq, decide_eq_false_iff_not] at *; rw [Bool.eq_iff_iff]; simp [d4B, dimB]; omega), hs.kept.kept⟩
          · refine g_run 9999 [] 2 (by kernel_rfl) ?_
            refine g_dec 16 (decide (z > 1073741823)) (by kernel_rfl) (fun h16 => ?_) (fun h16 => ?_)
            · refine g_run 9999 [] 1 (by kernel_rfl) ?_
              refine g_ret [] (Value.bool false) (by kernel_rfl) (by kernel_rfl) (by kernel_rfl) fun w' hs => ?_
              exact ⟨ret_bool (by clear hs; simp only [decide_eq_true_eq, decide_eq_false_iff_not] at *; rw [Bool.eq_iff_iff]; simp [d4B, dimB]; omega), hs.kept.kept⟩
            · refine g_run 9999 ([0]) 2 (by kernel_rfl) ?_
              refine g_dec 13 (decide (u < -1073741823)) (by kernel_rfl) (fun h13 => ?_) (fun h13 => ?_)
              · refine g_run 9999 [] 3 (by kernel_rfl) ?_
                refine g_ret [] (Value.bool false) (by kernel_rfl) (by kernel_rfl) (by kernel_rfl) fun w' hs => ?_
                exact ⟨ret_bool (by clear hs; simp only [decide_eq_true_eq, decide_eq_false_iff_not] at *; rw [Bool.eq_iff_iff]; simp [d4B, dimB]; omega), hs.kept.kept⟩
              · refine g_run 9999 [] 2 (by kernel_rfl) ?_
                refine g_dec 16 (decide (u > 1073741823)) (by kernel_rfl) (fun h16 => ?_) (fun h16 => ?_)
                · refine g_run 9999 [] 1 (by kernel_rfl) ?_
                  refine g_ret [] (Value.bool false) (by kernel_rfl) (by kernel_rfl) (by kernel_rfl) fun w' hs => ?_
                  exact ⟨ret_bool (by clear hs; simp only [decide_eq_true_eq, decide_eq_false_iff_not] at *; rw [Bool.eq_iff_iff]; simp [d4B, dimB]; omega), hs.kept.kept⟩
                · refine g_run 9999 [] 2 (by kernel_rfl) ?_
                  refine g_ret [] (Value.bool true) (by kernel_rfl) (by kernel_rfl) (by kernel_rfl) fun w' hs => ?_
                  exact ⟨ret_bool (by clear hs; simp only [decide_eq_false_iff_not] at *; rw [Bool.eq_iff_iff]; simp [d4B, dimB]; omega), hs.kept.kept⟩
set_option maxRecDepth 100000 in
set_option maxHeartbeats 4000000 in
theorem gdim_any (x : Int) (w : World) :
    Calls Try.prog 195 #[.int .i64 x] w fun e w' => e = .returned (.bool (dimB x)) ∧ Kept w w' := by
  refine g_enter (args := [.int .i64 x]) [] [] Try.func195 rfl Try.ntmps195 (Nat.le_of_ble_eq_true (by kernel_rfl)) (sat0 w) ?_
  refine g_run 9999 [] 0 (by kernel_rfl) ?_
  refine g_dec 5 (decide (x ≥ -1073741823)) (by kernel_rfl) (fun h5 => ?_) (fun h5 => ?_)
  · refine g_run 9999 [] 2 (by kernel_rfl) ?_
    refine g_ret [] (Value.bool (decide (x ≤ 1073741823))) (by kernel_rfl) (by kernel_rfl) (by kernel_rfl) fun w' hs => ?_
    exact ⟨ret_bool (by clear hs; simp only [decide_eq_true_eq] at *; rw [Bool.eq_iff_iff]; simp [dimB]; omega), hs.kept.kept⟩
  · refine g_run 9999 [] 2 (by kernel_rfl) ?_
    refine g_ret [] (Value.bool false) (by kernel_rfl) (by kernel_rfl) (by kernel_rfl) fun w' hs => ?_
    exact ⟨ret_bool (by clear hs; simp only [decide_eq_false_iff_not] at *; rw [Bool.eq_iff_iff]; simp [dimB]; omega), hs.kept.kept⟩
def flexV (s o : Int) : Value := .agg #[.int .i64 s, .int .i64 o]
def ordB (o : Int) : Bool := decide (0 ≤ o) && decide (o < 4)
set_option maxRecDepth 100000 in
set_option maxHeartbeats 4000000 in
theorem stretch_any (a b c d f : Int) (w : World) :
    Calls Try.prog 196 #[.agg #[.int .i64 a, .int .i64 b, .int .i64 c, .int .i64 d, .int .i64 f]] w fun e w' => e = .returned (flexV b d) ∧ Kept w w' := by
  refine g_enter (args := [.agg #[.int .i64 a, .int .i64 b, .int .i64 c, .int .i64 d, .int .i64 f]]) [] [] Try.func196 rfl Try.ntmps196 (Nat.le_of_ble_eq_true (by kernel_rfl)) (sat0 w) ?_
  refine g_run 9999 [] 0 (by kernel_rfl) ?_
  refine g_new (fun b => by kernel_rfl) fun b0 hb0 => ?_
  refine g_new (fun b => by kernel_rfl) fun b1 hb1 => ?_
  refine g_run 9999 ([0, 0] ++ [1, 1]) 0 (by kernel_rfl) ?_
  refine g_ret ([1, 1]) (Value.agg { toList := [Value.int IntKind.i64 b, Value.int IntKind.i64 d] }) (by kernel_rfl) (by kernel_rfl) (by kernel_rfl) fun w' hs => ?_
  exact ⟨rfl, hs.kept.kept⟩
set_option maxRecDepth 100000 in
set_option maxHeartbeats 4000000 in
theorem shrink_any (a b c d f : Int) (w : World) :
    Calls Try.prog 198 #[.agg #[.int .i64 a, .int .i64 b, .int .i64 c, .int .i64 d, .int .i64 f]] w fun e w' => e = .returned (flexV c f) ∧ Kept w w' := by
  refine g_enter (args := [.agg #[.int .i64 a, .int .i64 b, .int .i64 c, .int .i64 d, .int .i64 f]]) [] [] Try.func198 rfl Try.ntmps198 (Nat.le_of_ble_eq_true (by kernel_rfl)) (sat0 w) ?_
  refine g_run 9999 [] 0 (by kernel_rfl) ?_
  refine g_new (fun b => by kernel_rfl) fun b0 hb0 => ?_
  refine g_new (fun b => by kernel_rfl) fun b1 hb1 => ?_
  refine g_run 9999 ([0, 0] ++ [1, 1]) 0 (by kernel_rfl) ?_
  refine g_ret ([1, 1]) (Value.agg { toList := [Value.int IntKind.i64 c, Value.int IntKind.i64 f] }) (by kernel_rfl) (by kernel_rfl) (by kernel_rfl) fun w' hs => ?_
  exact ⟨rfl, hs.kept.kept⟩
end Go.Proofs.Ytohbomeodcjenaa
