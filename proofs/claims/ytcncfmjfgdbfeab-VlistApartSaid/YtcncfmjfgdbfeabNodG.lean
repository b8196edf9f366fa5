/- nodes: is it a node? The rules of each kind. -/
import Derived.Test.YtcncfmjfgdbfeabM13
namespace Go.Proofs.Ytcncfmjfgdbfeab
open Go.RowKit

/-- may it be a size? -/
def dimB (x : Int) : Bool := decide (-1073741823 ≤ x ∧ x ≤ 1073741823)
def d2B (x y : Int) : Bool := dimB x && dimB y
def d3B (x y z : Int) : Bool := dimB x && dimB y && dimB z
def d4B (x y z u : Int) : Bool := dimB x && dimB y && dimB z && dimB u
theorem dimB_iff (x : Int) : dimB x = true ↔ -1073741823 ≤ x ∧ x ≤ 1073741823 := by simp [dimB]
set_option maxRecDepth 100000 in
set_option maxHeartbeats 4000000 in
theorem dims1 (b : Nat) (x : Int) (w : World) (h : w.heap[b]? = some (.cells #[.int .i64 x] 3 (0, 0))) :
    Calls Try.prog 109 #[.slice (some ⟨b, 0, none⟩) 1 1] w fun e w' => e = .returned (.bool (dimB x)) ∧ Kept w w' := by
  refine g_enter (args := [.slice (some ⟨b, 0, none⟩) 1 1]) [] [.obj false b [.int .i64 x] 3] Try.func109 rfl Try.ntmps109 (Nat.le_of_ble_eq_true (by kernel_rfl)) (sat1 h) ?_
  refine g_run 9999 [] 0 (by kernel_rfl) ?_
  refine g_unroll 3 (by kernel_rfl) ?_
  refine g_run 9999 ([0]) 1 (by kernel_rfl) ?_
  refine g_dec 13 (decide (x < -1073741823)) (by kernel_rfl) (fun h13 => ?_) (fun h13 => ?_)
  · refine g_run 9999 [] 3 (by kernel_rfl) ?_
    refine g_ret [] (Value.bool false) (by kernel_rfl) (by kernel_rfl) (by kernel_rfl) fun w' hs => ?_
    exact ⟨ret_bool (by clear hs; simp only [decide_eq_true_eq] at *; rw [Bool.eq_iff_iff]; simp [dimB]; omega), hs.kept.kept⟩
  · refine g_run 9999 [] 2 (by kernel_rfl) ?_
    refine g_dec 16 (decide (x > 1073741823)) (by kernel_rfl) (fun h16 => ?_) (fun h16 => ?_)
    · refine g_run 9999 [] 1 (by kernel_rfl) ?_
      refine g_ret [] (Value.bool false) (by kernel_rfl) (by kernel_rfl) (by kernel_rfl) fun w' hs => ?_
      exact ⟨ret_bool (by clear hs; simp only [decide_eq_true_eq, decide_eq_false_iff_not] at *; rw [Bool.eq_iff_iff]; simp [dimB]; omega), hs.kept.kept⟩
    · refine g_run 9999 [] 2 (by kernel_rfl) ?_
      refine g_ret [] (Value.bool true) (by kernel_rfl) (by kernel_rfl) (by kernel_rfl) fun w' hs => ?_
      exact ⟨ret_bool (by clear hs; simp only [decide_eq_false_iff_not] at *; rw [Bool.eq_iff_iff]; simp [dimB]; omega), hs.kept.kept⟩
set_option maxRecDepth 100000 in
set_option maxHeartbeats 4000000 in
theorem dims2 (b : Nat) (x y : Int) (w : World) (h : w.heap[b]? = some (.cells #[.int .i64 x, .int .i64 y] 3 (0, 0))) :
    Calls Try.prog 109 #[.slice (some ⟨b, 0, none⟩) 2 2] w fun e w' => e = .returned (.bool (d2B x y)) ∧ Kept w w' := by
  refine g_enter (args := [.slice (some ⟨b, 0, none⟩) 2 2]) [] [.obj false b [.int .i64 x, .int .i64 y] 3] Try.func109 rfl Try.ntmps109 (Nat.le_of_ble_eq_true (by kernel_rfl)) (sat1 h) ?_
  refine g_run 9999 [] 0 (by kernel_rfl) ?_
  refine g_unroll 4 (by kernel_rfl) ?_
  refine g_run 9999 ([0]) 1 (by kernel_rfl) ?_
  refine g_dec 13 (decide (x < -1073741823)) (by kernel_rfl) (fun h13 => ?_) (fun h13 => ?_)
  · refine g_run 9999 [] 3 (by kernel_rfl) ?_
    refine g_ret [] (Value.bool false) (by kernel_rfl) (by kernel_rfl) (by kernel_rfl) fun w' hs => ?_
    exact ⟨ret_bool (by clear hs; simp only [decide_eq_true_eq] at *; rw [Bool.eq_iff_iff]; simp [d2B, dimB]; omega), hs.kept.kept⟩
  · refine g_run 9999 [] 2 (by kernel_rfl) ?_
    refine g_dec 16 (decide (x > 1073741823)) (by kernel_rfl) (fun h16 => ?_) (fun h16 => ?_)
    · refine g_run 9999 [] 1 (by kernel_rfl) ?_
      refine g_ret [] (Value.bool false) (by kernel_rfl) (by kernel_rfl) (by kernel_rfl) fun w' hs => ?_
      exact ⟨ret_bool (by clear hs; simp only [decide_eq_true_eq, decide_eq_false_iff_not] at *; rw [Bool.eq_iff_iff]; simp [d2B, dimB]; omega), hs.kept.kept⟩
    · refine g_run 9999 ([0]) 2 (by kernel_rfl) ?_
      refine g_dec 13 (decide (y < -1073741823)) (by kernel_rfl) (fun h13 => ?_) (fun h13 => ?_)
      · refine g_run 9999 [] 3 (by kernel_rfl) ?_
        refine g_ret [] (Value.bool false) (by kernel_rfl) (by kernel_rfl) (by kernel_rfl) fun w' hs => ?_
        exact ⟨ret_bool (by clear hs; simp only [decide_eq_true_eq, decide_eq_false_iff_not] at *; rw [Bool.eq_iff_iff]; simp [d2B, dimB]; omega), hs.kept.kept⟩
      · refine g_run 9999 [] 2 (by kernel_rfl) ?_
        refine g_dec 16 (decide (y > 1073741823)) (by kernel_rfl) (fun h16 => ?_) (fun h16 => ?_)
        · refine g_run 9999 [] 1 (by kernel_rfl) ?_
          refine g_ret [] (Value.bool false) (by kernel_rfl) (by kernel_rfl) (by kernel_rfl) fun w' hs => ?_
          exact ⟨ret_bool (by clear hs; simp only [decide_eq_true_eq, decide_eq_false_iff_not] at *; rw [Bool.eq_iff_iff]; simp [d2B, dimB]; omega), hs.kept.kept⟩
        · refine g_run 9999 [] 2 (by kernel_rfl) ?_
          refine g_ret [] (Value.bool true) (by kernel_rfl) (by kernel_rfl) (by kernel_rfl) fun w' hs => ?_
          exact ⟨ret_bool (by clear hs; simp only [decide_eq_false_iff_not] at *; rw [Bool.eq_iff_iff]; simp [d2B, dimB]; omega), hs.kept.kept⟩
set_option maxRecDepth 100000 in
set_option maxHeartbeats 4000000 in
theorem dims3 (b : Nat) (x y z : Int) (w : World) (h : w.heap[b]? = some (.cells #[.int .i64 x, .int .i64 y, .int .i64 z] 3 (0, 0))) :
    Calls Try.prog 109 #[.slice (some ⟨b, 0, none⟩) 3 3] w fun e w' => e = .returned (.bool (d3B x y z)) ∧ Kept w w' := by
  refine g_enter (args := [.slice (some ⟨b, 0, none⟩) 3 3]) [] [.obj false b [.int .i64 x, .int .i64 y, .int .i64 z] 3] Try.func109 rfl Try.ntmps109 (Nat.le_of_ble_eq_true (by kernel_rfl)) (sat1 h) ?_
  refine g_run 9999 [] 0 (by kernel_rfl) ?_
  refine g_unroll 5 (by kernel_rfl) ?_
  refine g_run 9999 ([0]) 1 (by kernel_rfl) ?_
  refine g_dec 13 (decide (x < -1073741823)) (by kernel_rfl) (fun h13 => ?_) (fun h13 => ?_)
  · refine g_run 9999 [] 3 (by kernel_rfl) ?_
    refine g_ret [] (Value.bool false) (by kernel_rfl) (by kernel_rfl) (by kernel_rfl) fun w' hs => ?_
    exact ⟨ret_bool (by clear hs; simp only [decide_eq_true_eq] at *; rw [Bool.eq_iff_iff]; simp [d3B, dimB]; omega), hs.kept.kept⟩
  · refine g_run 9999 [] 2 (by kernel_rfl) ?_
    refine g_dec 16 (decide (x > 1073741823)) (by kernel_rfl) (fun h16 => ?_) (fun h16 => ?_)
    · refine g_run 9999 [] 1 (by kernel_rfl) ?_
      refine g_ret [] (Value.bool false) (by kernel_rfl) (by kernel_rfl) (by kernel_rfl) fun w' hs => ?_
      exact ⟨ret_bool (by clear hs; simp only [decide_eq_true_eq, decide_eq_false_iff_not] at *; rw [Bool.eq_iff_iff]; simp [d3B, dimB]; omega), hs.kept.kept⟩
    · refine g_run 9999 ([0]) 2 (by kernel_rfl) ?_
      refine g_dec 13 (decide (y < -1073741823)) (by kernel_rfl) (fun h13 => ?_) (fun h13 => ?_)
      · refine g_run 9999 [] 3 (by kernel_rfl) ?_
        refine g_ret [] (Value.bool false) (by kernel_rfl) (by kernel_rfl) (by kernel_rfl) fun w' hs => ?_
        exact ⟨ret_bool (by clear hs; simp only [decide_eq_true_eq, decide_eq_false_iff_not] at *; rw [Bool.eq_iff_iff]; simp [d3B, dimB]; omega), hs.kept.kept⟩
      · refine g_run 9999 [] 2 (by kernel_rfl) ?_
        refine g_dec 16 (decide (y > 1073741823)) (by kernel_rfl) (fun h16 => ?_) (fun h16 => ?_)
        · refine g_run 9999 [] 1 (by kernel_rfl) ?_
          refine g_ret [] (Value.bool false) (by kernel_rfl) (by kernel_rfl) (by kernel_rfl) fun w' hs => ?_
          exact ⟨ret_bool (by clear hs; simp only [decide_eq_true_eq, decide_eq_false_iff_not] at *; rw [Bool.eq_iff_iff]; simp [d3B, dimB]; omega), hs.kept.kept⟩
        · refine g_run 9999 ([0]) 2 (by kernel_rfl) ?_
          refine g_dec 13 (decide (z < -1073741823)) (by kernel_rfl) (fun h13 => ?_) (fun h13 => ?_)
          · refine g_run 9999 [] 3 (by kernel_rfl) ?_
            refine g_ret [] (Value.bool false) (by kernel_rfl) (by kernel_rfl) (by kernel_rfl) fun w' hs => ?_
            exact ⟨ret_bool (by clear hs; simp only [decide_eq_true_eq, decide_eq_false_iff_not] at *; rw [Bool.eq_iff_iff]; simp [d3B, dimB]; omega), hs.kept.kept⟩
          · refine g_run 9999 [] 2 (by kernel_rfl) ?_
            refine g_dec 16 (decide (z > 1073741823)) (by kernel_rfl) (fun h16 => ?_) (fun h16 => ?_)
            · refine g_run 9999 [] 1 (by kernel_rfl) ?_
              refine g_ret [] (Value.bool false) (by kernel_rfl) (by kernel_rfl) (by kernel_rfl) fun w' hs => ?_
              exact ⟨ret_bool (by clear hs; simp only [decide_eq_true_eq, decide_eq_false_iff_not] at *; rw [Bool.eq_iff_iff]; simp [d3B, dimB]; omega), hs.kept.kept⟩
            · refine g_run 9999 [] 2 (by kernel_rfl) ?_
              refine g_ret [] (Value.bool true) (by kernel_rfl) (by kernel_rfl) (by kernel_rfl) fun w' hs => ?_
              exact ⟨ret_bool (by clear hs; simp only [decide_eq_false_iff_not] at *; rw [Bool.eq_iff_iff]; simp [d3B, dimB]; omega), hs.kept.kept⟩
set_option maxRecDepth 100000 in
set_option maxHeartbeats 4000000 in
theorem dims4 (b : Nat) (x y z u : Int) (w : World) (h : w.heap[b]? = some (.cells #[.int .i64 x, .int .i64 y, .int .i64 z, .int .i64 u] 3 (0, 0))) :
    Calls Try.prog 109 #[.slice (some ⟨b, 0, none⟩) 4 4] w fun e w' => e = .returned (.bool (d4B x y z u)) ∧ Kept w w' := by
  refine g_enter (args := [.slice (some ⟨b, 0, none⟩) 4 4]) [] [.obj false b [.int .i64 x, .int .i64 y, .int .i64 z, .int .i64 u] 3] Try.func109 rfl Try.ntmps109 (Nat.le_of_ble_eq_true (by kernel_rfl)) (sat1 h) ?_
  refine g_run 9999 [] 0 (by kernel_rfl) ?_
  refine g_unroll 6 (by kernel_rfl) ?_
  refine g_run 9999 ([0]) 1 (by kernel_rfl) ?_
  refine g_dec 13 (decide (x < -1073741823)) (by kernel_rfl) (fun h13 => ?_) (fun h13 => ?_)
  · refine g_run 9999 [] 3 (by kernel_rfl) ?_
    refine g_ret [] (Value.bool false) (by kernel_rfl) (by kernel_rfl) (by kernel_rfl) fun w' hs => ?_
    exact ⟨ret_bool (by clear hs; simp only [decide_eq_true_eq] at *; rw [Bool.eq_iff_iff]; simp [d4B, dimB]; omega), hs.kept.kept⟩
  · refine g_run 9999 [] 2 (by kernel_rfl) ?_
    refine g_dec 16 (decide (x > 1073741823)) (by kernel_rfl) (fun h16 => ?_) (fun h16 => ?_)
    · refine g_run 9999 [] 1 (by kernel_rfl) ?_
      refine g_ret [] (Value.bool false) (by kernel_rfl) (by kernel_rfl) (by kernel_rfl) fun w' hs => ?_
      exact ⟨ret_bool (by clear hs; simp only [decide_eq_true_eq, decide_eq_false_iff_not] at *; rw [Bool.eq_iff_iff]; simp [d4B, dimB]; omega), hs.kept.kept⟩
    · refine g_run 9999 ([0]) 2 (by kernel_rfl) ?_
      refine g_dec 13 (decide (y < -1073741823)) (by kernel_rfl) (fun h13 => ?_) (fun h13 => ?_)
      · refine g_run 9999 [] 3 (by kernel_rfl) ?_
        refine g_ret [] (Value.bool false) (by kernel_rfl) (by kernel_rfl) (by kernel_rfl) fun w' hs => ?_
        exact ⟨ret_bool (by clear hs; simp only [decide_eq_true_eq, decide_eq_false_iff_not] at *; rw [Bool.eq_iff_iff]; simp [d4B, dimB]; omega), hs.kept.kept⟩
      · refine g_run 9999 [] 2 (by kernel_rfl) ?_
        refine g_dec 16 (decide (y > 1073741823)) (by kernel_rfl) (fun h16 => ?_) (fun h16 => ?_)
        · refine g_run 9999 [] 1 (by kernel_rfl) ?_
          refine g_ret [] (Value.bool false) (by kernel_rfl) (by kernel_rfl) (by kernel_rfl) fun w' hs => ?_
          exact ⟨ret_bool (by clear hs; simp only [decide_eq_true_eq, decide_eq_false_iff_not] at *; rw [Bool.eq_iff_iff]; simp [d4B, dimB]; omega), hs.kept.kept⟩
        · refine g_run 9999 ([0]) 2 (by kernel_rfl) ?_
          refine g_dec 13 (decide (z < -1073741823)) (by kernel_rfl) (fun h13 => ?_) (fun h13 => ?_)
          · refine g_run 9999 [] 3 (by kernel_rfl) ?_
            refine g_ret [] (Value.bool false) (by kernel_rfl) (by kernel_rfl) (by kernel_rfl) fun w' hs => ?_
            exact ⟨ret_bool (by clear hs; simp only [decide_eq_true_eq, decide_eq_false_iff_not] at *; rw [Bool.eq_iff_iff]; simp [d4B, dimB]; omega), hs.kept.kept⟩
          · refine g_run 9999 [] 2 (by kernel_rfl) ?_
            refine g_dec 16 (decide (z > 1073741823)) (by kernel_rfl) (fun h16 => ?_) (fun h16 => ?_)
            · refine g_run 9999 [] 1 (by kernel_rfl) ?_
              refine g_ret [] (Value.bool false) (by kernel_rfl) (by kernel_rfl) (by kernel_rfl) fun w' hs => ?_
              exact ⟨ret_bool (by clear hs; simp only [decide_eq_true_eq, decide_eq_false_iff_not] at *; rw [Bool.eq_iff_iff]; simp [d4B, dimB]; omega), hs.kept.kept⟩
            · refine g_run 9999 ([0]) 2 (by kernel_rfl) ?_
              refine g_dec 13 (decide (u < -1073741823)) (by kernel_rfl) (fun h13 => ?_) (fun h13 => ?_)
              · refine g_run 9999 [] 3 (by kernel_rfl) ?_
                refine g_ret [] (Value.bool false) (by kernel_rfl) (by kernel_rfl) (by kernel_rfl) fun w' hs => ?_
                exact ⟨ret_bool (by clear hs; simp only [decide_eq_true_eq, decide_eq_false_iff_not] at *; rw [Bool.eq_iff_iff]; simp [d4B, dimB]; omega), hs.kept.kept⟩
              · refine g_run 9999 [] 2 (by kernel_rfl) ?_
                refine g_dec 16 (decide (u > 1073741823)) (by kernel_rfl) (fun h16 => ?_) (fun h16 => ?_)
                · refine g_run 9999 [] 1 (by kernel_rfl) ?_
                  refine g_ret [] (Value.bool false) (by kernel_rfl) (by kernel_rfl) (by kernel_rfl) fun w' hs => ?_
                  exact ⟨ret_bool (by clear hs; simp only [decide_eq_true_eq, decide_eq_false_iff_not] at *; rw [Bool.eq_iff_iff]; simp [d4B, dimB]; omega), hs.kept.kept⟩
                · refine g_run 9999 [] 2 (by kernel_rfl) ?_
                  refine g_ret [] (Value.bool true) (by kernel_rfl) (by kernel_rfl) (by kernel_rfl) fun w' hs => ?_
                  exact ⟨ret_bool (by clear hs; simp only [decide_eq_false_iff_not] at *; rw [Bool.eq_iff_iff]; simp [d4B, dimB]; omega), hs.kept.kept⟩
set_option maxRecDepth 100000 in
set_option maxHeartbeats 4000000 in
theorem gdim_any (x : Int) (w : World) :
    Calls Try.prog 62 #[.int .i64 x] w fun e w' => e = .returned (.bool (dimB x)) ∧ Kept w w' := by
  refine g_enter (args := [.int .i64 x]) [] [] Try.func62 rfl Try.ntmps62 (Nat.le_of_ble_eq_true (by kernel_rfl)) (sat0 w) ?_
  refine g_run 9999 [] 0 (by kernel_rfl) ?_
  refine g_dec 5 (decide (x ≥ -1073741823)) (by kernel_rfl) (fun h5 => ?_) (fun h5 => ?_)
  · refine g_run 9999 [] 2 (by kernel_rfl) ?_
    refine g_ret [] (Value.bool (decide (x ≤ 1073741823))) (by kernel_rfl) (by kernel_rfl) (by kernel_rfl) fun w' hs => ?_
    exact ⟨ret_bool (by clear hs; simp only [decide_eq_true_eq] at *; rw [Bool.eq_iff_iff]; simp [dimB]; omega), hs.kept.kept⟩
  · refine g_run 9999 [] 2 (by kernel_rfl) ?_
    refine g_ret [] (Value.bool false) (by kernel_rfl) (by kernel_rfl) (by kernel_rfl) fun w' hs => ?_
    exact ⟨ret_bool (by clear hs; simp only [decide_eq_false_iff_not] at *; rw [Bool.eq_iff_iff]; simp [dimB]; omega), hs.kept.kept⟩
def flexV (s o : Int) : Value := .agg #[.int .i64 s, .int .i64 o]
def ordB (o : Int) : Bool := decide (0 ≤ o) && decide (o < 4)
set_option maxRecDepth 100000 in
set_option maxHeartbeats 4000000 in
theorem stretch_any (a b c d f : Int) (w : World) :
    Calls Try.prog 63 #[.agg #[.int .i64 a, .int .i64 b, .int .i64 c, .int .i64 d, .int .i64 f]] w fun e w' => e = .returned (flexV b d) ∧ Kept w w' := by
  refine g_enter (args := [.agg #[.int .i64 a, .int .i64 b, .int .i64 c, .int .i64 d, .int .i64 f]]) [] [] Try.func63 rfl Try.ntmps63 (Nat.le_of_ble_eq_true (by kernel_rfl)) (sat0 w) ?_
  refine g_run 9999 [] 0 (by kernel_rfl) ?_
  refine g_new (fun b => by kernel_rfl) fun b0 hb0 => ?_
  refine g_new (fun b => by kernel_rfl) fun b1 hb1 => ?_
  refine g_run 9999 ([0, 0] ++ [1, 1]) 0 (by kernel_rfl) ?_
  refine g_ret ([1, 1]) (Value.agg { toList := [Value.int IntKind.i64 b, Value.int IntKind.i64 d] }) (by kernel_rfl) (by kernel_rfl) (by kernel_rfl) fun w' hs => ?_
  exact ⟨rfl, hs.kept.kept⟩
set_option maxRecDepth 100000 in
set_option maxHeartbeats 4000000 in
theorem shrink_any (a b c d f : Int) (w : World) :
    Calls Try.prog 65 #[.agg #[.int .i64 a, .int .i64 b, .int .i64 c, .int .i64 d, .int .i64 f]] w fun e w' => e = .returned (flexV c f) ∧ Kept w w' := by
  refine g_enter (args := [.agg #[.int .i64 a, .int .i64 b, .int .i64 c, .int .i64 d, .int .i64 f]]) [] [] Try.func65 rfl Try.ntmps65 (Nat.le_of_ble_eq_true (by kernel_rfl)) (sat0 w) ?_
  refine g_run 9999 [] 0 (by kernel_rfl) ?_
  refine g_new (fun b => by kernel_rfl) fun b0 hb0 => ?_
  refine g_new (fun b => by kernel_rfl) fun b1 hb1 => ?_
  refine g_run 9999 ([0, 0] ++ [1, 1]) 0 (by kernel_rfl) ?_
  refine g_ret ([1, 1]) (Value.agg { toList := [Value.int IntKind.i64 c, Value.int IntKind.i64 f] }) (by kernel_rfl) (by kernel_rfl) (by kernel_rfl) fun w' hs => ?_
  exact ⟨rfl, hs.kept.kept⟩
end Go.Proofs.Ytcncfmjfgdbfeab
