/- the document's nodes: Good, first part. -/
import Derived.Test.YtcncfmjfgdbfeabNodK
namespace Go.Proofs.Ytcncfmjfgdbfeab
open Go.RowKit

theorem api_eql (x y : Nod) (a b : Operand) (w : World) : (eqlSem 55 a b (nodV x) (nodV y)).run Try.prog w = .ok (.value (.bool (decide (x = y)))) w :=
  eql_run (by kernel_rfl) (apiNode_eql x y w)
theorem errG_t {b : Bool} (h : b = true) : 0 = errG b := by rw [h]; rfl
theorem errG_f {b : Bool} (h : b = false) : 30 = errG b := by rw [h]; rfl
def bareN (n : Nod) : Nod := { n with w := 0, h := 0, d := 0 }
set_option maxRecDepth 100000 in
set_option maxHeartbeats 4000000 in
theorem rdimen5_any (x : Int) (w : World) :
    Calls Try.prog 81 #[.int .i64 x] w fun e w' => e = .returned (.bool (dimB x)) ∧ Kept w w' := by
  refine g_enter (args := [.int .i64 x]) [] [] Try.func81 rfl Try.ntmps81 (Nat.le_of_ble_eq_true (by kernel_rfl)) (sat0 w) ?_
  refine g_run 9999 [] 0 (by kernel_rfl) ?_
  refine g_dec 5 (decide (x ≥ -1073741823)) (by kernel_rfl) (fun h5 => ?_) (fun h5 => ?_)
  · refine g_run 9999 [] 2 (by kernel_rfl) ?_
    refine g_ret [] (Value.bool (decide (x ≤ 1073741823))) (by kernel_rfl) (by kernel_rfl) (by kernel_rfl) fun w' hs => ?_
    exact ⟨ret_bool (by clear hs; simp only [decide_eq_true_eq] at *; rw [Bool.eq_iff_iff]; simp [dimB]; omega), hs.kept.kept⟩
  · refine g_run 9999 [] 2 (by kernel_rfl) ?_
    refine g_ret [] (Value.bool false) (by kernel_rfl) (by kernel_rfl) (by kernel_rfl) fun w' hs => ?_
    exact ⟨ret_bool (by clear hs; simp only [decide_eq_false_iff_not] at *; rw [Bool.eq_iff_iff]; simp [dimB]; omega), hs.kept.kept⟩
set_option maxRecDepth 100000 in
set_option maxHeartbeats 4000000 in
theorem rdimen2_any (x : Int) (w : World) :
    Calls Try.prog 73 #[.int .i64 x] w fun e w' => e = .returned (.bool (dimB x)) ∧ Kept w w' := by
  refine g_enter (args := [.int .i64 x]) [] [] Try.func73 rfl Try.ntmps73 (Nat.le_of_ble_eq_true (by kernel_rfl)) (sat0 w) ?_
  refine g_run 9999 [] 0 (by kernel_rfl) ?_
  refine g_dec 5 (decide (x ≥ -1073741823)) (by kernel_rfl) (fun h5 => ?_) (fun h5 => ?_)
  · refine g_run 9999 [] 2 (by kernel_rfl) ?_
    refine g_ret [] (Value.bool (decide (x ≤ 1073741823))) (by kernel_rfl) (by kernel_rfl) (by kernel_rfl) fun w' hs => ?_
    exact ⟨ret_bool (by clear hs; simp only [decide_eq_true_eq] at *; rw [Bool.eq_iff_iff]; simp [dimB]; omega), hs.kept.kept⟩
  · refine g_run 9999 [] 2 (by kernel_rfl) ?_
    refine g_ret [] (Value.bool false) (by kernel_rfl) (by kernel_rfl) (by kernel_rfl) fun w' hs => ?_
    exact ⟨ret_bool (by clear hs; simp only [decide_eq_false_iff_not] at *; rw [Bool.eq_iff_iff]; simp [dimB]; omega), hs.kept.kept⟩
set_option maxRecDepth 100000 in
set_option maxHeartbeats 4000000 in
theorem rthree_any (n : Nod) (w : World) :
    Calls Try.prog 88 #[nodV n] w fun e w' => e = .returned (.bool (d3B n.w n.h n.d)) ∧ Kept w w' := by
  refine g_enter (args := [nodV n]) [] [] Try.func88 rfl Try.ntmps88 (Nat.le_of_ble_eq_true (by kernel_rfl)) (sat0 w) ?_
  refine g_run 9999 [] 0 (by kernel_rfl) ?_
  refine g_new (fun b => by kernel_rfl) fun b0 hb0 => ?_
  refine g_run 9999 ([0]) 0 (by kernel_rfl) ?_
  refine g_callq _ _ _ ?_ (fun w hs => rdimen5_any n.w w) ?_
  · kernel_rfl
  refine g_run 9999 [] 0 (by kernel_rfl) ?_
  refine g_dec 6 (dimB n.w) (by kernel_rfl) (fun h6 => ?_) (fun h6 => ?_)
  · refine g_run 9999 ([0]) 2 (by kernel_rfl) ?_
    refine g_callq _ _ _ ?_ (fun w hs => rdimen5_any n.h w) ?_
    · kernel_rfl
    refine g_run 9999 [] 0 (by kernel_rfl) ?_
    refine g_dec 11 (dimB n.h) (by kernel_rfl) (fun h11 => ?_) (fun h11 => ?_)
    · refine g_run 9999 ([0]) 2 (by kernel_rfl) ?_
      refine g_callq _ _ _ ?_ (fun w hs => rdimen5_any n.d w) ?_
      · kernel_rfl
      refine g_run 9999 [] 0 (by kernel_rfl) ?_
      refine g_ret [] (Value.bool (dimB n.d)) (by kernel_rfl) (by kernel_rfl) (by kernel_rfl) fun w' hs => ?_
      exact ⟨ret_bool (by clear hs; (try simp at *); simp [d3B, *]), hs.kept.kept⟩
    · refine g_run 9999 [] 3 (by kernel_rfl) ?_
      refine g_ret [] (Value.bool false) (by kernel_rfl) (by kernel_rfl) (by kernel_rfl) fun w' hs => ?_
      exact ⟨ret_bool (by clear hs; (try simp at *); simp [d3B, *]), hs.kept.kept⟩
  · refine g_run 9999 [] 6 (by kernel_rfl) ?_
    refine g_ret [] (Value.bool false) (by kernel_rfl) (by kernel_rfl) (by kernel_rfl) fun w' hs => ?_
    exact ⟨ret_bool (by clear hs; (try simp at *); simp [d3B, *]), hs.kept.kept⟩
set_option maxRecDepth 100000 in
set_option maxHeartbeats 4000000 in
theorem rgcheck_any (a b c d f : Int) (w : World) :
    Calls Try.prog 52 #[.agg #[.int .i64 a, .int .i64 b, .int .i64 c, .int .i64 d, .int .i64 f]] w fun e w' => e = .returned (.int .i64 (errG (glueB a b c d f))) ∧ Kept w w' := by
  refine g_enter (args := [.agg #[.int .i64 a, .int .i64 b, .int .i64 c, .int .i64 d, .int .i64 f]]) [] [] Try.func52 rfl Try.ntmps52 (Nat.le_of_ble_eq_true (by kernel_rfl)) (sat0 w) ?_
  refine g_run 9999 [] 0 (by kernel_rfl) ?_
  refine g_new (fun b => by kernel_rfl) fun b0 hb0 => ?_
  refine g_run 9999 ([0]) 0 (by kernel_rfl) ?_
  refine g_callq _ _ _ ?_ (fun w hs => rdimen2_any a w) ?_
  · kernel_rfl
  refine g_run 9999 [] 0 (by kernel_rfl) ?_
  refine g_dec 7 (!dimB a) (by kernel_rfl) (fun h7 => ?_) (fun h7 => ?_)
  · refine g_run 9999 [] 21 (by kernel_rfl) ?_
    refine g_ret [] (Value.int IntKind.i64 30) (by kernel_rfl) (by kernel_rfl) (by kernel_rfl) fun w' hs => ?_
    exact ⟨ret_int (by clear hs; (try simp at *); apply errG_f; simp [glueB, flB, ordB, *]), hs.kept.kept⟩
  · refine g_run 9999 ([0]) 2 (by kernel_rfl) ?_
    refine g_callq _ _ _ ?_ (fun w hs => rdimen2_any b w) ?_
    · kernel_rfl
    refine g_run 9999 [] 1 (by kernel_rfl) ?_
    refine g_dec 13 (!dimB b) (by kernel_rfl) (fun h13 => ?_) (fun h13 => ?_)
    · refine g_run 9999 [] 17 (by kernel_rfl) ?_
      refine g_ret [] (Value.int IntKind.i64 30) (by kernel_rfl) (by kernel_rfl) (by kernel_rfl) fun w' hs => ?_
      exact ⟨ret_int (by clear hs; (try simp at *); apply errG_f; simp [glueB, flB, ordB, *]), hs.kept.kept⟩
    · refine g_run 9999 ([0]) 2 (by kernel_rfl) ?_
      refine g_callq _ _ _ ?_ (fun w hs => rdimen2_any c w) ?_
      · kernel_rfl
      refine g_run 9999 [] 1 (by kernel_rfl) ?_
      refine g_dec 19 (!dimB c) (by kernel_rfl) (fun h19 => ?_) (fun h19 => ?_)
      · refine g_run 9999 [] 13 (by kernel_rfl) ?_
        refine g_ret [] (Value.int IntKind.i64 30) (by kernel_rfl) (by kernel_rfl) (by kernel_rfl) fun w' hs => ?_
        exact ⟨ret_int (by clear hs; (try simp at *); apply errG_f; simp [glueB, flB, ordB, *]), hs.kept.kept⟩
      · refine g_run 9999 ([0]) 3 (by kernel_rfl) ?_
        refine g_dec 24 (decide (d < 0)) (by kernel_rfl) (fun h24 => ?_) (fun h24 => ?_)
        · refine g_run 9999 [] 10 (by kernel_rfl) ?_
          refine g_ret [] (Value.int IntKind.i64 30) (by kernel_rfl) (by kernel_rfl) (by kernel_rfl) fun w' hs => ?_
          exact ⟨ret_int (by clear hs; (try simp at *); apply errG_f; simp [glueB, flB, ordB, *]; intros; omega), hs.kept.kept⟩
        · refine g_run 9999 ([0]) 3 (by kernel_rfl) ?_
          refine g_dec 29 (decide (d > 3)) (by kernel_rfl) (fun h29 => ?_) (fun h29 => ?_)
          · refine g_run 9999 [] 7 (by kernel_rfl) ?_
            refine g_ret [] (Value.int IntKind.i64 30) (by kernel_rfl) (by kernel_rfl) (by kernel_rfl) fun w' hs => ?_
            exact ⟨ret_int (by clear hs; (try simp at *); apply errG_f; simp [glueB, flB, ordB, *]; intros; omega), hs.kept.kept⟩
          · refine g_run 9999 ([0]) 3 (by kernel_rfl) ?_
            refine g_dec 34 (decide (f < 0)) (by kernel_rfl) (fun h34 => ?_) (fun h34 => ?_)
            · refine g_run 9999 [] 4 (by kernel_rfl) ?_
              refine g_ret [] (Value.int IntKind.i64 30) (by kernel_rfl) (by kernel_rfl) (by kernel_rfl) fun w' hs => ?_
              exact ⟨ret_int (by clear hs; (try simp at *); apply errG_f; simp [glueB, flB, ordB, *]; intros; omega), hs.kept.kept⟩
            · refine g_run 9999 ([0]) 3 (by kernel_rfl) ?_
              refine g_dec 38 (decide (f > 3)) (by kernel_rfl) (fun h38 => ?_) (fun h38 => ?_)
              · refine g_run 9999 [] 1 (by kernel_rfl) ?_
                refine g_ret [] (Value.int IntKind.i64 30) (by kernel_rfl) (by kernel_rfl) (by kernel_rfl) fun w' hs => ?_
                exact ⟨ret_int (by clear hs; (try simp at *); apply errG_f; simp [glueB, flB, ordB, *]; intros; omega), hs.kept.kept⟩
              · refine g_run 9999 [] 1 (by kernel_rfl) ?_
                refine g_ret [] (Value.int IntKind.i64 0) (by kernel_rfl) (by kernel_rfl) (by kernel_rfl) fun w' hs => ?_
                exact ⟨ret_int (by clear hs; (try simp at *); apply errG_t; simp [glueB, flB, ordB, *]; omega), hs.kept.kept⟩
set_option maxRecDepth 100000 in
set_option maxHeartbeats 4000000 in
theorem rbare_any (n : Nod) (w : World) :
    Calls Try.prog 89 #[nodV n] w fun e w' => e = .returned (nodV (bareN n)) ∧ Kept w w' := by
  refine g_enter (args := [nodV n]) [] [] Try.func89 rfl Try.ntmps89 (Nat.le_of_ble_eq_true (by kernel_rfl)) (sat0 w) ?_
  refine g_run 9999 [] 0 (by kernel_rfl) ?_
  refine g_new (fun b => by kernel_rfl) fun b0 hb0 => ?_
  refine g_new (fun b => by kernel_rfl) fun b1 hb1 => ?_
  refine g_run 9999 (List.replicate 22 0 ++ List.replicate 19 1) 0 (by kernel_rfl) ?_
  refine g_ret (List.replicate 19 1) (Value.agg { toList := [Value.int IntKind.i64 n.kind, Value.int IntKind.i64 n.font, Value.int IntKind.u8 n.char, Value.int IntKind.i64 0, Value.int IntKind.i64 0, Value.int IntKind.i64 0, Value.int IntKind.i64 n.shift, Value.int IntKind.i64 n.nat, Value.int IntKind.i64 n.str, Value.int IntKind.i64 n.shr, Value.int IntKind.i64 n.so, Value.int IntKind.i64 n.sho, Value.int IntKind.i64 n.sign, Value.int IntKind.i64 n.ord, Value.int IntKind.i64 n.num, Value.int IntKind.i64 n.den, Value.int IntKind.i64 n.pen, Value.int IntKind.i64 n.sub, Value.string n.text] }) (by kernel_rfl) (by kernel_rfl) (by kernel_rfl) fun w' hs => ?_
  exact ⟨rfl, hs.kept.kept⟩
set_option maxRecDepth 100000 in
set_option maxHeartbeats 4000000 in
theorem rfar_any (x : Int) (w : World) :
    Calls Try.prog 82 #[.int .i64 x] w fun e w' => e = .returned (.bool (!(decide (-2147483647 ≤ x) && decide (x ≤ 2147483647)))) ∧ Kept w w' := by
  refine g_enter (args := [.int .i64 x]) [] [] Try.func82 rfl Try.ntmps82 (Nat.le_of_ble_eq_true (by kernel_rfl)) (sat0 w) ?_
  refine g_run 9999 [] 0 (by kernel_rfl) ?_
  refine g_dec 5 (decide (x < -2147483647)) (by kernel_rfl) (fun h5 => ?_) (fun h5 => ?_)
  · refine g_run 9999 [] 2 (by kernel_rfl) ?_
    refine g_ret [] (Value.bool true) (by kernel_rfl) (by kernel_rfl) (by kernel_rfl) fun w' hs => ?_
    exact ⟨ret_bool (by clear hs; (try simp at *); simp [*]), hs.kept.kept⟩
  · refine g_run 9999 [] 2 (by kernel_rfl) ?_
    refine g_ret [] (Value.bool (decide (x > 2147483647))) (by kernel_rfl) (by kernel_rfl) (by kernel_rfl) fun w' hs => ?_
    exact ⟨ret_bool (by clear hs; (try simp at *); rw [Bool.eq_iff_iff]; simp [*]), hs.kept.kept⟩
/-- a node of that kind -/
abbrev kn (k : Int) (n : Nod) : Nod := ⟨k, n.font, n.char, n.w, n.h, n.d, n.shift, n.nat, n.str, n.shr, n.so, n.sho, n.sign, n.ord, n.num, n.den, n.pen, n.sub, n.text⟩
end Go.Proofs.Ytcncfmjfgdbfeab
