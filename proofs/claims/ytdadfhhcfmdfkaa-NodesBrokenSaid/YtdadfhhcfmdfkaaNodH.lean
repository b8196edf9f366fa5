/- nodes: is it a node? The rules of each kind. -/
import Derived.Test.YtdadfhhcfmdfkaaNodG
namespace Go.Proofs.Ytdadfhhcfmdfkaa
open Go.RowKit

def flB (s o : Int) : Bool := dimB s && ordB o
set_option maxRecDepth 100000 in
set_option maxHeartbeats 4000000 in
theorem fright_any (s o : Int) (w : World) :
    Calls Try.prog 197 #[flexV s o] w fun e w' => e = .returned (.bool (flB s o)) ∧ Kept w w' := by
  refine g_enter (args := [flexV s o]) [] [] Try.func197 rfl Try.ntmps197 (Nat.le_of_ble_eq_true (by kernel_rfl)) (sat0 w) ?_
  refine g_run 9999 [] 0 (by kernel_rfl) ?_
  refine g_new (fun b => by kernel_rfl) fun b0 hb0 => ?_
  refine g_run 9999 ([0]) 0 (by kernel_rfl) ?_
  refine g_callq _ _ _ ?_ (fun w hs => gdim_any s w) ?_
  · kernel_rfl
  refine g_run 9999 [] 0 (by kernel_rfl) ?_
  refine g_dec 6 (dimB s) (by kernel_rfl) (fun h6 => ?_) (fun h6 => ?_)
  · refine g_run 9999 ([0]) 3 (by kernel_rfl) ?_
    refine g_dec 11 (decide (o ≥ 0)) (by kernel_rfl) (fun h11 => ?_) (fun h11 => ?_)
    · refine g_run 9999 ([0]) 3 (by kernel_rfl) ?_
      refine g_ret [] (Value.bool (decide (o < 4))) (by kernel_rfl) (by kernel_rfl) (by kernel_rfl) fun w' hs => ?_
      exact ⟨ret_bool (by clear hs; (try simp at *); first | (simp [flB, ordB, *]; done) | (simp [flB, ordB, *]; omega)), hs.kept.kept⟩
    · refine g_run 9999 [] 3 (by kernel_rfl) ?_
      refine g_ret [] (Value.bool false) (by kernel_rfl) (by kernel_rfl) (by kernel_rfl) fun w' hs => ?_
      exact ⟨ret_bool (by clear hs; (try simp at *); first | (simp [flB, ordB, *]; done) | (simp [flB, ordB, *]; omega)), hs.kept.kept⟩
  · refine g_run 9999 [] 6 (by kernel_rfl) ?_
    refine g_ret [] (Value.bool false) (by kernel_rfl) (by kernel_rfl) (by kernel_rfl) fun w' hs => ?_
    exact ⟨ret_bool (by clear hs; (try simp at *); first | (simp [flB, ordB, *]; done) | (simp [flB, ordB, *]; omega)), hs.kept.kept⟩
def glueB (a b c d f : Int) : Bool := dimB a && flB b d && flB c f
def errG (ok : Bool) : Int := bif ok then 0 else 30
set_option maxRecDepth 100000 in
set_option maxHeartbeats 4000000 in
theorem gcheck_any (a b c d f : Int) (w : World) :
    Calls Try.prog 188 #[.agg #[.int .i64 a, .int .i64 b, .int .i64 c, .int .i64 d, .int .i64 f]] w fun e w' => e = .returned (.int .i64 (errG (glueB a b c d f))) ∧ Kept w w' := by
  refine g_enter (args := [.agg #[.int .i64 a, .int .i64 b, .int .i64 c, .int .i64 d, .int .i64 f]]) [] [] Try.func188 rfl Try.ntmps188 (Nat.le_of_ble_eq_true (by kernel_rfl)) (sat0 w) ?_
  refine g_run 9999 [] 0 (by kernel_rfl) ?_
  refine g_new (fun b => by kernel_rfl) fun b0 hb0 => ?_
  refine g_run 9999 ([0]) 0 (by kernel_rfl) ?_
  refine g_callq _ _ _ ?_ (fun w hs => gdim_any a w) ?_
  · kernel_rfl
  refine g_run 9999 [] 0 (by kernel_rfl) ?_
  refine g_dec 7 (!dimB a) (by kernel_rfl) (fun h7 => ?_) (fun h7 => ?_)
  · refine g_run 9999 [] 9 (by kernel_rfl) ?_
    refine g_ret [] (Value.int IntKind.i64 30) (by kernel_rfl) (by kernel_rfl) (by kernel_rfl) fun w' hs => ?_
    exact ⟨ret_int (by clear hs; (try simp at *); first | (simp [glueB, errG, *]; done) | (simp [glueB, errG, *]; omega)), hs.kept.kept⟩
  · refine g_run 9999 (List.replicate 5 0) 1 (by kernel_rfl) ?_
    refine g_callq _ _ _ ?_ (fun w hs => stretch_any a b c d f w) ?_
    · kernel_rfl
    refine g_callq _ _ _ ?_ (fun w hs => fright_any b d w) ?_
    · kernel_rfl
    refine g_run 9999 [] 1 (by kernel_rfl) ?_
    refine g_dec 13 (!flB b d) (by kernel_rfl) (fun h13 => ?_) (fun h13 => ?_)
    · refine g_run 9999 [] 5 (by kernel_rfl) ?_
      refine g_ret [] (Value.int IntKind.i64 30) (by kernel_rfl) (by kernel_rfl) (by kernel_rfl) fun w' hs => ?_
      exact ⟨ret_int (by clear hs; (try simp at *); first | (simp [glueB, errG, *]; done) | (simp [glueB, errG, *]; omega)), hs.kept.kept⟩
    · refine g_run 9999 (List.replicate 5 0) 1 (by kernel_rfl) ?_
      refine g_callq _ _ _ ?_ (fun w hs => shrink_any a b c d f w) ?_
      · kernel_rfl
      refine g_callq _ _ _ ?_ (fun w hs => fright_any c f w) ?_
      · kernel_rfl
      refine g_run 9999 [] 1 (by kernel_rfl) ?_
      refine g_dec 18 (!flB c f) (by kernel_rfl) (fun h18 => ?_) (fun h18 => ?_)
      · refine g_run 9999 [] 1 (by kernel_rfl) ?_
        refine g_ret [] (Value.int IntKind.i64 30) (by kernel_rfl) (by kernel_rfl) (by kernel_rfl) fun w' hs => ?_
        exact ⟨ret_int (by clear hs; (try simp at *); first | (simp [glueB, errG, *]; done) | (simp [glueB, errG, *]; omega)), hs.kept.kept⟩
      · refine g_run 9999 [] 1 (by kernel_rfl) ?_
        refine g_ret [] (Value.int IntKind.i64 0) (by kernel_rfl) (by kernel_rfl) (by kernel_rfl) fun w' hs => ?_
        exact ⟨ret_int (by clear hs; (try simp at *); first | (simp [glueB, errG, *]; done) | (simp [glueB, errG, *]; omega)), hs.kept.kept⟩
end Go.Proofs.Ytdadfhhcfmdfkaa
