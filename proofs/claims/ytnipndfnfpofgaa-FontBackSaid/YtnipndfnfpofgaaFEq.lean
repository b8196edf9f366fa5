/- Two characters' numbers, two steps, two pieces, compared. -/
import Derived.Test.YtnipndfnfpofgaaFontAt
import Derived.Laws.StructEq
namespace Go.Proofs.Ytnipndfnfpofgaa
open Go.RowKit

set_option maxRecDepth 100000 in
set_option maxHeartbeats 2000000 in
theorem met_neq (x y : Met) (h : x ≠ y) (w : World) : (binOp .neq 47 (.agg #[.int .i64 x.w, .int .i64 x.h, .int .i64 x.d, .int .i64 x.it, .int .i64 x.tag, .int .i64 x.rest]) (.agg #[.int .i64 y.w, .int .i64 y.h, .int .i64 y.d, .int .i64 y.it, .int .i64 y.tag, .int .i64 y.rest])).run Try.prog w = .ok (.bool true) w := by
  obtain ⟨x0, x1, x2, x3, x4, x5⟩ := x
  obtain ⟨y0, y1, y2, y3, y4, y5⟩ := y
  simp only
  by_cases h0 : x0 = y0
  · by_cases h1 : x1 = y1
    · by_cases h2 : x2 = y2
      · by_cases h3 : x3 = y3
        · by_cases h4 : x4 = y4
          · by_cases h5 : x5 = y5
            · exact absurd (by rw [h0, h1, h2, h3, h4, h5]) h
            · have e : (x5 == y5) = false := by simpa using h5
              subst h0 h1 h2 h3 h4
              clear h h5
              go_simp
          · have e : (x4 == y4) = false := by simpa using h4
            subst h0 h1 h2 h3
            clear h h4
            go_simp
        · have e : (x3 == y3) = false := by simpa using h3
          subst h0 h1 h2
          clear h h3
          go_simp
      · have e : (x2 == y2) = false := by simpa using h2
        subst h0 h1
        clear h h2
        go_simp
    · have e : (x1 == y1) = false := by simpa using h1
      subst h0
      clear h h1
      go_simp
  · have e : (x0 == y0) = false := by simpa using h0
    clear h h0
    go_simp

set_option maxRecDepth 100000 in
set_option maxHeartbeats 2000000 in
theorem step_neq (x y : St) (h : x ≠ y) (w : World) : (binOp .neq 55 (.agg #[.int .u8 x.skip, .int .u8 x.next, .int .u8 x.op, .int .u8 x.rest]) (.agg #[.int .u8 y.skip, .int .u8 y.next, .int .u8 y.op, .int .u8 y.rest])).run Try.prog w = .ok (.bool true) w := by
  obtain ⟨x0, x1, x2, x3⟩ := x
  obtain ⟨y0, y1, y2, y3⟩ := y
  simp only
  by_cases h0 : x0 = y0
  · by_cases h1 : x1 = y1
    · by_cases h2 : x2 = y2
      · by_cases h3 : x3 = y3
        · exact absurd (by rw [h0, h1, h2, h3]) h
        · have e : (x3 == y3) = false := by simpa using h3
          subst h0 h1 h2
          clear h h3
          go_simp
      · have e : (x2 == y2) = false := by simpa using h2
        subst h0 h1
        clear h h2
        go_simp
    · have e : (x1 == y1) = false := by simpa using h1
      subst h0
      clear h h1
      go_simp
  · have e : (x0 == y0) = false := by simpa using h0
    clear h h0
    go_simp

theorem cells_u8 : Try.prog.cellsOf 5 = 1 := by kernel_rfl
set_option maxRecDepth 100000 in
set_option maxHeartbeats 2000000 in
theorem arr4_eq (a0 a1 a2 a3 b0 b1 b2 b3 : Int) (w : World) : (Op.equalIn 10000 91 (.agg #[.int .u8 a0, .int .u8 a1, .int .u8 a2, .int .u8 a3]) (.agg #[.int .u8 b0, .int .u8 b1, .int .u8 b2, .int .u8 b3])).run Try.prog w = .ok (a0 == b0 && (a1 == b1 && (a2 == b2 && a3 == b3))) w := by
  have hs := run_underlying (w := w) Try.underlying91
  rw [show (10000 : Nat) = 9999 + 1 from rfl]
  unfold Op.equalIn
  simp only [Sem.run_bind, hs, Result.andThen_ok]
  simp [Std.Legacy.Range.forIn_eq_forIn_range', List.range', List.forIn_cons, go_sem]
  by_cases h0 : a0 = b0 <;> by_cases h1 : a1 = b1 <;> by_cases h2 : a2 = b2 <;> by_cases h3 : a3 = b3 <;> simp [*]

theorem piece_neq (x y : St) (h : x ≠ y) (w : World) : (binOp .neq 91 (.agg #[.int .u8 x.skip, .int .u8 x.next, .int .u8 x.op, .int .u8 x.rest]) (.agg #[.int .u8 y.skip, .int .u8 y.next, .int .u8 y.op, .int .u8 y.rest])).run Try.prog w = .ok (.bool true) w := by
  rw [run_neq_struct, arr4_eq]
  have e : (x.skip == y.skip && (x.next == y.next && (x.op == y.op && x.rest == y.rest))) = false := by
    rw [Bool.eq_false_iff]
    intro hh
    simp only [Bool.and_eq_true, beq_iff_eq] at hh
    obtain ⟨x0, x1, x2, x3⟩ := x
    obtain ⟨y0, y1, y2, y3⟩ := y
    simp only at hh
    exact h (by rw [hh.1, hh.2.1, hh.2.2.1, hh.2.2.2])
  rw [e]
  rfl
theorem piece_same (x : St) (w : World) : (binOp .neq 91 (.agg #[.int .u8 x.skip, .int .u8 x.next, .int .u8 x.op, .int .u8 x.rest]) (.agg #[.int .u8 x.skip, .int .u8 x.next, .int .u8 x.op, .int .u8 x.rest])).run Try.prog w = .ok (.bool false) w := by
  rw [run_neq_struct, arr4_eq]
  simp [Result.andThen]
end Go.Proofs.Ytnipndfnfpofgaa
