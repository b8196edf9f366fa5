/- glue.fit: is every number of a list within the limits of a setting? -/
import Derived.Test.YtdlbpepkgoandaaDoorBase
namespace Go.Proofs.YtdlbpepkgoandaaDoor
open Go.RowKit

/-- a number of a setting -/
def inB (n : Int) : Bool := decide (-70368744177664 ≤ n ∧ n ≤ 70368744177664)
theorem inB_yes {n : Int} (h : inB n = true) : -70368744177664 ≤ n ∧ n ≤ 70368744177664 := by simpa [inB] using h
theorem inB_no {n : Int} (h : inB n = false) : n < -70368744177664 ∨ 70368744177664 < n := by simp [inB] at h; omega
theorem inB_mk {n : Int} (h : -70368744177664 ≤ n ∧ n ≤ 70368744177664) : inB n = true := by simpa [inB] using h

theorem gfit_no (zs : List Int) (k : Nat) (hk : k < zs.length) (h : zs[k] < -70368744177664 ∨ 70368744177664 < zs[k]) : zs.all inB = false := by
  rw [List.all_eq_false]
  exact ⟨zs[k], List.getElem_mem hk, by simp only [inB, decide_eq_true_eq]; omega⟩
theorem gfit_step (zs : List Int) (k : Nat) (hk : k < zs.length) (h : -70368744177664 ≤ zs[k] ∧ zs[k] ≤ 70368744177664) (ha : (zs.take k).all inB = true) : (zs.take (k + 1)).all inB = true := by
  rw [List.take_succ_eq_append_getElem hk, List.all_append, ha]
  simp [inB, h]

set_option maxHeartbeats 400000 in
theorem gfit_any (b o : Nat) (zs : List Int) (w : World) (hbig : zs.length ≤ 1000)
    (hc : ∀ j, j < zs.length → w.cell? ⟨b, o + j, none⟩ = some (.int .i64 (zs.getD j 0))) :
    Calls Tryd.prog 66 #[.slice (some ⟨b, o, none⟩) zs.length zs.length] w fun e w' => e = .returned (.bool (zs.all inB)) ∧ w' = w := by
  go_enter Tryd.func66, Tryd.ntmps66
  go_wp2
  go_loop [7] (fun i => ∃ k : Nat, k ≤ zs.length ∧ i = .int .i64 k ∧ (zs.take k).all inB = true) (fun i => zs.length - (intOf i).toNat)
  case atStart => exact ⟨0, Nat.zero_le _, rfl, rfl⟩
  case round =>
    obtain ⟨k, hk, rfl, hall⟩ := hrel
    have hcell : k < zs.length → w.cell? ⟨b, o + k, none⟩ = some (.int .i64 (zs.getD k 0)) := fun h => hc k h
    go_wp2
    all_goals first
      | (have hlt : k < zs.length := by assumption
         have hno : zs[k] < -70368744177664 ∨ 70368744177664 < zs[k] := by first | assumption | (left; assumption) | omega
         go_ret
         exact ⟨ret_bool (gfit_no zs k hlt hno).symm, rfl⟩)
      | (have hlt : k < zs.length := by assumption
         go_round
         case rel => exact ⟨k + 1, by omega, by go_num, gfit_step zs k hlt (by omega) hall⟩
         case measure => simp [intOf]; omega)
      | (have hge : ¬ k < zs.length := by assumption
         go_ret
         have hz : zs.take k = zs := List.take_of_length_le (by omega)
         rw [hz] at hall
         exact ⟨ret_bool hall.symm, rfl⟩)

theorem gfit_three {r : Bool} {a c d : Int} {w : World} (hr : (inB a && (inB c && inB d)) = r) : Calls Tryd.prog 66 #[.slice (some ⟨w.heap.size, 0, none⟩) 3 3] (w.alloc (.cells #[.int .i64 a, .int .i64 c, .int .i64 d] 3)) fun e w' => e = .returned (.bool r) ∧ w.alloc (.cells #[.int .i64 a, .int .i64 c, .int .i64 d] 3) = w' := by
  subst hr
  have h := gfit_any w.heap.size 0 [a, c, d] (w.alloc (.cells #[.int .i64 a, .int .i64 c, .int .i64 d] 3)) (by simp) (by
    intro j hj
    simp at hj
    match j, hj with
    | 0, _ => go_simp
    | 1, _ => go_simp
    | 2, _ => go_simp)
  refine h.mono ?_
  rintro e w' ⟨rfl, rfl⟩
  exact ⟨ret_bool (by simp), rfl⟩
theorem gfit_two {r : Bool} {a c : Int} {w : World} (hr : (inB a && inB c) = r) : Calls Tryd.prog 66 #[.slice (some ⟨w.heap.size, 0, none⟩) 2 2] (w.alloc (.cells #[.int .i64 a, .int .i64 c] 3)) fun e w' => e = .returned (.bool r) ∧ w.alloc (.cells #[.int .i64 a, .int .i64 c] 3) = w' := by
  subst hr
  have h := gfit_any w.heap.size 0 [a, c] (w.alloc (.cells #[.int .i64 a, .int .i64 c] 3)) (by simp) (by
    intro j hj
    simp at hj
    match j, hj with
    | 0, _ => go_simp
    | 1, _ => go_simp)
  refine h.mono ?_
  rintro e w' ⟨rfl, rfl⟩
  exact ⟨ret_bool (by simp), rfl⟩
theorem gfit_one {r : Bool} {a : Int} {w : World} (hr : inB a = r) : Calls Tryd.prog 66 #[.slice (some ⟨w.heap.size, 0, none⟩) 1 1] (w.alloc (.cells #[.int .i64 a] 3)) fun e w' => e = .returned (.bool r) ∧ w.alloc (.cells #[.int .i64 a] 3) = w' := by
  subst hr
  have h := gfit_any w.heap.size 0 [a] (w.alloc (.cells #[.int .i64 a] 3)) (by simp) (by
    intro j hj
    simp at hj
    match j, hj with
    | 0, _ => go_simp)
  refine h.mono ?_
  rintro e w' ⟨rfl, rfl⟩
  exact ⟨ret_bool (by simp), rfl⟩
end Go.Proofs.YtdlbpepkgoandaaDoor
