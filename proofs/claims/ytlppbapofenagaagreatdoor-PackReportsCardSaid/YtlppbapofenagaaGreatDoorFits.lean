/- scaled.fits: is every number of a list within the limits? -/
import Derived.Test.YtlppbapofenagaaGreatDoorBase
namespace Go.Proofs.YtlppbapofenagaaGreatDoor
open Go.RowKit

/-- a number within the limits -/
def fitB (n : Int) : Bool := decide (-2147483647 ≤ n ∧ n ≤ 2147483647)

theorem fits_no (zs : List Int) (k : Nat) (hk : k < zs.length) (h : zs[k] < -2147483647 ∨ 2147483647 < zs[k]) : zs.all fitB = false := by
  rw [List.all_eq_false]
  exact ⟨zs[k], List.getElem_mem hk, by simp only [fitB, decide_eq_true_eq]; omega⟩
theorem fits_step (zs : List Int) (k : Nat) (hk : k < zs.length) (h : -2147483647 ≤ zs[k] ∧ zs[k] ≤ 2147483647) (ha : (zs.take k).all fitB = true) : (zs.take (k + 1)).all fitB = true := by
  rw [List.take_succ_eq_append_getElem hk, List.all_append, ha]
  simp [fitB, h]

set_option maxHeartbeats 400000 in
theorem fits_any (b : Nat) (zs : List Int) (w : World) (hbig : zs.length ≤ 1000)
    (hc : ∀ j, j < zs.length → w.cell? ⟨b, j, none⟩ = some (.int .i64 (zs.getD j 0))) :
    Calls Tryz.prog 41 #[.slice (some ⟨b, 0, none⟩) zs.length zs.length] w fun e w' => e = .returned (.bool (zs.all fitB)) ∧ w' = w := by
  go_enter Tryz.func41, Tryz.ntmps41
  go_wp2
  go_loop [7] (fun i => ∃ k : Nat, k ≤ zs.length ∧ i = .int .i64 k ∧ (zs.take k).all fitB = true) (fun i => zs.length - (intOf i).toNat)
  case atStart => exact ⟨0, Nat.zero_le _, rfl, rfl⟩
  case round =>
    obtain ⟨k, hk, rfl, hall⟩ := hrel
    have hcell : k < zs.length → w.cell? ⟨b, k, none⟩ = some (.int .i64 (zs.getD k 0)) := fun h => hc k h
    go_wp2
    all_goals first
      | (have hlt : k < zs.length := by assumption
         have hno : zs[k] < -2147483647 ∨ 2147483647 < zs[k] := by first | assumption | (left; assumption) | omega
         go_ret
         exact ⟨ret_bool (fits_no zs k hlt hno).symm, rfl⟩)
      | (have hlt : k < zs.length := by assumption
         go_round
         case rel => exact ⟨k + 1, by omega, by go_num, fits_step zs k hlt (by omega) hall⟩
         case measure => simp [intOf]; omega)
      | (have hge : ¬ k < zs.length := by assumption
         go_ret
         have hz : zs.take k = zs := List.take_of_length_le (by omega)
         rw [hz] at hall
         exact ⟨ret_bool hall.symm, rfl⟩)

/-- two, three numbers, as the callers lay them -/
theorem fits_two {r : Bool} {a c : Int} {w : World} (hr : (fitB a && fitB c) = r) : Calls Tryz.prog 41 #[.slice (some ⟨w.heap.size, 0, none⟩) 2 2] (w.alloc (.cells #[.int .i64 a, .int .i64 c] 3)) fun e w' => e = .returned (.bool r) ∧ w.alloc (.cells #[.int .i64 a, .int .i64 c] 3) = w' := by
  subst hr
  have h := fits_any w.heap.size [a, c] (w.alloc (.cells #[.int .i64 a, .int .i64 c] 3)) (by simp) (by
    intro j hj
    simp at hj
    match j, hj with
    | 0, _ => go_simp
    | 1, _ => go_simp)
  refine h.mono ?_
  rintro e w' ⟨rfl, rfl⟩
  exact ⟨ret_bool (by simp), rfl⟩
theorem fits_three {r : Bool} {a c d : Int} {w : World} (hr : (fitB a && (fitB c && fitB d)) = r) : Calls Tryz.prog 41 #[.slice (some ⟨w.heap.size, 0, none⟩) 3 3] (w.alloc (.cells #[.int .i64 a, .int .i64 c, .int .i64 d] 3)) fun e w' => e = .returned (.bool r) ∧ w.alloc (.cells #[.int .i64 a, .int .i64 c, .int .i64 d] 3) = w' := by
  subst hr
  have h := fits_any w.heap.size [a, c, d] (w.alloc (.cells #[.int .i64 a, .int .i64 c, .int .i64 d] 3)) (by simp) (by
    intro j hj
    simp at hj
    match j, hj with
    | 0, _ => go_simp
    | 1, _ => go_simp
    | 2, _ => go_simp)
  refine h.mono ?_
  rintro e w' ⟨rfl, rfl⟩
  exact ⟨ret_bool (by simp), rfl⟩
theorem fits_one {r : Bool} {a : Int} {w : World} (hr : fitB a = r) : Calls Tryz.prog 41 #[.slice (some ⟨w.heap.size, 0, none⟩) 1 1] (w.alloc (.cells #[.int .i64 a] 3)) fun e w' => e = .returned (.bool r) ∧ w.alloc (.cells #[.int .i64 a] 3) = w' := by
  subst hr
  have h := fits_any w.heap.size [a] (w.alloc (.cells #[.int .i64 a] 3)) (by simp) (by
    intro j hj
    simp at hj
    match j, hj with
    | 0, _ => go_simp)
  refine h.mono ?_
  rintro e w' ⟨rfl, rfl⟩
  exact ⟨ret_bool (by simp), rfl⟩
end Go.Proofs.YtlppbapofenagaaGreatDoor
