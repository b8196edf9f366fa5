/- glue.greatest: the greatest order of which there is something. -/
import Derived.Test.YtcikgaflnhpklaaBase
namespace Go.Proofs.Ytcikgaflnhpklaa
open Go.RowKit

/-- the greatest order of the first k -/
def tO (b c d : Int) : Nat → Int
  | 0 => 0
  | 1 => 0
  | 2 => if 0 < b then 1 else 0
  | 3 => if 0 < c then 2 else if 0 < b then 1 else 0
  | _ => if 0 < d then 3 else if 0 < c then 2 else if 0 < b then 1 else 0
def tB (a b c d : Int) : Nat → Bool
  | 0 => false
  | 1 => decide (0 < a)
  | 2 => decide (0 < b) || decide (0 < a)
  | 3 => decide (0 < c) || (decide (0 < b) || decide (0 < a))
  | _ => decide (0 < d) || (decide (0 < c) || (decide (0 < b) || decide (0 < a)))

/-- after k rounds -/
def TopAt (a b c d : Int) (o f i : Value) : Prop := ∃ k : Nat, k ≤ 4 ∧ i = .int .i64 k ∧ o = .int .i64 (tO b c d k) ∧ f = .bool (tB a b c d k)

set_option maxHeartbeats 2000000 in
theorem greatest_any (a b c d : Int) (w : World) :
    Calls Try.prog 25 #[.agg #[.int .i64 a, .int .i64 b, .int .i64 c, .int .i64 d]] w fun e w' => e = .returned (.tuple #[.int .i64 (tO b c d 4), .bool (tB a b c d 4)]) ∧ Kept w w' := by
  go_enter Try.func25, Try.ntmps25
  go_wp2
  go_loop [2, 3, 5] (fun o f i => TopAt a b c d o f i) (fun _ _ i => (4 - intOf i).toNat)
  case atStart => exact ⟨0, by omega, rfl, rfl, rfl⟩
  case round =>
    obtain ⟨k, hk, rfl, rfl, rfl⟩ := hrel
    obtain rfl | rfl | rfl | rfl | rfl : k = 0 ∨ k = 1 ∨ k = 2 ∨ k = 3 ∨ k = 4 := by omega
    · by_cases h : 0 < a
      · have H0 : Hid (tO b c d 1 = 0 ∧ tB a b c d 1 = true) := ⟨rfl, by simp [tB, h]⟩
        generalize tO b c d 0 = o at *
        generalize tB a b c d 0 = f at *
        go_wp2
        go_round
        case rel => exact ⟨1, by omega, rfl, by rw [H0.out.1]; rfl, by rw [H0.out.2]⟩
        case measure => simp [intOf]
      · have H0 : Hid (tO b c d 1 = tO b c d 0 ∧ tB a b c d 1 = tB a b c d 0) := ⟨rfl, by simp [tB, h]⟩
        have h' : ¬ 0 < a := h
        generalize tO b c d 0 = o at *
        generalize tB a b c d 0 = f at *
        go_wp2
        go_round
        case rel => exact ⟨1, by omega, rfl, by rw [H0.out.1]; try rfl, by rw [H0.out.2]⟩
        case measure => simp [intOf]
    · by_cases h : 0 < b
      · have H0 : Hid (tO b c d 2 = 1 ∧ tB a b c d 2 = true) := ⟨by simp [tO, h], by simp [tB, h]⟩
        generalize tO b c d 1 = o at *
        generalize tB a b c d 1 = f at *
        go_wp2
        go_round
        case rel => exact ⟨2, by omega, rfl, by rw [H0.out.1]; try rfl, by rw [H0.out.2]⟩
        case measure => simp [intOf]
      · have H0 : Hid (tO b c d 2 = tO b c d 1 ∧ tB a b c d 2 = tB a b c d 1) := ⟨by simp [tO, h], by simp [tB, h]⟩
        generalize tO b c d 1 = o at *
        generalize tB a b c d 1 = f at *
        go_wp2
        go_round
        case rel => exact ⟨2, by omega, rfl, by rw [H0.out.1]; try rfl, by rw [H0.out.2]⟩
        case measure => simp [intOf]
    · by_cases h : 0 < c
      · have H0 : Hid (tO b c d 3 = 2 ∧ tB a b c d 3 = true) := ⟨by simp [tO, h], by simp [tB, h]⟩
        generalize tO b c d 2 = o at *
        generalize tB a b c d 2 = f at *
        go_wp2
        go_round
        case rel => exact ⟨3, by omega, rfl, by rw [H0.out.1]; try rfl, by rw [H0.out.2]⟩
        case measure => simp [intOf]
      · have H0 : Hid (tO b c d 3 = tO b c d 2 ∧ tB a b c d 3 = tB a b c d 2) := ⟨by simp [tO, h], by simp [tB, h]⟩
        generalize tO b c d 2 = o at *
        generalize tB a b c d 2 = f at *
        go_wp2
        go_round
        case rel => exact ⟨3, by omega, rfl, by rw [H0.out.1]; try rfl, by rw [H0.out.2]⟩
        case measure => simp [intOf]
    · by_cases h : 0 < d
      · have H0 : Hid (tO b c d 4 = 3 ∧ tB a b c d 4 = true) := ⟨by simp [tO, h], by simp [tB, h]⟩
        generalize tO b c d 3 = o at *
        generalize tB a b c d 3 = f at *
        go_wp2
        go_round
        case rel => exact ⟨4, by omega, rfl, by rw [H0.out.1]; try rfl, by rw [H0.out.2]⟩
        case measure => simp [intOf]
      · have H0 : Hid (tO b c d 4 = tO b c d 3 ∧ tB a b c d 4 = tB a b c d 3) := ⟨by simp [tO, h], by simp [tB, h]⟩
        generalize tO b c d 3 = o at *
        generalize tB a b c d 3 = f at *
        go_wp2
        go_round
        case rel => exact ⟨4, by omega, rfl, by rw [H0.out.1]; try rfl, by rw [H0.out.2]⟩
        case measure => simp [intOf]
    · go_wp2
      go_ret2
      exact ⟨rfl, (Kept.refl _).alloc (Nat.le_refl _) _⟩
end Go.Proofs.Ytcikgaflnhpklaa
