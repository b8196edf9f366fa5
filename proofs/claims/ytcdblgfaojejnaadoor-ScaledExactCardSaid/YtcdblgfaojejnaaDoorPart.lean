/- scaled.rounded and scaled.Part where the product fits into 64 bits. -/
import Derived.Test.YtcdblgfaojejnaaDoorDiv
import Derived.Test.YtcdblgfaojejnaaDoorSums
namespace Go.Proofs.YtcdblgfaojejnaaDoor
open Go.RowKit

def rnd (x n d : Nat) : Nat := if 2 * (x * n % d) < d then x * n / d else x * n / d + 1

theorem rnd_bd {x n d : Nat} (hn : n ≤ d) (hd : 1 ≤ d) : x * n / d ≤ x := by
  have h : x * n ≤ x * d := Nat.mul_le_mul_left x hn
  exact Nat.le_trans (Nat.div_le_div_right h) (by rw [Nat.mul_div_cancel _ (by omega)]; exact Nat.le_refl _)

set_option maxHeartbeats 4000000 in
theorem rounded_low (x n d : Nat) (hx : x ≤ 2147483648) (hn : n ≤ d) (hd : 1 ≤ d) (hd2 : d ≤ 2147483648) (w : World) :
    Calls Tryd.prog 46 #[.int .i64 x, .int .i64 n, .int .i64 d] w fun e w' => e = .returned (.int .i64 (rnd x n d : Nat)) ∧ Kept w w' := by
  have hb : x * n ≤ 2147483648 * 2147483648 := Nat.mul_le_mul hx (by omega)
  have hq := rnd_bd (x := x) hn hd
  have hr : x * n % d < d := Nat.mod_lt _ (by omega)
  have hm := fun w => Lib.hid (Tryd.bits_Mul64 x n (by omega) (by omega) w)
  rw [Nat.div_eq_of_lt (show x * n < 18446744073709551616 by omega), Nat.mod_eq_of_lt (show x * n < 18446744073709551616 by omega)] at hm
  have hdv := fun w => Lib.hid (div64_low (x * n) d (by omega) (by omega) (by omega) w)
  obtain ⟨q, hqq⟩ : ∃ q, x * n / d = q := ⟨_, rfl⟩
  obtain ⟨r, hrr⟩ : ∃ r, x * n % d = r := ⟨_, rfl⟩
  unfold rnd
  rw [hqq, hrr]
  rw [hqq] at hq
  rw [hrr] at hr
  simp only [hqq, hrr] at hdv
  generalize x * n = p at *
  clear hqq hrr
  have hm' : ∀ w, Hid (Calls Tryd.prog 67 #[.int .u64 x, .int .u64 n] w fun e w' => e = .returned (.tuple #[.int .u64 0, .int .u64 p]) ∧ w' = w) := hm
  clear hm
  by_cases hc : 2 * r < d
  · rw [if_pos hc]
    have hc' : ¬ (d : Int) ≤ 2 * (r : Int) := by omega
    go_enter Tryd.func46, Tryd.ntmps46
    go_wp2_with (fail)
    refine (hm' _).out.mono ?_
    rintro e u1 ⟨rfl, rfl⟩
    go_wp2_with (fail)
    refine (hdv _).out.mono ?_
    rintro e u2 ⟨rfl, k2⟩
    go_wp2_with (fail)
    go_ret
    exact ⟨rfl, k2⟩
  · rw [if_neg hc]
    have hc' : (d : Int) ≤ 2 * (r : Int) := by omega
    go_enter Tryd.func46, Tryd.ntmps46
    go_wp2_with (fail)
    refine (hm' _).out.mono ?_
    rintro e u1 ⟨rfl, rfl⟩
    go_wp2_with (fail)
    refine (hdv _).out.mono ?_
    rintro e u2 ⟨rfl, k2⟩
    go_wp2_with (fail)
    go_ret
    exact ⟨rfl, k2⟩

def partV (x : Int) (n d : Nat) : Int := if x < 0 then -((rnd x.natAbs n d : Nat) : Int) else (rnd x.natAbs n d : Nat)

set_option maxHeartbeats 4000000 in
theorem part_low (x : Int) (n d : Nat) (x0 : -1073741824 ≤ x) (x1 : x ≤ 1073741824) (hn : n ≤ d) (hd : 1 ≤ d) (hd2 : d ≤ 2147483648) (w : World) :
    Calls Tryd.prog 22 #[.int .i64 x, .int .i64 n, .int .i64 d] w fun e w' => e = .returned (.tuple #[.int .i64 (partV x n d), .int .i64 0]) ∧ Kept w w' := by
  have hf : fitB x = true := by simp [fitB]; omega
  have Hf := Lib.hid hf
  clear hf
  obtain ⟨m, hm⟩ : ∃ m, m = x.natAbs := ⟨_, rfl⟩
  have hmx : m ≤ 1073741824 := by omega
  have Hr := fun w => Lib.hid (rounded_low m n d (by omega) hn hd hd2 w)
  have hrb : rnd m n d ≤ m + 1 := by
    have := rnd_bd (x := m) hn hd
    unfold rnd; split <;> omega
  unfold partV
  rw [← hm]
  generalize rnd m n d = r at *
  by_cases hx : x < 0
  · rw [if_pos hx]
    obtain rfl : x = -(m : Int) := by omega
    have e1 := Int.neg_neg (m : Int)
    clear hm
    go_enter Tryd.func22, Tryd.ntmps22
    go_wp2_with ((go_at_call 42; refine (fits_one Hf.out).mono ?_; rintro e w' ⟨rfl, rfl⟩))
    refine (Hr _).out.mono ?_
    rintro e u2 ⟨rfl, k2⟩
    go_wp2_with (fail)
    go_ret2
    exact ⟨rfl, Kept.trans ((Kept.refl w).alloc (Nat.le_refl _) _) k2⟩
  · rw [if_neg hx]
    obtain rfl : x = (m : Int) := by omega
    clear hm
    go_enter Tryd.func22, Tryd.ntmps22
    go_wp2_with ((go_at_call 42; refine (fits_one Hf.out).mono ?_; rintro e w' ⟨rfl, rfl⟩))
    refine (Hr _).out.mono ?_
    rintro e u2 ⟨rfl, k2⟩
    go_wp2_with (fail)
    go_ret2
    exact ⟨rfl, Kept.trans ((Kept.refl w).alloc (Nat.le_refl _) _) k2⟩
end Go.Proofs.YtcdblgfaojejnaaDoor
