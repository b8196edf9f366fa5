/- scaled.rounded and scaled.Part, whatever the numbers. -/
import Derived.Test.YtcikgaflnhpklaaDoorDiv64
import Derived.Test.YtcikgaflnhpklaaDoorAdds
import Derived.Test.YtcikgaflnhpklaaDoorShareMath
namespace Go.Proofs.YtcikgaflnhpklaaDoor
open Go.RowKit

set_option maxRecDepth 100000 in
set_option maxHeartbeats 4000000 in
theorem srounded_any (x n d : Nat) (hx : x ≤ 2147483648) (hn : n ≤ d) (hd : 1 ≤ d) (hd2 : d ≤ 1152921504606846976) (w : World) :
    Calls Tryd.prog 45 #[.int .i64 x, .int .i64 n, .int .i64 d] w fun e w' => e = .returned (.int .i64 (ShM.rq (x * n) d : Nat)) ∧ Kept w w' := by
  have hp : x * n ≤ 2147483648 * d := Nat.mul_le_mul hx hn
  have hrb : ShM.rq (x * n) d ≤ x := ShM.rq_le hd (Nat.mul_le_mul_left x hn)
  have hm := fun w => Lib.hid (Tryd.bits_Mul64 x n (by omega) (by omega) w)
  generalize x * n = p at *
  have hd0 : 0 < d := by omega
  have hdm := Nat.div_add_mod p 18446744073709551616
  have hml := Nat.mod_lt p (show 0 < 18446744073709551616 by decide)
  obtain ⟨H, hH⟩ : ∃ H : Nat, p / 18446744073709551616 = H := ⟨_, rfl⟩
  obtain ⟨L, hL⟩ : ∃ L : Nat, p % 18446744073709551616 = L := ⟨_, rfl⟩
  rw [hH, hL] at hm hdm
  rw [hL] at hml
  have hHd : H < d := by omega
  have hdv := fun w => Lib.hid (div64_all H L d hml hHd (by omega) w)
  rw [Nat.mul_comm H, hdm] at hdv
  obtain ⟨q, hq⟩ : ∃ q : Nat, p / d = q := ⟨_, rfl⟩
  obtain ⟨r, hr⟩ : ∃ r : Nat, p % d = r := ⟨_, rfl⟩
  have hrd := Nat.mod_lt p hd0
  rw [hq, hr] at hdv
  rw [hr] at hrd
  have hrq : ShM.rq p d = if 2 * r < d then q else q + 1 := by unfold ShM.rq; rw [hq, hr]
  have hqb : q ≤ 2147483648 := by
    have := (ShM.rq_ge (p := p) (d := d)).1
    rw [hq] at this
    omega
  rw [hrq]
  clear hq hr hH hL hdm hrq hrb hp
  by_cases hr1 : 2 * r < d
  · rw [if_pos hr1]
    have hr2 : ¬ (d : Int) ≤ 2 * (r : Int) := by omega
    go_enter Tryd.func45, Tryd.ntmps45
    go_wp2_with (fail)
    refine (hm _).out.mono ?_
    rintro e u1 ⟨rfl, rfl⟩
    go_wp2_with (fail)
    refine (hdv _).out.mono ?_
    rintro e u2 ⟨rfl, k2⟩
    go_wp2_with (fail)
    go_ret
    exact ⟨rfl, k2⟩
  · rw [if_neg hr1]
    have hr2 : (d : Int) ≤ 2 * (r : Int) := by omega
    go_enter Tryd.func45, Tryd.ntmps45
    go_wp2_with (fail)
    refine (hm _).out.mono ?_
    rintro e u1 ⟨rfl, rfl⟩
    go_wp2_with (fail)
    refine (hdv _).out.mono ?_
    rintro e u2 ⟨rfl, k2⟩
    go_wp2_with (fail)
    go_ret
    exact ⟨rfl, k2⟩

/-- may it be a part? -/
def prtOk (n d : Int) : Bool := decide (0 ≤ n) && (decide (n ≤ d) && (decide (1 ≤ d) && decide (d ≤ 1152921504606846976)))
def prtV (x n d : Int) : Int := if fitB x then (if prtOk n d then ShM.rs (x * n) d.toNat else 0) else 0
def prtE (x n d : Int) : Int := if fitB x then (if prtOk n d then 0 else 1) else 11

theorem prtOk_no {n d : Int} (h : prtOk n d = false) : n < 0 ∨ (¬ n < 0 ∧ d < n) ∨ (¬ n < 0 ∧ ¬ d < n ∧ d < 1) ∨ (¬ n < 0 ∧ ¬ d < n ∧ ¬ d < 1 ∧ 1152921504606846976 < d) := by
  unfold prtOk at h
  simp at h
  omega
theorem prtOk_yes {n d : Int} (h : prtOk n d = true) : 0 ≤ n ∧ n ≤ d ∧ 1 ≤ d ∧ d ≤ 1152921504606846976 := by
  unfold prtOk at h
  simp at h
  omega

/-- a number's sign, and the rest of it -/
theorem rs_sign {x : Int} {m N D : Nat} (hD : 1 ≤ D) (hm : x.natAbs = m) : ShM.rs (x * N) D = if x < 0 then -((ShM.rq (m * N) D : Nat) : Int) else (ShM.rq (m * N) D : Nat) := by
  have e : (x * (N : Int)).natAbs = m * N := by rw [Int.natAbs_mul, hm, Int.natAbs_natCast]
  unfold ShM.rs
  rw [e]
  by_cases hx : x < 0
  · rw [if_pos hx]
    by_cases hN : N = 0
    · subst hN
      simp [ShM.rq_zero hD]
    · rw [if_pos (Int.mul_neg_of_neg_of_pos hx (by omega))]
  · rw [if_neg hx, if_neg (by have := Int.mul_nonneg (show 0 ≤ x by omega) (show (0 : Int) ≤ (N : Int) by omega); omega)]

set_option maxRecDepth 100000 in
set_option maxHeartbeats 4000000 in
theorem part_any (x n d : Int) (w : World) :
    Calls Tryd.prog 17 #[.int .i64 x, .int .i64 n, .int .i64 d] w fun e w' => e = .returned (.tuple #[.int .i64 (prtV x n d), .int .i64 (prtE x n d)]) ∧ Kept w w' := by
  cases hf : fitB x
  · have e1 : prtV x n d = 0 := by simp [prtV, hf]
    have e2 : prtE x n d = 11 := by simp [prtE, hf]
    rw [e1, e2]
    clear e1 e2
    have Hf := Lib.hid hf; clear hf
    go_enter Tryd.func17, Tryd.ntmps17
    go_wp2_with ((go_at_call 44; refine (fits_one Hf.out).mono ?_; rintro e w' ⟨rfl, rfl⟩))
    go_ret2
    exact ⟨rfl, (Kept.refl _).alloc (Nat.le_refl _) _⟩
  · cases hok : prtOk n d
    · have e1 : prtV x n d = 0 := by simp [prtV, hok]
      have e2 : prtE x n d = 1 := by simp [prtE, hf, hok]
      rw [e1, e2]
      clear e1 e2
      have Hf := Lib.hid hf; clear hf
      rcases prtOk_no hok with h1 | ⟨h1, h2⟩ | ⟨h1, h2, h3⟩ | ⟨h1, h2, h3, h4⟩
      all_goals
        clear hok
        go_enter Tryd.func17, Tryd.ntmps17
        go_wp2_with ((go_at_call 44; refine (fits_one Hf.out).mono ?_; rintro e w' ⟨rfl, rfl⟩))
        go_ret2
        exact ⟨rfl, (Kept.refl _).alloc (Nat.le_refl _) _⟩
    · obtain ⟨n0, n1, d0, d1⟩ := prtOk_yes hok
      obtain ⟨x0, x1⟩ := fit_yes hf
      obtain ⟨N, rfl⟩ : ∃ N : Nat, n = (N : Int) := ⟨n.toNat, by omega⟩
      obtain ⟨D, rfl⟩ : ∃ D : Nat, d = (D : Int) := ⟨d.toNat, by omega⟩
      obtain ⟨m, hm⟩ : ∃ m : Nat, x.natAbs = m := ⟨_, rfl⟩
      have e1 : prtV x N D = if x < 0 then -((ShM.rq (m * N) D : Nat) : Int) else (ShM.rq (m * N) D : Nat) := by
        unfold prtV
        rw [hf, hok, Int.toNat_natCast]
        simp only [if_true]
        exact rs_sign (by omega) hm
      have e2 : prtE x N D = 0 := by simp [prtE, hf, hok]
      rw [e1, e2]
      have Hf := Lib.hid hf
      clear e1 e2 hok hf
      have hmx : m ≤ 2147483648 := by omega
      have Hr := fun w => Lib.hid (srounded_any m N D hmx (by omega) (by omega) (by omega) w)
      have hrb : ShM.rq (m * N) D ≤ m := ShM.rq_le (by omega) (Nat.mul_le_mul_left m (by omega))
      generalize ShM.rq (m * N) D = r at *
      by_cases hx : x < 0
      · rw [if_pos hx]
        obtain rfl : x = -(m : Int) := by omega
        clear hm
        go_enter Tryd.func17, Tryd.ntmps17
        go_wp2_with ((go_at_call 44; refine (fits_one Hf.out).mono ?_; rintro e w' ⟨rfl, rfl⟩))
        refine (Hr _).out.mono ?_
        rintro e u2 ⟨rfl, k2⟩
        go_wp2_with (fail)
        go_ret2
        exact ⟨rfl, Kept.trans ((Kept.refl w).alloc (Nat.le_refl _) _) k2⟩
      · rw [if_neg hx]
        obtain rfl : x = (m : Int) := by omega
        clear hm
        go_enter Tryd.func17, Tryd.ntmps17
        go_wp2_with ((go_at_call 44; refine (fits_one Hf.out).mono ?_; rintro e w' ⟨rfl, rfl⟩))
        refine (Hr _).out.mono ?_
        rintro e u2 ⟨rfl, k2⟩
        go_wp2_with (fail)
        go_ret2
        exact ⟨rfl, Kept.trans ((Kept.refl w).alloc (Nat.le_refl _) _) k2⟩
end Go.Proofs.YtcikgaflnhpklaaDoor
