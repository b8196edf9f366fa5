/- The document's Part: bit by bit. -/
import Derived.Test.YtcikgaflnhpklaaDoorParts
import Derived.Test.YtcikgaflnhpklaaDoorFar
import Derived.Laws.BitsLemmas
import Derived.IntWalk
namespace Go.Proofs.YtcikgaflnhpklaaDoor
open Go.RowKit

theorem bit_part (m b : Nat) (hm : m ≤ 70368744177664) : bits .and .i64 ((m : Int) / 2 ^ b) 1 = ((m / 2 ^ b % 2 : Nat) : Int) := by
  have h0 : ((m : Int) / 2 ^ b) = ((m / 2 ^ b : Nat) : Int) := by rw [Int.natCast_ediv, Int.natCast_pow]; rfl
  have hb : m / 2 ^ b ≤ m := Nat.div_le_self _ _
  rw [h0]
  generalize m / 2 ^ b = x at *
  have h := bits_mask .i64 63 (by decide) (fun n h1 h2 => IntWalk.i64_in _ (by omega)) 1 (by decide) ((x : Nat) : Int) (by omega) (by omega)
  have e : ((2 : Int) ^ 1 - 1) = 1 := by decide
  have e2 : ((2 : Int) ^ 1) = 2 := by decide
  rw [e, e2] at h
  rw [h]
  omega

/-- the quotient and the rest of the first bits of m -/
def PartAt (m n d j : Nat) (q r i : Value) : Prop := j ≤ 32 ∧ q = .int .i64 ((m / 2 ^ j * n / d : Nat) : Int) ∧ r = .int .i64 ((m / 2 ^ j * n % d : Nat) : Int) ∧ i = .int .i64 ((j : Int) - 1)
/-- within one bit: what has been taken away so far -/
def TakeAt (T d B : Nat) (q r : Value) : Prop := ∃ Q R : Nat, q = .int .i64 Q ∧ r = .int .i64 R ∧ Q * d + R = T ∧ R ≤ B ∧ Q ≤ 4294967300

theorem take_end {T d Q R : Nat} (h : Q * d + R = T) (hR : R < d) : Q = T / d ∧ R = T % d := by
  have hd : 0 < d := by omega
  subst h
  refine ⟨?_, ?_⟩
  · rw [Nat.add_comm, Nat.add_mul_div_right _ _ hd, Nat.div_eq_of_lt hR, Nat.zero_add]
  · rw [Nat.add_comm, Nat.add_mul_mod_self_right, Nat.mod_eq_of_lt hR]

theorem part_small {m n d j : Nat} (hm : m ≤ 2147483648) (hn : n ≤ d) (hd : 1 ≤ d) : m / 2 ^ j * n / d ≤ 2147483648 := by
  have h1 : m / 2 ^ j ≤ m := Nat.div_le_self _ _
  have h2 : m / 2 ^ j * n ≤ 2147483648 * d := Nat.mul_le_mul (by omega) hn
  exact Nat.le_trans (Nat.div_le_div_right h2) (by rw [Nat.mul_div_cancel _ (by omega)]; exact Nat.le_refl _)

set_option maxRecDepth 100000 in
set_option maxHeartbeats 4000000 in
theorem rpart_any (m n d : Nat) (hm : m ≤ 2147483648) (hn : n ≤ d) (hd : 1 ≤ d) (hd2 : d ≤ 1152921504606846976) (w : World) :
    Calls Tryd.prog 48 #[.int .i64 m, .int .i64 n, .int .i64 d] w fun e w' => e = .returned (.tuple #[.int .i64 (m * n / d : Nat), .int .i64 (m * n % d : Nat)]) ∧ w = w' := by
  have hstart : m / 2 ^ 32 = 0 := Nat.div_eq_of_lt (by omega)
  have Hst := Lib.hid hstart; clear hstart
  go_enter Tryd.func48, Tryd.ntmps48
  go_wp2_with (fail)
  go_loop [8, 9, 10] (fun q r i => ∃ j : Nat, PartAt m n d j q r i) (fun _ _ i => (intOf i + 1).toNat)
  case atStart => exact ⟨32, by omega, by rw [Hst.out, Nat.zero_mul, Nat.zero_div]; rfl, by rw [Hst.out, Nat.zero_mul, Nat.zero_mod]; rfl, rfl⟩
  case round =>
    obtain ⟨j, hj, rfl, rfl, rfl⟩ := hrel
    by_cases hj0 : j = 0
    · subst hj0
      rw [Nat.pow_zero, Nat.div_one]
      obtain ⟨q, hq⟩ : ∃ q, m * n / d = q := ⟨_, rfl⟩
      obtain ⟨r, hr⟩ : ∃ r, m * n % d = r := ⟨_, rfl⟩
      rw [hq, hr]
      have Hq := Lib.hid hq; clear hq
      have Hr := Lib.hid hr; clear hr
      go_wp2_with (fail)
      go_ret2
      exact ⟨ret_ii (by exact_mod_cast Hq.out.symm) (by exact_mod_cast Hr.out.symm), rfl⟩
    · obtain ⟨b, rfl⟩ : ∃ b, j = b + 1 := ⟨j - 1, by omega⟩
      have hxb : m / 2 ^ b % 2 = 0 ∨ m / 2 ^ b % 2 = 1 := by omega
      have hbs := ShM.bit_step (p := m / 2 ^ (b + 1)) (n := n) (d := d) (b := m / 2 ^ b % 2) hd rfl rfl
      have hdm := Nat.div_add_mod (m / 2 ^ (b + 1) * n) d
      have hT : m / 2 ^ b * n = (2 * (m / 2 ^ (b + 1)) + m / 2 ^ b % 2) * n := by rw [← ShM.shift_step]
      clear hbs
      have hrl := Nat.mod_lt (m / 2 ^ (b + 1) * n) (show 0 < d by omega)
      have hqs := part_small (j := b + 1) hm hn hd
      have hbit := bit_part m b (by omega)
      rw [Nat.add_mul, Nat.mul_assoc] at hT
      obtain ⟨T, hTT⟩ : ∃ T, m / 2 ^ b * n = T := ⟨_, rfl⟩
      obtain ⟨P, hPP⟩ : ∃ P, m / 2 ^ (b + 1) * n = P := ⟨_, rfl⟩
      rw [hTT, hPP] at hT
      rw [hPP] at hdm hrl hqs ⊢
      have hrel2 : ∀ Q R : Nat, Q * d + R = T → R < d → PartAt m n d b (.int .i64 Q) (.int .i64 R) (.int .i64 ((b : Int) - 1)) := by
        intro Q R h1 h2
        obtain ⟨e1, e2⟩ := take_end h1 h2
        exact ⟨by omega, by rw [hTT, e1], by rw [hTT, e2], rfl⟩
      have Hrel2 := Lib.hid hrel2; clear hrel2
      generalize P % d = r at *
      generalize P / d = q at *
      have hb1 : ((b + 1 : Nat) : Int) - 1 = (b : Int) := by omega
      rw [hb1]
      clear hb1 hTT hPP
      have hb31 : b ≤ 31 := by omega
      have hbmin : min b 64 = b := by omega
      rw [Nat.mul_comm d q] at hdm
      rcases hxb with hx | hx
      · rw [hx, Nat.zero_mul, Nat.add_zero] at hT
        rw [hx] at hbit
        clear hx
        have hst : (2 * q) * d + 2 * r = T := by rw [Nat.mul_assoc]; omega
        have hTb : T < (2 * q + 3) * d := by rw [Nat.add_mul]; omega
        have Hst2 := Lib.hid hst
        have HTb := Lib.hid hTb
        clear hst hT hdm hTb
        go_wp2_with (fail)
        go_loop [8, 9] (fun q r => TakeAt T d (2305843009213693952 + 1152921504606846976) q r) (fun _ r => (intOf r).toNat)
        case atStart => exact ⟨2 * q, 2 * r, by rw [Int.natCast_mul]; rfl, by first | (rw [Int.natCast_mul]; rfl) | (rw [Int.natCast_add, Int.natCast_mul]; rfl), Hst2.out, by omega, by omega⟩
        case round =>
          obtain ⟨Q, R, rfl, rfl, hQR, hRB, hQB⟩ := hrel
          by_cases hRd : d ≤ R
          · have hRd' : (d : Int) ≤ (R : Int) := by omega
            have hQ1 : (Q + 1) * d + (R - d) = T := by rw [Nat.add_mul]; omega
            have hQ2 : Q + 1 ≤ 4294967300 := by
              have h1 : (Q + 1) * d < (2 * q + 3) * d := Nat.lt_of_le_of_lt (by omega) HTb.out
              have := Nat.lt_of_mul_lt_mul_right h1
              omega
            have HQ := Lib.hid hQ1
            clear hQ1 hQR
            go_wp2_with (fail)
            go_round
            case rel => exact ⟨Q + 1, R - d, by go_num, by rw [Int.natCast_sub hRd], HQ.out, by omega, hQ2⟩
            case measure => simp [intOf]; omega
          · have hRd' : ¬ (d : Int) ≤ (R : Int) := by omega
            have HP := Lib.hid (Hrel2.out Q R hQR (by omega))
            clear hQR
            go_wp2_with (fail)
            go_round
            case rel => exact ⟨b, HP.out⟩
            case measure => simp [intOf]
      · rw [hx, Nat.one_mul] at hT
        rw [hx] at hbit
        clear hx
        have hst : (2 * q) * d + (2 * r + n) = T := by rw [Nat.mul_assoc]; omega
        have hTb : T < (2 * q + 3) * d := by rw [Nat.add_mul]; omega
        have Hst2 := Lib.hid hst
        have HTb := Lib.hid hTb
        clear hst hT hdm hTb
        go_wp2_with (fail)
        go_loop [8, 9] (fun q r => TakeAt T d (2305843009213693952 + 1152921504606846976) q r) (fun _ r => (intOf r).toNat)
        case atStart => exact ⟨2 * q, (2 * r + n), by rw [Int.natCast_mul]; rfl, by first | (rw [Int.natCast_mul]; rfl) | (rw [Int.natCast_add, Int.natCast_mul]; rfl), Hst2.out, by omega, by omega⟩
        case round =>
          obtain ⟨Q, R, rfl, rfl, hQR, hRB, hQB⟩ := hrel
          by_cases hRd : d ≤ R
          · have hRd' : (d : Int) ≤ (R : Int) := by omega
            have hQ1 : (Q + 1) * d + (R - d) = T := by rw [Nat.add_mul]; omega
            have hQ2 : Q + 1 ≤ 4294967300 := by
              have h1 : (Q + 1) * d < (2 * q + 3) * d := Nat.lt_of_le_of_lt (by omega) HTb.out
              have := Nat.lt_of_mul_lt_mul_right h1
              omega
            have HQ := Lib.hid hQ1
            clear hQ1 hQR
            go_wp2_with (fail)
            go_round
            case rel => exact ⟨Q + 1, R - d, by go_num, by rw [Int.natCast_sub hRd], HQ.out, by omega, hQ2⟩
            case measure => simp [intOf]; omega
          · have hRd' : ¬ (d : Int) ≤ (R : Int) := by omega
            have HP := Lib.hid (Hrel2.out Q R hQR (by omega))
            clear hQR
            go_wp2_with (fail)
            go_round
            case rel => exact ⟨b, HP.out⟩
            case measure => simp [intOf]

theorem far_yes {x : Int} (h : fitB x = false) (w : World) : Calls Tryd.prog 47 #[.int .i64 x] w fun e w' => e = .returned (.bool true) ∧ w = w' := by
  have := far_any x w
  rw [h] at this
  exact this
theorem far_no {x : Int} (h : fitB x = true) (w : World) : Calls Tryd.prog 47 #[.int .i64 x] w fun e w' => e = .returned (.bool false) ∧ w = w' := by
  have := far_any x w
  rw [h] at this
  exact this

set_option maxRecDepth 100000 in
set_option maxHeartbeats 4000000 in
theorem refPart_any (x n d : Int) (w : World) :
    Calls Tryd.prog 19 #[.int .i64 x, .int .i64 n, .int .i64 d] w fun e w' => e = .returned (.tuple #[.int .i64 (prtV x n d), .int .i64 (prtE x n d)]) ∧ w = w' := by
  cases hf : fitB x
  · have e1 : prtV x n d = 0 := by simp [prtV, hf]
    have e2 : prtE x n d = 11 := by simp [prtE, hf]
    rw [e1, e2]
    have Hf := fun w => Lib.hid (far_yes hf w)
    clear e1 e2 hf
    go_enter Tryd.func19, Tryd.ntmps19
    go_wp2_with ((go_at_call 47; refine (Hf _).out.mono ?_; rintro e w' ⟨rfl, rfl⟩))
    go_ret2
    exact ⟨rfl, rfl⟩
  · have Hf := fun w => Lib.hid (far_no hf w)
    cases hok : prtOk n d
    · have e1 : prtV x n d = 0 := by simp [prtV, hok]
      have e2 : prtE x n d = 1 := by simp [prtE, hf, hok]
      rw [e1, e2]
      clear e1 e2 hf
      rcases prtOk_no hok with h1 | ⟨h1, h2⟩ | ⟨h1, h2, h3⟩ | ⟨h1, h2, h3, h4⟩
      all_goals
        clear hok
        go_enter Tryd.func19, Tryd.ntmps19
        go_wp2_with ((go_at_call 47; refine (Hf _).out.mono ?_; rintro e w' ⟨rfl, rfl⟩))
        go_ret2
        exact ⟨rfl, rfl⟩
    · obtain ⟨n0, n1, d0, d1⟩ := prtOk_yes hok
      obtain ⟨x0, x1⟩ := fit_yes hf
      obtain ⟨N, rfl⟩ : ∃ N : Nat, n = (N : Int) := ⟨n.toNat, by omega⟩
      obtain ⟨D, rfl⟩ : ∃ D : Nat, d = (D : Int) := ⟨d.toNat, by omega⟩
      obtain ⟨m, hm⟩ : ∃ m : Nat, x.natAbs = m := ⟨_, rfl⟩
      have e1 : prtV x N D = if x < 0 then -((ShM.rq (m * N) D : Nat) : Int) else (ShM.rq (m * N) D : Nat) := by
        unfold prtV
        rw [hf, hok, Int.toNat_natCast]
        simp only [if_true]
        exact rs_sign (by omega) hm
      have e2 : prtE x N D = 0 := by simp [prtE, hf, hok]
      rw [e1, e2]
      clear e1 e2 hok hf
      have hmx : m ≤ 2147483648 := by omega
      have Hr := fun w => Lib.hid (rpart_any m N D hmx (by omega) (by omega) (by omega) w)
      have hqs : m * N / D ≤ 2147483648 := by
        have := part_small (j := 0) (m := m) (n := N) (d := D) hmx (by omega) (by omega)
        rwa [Nat.pow_zero, Nat.div_one] at this
      have hrl := Nat.mod_lt (m * N) (show 0 < D by omega)
      have hrq : ShM.rq (m * N) D = if 2 * (m * N % D) < D then m * N / D else m * N / D + 1 := rfl
      rw [hrq]
      clear hrq
      generalize m * N / D = q at *
      generalize m * N % D = r at *
      by_cases hr1 : 2 * r < D
      · rw [if_pos hr1]
        have hr2 : ¬ (D : Int) ≤ 2 * (r : Int) := by omega
        by_cases hx : x < 0
        · rw [if_pos hx]
          obtain rfl : x = -(m : Int) := by omega
          clear hm
          go_enter Tryd.func19, Tryd.ntmps19
          go_wp2_with (fail)
          refine (Hf _).out.mono ?_
          rintro e w1 ⟨rfl, rfl⟩
          go_wp2_with (fail)
          refine (Hr _).out.mono ?_
          rintro e w1 ⟨rfl, rfl⟩
          go_wp2_with (fail)
          go_ret2
          exact ⟨rfl, rfl⟩
        · rw [if_neg hx]
          obtain rfl : x = (m : Int) := by omega
          clear hm
          go_enter Tryd.func19, Tryd.ntmps19
          go_wp2_with (fail)
          refine (Hf _).out.mono ?_
          rintro e w1 ⟨rfl, rfl⟩
          go_wp2_with (fail)
          refine (Hr _).out.mono ?_
          rintro e w1 ⟨rfl, rfl⟩
          go_wp2_with (fail)
          go_ret2
          exact ⟨rfl, rfl⟩
      · rw [if_neg hr1]
        have hr2 : (D : Int) ≤ 2 * (r : Int) := by omega
        by_cases hx : x < 0
        · rw [if_pos hx]
          obtain rfl : x = -(m : Int) := by omega
          clear hm
          go_enter Tryd.func19, Tryd.ntmps19
          go_wp2_with (fail)
          refine (Hf _).out.mono ?_
          rintro e w1 ⟨rfl, rfl⟩
          go_wp2_with (fail)
          refine (Hr _).out.mono ?_
          rintro e w1 ⟨rfl, rfl⟩
          go_wp2_with (fail)
          go_ret2
          exact ⟨ret_ii (by omega) rfl, rfl⟩
        · rw [if_neg hx]
          obtain rfl : x = (m : Int) := by omega
          clear hm
          go_enter Tryd.func19, Tryd.ntmps19
          go_wp2_with (fail)
          refine (Hf _).out.mono ?_
          rintro e w1 ⟨rfl, rfl⟩
          go_wp2_with (fail)
          refine (Hr _).out.mono ?_
          rintro e w1 ⟨rfl, rfl⟩
          go_wp2_with (fail)
          go_ret2
          exact ⟨ret_ii (by omega) rfl, rfl⟩
end Go.Proofs.YtcikgaflnhpklaaDoor
