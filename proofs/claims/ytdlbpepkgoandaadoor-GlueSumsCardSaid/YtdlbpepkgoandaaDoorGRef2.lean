/- galleyref02.joined, right, times. -/
import Derived.Test.YtdlbpepkgoandaaDoorGRef1
namespace Go.Proofs.YtdlbpepkgoandaaDoor
open Go.RowKit

def jN (a x b y : Int) : Int := if a = 0 then b else if b = 0 then a else if x < y then b else if x = y then a + b else a
def jO (a x b y : Int) : Int := if jN a x b y = 0 then 0 else if a = 0 then y else if b = 0 then x else if x < y then y else x
def rtV (a n : Int) : Int := if a = 0 then 0 else if n = 0 then 0 else if 2147483648 < n then 1099511627776 else if n < -2147483648 then 1099511627776 else a * n

set_option maxHeartbeats 1000000 in
theorem joined_z0 (a x b y : Int) (w : World) (_b0 : -1073741823 ≤ a ∧ a ≤ 1073741823) (_b1 : -1073741823 ≤ b ∧ b ≤ 1073741823) (h0 : a = 0) (h1 : b = 0) :
    Calls Tryd.prog 36 #[.int .i64 a, .int .i64 x, .int .i64 b, .int .i64 y] w fun e w' => e = .returned (.tuple #[.int .i64 (jN a x b y), .int .i64 (jO a x b y)]) ∧ w = w' := by
  have e1 : jN a x b y = b := by unfold jN; simp [*] <;> omega
  have e2 : jO a x b y = 0 := by unfold jO; rw [e1]; simp [*] <;> omega
  rw [e1, e2]
  clear e1 e2
  obtain ⟨_, _⟩ := _b0
  obtain ⟨_, _⟩ := _b1
  have f0 : (a == 0) = true := by simp [*] <;> omega
  have f1 : (b == 0) = true := by simp [*] <;> omega
  clear h0 h1
  go_enter Tryd.func36, Tryd.ntmps36
  go_wp2
  go_ret2
  exact ⟨rfl, rfl⟩

set_option maxHeartbeats 1000000 in
theorem joined_z1 (a x b y : Int) (w : World) (_b0 : -1073741823 ≤ a ∧ a ≤ 1073741823) (_b1 : -1073741823 ≤ b ∧ b ≤ 1073741823) (h0 : a = 0) (h1 : ¬ b = 0) :
    Calls Tryd.prog 36 #[.int .i64 a, .int .i64 x, .int .i64 b, .int .i64 y] w fun e w' => e = .returned (.tuple #[.int .i64 (jN a x b y), .int .i64 (jO a x b y)]) ∧ w = w' := by
  have e1 : jN a x b y = b := by unfold jN; simp [*] <;> omega
  have e2 : jO a x b y = y := by unfold jO; rw [e1]; simp [*] <;> omega
  rw [e1, e2]
  clear e1 e2
  obtain ⟨_, _⟩ := _b0
  obtain ⟨_, _⟩ := _b1
  have f0 : (a == 0) = true := by simp [*] <;> omega
  have f1 : (b == 0) = false := by simp [*] <;> omega
  clear h0 h1
  go_enter Tryd.func36, Tryd.ntmps36
  go_wp2
  go_ret2
  exact ⟨rfl, rfl⟩

set_option maxHeartbeats 1000000 in
theorem joined_z2 (a x b y : Int) (w : World) (_b0 : -1073741823 ≤ a ∧ a ≤ 1073741823) (_b1 : -1073741823 ≤ b ∧ b ≤ 1073741823) (h0 : ¬ a = 0) (h1 : b = 0) :
    Calls Tryd.prog 36 #[.int .i64 a, .int .i64 x, .int .i64 b, .int .i64 y] w fun e w' => e = .returned (.tuple #[.int .i64 (jN a x b y), .int .i64 (jO a x b y)]) ∧ w = w' := by
  have e1 : jN a x b y = a := by unfold jN; simp [*] <;> omega
  have e2 : jO a x b y = x := by unfold jO; rw [e1]; simp [*] <;> omega
  rw [e1, e2]
  clear e1 e2
  obtain ⟨_, _⟩ := _b0
  obtain ⟨_, _⟩ := _b1
  have f0 : (a == 0) = false := by simp [*] <;> omega
  have f1 : (b != 0) = false := by simp [*] <;> omega
  clear h0 h1
  go_enter Tryd.func36, Tryd.ntmps36
  go_wp2
  go_ret2
  exact ⟨rfl, rfl⟩

set_option maxHeartbeats 1000000 in
theorem joined_lt (a x b y : Int) (w : World) (_b0 : -1073741823 ≤ a ∧ a ≤ 1073741823) (_b1 : -1073741823 ≤ b ∧ b ≤ 1073741823) (h0 : ¬ a = 0) (h1 : ¬ b = 0) (h2 : x < y) :
    Calls Tryd.prog 36 #[.int .i64 a, .int .i64 x, .int .i64 b, .int .i64 y] w fun e w' => e = .returned (.tuple #[.int .i64 (jN a x b y), .int .i64 (jO a x b y)]) ∧ w = w' := by
  have e1 : jN a x b y = b := by unfold jN; simp [*] <;> omega
  have e2 : jO a x b y = y := by unfold jO; rw [e1]; simp [*] <;> omega
  rw [e1, e2]
  clear e1 e2
  obtain ⟨_, _⟩ := _b0
  obtain ⟨_, _⟩ := _b1
  have f0 : (a == 0) = false := by simp [*] <;> omega
  have f1 : (b != 0) = true := by simp [*] <;> omega
  have f2 : decide (x < y) = true := by simp [*] <;> omega
  have f3 : (b == 0) = false := by simp [*] <;> omega
  clear h0 h1 h2
  go_enter Tryd.func36, Tryd.ntmps36
  go_wp2
  go_ret2
  exact ⟨rfl, rfl⟩

set_option maxHeartbeats 1000000 in
theorem joined_eq0 (a x b y : Int) (w : World) (_b0 : -1073741823 ≤ a ∧ a ≤ 1073741823) (_b1 : -1073741823 ≤ b ∧ b ≤ 1073741823) (h0 : ¬ a = 0) (h1 : ¬ b = 0) (h2 : x = y) (h3 : a + b = 0) :
    Calls Tryd.prog 36 #[.int .i64 a, .int .i64 x, .int .i64 b, .int .i64 y] w fun e w' => e = .returned (.tuple #[.int .i64 (jN a x b y), .int .i64 (jO a x b y)]) ∧ w = w' := by
  have e1 : jN a x b y = a + b := by unfold jN; simp [*] <;> omega
  have e2 : jO a x b y = 0 := by unfold jO; rw [e1]; simp [*] <;> omega
  rw [e1, e2]
  clear e1 e2
  obtain ⟨_, _⟩ := _b0
  obtain ⟨_, _⟩ := _b1
  have f0 : (a == 0) = false := by simp [*] <;> omega
  have f1 : (b != 0) = true := by simp [*] <;> omega
  have f2 : decide (x < y) = false := by simp [*] <;> omega
  have f3 : (x == y) = true := by simp [*] <;> omega
  have f4 : (a + b == 0) = true := by simp [*] <;> omega
  clear h0 h1 h2 h3
  go_enter Tryd.func36, Tryd.ntmps36
  go_wp2
  go_ret2
  exact ⟨rfl, rfl⟩

set_option maxHeartbeats 1000000 in
theorem joined_eq1 (a x b y : Int) (w : World) (_b0 : -1073741823 ≤ a ∧ a ≤ 1073741823) (_b1 : -1073741823 ≤ b ∧ b ≤ 1073741823) (h0 : ¬ a = 0) (h1 : ¬ b = 0) (h2 : x = y) (h3 : ¬ a + b = 0) :
    Calls Tryd.prog 36 #[.int .i64 a, .int .i64 x, .int .i64 b, .int .i64 y] w fun e w' => e = .returned (.tuple #[.int .i64 (jN a x b y), .int .i64 (jO a x b y)]) ∧ w = w' := by
  have e1 : jN a x b y = a + b := by unfold jN; simp [*] <;> omega
  have e2 : jO a x b y = x := by unfold jO; rw [e1]; simp [*] <;> omega
  rw [e1, e2]
  clear e1 e2
  obtain ⟨_, _⟩ := _b0
  obtain ⟨_, _⟩ := _b1
  have f0 : (a == 0) = false := by simp [*] <;> omega
  have f1 : (b != 0) = true := by simp [*] <;> omega
  have f2 : decide (x < y) = false := by simp [*] <;> omega
  have f3 : (x == y) = true := by simp [*] <;> omega
  have f4 : (a + b == 0) = false := by simp [*] <;> omega
  clear h0 h1 h2 h3
  go_enter Tryd.func36, Tryd.ntmps36
  go_wp2
  go_ret2
  exact ⟨rfl, rfl⟩

set_option maxHeartbeats 1000000 in
theorem joined_gt (a x b y : Int) (w : World) (_b0 : -1073741823 ≤ a ∧ a ≤ 1073741823) (_b1 : -1073741823 ≤ b ∧ b ≤ 1073741823) (h0 : ¬ a = 0) (h1 : ¬ b = 0) (h2 : ¬ x < y) (h3 : ¬ x = y) :
    Calls Tryd.prog 36 #[.int .i64 a, .int .i64 x, .int .i64 b, .int .i64 y] w fun e w' => e = .returned (.tuple #[.int .i64 (jN a x b y), .int .i64 (jO a x b y)]) ∧ w = w' := by
  have e1 : jN a x b y = a := by unfold jN; simp [*] <;> omega
  have e2 : jO a x b y = x := by unfold jO; rw [e1]; simp [*] <;> omega
  rw [e1, e2]
  clear e1 e2
  obtain ⟨_, _⟩ := _b0
  obtain ⟨_, _⟩ := _b1
  have f0 : (a == 0) = false := by simp [*] <;> omega
  have f1 : (b != 0) = true := by simp [*] <;> omega
  have f2 : decide (x < y) = false := by simp [*] <;> omega
  have f3 : (x == y) = false := by simp [*] <;> omega
  clear h0 h1 h2 h3
  go_enter Tryd.func36, Tryd.ntmps36
  go_wp2
  go_ret2
  exact ⟨rfl, rfl⟩

theorem joined_any (a x b y : Int) (w : World) (b0 : -1073741823 ≤ a ∧ a ≤ 1073741823) (b1 : -1073741823 ≤ b ∧ b ≤ 1073741823) :
    Calls Tryd.prog 36 #[.int .i64 a, .int .i64 x, .int .i64 b, .int .i64 y] w fun e w' => e = .returned (.tuple #[.int .i64 (jN a x b y), .int .i64 (jO a x b y)]) ∧ w = w' := by
  by_cases ha : a = 0
  · by_cases hb : b = 0
    · exact joined_z0 a x b y w b0 b1 ha hb
    · exact joined_z1 a x b y w b0 b1 ha hb
  · by_cases hb : b = 0
    · exact joined_z2 a x b y w b0 b1 ha hb
    · by_cases h1 : x < y
      · exact joined_lt a x b y w b0 b1 ha hb h1
      · by_cases h2 : x = y
        · by_cases h3 : a + b = 0
          · exact joined_eq0 a x b y w b0 b1 ha hb h2 h3
          · exact joined_eq1 a x b y w b0 b1 ha hb h2 h3
        · exact joined_gt a x b y w b0 b1 ha hb h1 h2

set_option maxHeartbeats 1000000 in
theorem rtimes_z0 (a n : Int) (w : World) (_b0 : -1073741823 ≤ a ∧ a ≤ 1073741823) (h0 : a = 0) :
    Calls Tryd.prog 41 #[.int .i64 a, .int .i64 n] w fun e w' => e = .returned (.int .i64 (rtV a n)) ∧ w = w' := by
  have e1 : rtV a n = 0 := by unfold rtV; simp [*]
  rw [e1]
  clear e1
  have f0 : (a == 0) = true := by simp [*] <;> omega
  clear h0
  go_enter Tryd.func41, Tryd.ntmps41
  go_wp2
  go_ret
  exact ⟨rfl, rfl⟩

set_option maxHeartbeats 1000000 in
theorem rtimes_z1 (a n : Int) (w : World) (_b0 : -1073741823 ≤ a ∧ a ≤ 1073741823) (h0 : ¬ a = 0) (h1 : n = 0) :
    Calls Tryd.prog 41 #[.int .i64 a, .int .i64 n] w fun e w' => e = .returned (.int .i64 (rtV a n)) ∧ w = w' := by
  have e1 : rtV a n = 0 := by unfold rtV; simp [*]
  rw [e1]
  clear e1
  have f0 : (a == 0) = false := by simp [*] <;> omega
  have f1 : (n == 0) = true := by simp [*] <;> omega
  clear h0 h1
  go_enter Tryd.func41, Tryd.ntmps41
  go_wp2
  go_ret
  exact ⟨rfl, rfl⟩

set_option maxHeartbeats 1000000 in
theorem rtimes_hi (a n : Int) (w : World) (_b0 : -1073741823 ≤ a ∧ a ≤ 1073741823) (h0 : ¬ a = 0) (h1 : ¬ n = 0) (h2 : 2147483648 < n) :
    Calls Tryd.prog 41 #[.int .i64 a, .int .i64 n] w fun e w' => e = .returned (.int .i64 (rtV a n)) ∧ w = w' := by
  have e1 : rtV a n = 1099511627776 := by unfold rtV; simp [*]
  rw [e1]
  clear e1
  have f0 : (a == 0) = false := by simp [*] <;> omega
  have f1 : (n == 0) = false := by simp [*] <;> omega
  have f2 : decide (2147483648 < n) = true := by simp [*] <;> omega
  clear h0 h1 h2
  go_enter Tryd.func41, Tryd.ntmps41
  go_wp2
  go_ret
  exact ⟨rfl, rfl⟩

set_option maxHeartbeats 1000000 in
theorem rtimes_lo (a n : Int) (w : World) (_b0 : -1073741823 ≤ a ∧ a ≤ 1073741823) (h0 : ¬ a = 0) (h1 : ¬ n = 0) (h2 : ¬ 2147483648 < n) (h3 : n < -2147483648) :
    Calls Tryd.prog 41 #[.int .i64 a, .int .i64 n] w fun e w' => e = .returned (.int .i64 (rtV a n)) ∧ w = w' := by
  have e1 : rtV a n = 1099511627776 := by unfold rtV; simp [*]
  rw [e1]
  clear e1
  have f0 : (a == 0) = false := by simp [*] <;> omega
  have f1 : (n == 0) = false := by simp [*] <;> omega
  have f2 : decide (2147483648 < n) = false := by simp [*] <;> omega
  have f3 : decide (n < -2147483648) = true := by simp [*] <;> omega
  clear h0 h1 h2 h3
  go_enter Tryd.func41, Tryd.ntmps41
  go_wp2
  go_ret
  exact ⟨rfl, rfl⟩

set_option maxHeartbeats 1000000 in
theorem rtimes_in (a n : Int) (w : World) (_b0 : -1073741823 ≤ a ∧ a ≤ 1073741823) (h0 : ¬ a = 0) (h1 : ¬ n = 0) (h2 : ¬ 2147483648 < n) (h3 : ¬ n < -2147483648) :
    Calls Tryd.prog 41 #[.int .i64 a, .int .i64 n] w fun e w' => e = .returned (.int .i64 (rtV a n)) ∧ w = w' := by
  have e1 : rtV a n = a * n := by unfold rtV; simp [*]
  rw [e1]
  clear e1
  have hp : -2305843009213693952 ≤ a * n ∧ a * n ≤ 2305843009213693952 := by
    have h : (a * n).natAbs ≤ 1073741823 * 2147483648 := by rw [Int.natAbs_mul]; exact Nat.mul_le_mul (by omega) (by omega)
    omega
  obtain ⟨_, _⟩ := hp
  have f0 : (a == 0) = false := by simp [*] <;> omega
  have f1 : (n == 0) = false := by simp [*] <;> omega
  have f2 : decide (2147483648 < n) = false := by simp [*] <;> omega
  have f3 : decide (n < -2147483648) = false := by simp [*] <;> omega
  clear h0 h1 h2 h3
  go_enter Tryd.func41, Tryd.ntmps41
  go_wp2
  go_ret
  exact ⟨rfl, rfl⟩

theorem rtimes_any (a n : Int) (w : World) (b0 : -1073741823 ≤ a ∧ a ≤ 1073741823) :
    Calls Tryd.prog 41 #[.int .i64 a, .int .i64 n] w fun e w' => e = .returned (.int .i64 (rtV a n)) ∧ w = w' := by
  by_cases ha : a = 0
  · exact rtimes_z0 a n w b0 ha
  · by_cases hb : n = 0
    · exact rtimes_z1 a n w b0 ha hb
    · by_cases h1 : 2147483648 < n
      · exact rtimes_hi a n w b0 ha hb h1
      · by_cases h2 : n < -2147483648
        · exact rtimes_lo a n w b0 ha hb h1 h2
        · exact rtimes_in a n w b0 ha hb h1 h2

set_option maxHeartbeats 1000000 in
theorem rright_0 (n a b c d : Int) (w : World) (h0 : dimB n = false) :
    Calls Tryd.prog 37 #[.agg #[.int .i64 n, .int .i64 a, .int .i64 b, .int .i64 c, .int .i64 d]] w fun e w' => e = .returned (.tuple #[.agg #[.int .i64 0, .int .i64 0, .int .i64 0, .int .i64 0, .int .i64 0], .int .i64 20]) ∧ Kept w w' := by
  have H0 := fun w => Lib.hid (rdim_no n h0 w)
  clear h0
  obtain ⟨W, hW⟩ : ∃ W, W = (w.alloc (.cells #[.int .i64 n, .int .i64 a, .int .i64 b, .int .i64 c, .int .i64 d] 33)).alloc (.cells #[.int .i64 0, .int .i64 0, .int .i64 0, .int .i64 0, .int .i64 0] 33) := ⟨_, rfl⟩
  have hk : Kept w W := by rw [hW]; exact ((Kept.refl w).alloc (Nat.le_refl _) _).alloc (by simp) _
  obtain ⟨m0, m1⟩ := made2 w _ _ W hW
  obtain ⟨p0, p1, p2, p3, p4, pf, pl⟩ := box_five m0 (Eq.refl (W.heap[w.heap.size]?))
  obtain ⟨t0, t1, t2, t3, t4, tf, tl⟩ := box_five m1 (Eq.refl (W.heap[w.heap.size + 1]?))
  have HW := Lib.hid hW
  clear hW m0 m1
  go_enter Tryd.func37, Tryd.ntmps37
  go_wp2_with (fail)
  rw [← HW.out]
  refine (H0 _).out.mono ?_
  rintro e w' ⟨rfl, rfl⟩
  go_wp2_with (fail)
  exact bodyPost_ret (v := (.tuple #[.agg #[.int .i64 0, .int .i64 0, .int .i64 0, .int .i64 0, .int .i64 0], .int .i64 20])) (by simp [results, Tryd.results37, go_sem, t0, t1, t2, t3, t4]) rfl ⟨rfl, (Below.setCell (Below.setCell (Below.setCell (Below.setCell (Below.setCell hk (by simp; try omega) _) (by simp; try omega) _) (by simp; try omega) _) (by simp; try omega) _) (by simp; try omega) _)⟩

set_option maxHeartbeats 1000000 in
theorem rright_1 (n a b c d : Int) (w : World) (h0 : dimB n = true) (h1 : dimB a = false) :
    Calls Tryd.prog 37 #[.agg #[.int .i64 n, .int .i64 a, .int .i64 b, .int .i64 c, .int .i64 d]] w fun e w' => e = .returned (.tuple #[.agg #[.int .i64 0, .int .i64 0, .int .i64 0, .int .i64 0, .int .i64 0], .int .i64 20]) ∧ Kept w w' := by
  have H0 := fun w => Lib.hid (rdim_yes n h0 w)
  have H1 := fun w => Lib.hid (rdim_no a h1 w)
  clear h0 h1
  obtain ⟨W, hW⟩ : ∃ W, W = (w.alloc (.cells #[.int .i64 n, .int .i64 a, .int .i64 b, .int .i64 c, .int .i64 d] 33)).alloc (.cells #[.int .i64 0, .int .i64 0, .int .i64 0, .int .i64 0, .int .i64 0] 33) := ⟨_, rfl⟩
  have hk : Kept w W := by rw [hW]; exact ((Kept.refl w).alloc (Nat.le_refl _) _).alloc (by simp) _
  obtain ⟨m0, m1⟩ := made2 w _ _ W hW
  obtain ⟨p0, p1, p2, p3, p4, pf, pl⟩ := box_five m0 (Eq.refl (W.heap[w.heap.size]?))
  obtain ⟨t0, t1, t2, t3, t4, tf, tl⟩ := box_five m1 (Eq.refl (W.heap[w.heap.size + 1]?))
  have HW := Lib.hid hW
  clear hW m0 m1
  go_enter Tryd.func37, Tryd.ntmps37
  go_wp2_with (fail)
  rw [← HW.out]
  refine (H0 _).out.mono ?_
  rintro e w' ⟨rfl, rfl⟩
  go_wp2_with (fail)
  refine (H1 _).out.mono ?_
  rintro e w' ⟨rfl, rfl⟩
  go_wp2_with (fail)
  exact bodyPost_ret (v := (.tuple #[.agg #[.int .i64 0, .int .i64 0, .int .i64 0, .int .i64 0, .int .i64 0], .int .i64 20])) (by simp [results, Tryd.results37, go_sem, t0, t1, t2, t3, t4]) rfl ⟨rfl, (Below.setCell (Below.setCell (Below.setCell (Below.setCell (Below.setCell hk (by simp; try omega) _) (by simp; try omega) _) (by simp; try omega) _) (by simp; try omega) _) (by simp; try omega) _)⟩

set_option maxHeartbeats 1000000 in
theorem rright_2 (n a b c d : Int) (w : World) (h0 : dimB n = true) (h1 : dimB a = true) (h2 : dimB b = false) :
    Calls Tryd.prog 37 #[.agg #[.int .i64 n, .int .i64 a, .int .i64 b, .int .i64 c, .int .i64 d]] w fun e w' => e = .returned (.tuple #[.agg #[.int .i64 0, .int .i64 0, .int .i64 0, .int .i64 0, .int .i64 0], .int .i64 20]) ∧ Kept w w' := by
  have H0 := fun w => Lib.hid (rdim_yes n h0 w)
  have H1 := fun w => Lib.hid (rdim_yes a h1 w)
  have H2 := fun w => Lib.hid (rdim_no b h2 w)
  clear h0 h1 h2
  obtain ⟨W, hW⟩ : ∃ W, W = (w.alloc (.cells #[.int .i64 n, .int .i64 a, .int .i64 b, .int .i64 c, .int .i64 d] 33)).alloc (.cells #[.int .i64 0, .int .i64 0, .int .i64 0, .int .i64 0, .int .i64 0] 33) := ⟨_, rfl⟩
  have hk : Kept w W := by rw [hW]; exact ((Kept.refl w).alloc (Nat.le_refl _) _).alloc (by simp) _
  obtain ⟨m0, m1⟩ := made2 w _ _ W hW
  obtain ⟨p0, p1, p2, p3, p4, pf, pl⟩ := box_five m0 (Eq.refl (W.heap[w.heap.size]?))
  obtain ⟨t0, t1, t2, t3, t4, tf, tl⟩ := box_five m1 (Eq.refl (W.heap[w.heap.size + 1]?))
  have HW := Lib.hid hW
  clear hW m0 m1
  go_enter Tryd.func37, Tryd.ntmps37
  go_wp2_with (fail)
  rw [← HW.out]
  refine (H0 _).out.mono ?_
  rintro e w' ⟨rfl, rfl⟩
  go_wp2_with (fail)
  refine (H1 _).out.mono ?_
  rintro e w' ⟨rfl, rfl⟩
  go_wp2_with (fail)
  refine (H2 _).out.mono ?_
  rintro e w' ⟨rfl, rfl⟩
  go_wp2_with (fail)
  exact bodyPost_ret (v := (.tuple #[.agg #[.int .i64 0, .int .i64 0, .int .i64 0, .int .i64 0, .int .i64 0], .int .i64 20])) (by simp [results, Tryd.results37, go_sem, t0, t1, t2, t3, t4]) rfl ⟨rfl, (Below.setCell (Below.setCell (Below.setCell (Below.setCell (Below.setCell hk (by simp; try omega) _) (by simp; try omega) _) (by simp; try omega) _) (by simp; try omega) _) (by simp; try omega) _)⟩

set_option maxHeartbeats 1000000 in
theorem rright_g0 (n a b c d : Int) (w : World) (h0 : dimB n = true) (h1 : dimB a = true) (h2 : dimB b = true) (h3 : a = 0) (h4 : b = 0) :
    Calls Tryd.prog 37 #[.agg #[.int .i64 n, .int .i64 a, .int .i64 b, .int .i64 c, .int .i64 d]] w fun e w' => e = .returned (.tuple #[.agg #[.int .i64 n, .int .i64 a, .int .i64 b, .int .i64 (tidyO a c), .int .i64 (tidyO b d)], .int .i64 0]) ∧ Kept w w' := by
  have e1 : tidyO a c = 0 := by simp [tidyO, h3]
  have e2 : tidyO b d = 0 := by simp [tidyO, h4]
  rw [e1, e2]
  clear e1 e2
  have H0 := fun w => Lib.hid (rdim_yes n h0 w)
  have H1 := fun w => Lib.hid (rdim_yes a h1 w)
  have H2 := fun w => Lib.hid (rdim_yes b h2 w)
  have f0 : (a == 0) = true := by simp [*]
  have f1 : (b == 0) = true := by simp [*]
  clear h0 h1 h2 h3 h4
  obtain ⟨W, hW⟩ : ∃ W, W = (w.alloc (.cells #[.int .i64 n, .int .i64 a, .int .i64 b, .int .i64 c, .int .i64 d] 33)).alloc (.cells #[.int .i64 0, .int .i64 0, .int .i64 0, .int .i64 0, .int .i64 0] 33) := ⟨_, rfl⟩
  have hk : Kept w W := by rw [hW]; exact ((Kept.refl w).alloc (Nat.le_refl _) _).alloc (by simp) _
  obtain ⟨m0, m1⟩ := made2 w _ _ W hW
  obtain ⟨p0, p1, p2, p3, p4, pf, pl⟩ := box_five m0 (Eq.refl (W.heap[w.heap.size]?))
  obtain ⟨t0, t1, t2, t3, t4, tf, tl⟩ := box_five m1 (Eq.refl (W.heap[w.heap.size + 1]?))
  have HW := Lib.hid hW
  clear hW m0 m1
  go_enter Tryd.func37, Tryd.ntmps37
  go_wp2_with (fail)
  rw [← HW.out]
  refine (H0 _).out.mono ?_
  rintro e w' ⟨rfl, rfl⟩
  go_wp2_with (fail)
  refine (H1 _).out.mono ?_
  rintro e w' ⟨rfl, rfl⟩
  go_wp2_with (fail)
  refine (H2 _).out.mono ?_
  rintro e w' ⟨rfl, rfl⟩
  go_wp2_with (fail)
  exact bodyPost_ret (v := (.tuple #[.agg #[.int .i64 n, .int .i64 a, .int .i64 b, .int .i64 0, .int .i64 0], .int .i64 0])) (by simp [results, Tryd.results37, go_sem, t0, t1, t2, t3, t4]) rfl ⟨rfl, (Below.setCell (Below.setCell (Below.setCell (Below.setCell (Below.setCell (Below.setCell (Below.setCell hk (by simp; try omega) _) (by simp; try omega) _) (by simp; try omega) _) (by simp; try omega) _) (by simp; try omega) _) (by simp; try omega) _) (by simp; try omega) _)⟩

set_option maxHeartbeats 1000000 in
theorem rright_g1 (n a b c d : Int) (w : World) (h0 : dimB n = true) (h1 : dimB a = true) (h2 : dimB b = true) (h3 : a = 0) (h4 : ¬ b = 0) :
    Calls Tryd.prog 37 #[.agg #[.int .i64 n, .int .i64 a, .int .i64 b, .int .i64 c, .int .i64 d]] w fun e w' => e = .returned (.tuple #[.agg #[.int .i64 n, .int .i64 a, .int .i64 b, .int .i64 (tidyO a c), .int .i64 (tidyO b d)], .int .i64 0]) ∧ Kept w w' := by
  have e1 : tidyO a c = 0 := by simp [tidyO, h3]
  have e2 : tidyO b d = d := by simp [tidyO, h4]
  rw [e1, e2]
  clear e1 e2
  have H0 := fun w => Lib.hid (rdim_yes n h0 w)
  have H1 := fun w => Lib.hid (rdim_yes a h1 w)
  have H2 := fun w => Lib.hid (rdim_yes b h2 w)
  have f0 : (a == 0) = true := by simp [*]
  have f1 : (b == 0) = false := by simp [*]
  clear h0 h1 h2 h3 h4
  obtain ⟨W, hW⟩ : ∃ W, W = (w.alloc (.cells #[.int .i64 n, .int .i64 a, .int .i64 b, .int .i64 c, .int .i64 d] 33)).alloc (.cells #[.int .i64 0, .int .i64 0, .int .i64 0, .int .i64 0, .int .i64 0] 33) := ⟨_, rfl⟩
  have hk : Kept w W := by rw [hW]; exact ((Kept.refl w).alloc (Nat.le_refl _) _).alloc (by simp) _
  obtain ⟨m0, m1⟩ := made2 w _ _ W hW
  obtain ⟨p0, p1, p2, p3, p4, pf, pl⟩ := box_five m0 (Eq.refl (W.heap[w.heap.size]?))
  obtain ⟨t0, t1, t2, t3, t4, tf, tl⟩ := box_five m1 (Eq.refl (W.heap[w.heap.size + 1]?))
  have HW := Lib.hid hW
  clear hW m0 m1
  go_enter Tryd.func37, Tryd.ntmps37
  go_wp2_with (fail)
  rw [← HW.out]
  refine (H0 _).out.mono ?_
  rintro e w' ⟨rfl, rfl⟩
  go_wp2_with (fail)
  refine (H1 _).out.mono ?_
  rintro e w' ⟨rfl, rfl⟩
  go_wp2_with (fail)
  refine (H2 _).out.mono ?_
  rintro e w' ⟨rfl, rfl⟩
  go_wp2_with (fail)
  exact bodyPost_ret (v := (.tuple #[.agg #[.int .i64 n, .int .i64 a, .int .i64 b, .int .i64 0, .int .i64 d], .int .i64 0])) (by simp [results, Tryd.results37, go_sem, t0, t1, t2, t3, t4]) rfl ⟨rfl, (Below.setCell (Below.setCell (Below.setCell (Below.setCell (Below.setCell (Below.setCell hk (by simp; try omega) _) (by simp; try omega) _) (by simp; try omega) _) (by simp; try omega) _) (by simp; try omega) _) (by simp; try omega) _)⟩

set_option maxHeartbeats 1000000 in
theorem rright_g2 (n a b c d : Int) (w : World) (h0 : dimB n = true) (h1 : dimB a = true) (h2 : dimB b = true) (h3 : ¬ a = 0) (h4 : b = 0) :
    Calls Tryd.prog 37 #[.agg #[.int .i64 n, .int .i64 a, .int .i64 b, .int .i64 c, .int .i64 d]] w fun e w' => e = .returned (.tuple #[.agg #[.int .i64 n, .int .i64 a, .int .i64 b, .int .i64 (tidyO a c), .int .i64 (tidyO b d)], .int .i64 0]) ∧ Kept w w' := by
  have e1 : tidyO a c = c := by simp [tidyO, h3]
  have e2 : tidyO b d = 0 := by simp [tidyO, h4]
  rw [e1, e2]
  clear e1 e2
  have H0 := fun w => Lib.hid (rdim_yes n h0 w)
  have H1 := fun w => Lib.hid (rdim_yes a h1 w)
  have H2 := fun w => Lib.hid (rdim_yes b h2 w)
  have f0 : (a == 0) = false := by simp [*]
  have f1 : (b == 0) = true := by simp [*]
  clear h0 h1 h2 h3 h4
  obtain ⟨W, hW⟩ : ∃ W, W = (w.alloc (.cells #[.int .i64 n, .int .i64 a, .int .i64 b, .int .i64 c, .int .i64 d] 33)).alloc (.cells #[.int .i64 0, .int .i64 0, .int .i64 0, .int .i64 0, .int .i64 0] 33) := ⟨_, rfl⟩
  have hk : Kept w W := by rw [hW]; exact ((Kept.refl w).alloc (Nat.le_refl _) _).alloc (by simp) _
  obtain ⟨m0, m1⟩ := made2 w _ _ W hW
  obtain ⟨p0, p1, p2, p3, p4, pf, pl⟩ := box_five m0 (Eq.refl (W.heap[w.heap.size]?))
  obtain ⟨t0, t1, t2, t3, t4, tf, tl⟩ := box_five m1 (Eq.refl (W.heap[w.heap.size + 1]?))
  have HW := Lib.hid hW
  clear hW m0 m1
  go_enter Tryd.func37, Tryd.ntmps37
  go_wp2_with (fail)
  rw [← HW.out]
  refine (H0 _).out.mono ?_
  rintro e w' ⟨rfl, rfl⟩
  go_wp2_with (fail)
  refine (H1 _).out.mono ?_
  rintro e w' ⟨rfl, rfl⟩
  go_wp2_with (fail)
  refine (H2 _).out.mono ?_
  rintro e w' ⟨rfl, rfl⟩
  go_wp2_with (fail)
  exact bodyPost_ret (v := (.tuple #[.agg #[.int .i64 n, .int .i64 a, .int .i64 b, .int .i64 c, .int .i64 0], .int .i64 0])) (by simp [results, Tryd.results37, go_sem, t0, t1, t2, t3, t4]) rfl ⟨rfl, (Below.setCell (Below.setCell (Below.setCell (Below.setCell (Below.setCell (Below.setCell hk (by simp; try omega) _) (by simp; try omega) _) (by simp; try omega) _) (by simp; try omega) _) (by simp; try omega) _) (by simp; try omega) _)⟩

set_option maxHeartbeats 1000000 in
theorem rright_g3 (n a b c d : Int) (w : World) (h0 : dimB n = true) (h1 : dimB a = true) (h2 : dimB b = true) (h3 : ¬ a = 0) (h4 : ¬ b = 0) :
    Calls Tryd.prog 37 #[.agg #[.int .i64 n, .int .i64 a, .int .i64 b, .int .i64 c, .int .i64 d]] w fun e w' => e = .returned (.tuple #[.agg #[.int .i64 n, .int .i64 a, .int .i64 b, .int .i64 (tidyO a c), .int .i64 (tidyO b d)], .int .i64 0]) ∧ Kept w w' := by
  have e1 : tidyO a c = c := by simp [tidyO, h3]
  have e2 : tidyO b d = d := by simp [tidyO, h4]
  rw [e1, e2]
  clear e1 e2
  have H0 := fun w => Lib.hid (rdim_yes n h0 w)
  have H1 := fun w => Lib.hid (rdim_yes a h1 w)
  have H2 := fun w => Lib.hid (rdim_yes b h2 w)
  have f0 : (a == 0) = false := by simp [*]
  have f1 : (b == 0) = false := by simp [*]
  clear h0 h1 h2 h3 h4
  obtain ⟨W, hW⟩ : ∃ W, W = (w.alloc (.cells #[.int .i64 n, .int .i64 a, .int .i64 b, .int .i64 c, .int .i64 d] 33)).alloc (.cells #[.int .i64 0, .int .i64 0, .int .i64 0, .int .i64 0, .int .i64 0] 33) := ⟨_, rfl⟩
  have hk : Kept w W := by rw [hW]; exact ((Kept.refl w).alloc (Nat.le_refl _) _).alloc (by simp) _
  obtain ⟨m0, m1⟩ := made2 w _ _ W hW
  obtain ⟨p0, p1, p2, p3, p4, pf, pl⟩ := box_five m0 (Eq.refl (W.heap[w.heap.size]?))
  obtain ⟨t0, t1, t2, t3, t4, tf, tl⟩ := box_five m1 (Eq.refl (W.heap[w.heap.size + 1]?))
  have HW := Lib.hid hW
  clear hW m0 m1
  go_enter Tryd.func37, Tryd.ntmps37
  go_wp2_with (fail)
  rw [← HW.out]
  refine (H0 _).out.mono ?_
  rintro e w' ⟨rfl, rfl⟩
  go_wp2_with (fail)
  refine (H1 _).out.mono ?_
  rintro e w' ⟨rfl, rfl⟩
  go_wp2_with (fail)
  refine (H2 _).out.mono ?_
  rintro e w' ⟨rfl, rfl⟩
  go_wp2_with (fail)
  exact bodyPost_ret (v := (.tuple #[.agg #[.int .i64 n, .int .i64 a, .int .i64 b, .int .i64 c, .int .i64 d], .int .i64 0])) (by simp [results, Tryd.results37, go_sem, t0, t1, t2, t3, t4]) rfl ⟨rfl, (Below.setCell (Below.setCell (Below.setCell (Below.setCell (Below.setCell hk (by simp; try omega) _) (by simp; try omega) _) (by simp; try omega) _) (by simp; try omega) _) (by simp; try omega) _)⟩

def rightE (n a b : Int) : Int := if dimB n && (dimB a && dimB b) then 0 else 20
def rightG (n a b c d : Int) : Gl := if dimB n && (dimB a && dimB b) then ⟨n, a, b, tidyO a c, tidyO b d⟩ else ⟨0, 0, 0, 0, 0⟩
theorem rright_any (n a b c d : Int) (w : World) :
    Calls Tryd.prog 37 #[.agg #[.int .i64 n, .int .i64 a, .int .i64 b, .int .i64 c, .int .i64 d]] w fun e w' => e = .returned (ansG (rightG n a b c d) (rightE n a b)) ∧ Kept w w' := by
  unfold rightG rightE
  cases h0 : dimB n
  · exact rright_0 n a b c d w h0
  · cases h1 : dimB a
    · exact rright_1 n a b c d w h0 h1
    · cases h2 : dimB b
      · exact rright_2 n a b c d w h0 h1 h2
      · by_cases h3 : a = 0
        · by_cases h4 : b = 0
          · exact rright_g0 n a b c d w h0 h1 h2 h3 h4
          · exact rright_g1 n a b c d w h0 h1 h2 h3 h4
        · by_cases h4 : b = 0
          · exact rright_g2 n a b c d w h0 h1 h2 h3 h4
          · exact rright_g3 n a b c d w h0 h1 h2 h3 h4

end Go.Proofs.YtdlbpepkgoandaaDoor
