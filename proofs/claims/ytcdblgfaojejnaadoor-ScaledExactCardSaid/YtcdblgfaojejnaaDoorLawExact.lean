/- The walk of galleylaw01.ScaledExact. -/
import Derived.Test.YtcdblgfaojejnaaDoorPart
import Derived.Test.YtcdblgfaojejnaaDoorKnows
import Derived.Test.YtcdblgfaojejnaaDoorDimn
namespace Go.Proofs.YtcdblgfaojejnaaDoor
open Go.RowKit

theorem rnd_near {X n d : Nat} (hd : 1 ≤ d) : 2 * ((X : Int) * n - (rnd X n d : Nat) * d) ≤ d ∧ 2 * ((rnd X n d : Nat) * d - (X : Int) * n) ≤ (d : Int) := by
  have h := Nat.div_add_mod (X * n) d
  have hr := Nat.mod_lt (X * n) (show 0 < d by omega)
  have hc : ((X * n : Nat) : Int) = (X : Int) * n := by rw [Int.natCast_mul]
  rw [← hc]
  unfold rnd
  rw [Nat.mul_comm] at h
  have e : ((X * n / d + 1) * d : Nat) = X * n / d * d + d := by rw [Nat.add_mul, Nat.one_mul]
  have e' : (((X * n / d + 1) * d : Nat) : Int) = ((X * n / d + 1 : Nat) : Int) * d := by rw [Int.natCast_mul]
  have e2 : ((X * n / d * d : Nat) : Int) = ((X * n / d : Nat) : Int) * d := by rw [Int.natCast_mul]
  split
  · rw [← e2]; omega
  · rw [← e', e]; omega

theorem part_near {x : Int} {n d : Nat} (hd : 1 ≤ d) : 2 * (x * n - partV x n d * d) ≤ d ∧ 2 * (partV x n d * d - x * n) ≤ (d : Int) := by
  obtain ⟨a, b⟩ := rnd_near (X := x.natAbs) (n := n) hd
  unfold partV
  by_cases hx : x < 0
  · rw [if_pos hx]
    have e : ((x.natAbs : Nat) : Int) = -x := by omega
    rw [e, Int.neg_mul] at a b
    rw [Int.neg_mul]
    omega
  · rw [if_neg hx]
    have e : ((x.natAbs : Nat) : Int) = x := by omega
    rw [e] at a b
    exact ⟨a, b⟩

theorem part_bd {x : Int} {n d : Nat} (h0 : -1073741823 ≤ x) (h1 : x ≤ 1073741823) (hn : n ≤ d) (hd : 1 ≤ d) : -1073741824 ≤ partV x n d ∧ partV x n d ≤ 1073741824 := by
  have := rnd_bd (x := x.natAbs) hn hd
  have h : rnd x.natAbs n d ≤ x.natAbs + 1 := by unfold rnd; split <;> omega
  unfold partV
  split <;> omega

theorem rnd_zero {n d : Nat} (hd : 1 ≤ d) : rnd 0 n d = 0 := by unfold rnd; rw [Nat.zero_mul, Nat.zero_mod, Nat.zero_div, if_pos (by omega)]
theorem part_neg {x : Int} {n d : Nat} (hd : 1 ≤ d) : partV (-x) n d = -partV x n d := by
  unfold partV
  rw [Int.natAbs_neg]
  by_cases h0 : x = 0
  · subst h0; simp [rnd_zero hd]
  · by_cases hx : x < 0
    · rw [if_neg (by omega), if_pos hx, Int.neg_neg]
    · rw [if_pos (by omega), if_neg hx]
theorem part_full {x : Int} {d : Nat} (hd : 1 ≤ d) : partV x d d = x := by
  have e : rnd x.natAbs d d = x.natAbs := by
    unfold rnd; rw [Nat.mul_mod_left, if_pos (by omega), Nat.mul_div_cancel _ (by omega)]
  unfold partV
  rw [e]
  split <;> omega
theorem part_none {x : Int} {d : Nat} (hd : 1 ≤ d) : partV x 0 d = 0 := by
  have e : rnd x.natAbs 0 d = 0 := by
    unfold rnd; rw [Nat.mul_zero, Nat.zero_mod, if_pos (by omega), Nat.zero_div]
  unfold partV
  rw [e]
  split <;> rfl
theorem part_off {x : Int} {n d : Nat} (hn : n ≤ d) (hd : 1 ≤ d) : -1 ≤ partV x n d + partV x (d - n) d - x ∧ partV x n d + partV x (d - n) d - x ≤ 1 := by
  obtain ⟨a, b⟩ := part_near (x := x) (n := n) hd
  obtain ⟨a', b'⟩ := part_near (x := x) (n := d - n) hd
  have e : x * ((d - n : Nat) : Int) = x * d - x * n := by
    rw [Int.natCast_sub hn, Int.mul_sub]
  rw [e] at a' b'
  generalize partV x n d = A at *
  generalize partV x (d - n) d = B at *
  have s : (A + B - x) * d = A * d + B * d - x * d := by rw [Int.sub_mul, Int.add_mul]
  have hd' : (0 : Int) < d := by omega
  refine ⟨Int.le_of_mul_le_mul_right (a := (d : Int)) ?_ hd', Int.le_of_mul_le_mul_right (a := (d : Int)) ?_ hd'⟩
  · rw [s]; omega
  · rw [s]; omega

set_option maxHeartbeats 1000000 in
theorem least_true (x q d r : Int) (h : q * d + r = x) (b0 : -4611686018427387904 ≤ q * d) (b1 : q * d ≤ 4611686018427387904) (r0 : -2147483648 ≤ r) (r1 : r ≤ 2147483648)
    (hn : x < 0 → r ≤ 0 ∧ -r < d) (hp : ¬ x < 0 → 0 ≤ r ∧ r < d) (w : World) :
    Calls Tryd.prog 37 #[.int .i64 x, .int .i64 q, .int .i64 d, .int .i64 r] w fun e w' => e = .returned (.bool true) ∧ w = w' := by
  obtain ⟨p, hpp⟩ : ∃ p, p = q * d := ⟨_, rfl⟩
  by_cases hx : x < 0
  · obtain ⟨h1, h2⟩ := hn hx
    clear hn hp
    go_enter Tryd.func37, Tryd.ntmps37
    go_wp2
    go_ret
    exact ⟨rfl, rfl⟩
  · obtain ⟨h1, h2⟩ := hp hx
    clear hn hp
    go_enter Tryd.func37, Tryd.ntmps37
    go_wp2
    go_ret
    exact ⟨rfl, rfl⟩

theorem tmod_least (X : Int) {D : Nat} (hD : 1 ≤ D) : X.tdiv D * D + X.tmod D = X ∧ (X < 0 → X.tmod D ≤ 0 ∧ -(X.tmod D) < D) ∧ (¬ X < 0 → 0 ≤ X.tmod D ∧ X.tmod D < D) := by
  have h : X.tdiv D * D + X.tmod D = X := by rw [Int.tmod_def, Int.mul_comm]; omega
  have a := Int.natAbs_tmod X D
  have b : X.natAbs % (D : Int).natAbs < (D : Int).natAbs := Nat.mod_lt _ (by omega)
  refine ⟨h, fun hx => ?_, fun hx => ?_⟩
  · have e := Int.neg_tmod X D
    have := Int.tmod_nonneg (a := -X) (D : Int) (by omega)
    omega
  · have := Int.tmod_nonneg (a := X) (D : Int) (by omega)
    omega

theorem mul_bd {X : Int} {N : Nat} (h0 : -1073741823 ≤ X) (h1 : X ≤ 1073741823) (hN : N ≤ 2147483647) : -2305843006071635969 ≤ X * N ∧ X * N ≤ 2305843006071635969 := by
  have e := Int.natAbs_mul X N
  have h : X.natAbs * (N : Int).natAbs ≤ 1073741823 * 2147483647 := Nat.mul_le_mul (by omega) (by omega)
  omega

theorem fitB_in {x : Int} (h : -2147483647 ≤ x) (h' : x ≤ 2147483647) : fitB x = true := by simp [fitB]; omega

set_option maxHeartbeats 8000000 in
set_option maxRecDepth 100000 in
set_option linter.unusedVariables false in
theorem scaledExact_walk (x : Int) (w0 : (Lit.int .i64 x).wf = true) (n : Int) (w1 : (Lit.int .i64 n).wf = true) (d : Int) (w2 : (Lit.int .i64 d).wf = true) (w : World) (ht : Tabs w) :
    Calls Tryd.prog 7 #[.int .i64 x, .int .i64 n, .int .i64 d] w fun e w' => e = .returned (.bool true) ∧ Kept w w' := by
  clear w0 w1 w2
  have HT := Lib.hid ht
  clear ht
  obtain ⟨a0, a1⟩ := dimn_bd x
  have nb := Int.natAbs_tmod n 2147483647
  have nb2 : n.natAbs % (2147483647 : Int).natAbs < 2147483647 := Nat.mod_lt _ (by decide)
  have db := Int.natAbs_tmod d 2147483647
  have db2 : d.natAbs % (2147483647 : Int).natAbs < 2147483647 := Nat.mod_lt _ (by decide)
  have n1 : -2147483647 < n.tmod 2147483647 ∧ n.tmod 2147483647 < 2147483647 := by omega
  have d1 : -2147483647 < d.tmod 2147483647 ∧ d.tmod 2147483647 < 2147483647 := by omega
  clear nb nb2 db db2
  go_enter Tryd.func7, Tryd.ntmps7
  go_wp2_with (go_at_call 36; refine (dimen_any _ _).mono ?_; rintro e w' ⟨rfl, rfl⟩)
  obtain ⟨D, hD, D0, D1⟩ : ∃ D : Nat, 1 + d.tmod 2147483647 % 2147483647 = (D : Int) ∧ 1 ≤ D ∧ D ≤ 2147483647 := ⟨(1 + d.tmod 2147483647 % 2147483647).toNat, by omega, by omega, by omega⟩
  obtain ⟨N, hN, N1⟩ : ∃ N : Nat, (n.tmod 2147483647 + 2147483647) % 2147483647 = (N : Int) ∧ N ≤ 2147483646 := ⟨((n.tmod 2147483647 + 2147483647) % 2147483647).toNat, by omega, by omega⟩
  rw [hD, hN]
  clear hD hN n1 d1
  generalize dimn x = X at *
  have fX := fitB_in (x := X) (by omega) (by omega)
  have fD := fitB_in (x := (D : Int)) (by omega) (by omega)
  have fN := fitB_in (x := (N : Int)) (by omega) (by omega)
  have nD : ((D : Int) == 0) = false := beq_eq_false_iff_ne.2 (by omega)
  have o1 : overV X D = X.tdiv D := by simp [overV, fX, fD]; omega
  have o2 : overR X D = X.tmod D := by simp [overR, fX, fD]; omega
  have o3 : overE X D = 0 := by simp [overE, fX, fD]; omega
  have Ho := fun w => Lib.hid (over_any X D w)
  rw [o1, o2, o3] at Ho
  obtain ⟨l1, l2, l3⟩ := tmod_least X D0
  obtain ⟨p0, p1⟩ := mul_bd a0 a1 (show N ≤ 2147483647 by omega)
  obtain ⟨k1, k2, k3⟩ := tmod_least (X * N) D0
  have Hf := fun w => Lib.hid (frac_any X N D w)
  have f1 : fracV X N D = if greatB ((X * N).tdiv D) then 0 else (X * N).tdiv D := by
    unfold fracV dimV fracQ; rw [fX, fN, fD]; simp; intro h; omega
  have f2 : fracR X N D = if greatB ((X * N).tdiv D) then 0 else (X * N).tmod D := by
    unfold fracR fracQ; rw [fX, fN, fD]; simp; intro h; omega
  have f3 : fracE X N D = if greatB ((X * N).tdiv D) then 20 else 0 := by
    unfold fracE dimE fracQ; rw [fX, fN, fD]; simp; intro h; omega
  rw [f1, f2, f3] at Hf
  have L1 : X.tdiv D * D = X - X.tmod D := by omega
  have L2 : (X * N).tdiv D * D = X * N - (X * N).tmod D := by omega
  have Hl := fun w => Lib.hid (least_true X (X.tdiv D) D (X.tmod D) l1 (by omega) (by omega) (by omega) (by omega) l2 l3 w)
  have Hk := fun w => Lib.hid (least_true (X * N) ((X * N).tdiv D) D ((X * N).tmod D) k1 (by omega) (by omega) (by omega) (by omega) k2 k3 w)
  clear l1 l2 l3 k1 k2 k3 L1 L2 f1 f2 f3 o1 o2 o3 fX fD fN nD
  generalize X.tdiv D = q at *
  generalize X.tmod D = r at *
  generalize (X * N).tdiv D = Q at *
  generalize (X * N).tmod D = T at *
  obtain ⟨M, hM, M1⟩ : ∃ M : Nat, (N : Int) % ((D : Int) + 1) = (M : Int) ∧ M ≤ D := ⟨N % (D + 1), rfl, by have := Nat.mod_lt N (show 0 < D + 1 by omega); omega⟩
  have HM := Lib.hid hM
  clear hM
  obtain ⟨m0, m1⟩ := mul_bd a0 a1 (show M ≤ 2147483647 by omega)
  obtain ⟨s1, s2⟩ := part_near (x := X) (n := M) D0
  obtain ⟨t1, t2⟩ := part_off (x := X) M1 D0
  have P1 := fun w => Lib.hid (part_low X M D (by omega) (by omega) M1 D0 (by omega) w)
  have P2 := fun w => Lib.hid (part_low X (D - M) D (by omega) (by omega) (by omega) D0 (by omega) w)
  have P3 := fun w => Lib.hid (part_low X D D (by omega) (by omega) (by omega) D0 (by omega) w)
  have P4 : ∀ w, Hid (Calls Tryd.prog 22 #[.int .i64 X, .int .i64 0, .int .i64 D] w fun e w' => e = .returned (.tuple #[.int .i64 (partV X 0 D), .int .i64 0]) ∧ Kept w w') := fun w => Lib.hid (part_low X 0 D (by omega) (by omega) (by omega) D0 (by omega) w)
  have P5 := fun w => Lib.hid (part_low (-X) M D (by omega) (by omega) M1 D0 (by omega) w)
  rw [part_full D0] at P3
  rw [part_none D0] at P4
  rw [part_neg D0] at P5
  rw [Int.natCast_sub M1] at P2
  have pb : -1073741824 ≤ partV X M D ∧ partV X M D ≤ 1073741824 := part_bd (by omega) (by omega) M1 D0
  have pb2 : -1073741824 ≤ partV X (D - M) D ∧ partV X (D - M) D ≤ 1073741824 := part_bd (by omega) (by omega) (by omega) D0
  generalize partV X M D = A at *
  generalize partV X (D - M) D = B at *
  obtain ⟨b0, b1⟩ := pb
  obtain ⟨c0, c1⟩ := pb2
  have FF := Lib.hid (And.intro s1 (And.intro s2 (And.intro t1 (And.intro t2 (And.intro b0 (And.intro b1 (And.intro c0 (And.intro c1 (And.intro m0 (And.intro m1 M1))))))))))
  clear s1 s2 t1 t2 b0 b1 c0 c1 m0 m1 M1
  refine (Ho _).out.mono ?_
  rintro e u1 ⟨rfl, j1⟩
  go_wp2_with (fail)
  clear Ho
  cases hg : greatB Q
  · rw [hg] at Hf
    have Hf' : ∀ w, Hid (Calls Tryd.prog 15 #[.int .i64 X, .int .i64 N, .int .i64 D] w fun e w' => e = .returned (.tuple #[.int .i64 Q, .int .i64 T, .int .i64 0]) ∧ Kept w w') := Hf
    clear Hf hg
    refine (Hf' _).out.mono ?_
    rintro e u2 ⟨rfl, j2⟩
    have K2 := Lib.hid (j1.trans j2)
    clear j1 j2 Hf'
    go_wp2_with (go_at_call 20; refine (num_any _ _).mono ?_; rintro e w' ⟨rfl, rfl⟩)
    refine (Hl _).out.mono ?_
    rintro e u3 ⟨rfl, rfl⟩
    go_wp2_with (first | (go_at_call 20; refine (num_any _ _).mono ?_; rintro e w' ⟨rfl, rfl⟩) | (go_at_call 21; refine (knows_any _ (HT.out.kept K2.out)).mono ?_; rintro e u9 ⟨rfl, k9⟩))
    have K3 := Lib.hid (K2.out.trans k9)
    clear k9
    refine (Hk _).out.mono ?_
    rintro e u3 ⟨rfl, rfl⟩
    go_wp2_with (go_at_call 20; refine (num_any _ _).mono ?_; rintro e w' ⟨rfl, rfl⟩)
    rw [HM.out]
    obtain ⟨s1, s2, t1, t2, b0, b1, c0, c1, m0, m1, M1⟩ := FF.out
    clear FF p0 p1
    have S1 := Lib.hid s1
    have S2 := Lib.hid s2
    clear s1 s2
    refine (P1 _).out.mono ?_
    rintro e v1 ⟨rfl, g1⟩
    go_wp2_with (fail)
    refine (P2 _).out.mono ?_
    rintro e v2 ⟨rfl, g2⟩
    go_wp2_with (fail)
    refine (P3 _).out.mono ?_
    rintro e v3 ⟨rfl, g3⟩
    go_wp2_with (fail)
    refine (P4 _).out.mono ?_
    rintro e v4 ⟨rfl, g4⟩
    go_wp2_with (fail)
    refine (P5 _).out.mono ?_
    rintro e v5 ⟨rfl, g5⟩
    have K9 := Lib.hid (K3.out.trans (g1.trans (g2.trans (g3.trans (g4.trans g5)))))
    clear g1 g2 g3 g4 g5 P1 P2 P3 P4 P5 Hl HM HT
    have s1 := S1.out
    have s2 := S2.out
    go_wp2_with (go_at_call 20; refine (num_any _ _).mono ?_; rintro e w' ⟨rfl, rfl⟩)
    go_ret
    exact ⟨rfl, K9.out⟩
  · rw [hg] at Hf
    have Hf' : ∀ w, Hid (Calls Tryd.prog 15 #[.int .i64 X, .int .i64 N, .int .i64 D] w fun e w' => e = .returned (.tuple #[.int .i64 0, .int .i64 0, .int .i64 20]) ∧ Kept w w') := Hf
    clear Hf hg
    refine (Hf' _).out.mono ?_
    rintro e u2 ⟨rfl, j2⟩
    have K2 := Lib.hid (j1.trans j2)
    clear j1 j2 Hf'
    go_wp2_with (go_at_call 20; refine (num_any _ _).mono ?_; rintro e w' ⟨rfl, rfl⟩)
    refine (Hl _).out.mono ?_
    rintro e u3 ⟨rfl, rfl⟩
    go_wp2_with (first | (go_at_call 20; refine (num_any _ _).mono ?_; rintro e w' ⟨rfl, rfl⟩) | (go_at_call 21; refine (knows_any _ (HT.out.kept K2.out)).mono ?_; rintro e u9 ⟨rfl, k9⟩))
    have K3 := Lib.hid (K2.out.trans k9)
    clear k9
    rw [HM.out]
    obtain ⟨s1, s2, t1, t2, b0, b1, c0, c1, m0, m1, M1⟩ := FF.out
    clear FF p0 p1
    have S1 := Lib.hid s1
    have S2 := Lib.hid s2
    clear s1 s2
    refine (P1 _).out.mono ?_
    rintro e v1 ⟨rfl, g1⟩
    go_wp2_with (fail)
    refine (P2 _).out.mono ?_
    rintro e v2 ⟨rfl, g2⟩
    go_wp2_with (fail)
    refine (P3 _).out.mono ?_
    rintro e v3 ⟨rfl, g3⟩
    go_wp2_with (fail)
    refine (P4 _).out.mono ?_
    rintro e v4 ⟨rfl, g4⟩
    go_wp2_with (fail)
    refine (P5 _).out.mono ?_
    rintro e v5 ⟨rfl, g5⟩
    have K9 := Lib.hid (K3.out.trans (g1.trans (g2.trans (g3.trans (g4.trans g5)))))
    clear g1 g2 g3 g4 g5 P1 P2 P3 P4 P5 Hl HM HT
    have s1 := S1.out
    have s2 := S2.out
    go_wp2_with (go_at_call 20; refine (num_any _ _).mono ?_; rintro e w' ⟨rfl, rfl⟩)
    go_ret
    exact ⟨rfl, K9.out⟩
end Go.Proofs.YtcdblgfaojejnaaDoor
