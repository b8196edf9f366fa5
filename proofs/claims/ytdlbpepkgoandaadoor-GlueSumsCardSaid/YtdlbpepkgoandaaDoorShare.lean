/- glue.rounded, glue.Share: a rounded quotient of a product, within the limits of a setting. -/
import Derived.Test.YtdlbpepkgoandaaDoorDiv64
import Derived.Test.YtdlbpepkgoandaaDoorGFit
import Derived.Test.YtdlbpepkgoandaaDoorShareMath
namespace Go.Proofs.YtdlbpepkgoandaaDoor
open Go.RowKit

def rqV (p d : Nat) : Int := if 70368744177664 < ShM.rq p d then 0 else (ShM.rq p d : Nat)
def rqE (p d : Nat) : Int := if 70368744177664 < ShM.rq p d then 20 else 0

theorem rq_case {p d : Nat} (v e : Int) (h : (70368744177664 < ShM.rq p d ∧ v = 0 ∧ e = 20) ∨ (ShM.rq p d ≤ 70368744177664 ∧ v = (ShM.rq p d : Nat) ∧ e = 0)) : v = rqV p d ∧ e = rqE p d := by
  unfold rqV rqE
  rcases h with ⟨h, rfl, rfl⟩ | ⟨h, rfl, rfl⟩
  · rw [if_pos h, if_pos h]; exact ⟨rfl, rfl⟩
  · rw [if_neg (by omega), if_neg (by omega)]; exact ⟨rfl, rfl⟩

set_option maxRecDepth 100000 in
set_option maxHeartbeats 4000000 in
theorem grounded_any (x n d : Nat) (hx : x ≤ 70368744177664) (hn : n ≤ 70368744177664) (hd : 1 ≤ d) (hd2 : d ≤ 70368744177664) (w : World) :
    Calls Tryd.prog 83 #[.int .i64 x, .int .i64 n, .int .i64 d] w fun e w' => e = .returned (.tuple #[.int .i64 (rqV (x * n) d), .int .i64 (rqE (x * n) d)]) ∧ Kept w w' := by
  have hp : x * n ≤ 70368744177664 * 70368744177664 := Nat.mul_le_mul hx hn
  have hm := fun w => Lib.hid (Tryd.bits_Mul64 x n (by omega) (by omega) w)
  generalize x * n = p at *
  have hd0 : 0 < d := by omega
  have hdm := Nat.div_add_mod p 18446744073709551616
  have hml := Nat.mod_lt p (show 0 < 18446744073709551616 by decide)
  obtain ⟨H, hH⟩ : ∃ H : Nat, p / 18446744073709551616 = H := ⟨_, rfl⟩
  obtain ⟨L, hL⟩ : ∃ L : Nat, p % 18446744073709551616 = L := ⟨_, rfl⟩
  rw [hH, hL] at hm hdm
  rw [hL] at hml
  have hHb : H ≤ 4294967296 * 4294967296 := by omega
  by_cases hc : d ≤ H
  · have hbig : 70368744177664 < ShM.rq p d := by
      have h1 : 70368744177665 ≤ p / d := by
        rw [Nat.le_div_iff_mul_le hd0]
        have : 18446744073709551616 * d ≤ 18446744073709551616 * H := Nat.mul_le_mul_left _ hc
        omega
      have := (ShM.rq_ge (p := p) (d := d)).1
      omega
    obtain ⟨e1, e2⟩ := rq_case (p := p) (d := d) 0 20 (.inl ⟨hbig, rfl, rfl⟩)
    rw [← e1, ← e2]
    clear e1 e2 hbig hH hL hdm
    have hc' : (d : Int) ≤ (H : Int) := by omega
    go_enter Tryd.func83, Tryd.ntmps83
    go_wp2_with (fail)
    refine (hm _).out.mono ?_
    rintro e u1 ⟨rfl, rfl⟩
    go_wp2_with (fail)
    go_ret2
    exact ⟨rfl, Kept.refl _⟩
  · have hdv := fun w => Lib.hid (div64_all H L d hml (by omega) (by omega) w)
    rw [Nat.mul_comm H, hdm] at hdv
    obtain ⟨q, hq⟩ : ∃ q : Nat, p / d = q := ⟨_, rfl⟩
    obtain ⟨r, hr⟩ : ∃ r : Nat, p % d = r := ⟨_, rfl⟩
    have hrd := Nat.mod_lt p hd0
    rw [hq, hr] at hdv
    rw [hr] at hrd
    have hqb : q < 18446744073709551616 := by
      rw [← hq, Nat.div_lt_iff_lt_mul hd0]
      have : (H + 1) * 18446744073709551616 ≤ d * 18446744073709551616 := Nat.mul_le_mul_right _ (by omega)
      rw [Nat.mul_comm d] at this
      omega
    have hrq : ShM.rq p d = if 2 * r < d then q else q + 1 := by unfold ShM.rq; rw [hq, hr]
    clear hq hr hH hL hdm
    have hc' : ¬ (d : Int) ≤ (H : Int) := by omega
    by_cases hq1 : q ≤ 70368744177664
    · by_cases hr1 : 2 * r < d
      · rw [if_pos hr1] at hrq
        obtain ⟨e1, e2⟩ := rq_case (p := p) (d := d) q 0 (.inr ⟨by omega, by rw [hrq], rfl⟩)
        rw [← e1, ← e2]
        clear e1 e2 hrq
        go_enter Tryd.func83, Tryd.ntmps83
        go_wp2_with (fail)
        refine (hm _).out.mono ?_
        rintro e u1 ⟨rfl, rfl⟩
        go_wp2_with (fail)
        refine (hdv _).out.mono ?_
        rintro e u2 ⟨rfl, k2⟩
        have hq2 : (q : Int) ≤ 70368744177664 := by omega
        have hr2 : ¬ (d : Int) ≤ 2 * (r : Int) := by omega
        go_wp2_with (fail)
        go_ret2
        exact ⟨rfl, k2⟩
      · rw [if_neg hr1] at hrq
        by_cases hq3 : q = 70368744177664
        · obtain ⟨e1, e2⟩ := rq_case (p := p) (d := d) 0 20 (.inl ⟨by omega, rfl, rfl⟩)
          rw [← e1, ← e2]
          clear e1 e2 hrq
          subst hq3
          go_enter Tryd.func83, Tryd.ntmps83
          go_wp2_with (fail)
          refine (hm _).out.mono ?_
          rintro e u1 ⟨rfl, rfl⟩
          go_wp2_with (fail)
          refine (hdv _).out.mono ?_
          rintro e u2 ⟨rfl, k2⟩
          have hr2 : (d : Int) ≤ 2 * (r : Int) := by omega
          go_wp2_with (fail)
          go_ret2
          exact ⟨rfl, k2⟩
        · obtain ⟨e1, e2⟩ := rq_case (p := p) (d := d) (q + 1) 0 (.inr ⟨by omega, by rw [hrq]; rfl, rfl⟩)
          rw [← e1, ← e2]
          clear e1 e2 hrq
          obtain ⟨m, hm1⟩ : ∃ m : Nat, (q : Int) + 1 = (m : Int) := ⟨q + 1, rfl⟩
          have hmb : (m : Int) ≤ 70368744177664 := by omega
          rw [hm1]
          have Hm1 := Lib.hid hm1; clear hm1
          go_enter Tryd.func83, Tryd.ntmps83
          go_wp2_with (fail)
          refine (hm _).out.mono ?_
          rintro e u1 ⟨rfl, rfl⟩
          go_wp2_with (fail)
          refine (hdv _).out.mono ?_
          rintro e u2 ⟨rfl, k2⟩
          have hr2 : (d : Int) ≤ 2 * (r : Int) := by omega
          have hq2 : (q : Int) ≤ 70368744177664 := by omega
          have hm1 := Hm1.out
          clear hq3 hq1
          go_wp2_with (fail)
          go_ret2
          exact ⟨rfl, k2⟩
    · obtain ⟨e1, e2⟩ := rq_case (p := p) (d := d) 0 20 (.inl ⟨by rw [hrq]; split <;> omega, rfl, rfl⟩)
      rw [← e1, ← e2]
      clear e1 e2 hrq
      go_enter Tryd.func83, Tryd.ntmps83
      go_wp2_with (fail)
      refine (hm _).out.mono ?_
      rintro e u1 ⟨rfl, rfl⟩
      go_wp2_with (fail)
      refine (hdv _).out.mono ?_
      rintro e u2 ⟨rfl, k2⟩
      have hq2 : ¬ (q : Int) ≤ 70368744177664 := by omega
      go_wp2_with (fail)
      go_ret2
      exact ⟨rfl, k2⟩
def shareOk (s n d : Int) : Bool := (inB s && (inB n && inB d)) && decide (1 ≤ d)
def shareV (s n d : Int) : Int := if shareOk s n d then (if decide (s < 0) != decide (n < 0) then -rqV (s.natAbs * n.natAbs) d.toNat else rqV (s.natAbs * n.natAbs) d.toNat) else 0
def shareE (s n d : Int) : Int := if shareOk s n d then rqE (s.natAbs * n.natAbs) d.toNat else 11

theorem rqV_bd (p d : Nat) : 0 ≤ rqV p d ∧ rqV p d ≤ 70368744177664 := by unfold rqV; split <;> omega

theorem share_no {s n d : Int} (h : shareOk s n d = false) : shareV s n d = 0 ∧ shareE s n d = 11 := by simp [shareV, shareE, h]

set_option maxRecDepth 100000 in
set_option maxHeartbeats 4000000 in
theorem share_any (s n d : Int) (w : World) :
    Calls Tryd.prog 76 #[.int .i64 s, .int .i64 n, .int .i64 d] w fun e w' => e = .returned (.tuple #[.int .i64 (shareV s n d), .int .i64 (shareE s n d)]) ∧ Kept w w' := by
  cases hok : shareOk s n d
  · obtain ⟨e1, e2⟩ := share_no hok
    rw [e1, e2]
    clear e1 e2
    cases hf : (inB s && (inB n && inB d))
    · clear hok
      have Hf := Lib.hid hf; clear hf
      go_enter Tryd.func76, Tryd.ntmps76
      go_wp2_with (go_at_call 66; refine (gfit_three Hf.out).mono ?_; rintro e w' ⟨rfl, rfl⟩)
      go_ret2
      exact ⟨rfl, (Kept.refl _).alloc (Nat.le_refl _) _⟩
    · have hd : d < 1 := by
        rw [shareOk, hf, Bool.true_and, decide_eq_false_iff_not] at hok
        omega
      clear hok
      have Hf := Lib.hid hf; clear hf
      go_enter Tryd.func76, Tryd.ntmps76
      go_wp2_with (go_at_call 66; refine (gfit_three Hf.out).mono ?_; rintro e w' ⟨rfl, rfl⟩)
      go_ret2
      exact ⟨rfl, (Kept.refl _).alloc (Nat.le_refl _) _⟩
  · obtain ⟨hf, hd⟩ := Bool.and_eq_true_iff.1 hok
    have hd : 1 ≤ d := of_decide_eq_true hd
    have Hf := Lib.hid hf
    obtain ⟨h1, h2⟩ := Bool.and_eq_true_iff.1 hf
    obtain ⟨h2, h3⟩ := Bool.and_eq_true_iff.1 h2
    obtain ⟨s1, s2⟩ := inB_yes h1
    obtain ⟨n1, n2⟩ := inB_yes h2
    obtain ⟨d1, d2⟩ := inB_yes h3
    clear hf h1 h2 h3
    obtain ⟨D, rfl⟩ : ∃ D : Nat, d = (D : Int) := ⟨d.toNat, by omega⟩
    obtain ⟨ms, hms⟩ : ∃ ms : Nat, s.natAbs = ms := ⟨_, rfl⟩
    obtain ⟨mn, hmn⟩ : ∃ mn : Nat, n.natAbs = mn := ⟨_, rfl⟩
    have hms' : ms ≤ 70368744177664 := by omega
    have hmn' : mn ≤ 70368744177664 := by omega
    have Hg := fun w => Lib.hid (grounded_any ms mn D hms' hmn' (by omega) (by omega) w)
    have eV : shareV s n D = if decide (s < 0) != decide (n < 0) then -rqV (ms * mn) D else rqV (ms * mn) D := by
      unfold shareV; rw [hok, hms, hmn, Int.toNat_natCast]; rfl
    have eE : shareE s n D = rqE (ms * mn) D := by
      unfold shareE; rw [hok, hms, hmn, Int.toNat_natCast]; rfl
    rw [eV, eE]
    obtain ⟨v0, v1⟩ := rqV_bd (ms * mn) D
    generalize rqV (ms * mn) D = R at *
    generalize rqE (ms * mn) D = E at *
    clear eV eE hok
    by_cases hs : s < 0
    · obtain rfl : s = -(ms : Int) := by omega
      have m1 : max (-(ms : Int)) (ms : Int) = (ms : Int) := by omega
      have es : decide (-(ms : Int) < 0) = true := decide_eq_true hs
      have es' : decide (0 < ms) = true := decide_eq_true (by omega)
      rw [es]
      clear hms
      by_cases hn : n < 0
      · obtain rfl : n = -(mn : Int) := by omega
        have m2 : max (-(mn : Int)) (mn : Int) = (mn : Int) := by omega
        have en : decide (-(mn : Int) < 0) = true := decide_eq_true hn
        have en' : decide (0 < mn) = true := decide_eq_true (by omega)
        rw [en]
        clear hmn
        go_enter Tryd.func76, Tryd.ntmps76
        go_wp2_with (go_at_call 66; refine (gfit_three Hf.out).mono ?_; rintro e w' ⟨rfl, rfl⟩)
        refine (Hg _).out.mono ?_
        rintro e u2 ⟨rfl, k2⟩
        go_wp2_with (fail)
        go_ret2
        exact ⟨rfl, Kept.trans ((Kept.refl w).alloc (Nat.le_refl _) _) k2⟩
      · obtain rfl : n = (mn : Int) := by omega
        have m2 : max (mn : Int) (-(mn : Int)) = (mn : Int) := by omega
        have en : decide ((mn : Int) < 0) = false := decide_eq_false hn
        rw [en]
        clear hmn
        go_enter Tryd.func76, Tryd.ntmps76
        go_wp2_with (go_at_call 66; refine (gfit_three Hf.out).mono ?_; rintro e w' ⟨rfl, rfl⟩)
        refine (Hg _).out.mono ?_
        rintro e u2 ⟨rfl, k2⟩
        go_wp2_with (fail)
        go_ret2
        exact ⟨rfl, Kept.trans ((Kept.refl w).alloc (Nat.le_refl _) _) k2⟩
    · obtain rfl : s = (ms : Int) := by omega
      have m1 : max (ms : Int) (-(ms : Int)) = (ms : Int) := by omega
      have es : decide ((ms : Int) < 0) = false := decide_eq_false hs
      rw [es]
      clear hms
      by_cases hn : n < 0
      · obtain rfl : n = -(mn : Int) := by omega
        have m2 : max (-(mn : Int)) (mn : Int) = (mn : Int) := by omega
        have en : decide (-(mn : Int) < 0) = true := decide_eq_true hn
        have en' : decide (0 < mn) = true := decide_eq_true (by omega)
        rw [en]
        clear hmn
        go_enter Tryd.func76, Tryd.ntmps76
        go_wp2_with (go_at_call 66; refine (gfit_three Hf.out).mono ?_; rintro e w' ⟨rfl, rfl⟩)
        refine (Hg _).out.mono ?_
        rintro e u2 ⟨rfl, k2⟩
        go_wp2_with (fail)
        go_ret2
        exact ⟨rfl, Kept.trans ((Kept.refl w).alloc (Nat.le_refl _) _) k2⟩
      · obtain rfl : n = (mn : Int) := by omega
        have m2 : max (mn : Int) (-(mn : Int)) = (mn : Int) := by omega
        have en : decide ((mn : Int) < 0) = false := decide_eq_false hn
        rw [en]
        clear hmn
        go_enter Tryd.func76, Tryd.ntmps76
        go_wp2_with (go_at_call 66; refine (gfit_three Hf.out).mono ?_; rintro e w' ⟨rfl, rfl⟩)
        refine (Hg _).out.mono ?_
        rintro e u2 ⟨rfl, k2⟩
        go_wp2_with (fail)
        go_ret2
        exact ⟨rfl, Kept.trans ((Kept.refl w).alloc (Nat.le_refl _) _) k2⟩
end Go.Proofs.YtdlbpepkgoandaaDoor
