/- The document's Share: bit by bit of the sum. -/
import Derived.Test.YtcikgaflnhpklaaShare
import Derived.Laws.BitsLemmas
import Derived.IntWalk
namespace Go.Proofs.Ytcikgaflnhpklaa
open Go.RowKit

set_option maxHeartbeats 400000 in
theorem within_yes (n : Int) (h : inB n = true) (w : World) :
    Calls Try.prog 26 #[.int .i64 n] w fun e w' => e = .returned (.bool true) ∧ w = w' := by
  obtain ⟨h1, h2⟩ := inB_yes h
  clear h
  go_enter Try.func26, Try.ntmps26
  go_wp2
  go_ret
  exact ⟨rfl, rfl⟩

set_option maxHeartbeats 400000 in
theorem within_no (n : Int) (h : inB n = false) (w : World) :
    Calls Try.prog 26 #[.int .i64 n] w fun e w' => e = .returned (.bool false) ∧ w = w' := by
  rcases inB_no h with h1 | h1
  · clear h
    go_enter Try.func26, Try.ntmps26
    go_wp2
    go_ret
    exact ⟨rfl, rfl⟩
  · have h2 : ¬ n < -70368744177664 := by omega
    have h3 : decide (n ≤ 70368744177664) = false := decide_eq_false (by omega)
    clear h
    go_enter Try.func26, Try.ntmps26
    go_wp2
    go_ret
    exact ⟨rfl, rfl⟩

theorem within_any (n : Int) (w : World) :
    Calls Try.prog 26 #[.int .i64 n] w fun e w' => e = .returned (.bool (inB n)) ∧ w = w' := by
  cases h : inB n
  · exact within_no n h w
  · exact within_yes n h w

theorem bit_i64 (m b : Nat) (hm : m ≤ 70368744177664) : bits .and .i64 ((m : Int) / 2 ^ b) 1 = ((m / 2 ^ b % 2 : Nat) : Int) := by
  have h0 : ((m : Int) / 2 ^ b) = ((m / 2 ^ b : Nat) : Int) := by rw [Int.natCast_ediv, Int.natCast_pow]; rfl
  have hb : m / 2 ^ b ≤ m := Nat.div_le_self _ _
  rw [h0]
  generalize m / 2 ^ b = x at *
  have h := bits_mask .i64 63 (by decide) (fun n h1 h2 => IntWalk.i64_in _ (by omega)) 1 (by decide) ((x : Nat) : Int) (by omega) (by omega)
  have e : ((2 : Int) ^ 1 - 1) = 1 := by decide
  have e2 : ((2 : Int) ^ 1) = 2 := by decide
  rw [e, e2] at h
  rw [h]
  omega

/-- the digits so far: of the first bits of m -/
def BitsAt (m n d j : Nat) (q r i : Value) : Prop := j ≤ 47 ∧ q = .int .i64 ((m / 2 ^ j * n / d : Nat) : Int) ∧ r = .int .i64 ((m / 2 ^ j * n % d : Nat) : Int) ∧ i = .int .i64 ((j : Int) - 1) ∧ m / 2 ^ j * n / d ≤ 70368744177664

theorem rq_far {p d : Nat} (h : 70368744177664 < p / d) : rqV p d = 0 ∧ rqE p d = 20 := by
  have := (ShM.rq_ge (p := p) (d := d)).1
  unfold rqV rqE
  rw [if_pos (by omega), if_pos (by omega)]
  exact ⟨rfl, rfl⟩

set_option maxRecDepth 100000 in
set_option maxHeartbeats 4000000 in
theorem ref_share_any (s n d : Int) (w : World) :
    Calls Try.prog 14 #[.int .i64 s, .int .i64 n, .int .i64 d] w fun e w' => e = .returned (.tuple #[.int .i64 (shareV s n d), .int .i64 (shareE s n d)]) ∧ Kept w w' := by
  cases hok : shareOk s n d
  · obtain ⟨e1, e2⟩ := share_no hok
    rw [e1, e2]
    clear e1 e2
    by_cases hd : d < 1
    · clear hok
      go_enter Try.func14, Try.ntmps14
      go_wp2
      go_ret2
      exact ⟨rfl, Kept.refl _⟩
    · cases hs : inB s
      · have Hs := fun w => Lib.hid (within_no s hs w)
        clear hok hs
        go_enter Try.func14, Try.ntmps14
        go_wp2_with (go_at_call 26; refine (Hs _).out.mono ?_; rintro e w' ⟨rfl, rfl⟩)
        go_ret2
        exact ⟨rfl, Kept.refl _⟩
      · cases hn : inB n
        · have Hs := fun w => Lib.hid (within_yes s hs w)
          have Hn := fun w => Lib.hid (within_no n hn w)
          clear hok hs hn
          go_enter Try.func14, Try.ntmps14
          go_wp2_with (fail)
          refine (Hs _).out.mono ?_
          rintro e w' ⟨rfl, rfl⟩
          go_wp2_with (fail)
          refine (Hn _).out.mono ?_
          rintro e w' ⟨rfl, rfl⟩
          go_wp2_with (fail)
          go_ret2
          exact ⟨rfl, Kept.refl _⟩
        · have hdn : inB d = false := by
            unfold shareOk at hok
            rw [hs, hn, Bool.true_and, Bool.true_and, decide_eq_true (show 1 ≤ d by omega), Bool.and_true] at hok
            exact hok
          have Hs := fun w => Lib.hid (within_yes s hs w)
          have Hn := fun w => Lib.hid (within_yes n hn w)
          have Hd := fun w => Lib.hid (within_no d hdn w)
          clear hok hs hn hdn
          go_enter Try.func14, Try.ntmps14
          go_wp2_with (fail)
          refine (Hs _).out.mono ?_
          rintro e w' ⟨rfl, rfl⟩
          go_wp2_with (fail)
          refine (Hn _).out.mono ?_
          rintro e w' ⟨rfl, rfl⟩
          go_wp2_with (fail)
          refine (Hd _).out.mono ?_
          rintro e w' ⟨rfl, rfl⟩
          go_wp2_with (fail)
          go_ret2
          exact ⟨rfl, Kept.refl _⟩
  · obtain ⟨hf, hd⟩ := Bool.and_eq_true_iff.1 hok
    have hd : 1 ≤ d := of_decide_eq_true hd
    obtain ⟨h1, h2⟩ := Bool.and_eq_true_iff.1 hf
    obtain ⟨h2, h3⟩ := Bool.and_eq_true_iff.1 h2
    obtain ⟨s1, s2⟩ := inB_yes h1
    obtain ⟨n1, n2⟩ := inB_yes h2
    obtain ⟨d1, d2⟩ := inB_yes h3
    have hw := fun x h w => Lib.hid (within_yes x h w)
    have H1 := Lib.hid h1
    have H2 := Lib.hid h2
    have H3 := Lib.hid h3
    clear hf h1 h2 h3
    obtain ⟨D, rfl⟩ : ∃ D : Nat, d = (D : Int) := ⟨d.toNat, by omega⟩
    obtain ⟨ms, hms⟩ : ∃ ms : Nat, s.natAbs = ms := ⟨_, rfl⟩
    obtain ⟨mn, hmn⟩ : ∃ mn : Nat, n.natAbs = mn := ⟨_, rfl⟩
    have hms' : ms ≤ 70368744177664 := by omega
    have hmn' : mn ≤ 70368744177664 := by omega
    have eV : shareV s n D = if decide (s < 0) != decide (n < 0) then -rqV (ms * mn) D else rqV (ms * mn) D := by
      unfold shareV; rw [hok, hms, hmn, Int.toNat_natCast]; rfl
    have eE : shareE s n D = rqE (ms * mn) D := by
      unfold shareE; rw [hok, hms, hmn, Int.toNat_natCast]; rfl
    rw [eV, eE]
    clear eV eE hok
    have hD0 : ¬ (D : Int) < 1 := by omega
    obtain ⟨v0, v1⟩ := rqV_bd (ms * mn) D
    obtain ⟨R, hR⟩ : ∃ R, rqV (ms * mn) D = R := ⟨_, rfl⟩
    obtain ⟨E, hE⟩ : ∃ E, rqE (ms * mn) D = E := ⟨_, rfl⟩
    rw [hR] at v0 v1
    rw [hR, hE]
    have HR := Lib.hid hR; clear hR
    have HE := Lib.hid hE; clear hE
    have hstart : ms / 2 ^ 47 = 0 := Nat.div_eq_of_lt (by omega)
    have Hst := Lib.hid hstart; clear hstart
    by_cases hs : s < 0
    · obtain rfl : s = -(ms : Int) := by omega
      have es : decide (-(ms : Int) < 0) = true := decide_eq_true hs
      have es' : decide (0 < ms) = true := decide_eq_true (by omega)
      rw [es]
      clear hms
      by_cases hn : n < 0
      · obtain rfl : n = -(mn : Int) := by omega
        have en : decide (-(mn : Int) < 0) = true := decide_eq_true hn
        have en' : decide (0 < mn) = true := decide_eq_true (by omega)
        rw [en]
        clear hmn
        go_enter Try.func14, Try.ntmps14
        go_wp2_with (fail)
        refine (hw _ H1.out _).out.mono ?_
        rintro e w' ⟨rfl, rfl⟩
        go_wp2_with (fail)
        refine (hw _ H2.out _).out.mono ?_
        rintro e w' ⟨rfl, rfl⟩
        go_wp2_with (fail)
        refine (hw _ H3.out _).out.mono ?_
        rintro e w' ⟨rfl, rfl⟩
        go_wp2_with (fail)
        go_loop [9, 10, 11] (fun q r i => ∃ j : Nat, BitsAt ms mn D j q r i) (fun _ _ i => (intOf i + 1).toNat)
        case atStart => exact ⟨47, by omega, by rw [Hst.out, Nat.zero_mul, Nat.zero_div]; rfl, by rw [Hst.out, Nat.zero_mul, Nat.zero_mod]; rfl, rfl, by rw [Hst.out, Nat.zero_mul, Nat.zero_div]; omega⟩
        case round =>
          obtain ⟨j, hj, rfl, rfl, rfl, hle⟩ := hrel
          by_cases hj0 : j = 0
          · subst hj0
            rw [Nat.pow_zero, Nat.div_one] at *
            have hrl := Nat.mod_lt (ms * mn) (show 0 < D by omega)
            have hrq : ShM.rq (ms * mn) D = if 2 * (ms * mn % D) < D then ms * mn / D else ms * mn / D + 1 := rfl
            have hVE : ∀ v e : Int, ((70368744177664 < ShM.rq (ms * mn) D ∧ v = 0 ∧ e = 20) ∨ (ShM.rq (ms * mn) D ≤ 70368744177664 ∧ v = (ShM.rq (ms * mn) D : Nat) ∧ e = 0)) → v = R ∧ e = E := fun v e h => by
              obtain ⟨a, b⟩ := rq_case (p := ms * mn) (d := D) v e h
              exact ⟨a.trans HR.out, b.trans HE.out⟩
            generalize ShM.rq (ms * mn) D = Q at *
            generalize ms * mn / D = q at *
            generalize ms * mn % D = r at *
            have HVE := Lib.hid hVE; clear hVE
            by_cases hr1 : 2 * r < D
            · rw [if_pos hr1] at hrq
              obtain ⟨rfl, rfl⟩ := HVE.out q 0 (.inr ⟨by omega, by rw [hrq], rfl⟩)
              clear hrq
              have hr2 : 2 * (r : Int) < (D : Int) := by omega
              have hq2 : (q : Int) ≤ 70368744177664 := by omega
              go_wp2
              go_ret2
              exact ⟨by first | rfl | simp, Kept.refl _⟩
            · rw [if_neg hr1] at hrq
              have hr2 : ¬ 2 * (r : Int) < (D : Int) := by omega
              by_cases hq3 : q = 70368744177664
              · obtain ⟨rfl, rfl⟩ := HVE.out 0 20 (.inl ⟨by omega, rfl, rfl⟩)
                clear hrq
                subst hq3
                go_wp2
                go_ret2
                exact ⟨by first | rfl | simp, Kept.refl _⟩
              · obtain ⟨m, hm1⟩ : ∃ m : Nat, (q : Int) + 1 = (m : Int) := ⟨q + 1, rfl⟩
                have hmb : (m : Int) ≤ 70368744177664 := by omega
                obtain ⟨rfl, rfl⟩ := HVE.out m 0 (.inr ⟨by omega, by rw [hrq]; omega, rfl⟩)
                clear hrq hq3 hle
                go_wp2
                go_ret2
                exact ⟨by first | rfl | simp, Kept.refl _⟩
          · obtain ⟨b, rfl⟩ : ∃ b, j = b + 1 := ⟨j - 1, by omega⟩
            have hxb : ms / 2 ^ b % 2 = 0 ∨ ms / 2 ^ b % 2 = 1 := by omega
            obtain ⟨bq, br⟩ := ShM.bit_step (p := ms / 2 ^ (b + 1)) (n := mn) (d := D) (b := ms / 2 ^ b % 2) (by omega) rfl rfl
            rw [← ShM.shift_step] at bq br
            have hrl := Nat.mod_lt (ms / 2 ^ (b + 1) * mn) (show 0 < D by omega)
            have hpl := ShM.part_le (s := ms) (k := b) (n := mn) (d := D)
            have hbit := bit_i64 ms b hms'
            generalize ms / 2 ^ (b + 1) * mn % D = r at *
            generalize ms / 2 ^ (b + 1) * mn / D = q at *
            obtain ⟨q2, hq2⟩ : ∃ q2, ms / 2 ^ b * mn / D = q2 := ⟨_, rfl⟩
            obtain ⟨r2, hr2⟩ : ∃ r2, ms / 2 ^ b * mn % D = r2 := ⟨_, rfl⟩
            rw [hq2] at bq hpl
            rw [hr2] at br
            have hfar : 70368744177664 < q2 → R = 0 ∧ E = 20 := by
              intro h
              obtain ⟨e1, e2⟩ := rq_far (p := ms * mn) (d := D) (by omega)
              exact ⟨by rw [← HR.out, e1], by rw [← HE.out, e2]⟩
            have hrel2 : q2 ≤ 70368744177664 → BitsAt ms mn D b (.int .i64 q2) (.int .i64 r2) (.int .i64 ((b : Int) - 1)) := fun h => ⟨by omega, by rw [hq2], by rw [hr2], rfl, by omega⟩
            have hq2b : q2 ≤ 400000000000000 := by
              have h := Nat.div_le_self (2 * r + ms / 2 ^ b % 2 * mn) D
              have h2 : ms / 2 ^ b % 2 * mn ≤ 1 * mn := Nat.mul_le_mul_right _ (by omega)
              omega
            have Hfar := Lib.hid hfar; clear hfar
            have Hrel2 := Lib.hid hrel2; clear hrel2
            clear hq2 hr2 hpl
            have hb1 : ((b + 1 : Nat) : Int) - 1 = (b : Int) := by omega
            rw [hb1]
            clear hb1
            have hb46 : b ≤ 46 := by omega
            have hbmin : min b 64 = b := by omega
            rcases hxb with hx | hx
            · rw [hx, Nat.zero_mul, Nat.add_zero] at bq br
              rw [hx] at hbit
              clear hx
              have cq : 2 * (q : Int) + 2 * (r : Int) / (D : Int) = (q2 : Int) := by exact_mod_cast bq
              have cr : 2 * (r : Int) % (D : Int) = (r2 : Int) := by exact_mod_cast br
              clear bq br
              by_cases hgt : 70368744177664 < q2
              · obtain ⟨rfl, rfl⟩ := Hfar.out hgt
                have hgt' : (70368744177664 : Int) < (q2 : Int) := by omega
                go_wp2
                go_ret2
                exact ⟨rfl, Kept.refl _⟩
              · have hgt' : (q2 : Int) ≤ 70368744177664 := by omega
                go_wp2
                go_round
                case rel =>
                  have h := Hrel2.out (by omega)
                  first | exact ⟨b, h⟩ | (rw [cr]; exact ⟨b, h⟩)
                case measure => simp [intOf]
            · rw [hx, Nat.one_mul] at bq br
              rw [hx] at hbit
              clear hx
              have cq : 2 * (q : Int) + (2 * (r : Int) + (mn : Int)) / (D : Int) = (q2 : Int) := by exact_mod_cast bq
              have cr : (2 * (r : Int) + (mn : Int)) % (D : Int) = (r2 : Int) := by exact_mod_cast br
              clear bq br
              by_cases hgt : 70368744177664 < q2
              · obtain ⟨rfl, rfl⟩ := Hfar.out hgt
                have hgt' : (70368744177664 : Int) < (q2 : Int) := by omega
                go_wp2
                go_ret2
                exact ⟨rfl, Kept.refl _⟩
              · have hgt' : (q2 : Int) ≤ 70368744177664 := by omega
                go_wp2
                go_round
                case rel =>
                  have h := Hrel2.out (by omega)
                  first | exact ⟨b, h⟩ | (rw [cr]; exact ⟨b, h⟩)
                case measure => simp [intOf]
      · obtain rfl : n = (mn : Int) := by omega
        have en : decide ((mn : Int) < 0) = false := decide_eq_false hn
        rw [en]
        clear hmn
        go_enter Try.func14, Try.ntmps14
        go_wp2_with (fail)
        refine (hw _ H1.out _).out.mono ?_
        rintro e w' ⟨rfl, rfl⟩
        go_wp2_with (fail)
        refine (hw _ H2.out _).out.mono ?_
        rintro e w' ⟨rfl, rfl⟩
        go_wp2_with (fail)
        refine (hw _ H3.out _).out.mono ?_
        rintro e w' ⟨rfl, rfl⟩
        go_wp2_with (fail)
        go_loop [9, 10, 11] (fun q r i => ∃ j : Nat, BitsAt ms mn D j q r i) (fun _ _ i => (intOf i + 1).toNat)
        case atStart => exact ⟨47, by omega, by rw [Hst.out, Nat.zero_mul, Nat.zero_div]; rfl, by rw [Hst.out, Nat.zero_mul, Nat.zero_mod]; rfl, rfl, by rw [Hst.out, Nat.zero_mul, Nat.zero_div]; omega⟩
        case round =>
          obtain ⟨j, hj, rfl, rfl, rfl, hle⟩ := hrel
          by_cases hj0 : j = 0
          · subst hj0
            rw [Nat.pow_zero, Nat.div_one] at *
            have hrl := Nat.mod_lt (ms * mn) (show 0 < D by omega)
            have hrq : ShM.rq (ms * mn) D = if 2 * (ms * mn % D) < D then ms * mn / D else ms * mn / D + 1 := rfl
            have hVE : ∀ v e : Int, ((70368744177664 < ShM.rq (ms * mn) D ∧ v = 0 ∧ e = 20) ∨ (ShM.rq (ms * mn) D ≤ 70368744177664 ∧ v = (ShM.rq (ms * mn) D : Nat) ∧ e = 0)) → v = R ∧ e = E := fun v e h => by
              obtain ⟨a, b⟩ := rq_case (p := ms * mn) (d := D) v e h
              exact ⟨a.trans HR.out, b.trans HE.out⟩
            generalize ShM.rq (ms * mn) D = Q at *
            generalize ms * mn / D = q at *
            generalize ms * mn % D = r at *
            have HVE := Lib.hid hVE; clear hVE
            by_cases hr1 : 2 * r < D
            · rw [if_pos hr1] at hrq
              obtain ⟨rfl, rfl⟩ := HVE.out q 0 (.inr ⟨by omega, by rw [hrq], rfl⟩)
              clear hrq
              have hr2 : 2 * (r : Int) < (D : Int) := by omega
              have hq2 : (q : Int) ≤ 70368744177664 := by omega
              go_wp2
              go_ret2
              exact ⟨by first | rfl | simp, Kept.refl _⟩
            · rw [if_neg hr1] at hrq
              have hr2 : ¬ 2 * (r : Int) < (D : Int) := by omega
              by_cases hq3 : q = 70368744177664
              · obtain ⟨rfl, rfl⟩ := HVE.out 0 20 (.inl ⟨by omega, rfl, rfl⟩)
                clear hrq
                subst hq3
                go_wp2
                go_ret2
                exact ⟨by first | rfl | simp, Kept.refl _⟩
              · obtain ⟨m, hm1⟩ : ∃ m : Nat, (q : Int) + 1 = (m : Int) := ⟨q + 1, rfl⟩
                have hmb : (m : Int) ≤ 70368744177664 := by omega
                obtain ⟨rfl, rfl⟩ := HVE.out m 0 (.inr ⟨by omega, by rw [hrq]; omega, rfl⟩)
                clear hrq hq3 hle
                go_wp2
                go_ret2
                exact ⟨by first | rfl | simp, Kept.refl _⟩
          · obtain ⟨b, rfl⟩ : ∃ b, j = b + 1 := ⟨j - 1, by omega⟩
            have hxb : ms / 2 ^ b % 2 = 0 ∨ ms / 2 ^ b % 2 = 1 := by omega
            obtain ⟨bq, br⟩ := ShM.bit_step (p := ms / 2 ^ (b + 1)) (n := mn) (d := D) (b := ms / 2 ^ b % 2) (by omega) rfl rfl
            rw [← ShM.shift_step] at bq br
            have hrl := Nat.mod_lt (ms / 2 ^ (b + 1) * mn) (show 0 < D by omega)
            have hpl := ShM.part_le (s := ms) (k := b) (n := mn) (d := D)
            have hbit := bit_i64 ms b hms'
            generalize ms / 2 ^ (b + 1) * mn % D = r at *
            generalize ms / 2 ^ (b + 1) * mn / D = q at *
            obtain ⟨q2, hq2⟩ : ∃ q2, ms / 2 ^ b * mn / D = q2 := ⟨_, rfl⟩
            obtain ⟨r2, hr2⟩ : ∃ r2, ms / 2 ^ b * mn % D = r2 := ⟨_, rfl⟩
            rw [hq2] at bq hpl
            rw [hr2] at br
            have hfar : 70368744177664 < q2 → R = 0 ∧ E = 20 := by
              intro h
              obtain ⟨e1, e2⟩ := rq_far (p := ms * mn) (d := D) (by omega)
              exact ⟨by rw [← HR.out, e1], by rw [← HE.out, e2]⟩
            have hrel2 : q2 ≤ 70368744177664 → BitsAt ms mn D b (.int .i64 q2) (.int .i64 r2) (.int .i64 ((b : Int) - 1)) := fun h => ⟨by omega, by rw [hq2], by rw [hr2], rfl, by omega⟩
            have hq2b : q2 ≤ 400000000000000 := by
              have h := Nat.div_le_self (2 * r + ms / 2 ^ b % 2 * mn) D
              have h2 : ms / 2 ^ b % 2 * mn ≤ 1 * mn := Nat.mul_le_mul_right _ (by omega)
              omega
            have Hfar := Lib.hid hfar; clear hfar
            have Hrel2 := Lib.hid hrel2; clear hrel2
            clear hq2 hr2 hpl
            have hb1 : ((b + 1 : Nat) : Int) - 1 = (b : Int) := by omega
            rw [hb1]
            clear hb1
            have hb46 : b ≤ 46 := by omega
            have hbmin : min b 64 = b := by omega
            rcases hxb with hx | hx
            · rw [hx, Nat.zero_mul, Nat.add_zero] at bq br
              rw [hx] at hbit
              clear hx
              have cq : 2 * (q : Int) + 2 * (r : Int) / (D : Int) = (q2 : Int) := by exact_mod_cast bq
              have cr : 2 * (r : Int) % (D : Int) = (r2 : Int) := by exact_mod_cast br
              clear bq br
              by_cases hgt : 70368744177664 < q2
              · obtain ⟨rfl, rfl⟩ := Hfar.out hgt
                have hgt' : (70368744177664 : Int) < (q2 : Int) := by omega
                go_wp2
                go_ret2
                exact ⟨rfl, Kept.refl _⟩
              · have hgt' : (q2 : Int) ≤ 70368744177664 := by omega
                go_wp2
                go_round
                case rel =>
                  have h := Hrel2.out (by omega)
                  first | exact ⟨b, h⟩ | (rw [cr]; exact ⟨b, h⟩)
                case measure => simp [intOf]
            · rw [hx, Nat.one_mul] at bq br
              rw [hx] at hbit
              clear hx
              have cq : 2 * (q : Int) + (2 * (r : Int) + (mn : Int)) / (D : Int) = (q2 : Int) := by exact_mod_cast bq
              have cr : (2 * (r : Int) + (mn : Int)) % (D : Int) = (r2 : Int) := by exact_mod_cast br
              clear bq br
              by_cases hgt : 70368744177664 < q2
              · obtain ⟨rfl, rfl⟩ := Hfar.out hgt
                have hgt' : (70368744177664 : Int) < (q2 : Int) := by omega
                go_wp2
                go_ret2
                exact ⟨rfl, Kept.refl _⟩
              · have hgt' : (q2 : Int) ≤ 70368744177664 := by omega
                go_wp2
                go_round
                case rel =>
                  have h := Hrel2.out (by omega)
                  first | exact ⟨b, h⟩ | (rw [cr]; exact ⟨b, h⟩)
                case measure => simp [intOf]
    · obtain rfl : s = (ms : Int) := by omega
      have es : decide ((ms : Int) < 0) = false := decide_eq_false hs
      rw [es]
      clear hms
      by_cases hn : n < 0
      · obtain rfl : n = -(mn : Int) := by omega
        have en : decide (-(mn : Int) < 0) = true := decide_eq_true hn
        have en' : decide (0 < mn) = true := decide_eq_true (by omega)
        rw [en]
        clear hmn
        go_enter Try.func14, Try.ntmps14
        go_wp2_with (fail)
        refine (hw _ H1.out _).out.mono ?_
        rintro e w' ⟨rfl, rfl⟩
        go_wp2_with (fail)
        refine (hw _ H2.out _).out.mono ?_
        rintro e w' ⟨rfl, rfl⟩
        go_wp2_with (fail)
        refine (hw _ H3.out _).out.mono ?_
        rintro e w' ⟨rfl, rfl⟩
        go_wp2_with (fail)
        go_loop [9, 10, 11] (fun q r i => ∃ j : Nat, BitsAt ms mn D j q r i) (fun _ _ i => (intOf i + 1).toNat)
        case atStart => exact ⟨47, by omega, by rw [Hst.out, Nat.zero_mul, Nat.zero_div]; rfl, by rw [Hst.out, Nat.zero_mul, Nat.zero_mod]; rfl, rfl, by rw [Hst.out, Nat.zero_mul, Nat.zero_div]; omega⟩
        case round =>
          obtain ⟨j, hj, rfl, rfl, rfl, hle⟩ := hrel
          by_cases hj0 : j = 0
          · subst hj0
            rw [Nat.pow_zero, Nat.div_one] at *
            have hrl := Nat.mod_lt (ms * mn) (show 0 < D by omega)
            have hrq : ShM.rq (ms * mn) D = if 2 * (ms * mn % D) < D then ms * mn / D else ms * mn / D + 1 := rfl
            have hVE : ∀ v e : Int, ((70368744177664 < ShM.rq (ms * mn) D ∧ v = 0 ∧ e = 20) ∨ (ShM.rq (ms * mn) D ≤ 70368744177664 ∧ v = (ShM.rq (ms * mn) D : Nat) ∧ e = 0)) → v = R ∧ e = E := fun v e h => by
              obtain ⟨a, b⟩ := rq_case (p := ms * mn) (d := D) v e h
              exact ⟨a.trans HR.out, b.trans HE.out⟩
            generalize ShM.rq (ms * mn) D = Q at *
            generalize ms * mn / D = q at *
            generalize ms * mn % D = r at *
            have HVE := Lib.hid hVE; clear hVE
            by_cases hr1 : 2 * r < D
            · rw [if_pos hr1] at hrq
              obtain ⟨rfl, rfl⟩ := HVE.out q 0 (.inr ⟨by omega, by rw [hrq], rfl⟩)
              clear hrq
              have hr2 : 2 * (r : Int) < (D : Int) := by omega
              have hq2 : (q : Int) ≤ 70368744177664 := by omega
              go_wp2
              go_ret2
              exact ⟨by first | rfl | simp, Kept.refl _⟩
            · rw [if_neg hr1] at hrq
              have hr2 : ¬ 2 * (r : Int) < (D : Int) := by omega
              by_cases hq3 : q = 70368744177664
              · obtain ⟨rfl, rfl⟩ := HVE.out 0 20 (.inl ⟨by omega, rfl, rfl⟩)
                clear hrq
                subst hq3
                go_wp2
                go_ret2
                exact ⟨by first | rfl | simp, Kept.refl _⟩
              · obtain ⟨m, hm1⟩ : ∃ m : Nat, (q : Int) + 1 = (m : Int) := ⟨q + 1, rfl⟩
                have hmb : (m : Int) ≤ 70368744177664 := by omega
                obtain ⟨rfl, rfl⟩ := HVE.out m 0 (.inr ⟨by omega, by rw [hrq]; omega, rfl⟩)
                clear hrq hq3 hle
                go_wp2
                go_ret2
                exact ⟨by first | rfl | simp, Kept.refl _⟩
          · obtain ⟨b, rfl⟩ : ∃ b, j = b + 1 := ⟨j - 1, by omega⟩
            have hxb : ms / 2 ^ b % 2 = 0 ∨ ms / 2 ^ b % 2 = 1 := by omega
            obtain ⟨bq, br⟩ := ShM.bit_step (p := ms / 2 ^ (b + 1)) (n := mn) (d := D) (b := ms / 2 ^ b % 2) (by omega) rfl rfl
            rw [← ShM.shift_step] at bq br
            have hrl := Nat.mod_lt (ms / 2 ^ (b + 1) * mn) (show 0 < D by omega)
            have hpl := ShM.part_le (s := ms) (k := b) (n := mn) (d := D)
            have hbit := bit_i64 ms b hms'
            generalize ms / 2 ^ (b + 1) * mn % D = r at *
            generalize ms / 2 ^ (b + 1) * mn / D = q at *
            obtain ⟨q2, hq2⟩ : ∃ q2, ms / 2 ^ b * mn / D = q2 := ⟨_, rfl⟩
            obtain ⟨r2, hr2⟩ : ∃ r2, ms / 2 ^ b * mn % D = r2 := ⟨_, rfl⟩
            rw [hq2] at bq hpl
            rw [hr2] at br
            have hfar : 70368744177664 < q2 → R = 0 ∧ E = 20 := by
              intro h
              obtain ⟨e1, e2⟩ := rq_far (p := ms * mn) (d := D) (by omega)
              exact ⟨by rw [← HR.out, e1], by rw [← HE.out, e2]⟩
            have hrel2 : q2 ≤ 70368744177664 → BitsAt ms mn D b (.int .i64 q2) (.int .i64 r2) (.int .i64 ((b : Int) - 1)) := fun h => ⟨by omega, by rw [hq2], by rw [hr2], rfl, by omega⟩
            have hq2b : q2 ≤ 400000000000000 := by
              have h := Nat.div_le_self (2 * r + ms / 2 ^ b % 2 * mn) D
              have h2 : ms / 2 ^ b % 2 * mn ≤ 1 * mn := Nat.mul_le_mul_right _ (by omega)
              omega
            have Hfar := Lib.hid hfar; clear hfar
            have Hrel2 := Lib.hid hrel2; clear hrel2
            clear hq2 hr2 hpl
            have hb1 : ((b + 1 : Nat) : Int) - 1 = (b : Int) := by omega
            rw [hb1]
            clear hb1
            have hb46 : b ≤ 46 := by omega
            have hbmin : min b 64 = b := by omega
            rcases hxb with hx | hx
            · rw [hx, Nat.zero_mul, Nat.add_zero] at bq br
              rw [hx] at hbit
              clear hx
              have cq : 2 * (q : Int) + 2 * (r : Int) / (D : Int) = (q2 : Int) := by exact_mod_cast bq
              have cr : 2 * (r : Int) % (D : Int) = (r2 : Int) := by exact_mod_cast br
              clear bq br
              by_cases hgt : 70368744177664 < q2
              · obtain ⟨rfl, rfl⟩ := Hfar.out hgt
                have hgt' : (70368744177664 : Int) < (q2 : Int) := by omega
                go_wp2
                go_ret2
                exact ⟨rfl, Kept.refl _⟩
              · have hgt' : (q2 : Int) ≤ 70368744177664 := by omega
                go_wp2
                go_round
                case rel =>
                  have h := Hrel2.out (by omega)
                  first | exact ⟨b, h⟩ | (rw [cr]; exact ⟨b, h⟩)
                case measure => simp [intOf]
            · rw [hx, Nat.one_mul] at bq br
              rw [hx] at hbit
              clear hx
              have cq : 2 * (q : Int) + (2 * (r : Int) + (mn : Int)) / (D : Int) = (q2 : Int) := by exact_mod_cast bq
              have cr : (2 * (r : Int) + (mn : Int)) % (D : Int) = (r2 : Int) := by exact_mod_cast br
              clear bq br
              by_cases hgt : 70368744177664 < q2
              · obtain ⟨rfl, rfl⟩ := Hfar.out hgt
                have hgt' : (70368744177664 : Int) < (q2 : Int) := by omega
                go_wp2
                go_ret2
                exact ⟨rfl, Kept.refl _⟩
              · have hgt' : (q2 : Int) ≤ 70368744177664 := by omega
                go_wp2
                go_round
                case rel =>
                  have h := Hrel2.out (by omega)
                  first | exact ⟨b, h⟩ | (rw [cr]; exact ⟨b, h⟩)
                case measure => simp [intOf]
      · obtain rfl : n = (mn : Int) := by omega
        have en : decide ((mn : Int) < 0) = false := decide_eq_false hn
        rw [en]
        clear hmn
        go_enter Try.func14, Try.ntmps14
        go_wp2_with (fail)
        refine (hw _ H1.out _).out.mono ?_
        rintro e w' ⟨rfl, rfl⟩
        go_wp2_with (fail)
        refine (hw _ H2.out _).out.mono ?_
        rintro e w' ⟨rfl, rfl⟩
        go_wp2_with (fail)
        refine (hw _ H3.out _).out.mono ?_
        rintro e w' ⟨rfl, rfl⟩
        go_wp2_with (fail)
        go_loop [9, 10, 11] (fun q r i => ∃ j : Nat, BitsAt ms mn D j q r i) (fun _ _ i => (intOf i + 1).toNat)
        case atStart => exact ⟨47, by omega, by rw [Hst.out, Nat.zero_mul, Nat.zero_div]; rfl, by rw [Hst.out, Nat.zero_mul, Nat.zero_mod]; rfl, rfl, by rw [Hst.out, Nat.zero_mul, Nat.zero_div]; omega⟩
        case round =>
          obtain ⟨j, hj, rfl, rfl, rfl, hle⟩ := hrel
          by_cases hj0 : j = 0
          · subst hj0
            rw [Nat.pow_zero, Nat.div_one] at *
            have hrl := Nat.mod_lt (ms * mn) (show 0 < D by omega)
            have hrq : ShM.rq (ms * mn) D = if 2 * (ms * mn % D) < D then ms * mn / D else ms * mn / D + 1 := rfl
            have hVE : ∀ v e : Int, ((70368744177664 < ShM.rq (ms * mn) D ∧ v = 0 ∧ e = 20) ∨ (ShM.rq (ms * mn) D ≤ 70368744177664 ∧ v = (ShM.rq (ms * mn) D : Nat) ∧ e = 0)) → v = R ∧ e = E := fun v e h => by
              obtain ⟨a, b⟩ := rq_case (p := ms * mn) (d := D) v e h
              exact ⟨a.trans HR.out, b.trans HE.out⟩
            generalize ShM.rq (ms * mn) D = Q at *
            generalize ms * mn / D = q at *
            generalize ms * mn % D = r at *
            have HVE := Lib.hid hVE; clear hVE
            by_cases hr1 : 2 * r < D
            · rw [if_pos hr1] at hrq
              obtain ⟨rfl, rfl⟩ := HVE.out q 0 (.inr ⟨by omega, by rw [hrq], rfl⟩)
              clear hrq
              have hr2 : 2 * (r : Int) < (D : Int) := by omega
              have hq2 : (q : Int) ≤ 70368744177664 := by omega
              go_wp2
              go_ret2
              exact ⟨by first | rfl | simp, Kept.refl _⟩
            · rw [if_neg hr1] at hrq
              have hr2 : ¬ 2 * (r : Int) < (D : Int) := by omega
              by_cases hq3 : q = 70368744177664
              · obtain ⟨rfl, rfl⟩ := HVE.out 0 20 (.inl ⟨by omega, rfl, rfl⟩)
                clear hrq
                subst hq3
                go_wp2
                go_ret2
                exact ⟨by first | rfl | simp, Kept.refl _⟩
              · obtain ⟨m, hm1⟩ : ∃ m : Nat, (q : Int) + 1 = (m : Int) := ⟨q + 1, rfl⟩
                have hmb : (m : Int) ≤ 70368744177664 := by omega
                obtain ⟨rfl, rfl⟩ := HVE.out m 0 (.inr ⟨by omega, by rw [hrq]; omega, rfl⟩)
                clear hrq hq3 hle
                go_wp2
                go_ret2
                exact ⟨by first | rfl | simp, Kept.refl _⟩
          · obtain ⟨b, rfl⟩ : ∃ b, j = b + 1 := ⟨j - 1, by omega⟩
            have hxb : ms / 2 ^ b % 2 = 0 ∨ ms / 2 ^ b % 2 = 1 := by omega
            obtain ⟨bq, br⟩ := ShM.bit_step (p := ms / 2 ^ (b + 1)) (n := mn) (d := D) (b := ms / 2 ^ b % 2) (by omega) rfl rfl
            rw [← ShM.shift_step] at bq br
            have hrl := Nat.mod_lt (ms / 2 ^ (b + 1) * mn) (show 0 < D by omega)
            have hpl := ShM.part_le (s := ms) (k := b) (n := mn) (d := D)
            have hbit := bit_i64 ms b hms'
            generalize ms / 2 ^ (b + 1) * mn % D = r at *
            generalize ms / 2 ^ (b + 1) * mn / D = q at *
            obtain ⟨q2, hq2⟩ : ∃ q2, ms / 2 ^ b * mn / D = q2 := ⟨_, rfl⟩
            obtain ⟨r2, hr2⟩ : ∃ r2, ms / 2 ^ b * mn % D = r2 := ⟨_, rfl⟩
            rw [hq2] at bq hpl
            rw [hr2] at br
            have hfar : 70368744177664 < q2 → R = 0 ∧ E = 20 := by
              intro h
              obtain ⟨e1, e2⟩ := rq_far (p := ms * mn) (d := D) (by omega)
              exact ⟨by rw [← HR.out, e1], by rw [← HE.out, e2]⟩
            have hrel2 : q2 ≤ 70368744177664 → BitsAt ms mn D b (.int .i64 q2) (.int .i64 r2) (.int .i64 ((b : Int) - 1)) := fun h => ⟨by omega, by rw [hq2], by rw [hr2], rfl, by omega⟩
            have hq2b : q2 ≤ 400000000000000 := by
              have h := Nat.div_le_self (2 * r + ms / 2 ^ b % 2 * mn) D
              have h2 : ms / 2 ^ b % 2 * mn ≤ 1 * mn := Nat.mul_le_mul_right _ (by omega)
              omega
            have Hfar := Lib.hid hfar; clear hfar
            have Hrel2 := Lib.hid hrel2; clear hrel2
            clear hq2 hr2 hpl
            have hb1 : ((b + 1 : Nat) : Int) - 1 = (b : Int) := by omega
            rw [hb1]
            clear hb1
            have hb46 : b ≤ 46 := by omega
            have hbmin : min b 64 = b := by omega
            rcases hxb with hx | hx
            · rw [hx, Nat.zero_mul, Nat.add_zero] at bq br
              rw [hx] at hbit
              clear hx
              have cq : 2 * (q : Int) + 2 * (r : Int) / (D : Int) = (q2 : Int) := by exact_mod_cast bq
              have cr : 2 * (r : Int) % (D : Int) = (r2 : Int) := by exact_mod_cast br
              clear bq br
              by_cases hgt : 70368744177664 < q2
              · obtain ⟨rfl, rfl⟩ := Hfar.out hgt
                have hgt' : (70368744177664 : Int) < (q2 : Int) := by omega
                go_wp2
                go_ret2
                exact ⟨rfl, Kept.refl _⟩
              · have hgt' : (q2 : Int) ≤ 70368744177664 := by omega
                go_wp2
                go_round
                case rel =>
                  have h := Hrel2.out (by omega)
                  first | exact ⟨b, h⟩ | (rw [cr]; exact ⟨b, h⟩)
                case measure => simp [intOf]
            · rw [hx, Nat.one_mul] at bq br
              rw [hx] at hbit
              clear hx
              have cq : 2 * (q : Int) + (2 * (r : Int) + (mn : Int)) / (D : Int) = (q2 : Int) := by exact_mod_cast bq
              have cr : (2 * (r : Int) + (mn : Int)) % (D : Int) = (r2 : Int) := by exact_mod_cast br
              clear bq br
              by_cases hgt : 70368744177664 < q2
              · obtain ⟨rfl, rfl⟩ := Hfar.out hgt
                have hgt' : (70368744177664 : Int) < (q2 : Int) := by omega
                go_wp2
                go_ret2
                exact ⟨rfl, Kept.refl _⟩
              · have hgt' : (q2 : Int) ≤ 70368744177664 := by omega
                go_wp2
                go_round
                case rel =>
                  have h := Hrel2.out (by omega)
                  first | exact ⟨b, h⟩ | (rw [cr]; exact ⟨b, h⟩)
                case measure => simp [intOf]
end Go.Proofs.Ytcikgaflnhpklaa
