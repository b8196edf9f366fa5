/- The walk of galleylaw01.ScaledKnuth. -/
import Derived.Test.YtcdblgfaojejnaaDoorKnuth2
import Derived.Test.YtcdblgfaojejnaaDoorKnows
import Derived.Test.YtcdblgfaojejnaaDoorRefDimen
import Derived.Test.YtcdblgfaojejnaaDoorDimn
namespace Go.Proofs.YtcdblgfaojejnaaDoor
open Go.RowKit

theorem behind_stop {A P : List UInt8} (hA : ∀ c ∈ A, c ≠ 46) {k : Nat} {c : UInt8} (hk : (A ++ 46 :: P)[k]? = some c) (hkA : k ≤ A.length) : (c = 46 ↔ k = A.length) := by
  constructor
  · intro h
    subst h
    by_cases hlt : k < A.length
    · rw [List.getElem?_append_left hlt] at hk
      exact absurd rfl (hA 46 (List.mem_of_getElem? hk))
    · omega
  · rintro rfl
    rw [List.getElem?_append_right (Nat.le_refl _), Nat.sub_self] at hk
    simpa using hk.symm

set_option maxHeartbeats 2000000 in
theorem behind_any (s : ByteArray) (A P : List UInt8) (hs : s.data.toList = A ++ 46 :: P) (hA : ∀ c ∈ A, c ≠ 46) (hz : s.size ≤ 1000000) (w : World) :
    Calls Tryd.prog 38 #[.string s] w fun e w' => e = .returned (.int .i64 P.length) ∧ w = w' := by
  have hlen : s.size = A.length + 1 + P.length := by rw [Lib.size_eq, hs]; simp; omega
  have Hs := Lib.hid hs
  have HA := Lib.hid hA
  have Hlen := Lib.hid hlen
  have hl1 : A.length < s.size := by omega
  clear hs hA hlen
  go_enter Tryd.func38, Tryd.ntmps38
  go_wp2
  go_loop [3] (fun i => ∃ k : Nat, k ≤ A.length ∧ i = .int .i64 k) (fun i => s.size - (intOf i).toNat)
  case atStart => exact ⟨0, Nat.zero_le _, rfl⟩
  case round =>
    obtain ⟨k, hk, rfl⟩ := hrel
    have hlt : k < s.size := by omega
    have hat := at_list s k hlt
    rw [Hs.out] at hat
    have hst := behind_stop HA.out hat hk
    by_cases he : k = A.length
    · have hb : (((s[k]'hlt).toNat : Int) == 46) = true := by rw [hst.2 he]; rfl
      have hl := Hlen.out
      have hP : Hid ((s.size : Int) - k - 1 = P.length) := Lib.hid (by omega)
      clear hst hat he hl
      go_wp2
      go_ret
      exact ⟨ret_int hP.out, rfl⟩
    · have hb : (((s[k]'hlt).toNat : Int) == 46) = false := by
        rw [beq_eq_false_iff_ne]
        intro h
        exact he (hst.1 (UInt8.toNat_inj.1 (by have : (46 : UInt8).toNat = 46 := rfl; omega)))
      have hk2 : k < A.length := by omega
      clear hst hat he
      go_wp2
      go_round
      case rel => exact ⟨k + 1, by omega, by go_num⟩
      case measure => simp [intOf]; omega

theorem dig_ne46 {c : UInt8} (h : isDig c = true) : c ≠ 46 := by rintro rfl; revert h; decide

/-- what is printed, in its parts -/
theorem print_parts (s : Int) (h0 : -1073741823 ≤ s) (h1 : s ≤ 1073741823) :
    ∃ (A : List UInt8) (q f : Nat), printL s = A ++ 46 :: fracOf (f : Int) ∧ f < 65536 ∧ absI s = 65536 * q + f ∧ q ≤ 16383 ∧ (∀ c ∈ A, c ≠ 46) ∧
      (A = Lib.decDigits q ∧ ¬ s < 0 ∨ A = 45 :: Lib.decDigits q ∧ s < 0) := by
  have ha : 0 ≤ absI s ∧ absI s ≤ 1073741823 := by unfold absI; split <;> omega
  refine ⟨(if s < 0 then [45] else []) ++ Lib.decDigits (absI s / 65536).toNat, (absI s / 65536).toNat, (absI s % 65536).toNat, ?_, by omega, by omega, by omega, ?_, ?_⟩
  · unfold printL
    rw [List.append_assoc, show (((absI s % 65536).toNat : Nat) : Int) = absI s % 65536 from by omega]
  · intro c hc
    rw [List.mem_append] at hc
    rcases hc with hc | hc
    · split at hc
      · simp at hc; rw [hc]; decide
      · cases hc
    · exact dig_ne46 (dec_dig _ c hc)
  · by_cases hn : s < 0
    · right; rw [if_pos hn]; exact ⟨rfl, hn⟩
    · left; rw [if_neg hn]; exact ⟨rfl, hn⟩
theorem parse_print (s : Int) (h0 : -1073741823 ≤ s) (h1 : s ≤ 1073741823) : parseV (printL s) = s ∧ parseE (printL s) = 0 := by
  obtain ⟨A, q, f, hp, hf, ha, hq, _, hA⟩ := print_parts s h0 h1
  obtain ⟨f1, _, _, f4⟩ := fracOf_back hf
  have hsz : sizeDP (Lib.decDigits q) (fracOf (f : Int)) = absI s := by
    unfold sizeDP; rw [wholeN_dec q (by omega), f1, ha]
  have hdd := dec_dig q
  have hdp := dec_pos q
  have habs : absI s = if s < 0 then -s else s := rfl
  have hdV : ∀ x : Int, -1073741823 ≤ x → x ≤ 1073741823 → dimV x = x := fun x a b => by
    unfold dimV greatB; rw [if_neg (by simp; omega)]
  have hdE : ∀ x : Int, -1073741823 ≤ x → x ≤ 1073741823 → dimE x = 0 := fun x a b => by
    unfold dimE greatB; rw [if_neg (by simp; omega)]
  rcases hA with ⟨rfl, hn⟩ | ⟨rfl, hn⟩
  · rw [hp]
    obtain ⟨v, e⟩ := parse_text hdd hdp f4
    rw [v, e, hsz, habs, if_neg hn]
    exact ⟨hdV s h0 h1, hdE s h0 h1⟩
  · rw [hp]
    obtain ⟨h1', h2, h3, h4, h5⟩ := text_facts (u := []) hdd hdp f4 (fun c s e => by cases e)
    rw [List.append_nil] at h1' h2 h3 h4 h5
    obtain ⟨m1, m2⟩ := minus_cons (Lib.decDigits q ++ 46 :: fracOf (f : Int))
    have hok : parseOk (45 :: (Lib.decDigits q ++ 46 :: fracOf (f : Int))) = true := by unfold parseOk; rw [m2, h4, h3]; rfl
    have hs : sizeOfText (45 :: (Lib.decDigits q ++ 46 :: fracOf (f : Int))) = -s := by
      unfold sizeOfText; rw [m2, h1', h2]
      have := hsz
      unfold sizeDP at this
      rw [this, habs, if_pos hn]
    rw [List.cons_append]
    unfold parseV parseE
    rw [hok, hs, m1, if_pos rfl, if_pos rfl, if_pos rfl, Int.neg_neg]
    exact ⟨hdV s h0 h1, hdE _ (by omega) (by omega)⟩

theorem dim_same {z : Int} (h0 : 0 ≤ z) (h : dimE z = 0) : dimV z = z := by
  have a := dim_pos_V h0 false
  have b := dim_pos_E h0
  by_cases hb : 1073741823 < z
  · rw [if_pos hb] at b; omega
  · rw [if_neg hb] at a; exact a

theorem dim_out {z : Int} (h : ¬ dimE z = 0) : dimE z = 20 ∧ dimV z = 0 := by
  unfold dimE at h ⊢; unfold dimV
  by_cases hg : greatB z = true
  · rw [if_pos hg, if_pos hg]; exact ⟨rfl, rfl⟩
  · rw [if_neg hg] at h; exact absurd rfl h

set_option maxHeartbeats 8000000 in
set_option maxRecDepth 100000 in
set_option linter.unusedVariables false in
theorem knuth_body (n : Int) (w : World) (HT : Hid (Tabs w)) (s : Int) (s0 : -1073741823 ≤ s) (s1 : s ≤ 1073741823)
    (Hdimn : ∀ w : World, Hid (Calls Tryd.prog 36 #[.int .i64 n] w fun e w' => e = .returned (.int .i64 s) ∧ w = w'))
    (Hpr : Hid (∀ w : World, Tabs w → Calls Tryd.prog 32 #[.int .i64 s] w fun e w' => e = .returned (.string ⟨(printL s).toArray⟩) ∧ Kept w w'))
    (q : Nat) (hq : q ≤ 16383) (T : ByteArray) (hTs : T.size ≤ 100000)
    (Hparse : Hid (∀ w : World, Calls Tryd.prog 27 #[.string T] w fun e w' => e = .returned (.tuple #[.int .i64 s, .int .i64 0]) ∧ Kept w w'))
    (a : Int) (hmx : max s (-s) = a) (haq : a / 65536 = (q : Int)) (d : Nat) (fl5 : d ≤ 5) (fl1 : 1 ≤ d)
    (Hbeh : Hid (∀ w : World, Calls Tryd.prog 38 #[.string T] w fun e w' => e = .returned (.int .i64 (d : Int)) ∧ w = w'))
    (Hz : Hid (∀ k : Nat, k < 10 ^ (d - 1) → 2 ≤ d → sizeDP (Lib.decDigits q) (padL k (d - 1)) ≠ a))
    (Hz0 : Hid (∀ k : Nat, 0 ≤ sizeDP (Lib.decDigits q) (padL k (d - 1))))
    (Hpk : Hid (∀ (k : Nat) (w : World), k ≤ 1000000 → Calls Tryd.prog 27 #[.string ((⟨(Lib.decDigits q).toArray⟩ : ByteArray) ++ ⟨#[46]⟩ ++ ⟨(padL k (d - 1)).toArray⟩)] w fun e w' => e = .returned (.tuple #[.int .i64 (dimV (sizeDP (Lib.decDigits q) (padL k (d - 1)))), .int .i64 (dimE (sizeDP (Lib.decDigits q) (padL k (d - 1))))]) ∧ Kept w w'))
    (Hlast : Hid (∀ w : World, Calls Tryd.prog 27 #[.string ((⟨(Lib.decDigits (q + 1)).toArray⟩ : ByteArray) ++ ⟨#[46, 48]⟩)] w fun e w' => e = .returned (.tuple #[.int .i64 (dimV (65536 * ((q : Int) + 1))), .int .i64 (dimE (65536 * ((q : Int) + 1)))]) ∧ Kept w w'))
    (Hnum : ∀ w : World, Hid (Calls Tryd.prog 39 #[.int .i64 (q : Int)] w fun e w' => e = .returned (.string ⟨(Lib.decDigits q).toArray⟩) ∧ Kept w w'))
    (Hnum1 : ∀ w : World, Hid (Calls Tryd.prog 39 #[.int .i64 ((q : Int) + 1)] w fun e w' => e = .returned (.string ⟨(Lib.decDigits (q + 1)).toArray⟩) ∧ Kept w w'))
    (hDl : (Lib.decDigits q).length ≤ q + 1) (hDl1 : (Lib.decDigits (q + 1)).length ≤ q + 1 + 1)
    (Hlq : Hid (65536 * ((q : Int) + 1) ≠ a)) (Hbmk : Hid ((⟨(printL s).toArray⟩ : ByteArray) = T))
    (a0 : 0 ≤ a) (a1 : a ≤ 1073741823) :
    Calls Tryd.prog 8 #[.int .i64 n] w fun e w' => e = .returned (.bool true) ∧ Kept w w' := by
  go_enter Tryd.func8, Tryd.ntmps8
  go_wp2_with (fail)
  refine (Hdimn _).out.mono ?_
  rintro e u0 ⟨rfl, rfl⟩
  go_wp2_with (fail)
  refine (Hpr.out _ HT.out).mono ?_
  rintro e u1 ⟨rfl, k1⟩
  rw [Hbmk.out]
  go_wp2_with (fail)
  refine (Hparse.out _).mono ?_
  rintro e u2 ⟨rfl, k2⟩
  have K2 := Lib.hid (k1.trans k2)
  clear k1 k2
  go_wp2_with (fail)
  refine (Hbeh.out _).mono ?_
  rintro e u3 ⟨rfl, rfl⟩
  by_cases hd1 : d = 1
  · subst hd1
    go_wp2_with (first | (go_at_call 20; refine (num_any _ _).mono ?_; rintro e w' ⟨rfl, rfl⟩) | (go_at_call 21; refine (knows_any _ (HT.out.kept K2.out)).mono ?_; rintro e u9 ⟨rfl, k9⟩))
    go_ret
    exact ⟨rfl, K2.out.trans k9⟩
  · have hd1b : ((d : Int) == 1) = false := beq_eq_false_iff_ne.2 (by omega)
    go_wp2_with (first | (go_at_call 20; refine (num_any _ _).mono ?_; rintro e w' ⟨rfl, rfl⟩) | (go_at_call 21; refine (knows_any _ (HT.out.kept K2.out)).mono ?_; rintro e u9 ⟨rfl, k9⟩))
    have K3 := Lib.hid (K2.out.trans k9)
    clear k9
    rw [haq]
    have Hmx := Lib.hid hmx
    have Haq := Lib.hid haq
    clear hd1b
    go_loop [9, 10] (fun al i => ∃ j : Nat, j ≤ d - 1 ∧ i = .int .i64 ((j : Int) + 1) ∧ al = .int .i64 ((10 ^ j : Nat) : Int)) (fun _ i => d - (intOf i).toNat)
    case atStart => exact ⟨0, by omega, rfl, rfl⟩
    case round =>
    obtain ⟨j, hj, rfl, rfl⟩ := hrel
    have hpw : 1 ≤ 10 ^ j ∧ 10 ^ j ≤ 10000 := by
      have h1 : 10 ^ j ≤ 10 ^ 4 := Nat.pow_le_pow_right (by omega) (by omega)
      exact ⟨Nat.pos_of_ne_zero (by simp), h1⟩
    have hpn : 10 ^ (j + 1) = 10 * 10 ^ j := by rw [Nat.pow_succ, Nat.mul_comm]
    have Hpn := Lib.hid hpn
    obtain ⟨p, hpp⟩ : ∃ p, 10 ^ j = p := ⟨_, rfl⟩
    rw [hpp] at hpw Hpn
    rw [hpp]
    have Hpp := Lib.hid hpp
    obtain ⟨p1, p2⟩ := hpw
    clear hpn hpp haq
    by_cases hlt : j + 1 < d
    · have hlt2 : (j : Int) + 1 < (d : Int) := by omega
      go_wp2
      go_round
      case rel => exact ⟨j + 1, by omega, by go_num, by rw [Hpn.out]; go_num⟩
      case measure => simp [intOf]; omega
    · have hlt2 : ¬ (j : Int) + 1 < (d : Int) := by omega
      have hjd : Hid (j = d - 1) := Lib.hid (by omega)
      go_wp2
      go_loopw [11] (fun k wr => ∃ c : Nat, c ≤ p ∧ k = .int .i64 c ∧ Hid (Kept w wr)) (fun k _ => p - (intOf k).toNat)
      case atStart => exact ⟨0, by omega, rfl, K3⟩
      case round =>
      obtain ⟨c, hc, rfl, hkw⟩ := hrel
      by_cases hcl : c < p
      · have hd1e : ((d - 1 : Nat) : Int) = (d : Int) - 1 := by omega
        have Hpad := fun w => Lib.hid (padded_any c (d - 1) w (by omega) (by omega))
        rw [hd1e] at Hpad
        have hne := Hz.out c (by rw [← hjd.out, Hpp.out]; exact hcl) (by omega)
        have h0 := Hz0.out c
        have Hp := fun w => Lib.hid (Hpk.out c w (by omega))
        have hPl : (padL c (d - 1)).length ≤ c + 10 := by
          unfold padL; rw [List.length_append, List.length_replicate]; have := dec_len c; omega
        obtain ⟨z, hzz⟩ : ∃ z, sizeDP (Lib.decDigits q) (padL c (d - 1)) = z := ⟨_, rfl⟩
        rw [hzz] at hne h0 Hp
        have hE : (dimE z == 0) = true ∧ dimV z = z ∧ (z == a) = false ∨ (dimE z == 0) = false := by
          by_cases he : dimE z = 0
          · exact .inl ⟨beq_iff_eq.2 he, dim_same h0 he, beq_eq_false_iff_ne.2 hne⟩
          · exact .inr (beq_eq_false_iff_ne.2 he)
        generalize padL c (d - 1) = P at *
        generalize Lib.decDigits q = D at *
        clear hd1e hzz hne
        rcases hE with ⟨e1, e2, e3⟩ | e1
        · rw [e2] at Hp
          have e1' : dimE z = 0 := beq_iff_eq.1 e1
          rw [e1'] at Hp
          clear e1 e1' e2
          go_wp2_with (fail)
          refine (Hnum _).out.mono ?_
          rintro e u5 ⟨rfl, k5⟩
          go_wp2_with (fail)
          refine (Hpad _).out.mono ?_
          rintro e u6 ⟨rfl, k6⟩
          go_wp2_with (fail)
          refine (Hp _).out.mono ?_
          rintro e u7 ⟨rfl, k7⟩
          have K7 := Lib.hid (hkw.out.trans (k5.trans (k6.trans k7)))
          clear k5 k6 k7
          go_wp2_with ((go_at_call 20; refine (num_any _ _).mono ?_; rintro e w' ⟨rfl, rfl⟩))
          go_roundw
          case rel => exact ⟨c + 1, by omega, by go_num, K7⟩
          case measure => simp [intOf]; omega
        · go_wp2_with (fail)
          refine (Hnum _).out.mono ?_
          rintro e u5 ⟨rfl, k5⟩
          go_wp2_with (fail)
          refine (Hpad _).out.mono ?_
          rintro e u6 ⟨rfl, k6⟩
          go_wp2_with (fail)
          refine (Hp _).out.mono ?_
          rintro e u7 ⟨rfl, k7⟩
          have K7 := Lib.hid (hkw.out.trans (k5.trans (k6.trans k7)))
          clear k5 k6 k7
          go_wp2_with ((go_at_call 20; refine (num_any _ _).mono ?_; rintro e w' ⟨rfl, rfl⟩))
          go_roundw
          case rel => exact ⟨c + 1, by omega, by go_num, K7⟩
          case measure => simp [intOf]; omega
      · have hE : dimE (65536 * ((q : Int) + 1)) = 0 ∧ dimV (65536 * ((q : Int) + 1)) = 65536 * ((q : Int) + 1) ∧ (65536 * ((q : Int) + 1) == a) = false ∨ dimE (65536 * ((q : Int) + 1)) = 20 ∧ dimV (65536 * ((q : Int) + 1)) = 0 := by
          by_cases he : dimE (65536 * ((q : Int) + 1)) = 0
          · exact .inl ⟨he, dim_same (by omega) he, beq_eq_false_iff_ne.2 Hlq.out⟩
          · exact .inr (dim_out he)
        have Hl := fun w => Lib.hid (Hlast.out w)
        generalize 65536 * ((q : Int) + 1) = z at *
        generalize Lib.decDigits (q + 1) = D1 at *
        rcases hE with ⟨e1, e2, e3⟩ | ⟨e1, e2⟩
        · rw [e1, e2] at Hl
          have e4 : ¬ z = a := beq_eq_false_iff_ne.1 e3
          clear e1 e2
          go_wp2_with (fail)
          refine (Hnum1 _).out.mono ?_
          rintro e u5 ⟨rfl, k5⟩
          go_wp2_with (fail)
          refine (Hl _).out.mono ?_
          rintro e u6 ⟨rfl, k6⟩
          go_wp2_with ((go_at_call 20; refine (num_any _ _).mono ?_; rintro e w' ⟨rfl, rfl⟩))
          go_ret
          exact ⟨ret_bool (by simp [e4]), hkw.out.trans (k5.trans k6)⟩
        · rw [e1, e2] at Hl
          clear e1 e2
          go_wp2_with (fail)
          refine (Hnum1 _).out.mono ?_
          rintro e u5 ⟨rfl, k5⟩
          go_wp2_with (fail)
          refine (Hl _).out.mono ?_
          rintro e u6 ⟨rfl, k6⟩
          go_wp2_with ((go_at_call 20; refine (num_any _ _).mono ?_; rintro e w' ⟨rfl, rfl⟩))
          go_ret
          exact ⟨ret_bool (by rfl), hkw.out.trans (k5.trans k6)⟩

set_option maxHeartbeats 8000000 in
set_option maxRecDepth 100000 in
set_option linter.unusedVariables false in
theorem scaledKnuth_walk (n : Int) (w0 : (Lit.int .i64 n).wf = true) (w : World) (ht : Tabs w) :
    Calls Tryd.prog 8 #[.int .i64 n] w fun e w' => e = .returned (.bool true) ∧ Kept w w' := by
  clear w0
  have HT := Lib.hid ht
  clear ht
  obtain ⟨s0, s1⟩ := dimn_bd n
  have Hdimn := fun w => Lib.hid (dimen_any n w)
  generalize dimn n = s at *
  have hfit : fitB s = true := by simp [fitB]; omega
  have Hpr := Lib.hid (fun w ht => print_any s w ht)
  rw [if_pos hfit] at Hpr
  obtain ⟨pv, pe⟩ := parse_print s s0 s1
  obtain ⟨A, q, f, hp, hf, ha, hq, hA, hAA⟩ := print_parts s s0 s1
  obtain ⟨fb, fl1, fl5, fd⟩ := fracOf_back hf
  have hAl : A.length ≤ q + 3 := by
    have := dec_len q
    rcases hAA with ⟨rfl, _⟩ | ⟨rfl, _⟩
    · omega
    · rw [List.length_cons]; omega
  obtain ⟨T, hT⟩ : ∃ T, T = bmk (printL s) := ⟨_, rfl⟩
  have hTl : T.data.toList = A ++ 46 :: fracOf (f : Int) := by rw [hT, bmk_list, hp]
  have hTs : T.size ≤ 100000 := by rw [Lib.size_eq, hTl]; simp; omega
  have Hparse := Lib.hid (fun w => parse_any T w (by omega))
  rw [show T.data.toList = printL s from by rw [hT]; rfl, pv, pe] at Hparse
  have Hbeh := Lib.hid (fun w => behind_any T A (fracOf (f : Int)) hTl hA (by omega) w)
  obtain ⟨a, haa⟩ : ∃ a, a = absI s := ⟨_, rfl⟩
  have hmx : max s (-s) = a := by rw [haa]; unfold absI; split <;> omega
  have ha0 : 0 ≤ a ∧ a ≤ 1073741823 := by omega
  have haq : a / 65536 = (q : Int) := by omega
  obtain ⟨d, hd⟩ : ∃ d, d = (fracOf (f : Int)).length := ⟨_, rfl⟩
  rw [← hd] at Hbeh fl1 fl5
  -- the texts of the shorter decimals
  have hz : ∀ k, k < 10 ^ (d - 1) → 2 ≤ d → sizeDP (Lib.decDigits q) (padL k (d - 1)) ≠ a := by
    intro k hk h2 he
    have := no_shorter hf (d := d - 1) (by omega) hk (by omega)
    unfold sizeDP at he
    rw [wholeN_dec q (by omega)] at he
    omega
  have hz0 : ∀ k, 0 ≤ sizeDP (Lib.decDigits q) (padL k (d - 1)) := by
    intro k
    have x := wholeN_bd (Lib.decDigits q) (dec_dig q)
    have y := fracN_bd (padL k (d - 1)) (padL_dig k (d - 1))
    unfold sizeDP; omega
  have hpk : ∀ k w, k ≤ 1000000 → Calls Tryd.prog 27 #[.string ((⟨(Lib.decDigits q).toArray⟩ : ByteArray) ++ ⟨#[46]⟩ ++ ⟨(padL k (d - 1)).toArray⟩)] w fun e w' => e = .returned (.tuple #[.int .i64 (dimV (sizeDP (Lib.decDigits q) (padL k (d - 1)))), .int .i64 (dimE (sizeDP (Lib.decDigits q) (padL k (d - 1))))]) ∧ Kept w w' := by
    intro k w hk
    have hj : (⟨(Lib.decDigits q).toArray⟩ : ByteArray) ++ ⟨#[46]⟩ ++ ⟨(padL k (d - 1)).toArray⟩ = bmk (Lib.decDigits q ++ 46 :: padL k (d - 1)) := WideShapes.bytes_inj (by simp [bmk])
    obtain ⟨v, e⟩ := parse_text (dec_dig q) (dec_pos q) (padL_dig k (d - 1))
    have hpl : (padL k (d - 1)).length ≤ k + 10 := by
      unfold padL; rw [List.length_append, List.length_replicate]; have := dec_len k; omega
    have := parse_any (bmk (Lib.decDigits q ++ 46 :: padL k (d - 1))) w (by rw [bmk_size]; simp; have := dec_len q; omega)
    rw [bmk_list, v, e, ← hj] at this
    exact this
  have hlast : ∀ w, Calls Tryd.prog 27 #[.string ((⟨(Lib.decDigits (q + 1)).toArray⟩ : ByteArray) ++ ⟨#[46, 48]⟩)] w fun e w' => e = .returned (.tuple #[.int .i64 (dimV (65536 * (q + 1))), .int .i64 (dimE (65536 * (q + 1)))]) ∧ Kept w w' := by
    intro w
    have hj : (⟨(Lib.decDigits (q + 1)).toArray⟩ : ByteArray) ++ ⟨#[46, 48]⟩ = bmk (Lib.decDigits (q + 1) ++ 46 :: [48]) := WideShapes.bytes_inj (by simp [bmk])
    obtain ⟨v, e⟩ := parse_text (P := [48]) (dec_dig (q + 1)) (dec_pos (q + 1)) (by decide)
    have hs : sizeDP (Lib.decDigits (q + 1)) [48] = 65536 * (q + 1) := by
      unfold sizeDP; rw [wholeN_dec (q + 1) (by omega), show fracN [48] = 0 from by decide]; omega
    have := parse_any (bmk (Lib.decDigits (q + 1) ++ 46 :: [48])) w (by rw [bmk_size]; simp; have := dec_len (q + 1); omega)
    rw [bmk_list, v, e, ← hj, hs] at this
    exact this
  have Hz := Lib.hid hz
  have Hz0 := Lib.hid hz0
  have Hpk := Lib.hid hpk
  have Hlast := Lib.hid hlast
  have Hnum := fun w => Lib.hid (number_nat q (by omega) w)
  have Hnum1 := fun w => Lib.hid (number_nat (q + 1) (by omega) w)
  rw [show ((q + 1 : Nat) : Int) = (q : Int) + 1 from by omega] at Hnum1
  have hDl := dec_len q
  have hDl1 := dec_len (q + 1)
  have hlq : 65536 * ((q : Int) + 1) ≠ a := by omega
  have Hlq := Lib.hid hlq
  have hbmk : (⟨(printL s).toArray⟩ : ByteArray) = T := hT.symm
  have Hbmk := Lib.hid hbmk
  clear hz hz0 hpk hlast hlq hbmk hT hTl pv pe hp hf ha hA hAA fb fd hd haa hfit hAl
  obtain ⟨a0, a1⟩ := ha0
  exact knuth_body n w HT s s0 s1 Hdimn Hpr q hq T hTs Hparse a hmx haq d fl5 fl1 Hbeh Hz Hz0 Hpk Hlast Hnum Hnum1 hDl hDl1 Hlq Hbmk a0 a1
end Go.Proofs.YtcdblgfaojejnaaDoor
