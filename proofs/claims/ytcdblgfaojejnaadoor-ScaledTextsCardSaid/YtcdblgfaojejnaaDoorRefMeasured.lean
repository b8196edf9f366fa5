/- The document's Measured and Dimen. -/
import Derived.Test.YtcdblgfaojejnaaDoorRefDimen
namespace Go.Proofs.YtcdblgfaojejnaaDoor
open Go.RowKit

theorem quo_parts (wh f n d : Int) (hd : 1 ≤ d) : n * (65536 * wh + f) / d = 65536 * (wh * n / d) + (n * f + 65536 * (wh * n % d)) / d := by
  have h : n * (65536 * wh + f) = (n * f + 65536 * (wh * n % d)) + d * (65536 * (wh * n / d)) := by
    have h2 := Int.emod_add_mul_ediv (wh * n) d
    have h3 : n * (65536 * wh + f) = 65536 * (wh * n) + n * f := by
      rw [Int.mul_add, ← Int.mul_assoc, Int.mul_comm n 65536, Int.mul_assoc, Int.mul_comm n wh]
    have h4 : d * (65536 * (wh * n / d)) = 65536 * (d * (wh * n / d)) := by
      rw [← Int.mul_assoc, Int.mul_comm d 65536, Int.mul_assoc]
    omega
  rw [h, Int.add_mul_ediv_left _ _ (by omega)]
  omega

def measSize (wh f : Int) (u : Un) : Int := if u.d = 0 then wh else u.n * (65536 * wh + f) / u.d

set_option maxHeartbeats 4000000 in
theorem measuredSp_any (wh f : Int) (m : Bool) (w : World) (a0 : 0 ≤ wh) (a1 : wh ≤ 1099511627776) :
    Calls Tryd.prog 60 #[.int .i64 wh, .int .i64 f, .string ⟨#[115, 112]⟩, .bool m] w fun e w' => e = .returned (.tuple #[.int .i64 (dimV (if m then -wh else wh)), .int .i64 (dimE wh)]) ∧ w = w' := by
  rw [dim_pos_V a0, dim_pos_E a0]
  by_cases hw : 1073741823 < wh
  · rw [if_pos hw, if_pos hw]
    go_enter Tryd.func60, Tryd.ntmps60
    go_wp2
    go_ret2
    exact ⟨rfl, rfl⟩
  · rw [if_neg hw, if_neg hw]
    cases m
    all_goals
      go_enter Tryd.func60, Tryd.ntmps60
      go_wp2
      go_ret2
      exact ⟨rfl, rfl⟩

set_option maxHeartbeats 4000000 in
theorem measuredU_any (wh f n d : Int) (s : ByteArray) (m : Bool) (w : World) (a0 : 0 ≤ wh) (a1 : wh ≤ 1099511627776) (b0 : 0 ≤ f) (b1 : f ≤ 65536) (hsp : s.data.toList ≠ [115, 112]) (hu : refUnit s.data.toList = some (n, d)) (n0 : 1 ≤ n) (n1 : n ≤ 14856) (d0 : 1 ≤ d) (d1 : d ≤ 7200) :
    Calls Tryd.prog 60 #[.int .i64 wh, .int .i64 f, .string s, .bool m] w fun e w' => e = .returned (.tuple #[.int .i64 (if 2147483647 < wh then 0 else dimV (if m then -(n * (65536 * wh + f) / d) else n * (65536 * wh + f) / d)), .int .i64 (if 2147483647 < wh then 20 else dimE (n * (65536 * wh + f) / d))]) ∧ w = w' := by
  have hsp' : (s.toList == [115, 112]) = false := by rw [beq_eq_false_iff_ne, Lib.toList_data]; exact hsp
  have Hu := Lib.hid (refUnit_any s w)
  rw [show unitValue s.data.toList = .tuple #[.int .i64 n, .int .i64 d, .bool true] from by unfold unitValue; rw [hu]] at Hu
  clear hsp hu
  by_cases hw : 2147483647 < wh
  · rw [if_pos hw, if_pos hw]
    go_enter Tryd.func60, Tryd.ntmps60
    go_wp2_with (go_at_call 72; refine Hu.out.mono ?_; rintro e w' ⟨rfl, rfl⟩)
    go_ret2
    exact ⟨rfl, rfl⟩
  · rw [if_neg hw, if_neg hw]
    have p : 0 ≤ wh * n ∧ wh * n ≤ 2147483647 * 14856 := ⟨Int.mul_nonneg a0 (by omega), Int.mul_le_mul (by omega) n1 (by omega) (by omega)⟩
    have q : 0 ≤ n * f ∧ n * f ≤ 14856 * 65536 := ⟨Int.mul_nonneg (by omega) b0, Int.mul_le_mul n1 b1 b0 (by omega)⟩
    have r : 0 ≤ wh * n % d ∧ wh * n % d ≤ 7200 := ⟨Int.emod_nonneg _ (by omega), by have := Int.emod_lt_of_pos (wh * n) (show 0 < d by omega); omega⟩
    have u : 0 ≤ wh * n / d ∧ wh * n / d ≤ 2147483647 * 14856 := ⟨Int.ediv_nonneg p.1 (by omega), Int.le_trans (Int.ediv_le_self _ p.1) p.2⟩
    have v : 0 ≤ (n * f + 65536 * (wh * n % d)) / d ∧ (n * f + 65536 * (wh * n % d)) / d ≤ 14856 * 65536 + 65536 * 7200 := ⟨Int.ediv_nonneg (by omega) (by omega), Int.le_trans (Int.ediv_le_self _ (by omega)) (by omega)⟩
    have hq := quo_parts wh f n d d0
    generalize hQ : n * (65536 * wh + f) / d = Q at *
    have hQ2 : Hid (65536 * (wh * n / d + (n * f + 65536 * (wh * n % d)) / d / 65536) + (n * f + 65536 * (wh * n % d)) / d % 65536 = Q) := Lib.hid (by omega)
    have Hm := Lib.hid (fun w => made_any (wh * n / d + (n * f + 65536 * (wh * n % d)) / d / 65536) ((n * f + 65536 * (wh * n % d)) / d % 65536) m w (by omega) (by omega) (by omega) (by omega))
    rw [hQ2.out] at Hm
    obtain ⟨p0, p1⟩ := p
    obtain ⟨q0, q1⟩ := q
    obtain ⟨r0, r1⟩ := r
    obtain ⟨u0, u1⟩ := u
    obtain ⟨v0, v1⟩ := v
    clear hq hQ
    cases m
    all_goals
      go_enter Tryd.func60, Tryd.ntmps60
      go_wp2_with (first | (go_at_call 72; refine Hu.out.mono ?_; rintro e w' ⟨rfl, rfl⟩) | (go_at_call 59; refine (Hm.out _).mono ?_; rintro e w' ⟨rfl, rfl⟩))
      go_ret2
      exact ⟨rfl, rfl⟩

set_option maxHeartbeats 4000000 in
theorem measuredNo_any (wh f : Int) (s : ByteArray) (m : Bool) (w : World) (hsp : s.data.toList ≠ [115, 112]) (hu : refUnit s.data.toList = none) :
    Calls Tryd.prog 60 #[.int .i64 wh, .int .i64 f, .string s, .bool m] w fun e w' => e = .returned (.tuple #[.int .i64 0, .int .i64 21]) ∧ w = w' := by
  have hsp' : (s.toList == [115, 112]) = false := by rw [beq_eq_false_iff_ne, Lib.toList_data]; exact hsp
  have Hu := Lib.hid (refUnit_any s w)
  rw [show unitValue s.data.toList = .tuple #[.int .i64 0, .int .i64 0, .bool false] from by unfold unitValue; rw [hu]] at Hu
  clear hsp hu
  go_enter Tryd.func60, Tryd.ntmps60
  go_wp2_with (go_at_call 72; refine Hu.out.mono ?_; rintro e w' ⟨rfl, rfl⟩)
  go_ret2
  exact ⟨rfl, rfl⟩

theorem unit_sorts : ∀ u ∈ unitL, (u.name = [115, 112] ∧ u.d = 0) ∨ (u.name ≠ [115, 112] ∧ refUnit u.name = some (u.n, u.d) ∧ 1 ≤ u.n ∧ u.d ≤ u.n ∧ u.n ≤ 14856 ∧ 1 ≤ u.d ∧ u.d ≤ 7200) := by decide
theorem unit_none {l : List UInt8} (h : ∀ u ∈ unitL, u.name ≠ l) : l ≠ [115, 112] ∧ refUnit l = none := by
  simp only [unitL, List.mem_cons, List.not_mem_nil, or_false, forall_eq_or_imp, forall_eq] at h
  obtain ⟨h0, h1, h2, h3, h4, h5, h6, h7, h8⟩ := h
  refine ⟨fun e => h8 e.symm, ?_⟩
  unfold refUnit
  rw [if_neg (fun e => h0 e.symm), if_neg (fun e => h1 e.symm), if_neg (fun e => h2 e.symm), if_neg (fun e => h3 e.symm), if_neg (fun e => h4 e.symm), if_neg (fun e => h5 e.symm), if_neg (fun e => h6 e.symm), if_neg (fun e => h7 e.symm)]

theorem big_ratio {n d x : Int} (hd : 1 ≤ d) (hn : d ≤ n) (hx : 0 ≤ x) : x ≤ n * x / d := by
  refine Int.le_ediv_of_mul_le (by omega) ?_
  rw [Int.mul_comm]
  exact Int.mul_le_mul_of_nonneg_right hn hx

/-- of a unit's name: what comes of the number, as the program cuts it at 2^31 -/
theorem measured_any (wh f : Int) (u : Un) (hu : u ∈ unitL) (m : Bool) (w : World) (a0 : 0 ≤ wh) (a1 : wh ≤ 1099511627776) (b0 : 0 ≤ f) (b1 : f ≤ 65536) :
    Calls Tryd.prog 60 #[.int .i64 wh, .int .i64 f, .string (bmk u.name), .bool m] w fun e w' => e = .returned (.tuple #[.int .i64 (dimV (if m then -measSize (min wh 2147483648) f u else measSize (min wh 2147483648) f u)), .int .i64 (dimE (measSize (min wh 2147483648) f u))]) ∧ w = w' := by
  rcases unit_sorts u hu with ⟨hn, hd⟩ | ⟨hsp, hr, n0, dn, n1, d0, d1⟩
  · rw [hn]
    have h := measuredSp_any wh f m w a0 a1
    have e1 : dimV (if m then -wh else wh) = dimV (if m then -measSize (min wh 2147483648) f u else measSize (min wh 2147483648) f u) := by
      unfold measSize; rw [if_pos hd, dim_pos_V a0, dim_pos_V (by omega)]
      by_cases hh : 1073741823 < wh
      · rw [if_pos hh, if_pos (by omega)]
      · rw [Int.min_eq_left (show wh ≤ 2147483648 by omega)]
    have e2 : dimE wh = dimE (measSize (min wh 2147483648) f u) := by
      unfold measSize; rw [if_pos hd, dim_pos_E a0, dim_pos_E (by omega)]
      by_cases hh : 1073741823 < wh
      · rw [if_pos hh, if_pos (by omega)]
      · rw [if_neg hh, if_neg (by omega)]
    rw [e1, e2] at h
    exact h
  · have h := measuredU_any wh f u.n u.d (bmk u.name) m w a0 a1 b0 b1 hsp hr n0 n1 d0 d1
    have hz : ∀ x, 0 ≤ x → 0 ≤ u.n * (65536 * x + f) / u.d := fun x hx => Int.ediv_nonneg (Int.mul_nonneg (by omega) (by omega)) (by omega)
    have e1 : (if 2147483647 < wh then 0 else dimV (if m then -(u.n * (65536 * wh + f) / u.d) else u.n * (65536 * wh + f) / u.d)) = dimV (if m then -measSize (min wh 2147483648) f u else measSize (min wh 2147483648) f u) := by
      unfold measSize; rw [if_neg (show ¬ u.d = 0 by omega)]
      by_cases hh : 2147483647 < wh
      · have := big_ratio (x := 65536 * min wh 2147483648 + f) d0 dn (by omega)
        rw [if_pos hh, dim_pos_V (hz _ (by omega)), if_pos (by omega)]
      · rw [if_neg hh, Int.min_eq_left (by omega)]
    have e2 : (if 2147483647 < wh then 20 else dimE (u.n * (65536 * wh + f) / u.d)) = dimE (measSize (min wh 2147483648) f u) := by
      unfold measSize; rw [if_neg (show ¬ u.d = 0 by omega)]
      by_cases hh : 2147483647 < wh
      · have := big_ratio (x := 65536 * min wh 2147483648 + f) d0 dn (by omega)
        rw [if_pos hh, dim_pos_E (hz _ (by omega)), if_pos (by omega)]
      · rw [if_neg hh, Int.min_eq_left (by omega)]
    rw [e1, e2] at h
    exact h

theorem numLeft_suffix (l : List UInt8) : numLeft l <:+ l := by
  have h1 : rest l <:+ l := List.dropWhile_suffix _
  have h2 : Lib.trimPrefix (rest l) [46] <:+ rest l := by unfold Lib.trimPrefix; split; exact List.drop_suffix _ _; exact List.suffix_rfl
  have h3 : rest (Lib.trimPrefix (rest l) [46]) <:+ Lib.trimPrefix (rest l) [46] := List.dropWhile_suffix _
  unfold numLeft; split
  · exact (h3.trans h2).trans h1
  · exact h1
theorem unit_own : ∀ u ∈ unitL, unitOf u.name = some u := by
  intro u hu
  simp only [unitL, List.mem_cons, List.not_mem_nil, or_false] at hu
  rcases hu with rfl | rfl | rfl | rfl | rfl | rfl | rfl | rfl | rfl <;> rfl
theorem dimenOk_iff (l : List UInt8) (hn : numOk (afterSign l) = true) : dimenOk l = true ↔ ∃ u ∈ unitL, leftOf l = u.name ∧ unitOf (leftOf l) = some u := by
  unfold dimenOk
  rw [hn, Bool.true_and]
  constructor
  · intro h
    cases hu : unitOf (leftOf l) with
    | none => rw [hu] at h; cases h
    | some u =>
      rw [hu] at h
      have hd : (leftOf l).drop 2 = [] := List.isEmpty_iff.1 h
      have hm := unitOf_mem hu
      have hp : Lib.hasPrefix (leftOf l) u.name = true := by have := List.find?_some hu; simpa using this
      have h2 := unit_two u hm
      obtain ⟨t, ht⟩ := List.isPrefixOf_iff_prefix.1 hp
      rw [← ht, List.drop_append_of_le_length (by omega), List.drop_of_length_le (by omega), List.nil_append] at hd
      exact ⟨u, hm, by rw [← ht, hd, List.append_nil], rfl⟩
  · rintro ⟨u, hm, he, hu⟩
    rw [hu]
    show ((leftOf l).drop 2).isEmpty = true
    rw [he, List.drop_of_length_le (by rw [unit_two u hm]; omega)]; rfl

set_option maxHeartbeats 4000000 in
theorem refDimen_any (s : ByteArray) (w : World) (hs : s.size ≤ 9223372036854775807) :
    Calls Tryd.prog 31 #[.string s] w fun e w' => e = .returned (.tuple #[.int .i64 (dimenV s.data.toList), .int .i64 (dimenE s.data.toList)]) ∧ w = w' := by
  have hal : (afterSign s.data.toList).length ≤ s.size := by rw [Lib.size_eq]; exact trim_len _ _
  have Hsg := Lib.hid (refSigned_any s w hs)
  have Hsg' : ∀ A, afterSign s.data.toList = A → Hid (Calls Tryd.prog 57 #[.string s] w fun e w' => e = .returned (.tuple #[.string (bmk A), .bool (minusOf s.data.toList)]) ∧ w = w') := fun A hA => by rw [← hA]; exact Hsg
  obtain ⟨A, hA⟩ : ∃ A, afterSign s.data.toList = A := ⟨_, rfl⟩
  replace Hsg := Hsg' A hA
  clear Hsg'
  rw [hA] at hal
  have hsz : (bmk A).size = A.length := bmk_size A
  have Hd := Lib.hid (refDecimal_any (bmk A) w (by omega))
  rw [bmk_list] at Hd
  obtain ⟨⟨b0, b1⟩, hwn⟩ := whole40_bd (digs A) (digs_all_dig _)
  obtain ⟨f0, f1⟩ := fracN_bd (numBehind A) (numBehind_dig _)
  cases hno : numOk A
  · have hok : dimenOk s.data.toList = false := by unfold dimenOk; rw [hA, hno]; rfl
    have e1 : dimenV s.data.toList = 0 := by simp [dimenV, hok]
    have e2 : dimenE s.data.toList = 21 := by simp [dimenE, hok]
    have d3 : refDn A = 0 := by unfold refDn; rw [hno, if_neg Bool.false_ne_true]
    rw [d3] at Hd
    rw [e1, e2]
    generalize refDw A = x at *
    generalize refDf A = y at *
    generalize minusOf s.data.toList = mm at *
    clear e1 e2 hok d3 hwn hno hA hsz
    go_enter Tryd.func31, Tryd.ntmps31
    go_wp2_with (first | (go_at_call 57; refine Hsg.out.mono ?_; rintro e w' ⟨rfl, rfl⟩) | (go_at_call 58; refine Hd.out.mono ?_; rintro e w' ⟨rfl, rfl⟩))
    go_ret2
    exact ⟨rfl, rfl⟩
  · have d1 : refDw A = whole40 (digs A) := by unfold refDw; rw [hno, if_pos rfl]
    have d2 : refDf A = fracN (numBehind A) := by unfold refDf; rw [hno, if_pos rfl]
    have hnl := numLeft_le A
    have hpos := numOk_pos hno
    obtain ⟨k, hk⟩ : ∃ k : Nat, k = A.length - (numLeft A).length := ⟨_, rfl⟩
    have d3 : refDn A = (k : Int) := by unfold refDn; rw [hno, if_pos rfl]; omega
    have hk1 : k ≤ (bmk A).size := by omega
    have hk0 : ((k : Int) == 0) = false := by
      rw [beq_eq_false_iff_ne]
      intro hz
      have hl : (numLeft A).length = A.length := by omega
      have he : numLeft A = A := (numLeft_suffix A).eq_of_length hl
      -- what is left is as long as all: no digit stands at the beginning, and no point
      have hr : rest A = A := by
        have h1 := rest_len A
        have h2 : (numLeft A).length ≤ (rest A).length := by
          have h2 := trim_len (rest A) [46]
          have h3 := rest_len (Lib.trimPrefix (rest A) [46])
          unfold numLeft; split <;> omega
        exact (List.IsSuffix.eq_of_length (List.dropWhile_suffix _) (by unfold rest at h1 h2 ⊢; omega))
      have hdg : digs A = [] := by
        have h := congrArg List.length (List.takeWhile_append_dropWhile (p := isDig) (l := A))
        rw [List.length_append] at h
        have h2 : (List.dropWhile isDig A).length = A.length := congrArg List.length hr
        exact List.eq_nil_of_length_eq_zero (by unfold digs; omega)
      have hpt : pointed A = false := by
        cases hp : pointed A
        · rfl
        · exfalso
          have hp' : Lib.hasPrefix (rest A) [46] = true := hp
          have h1 : numLeft A = rest (Lib.trimPrefix (rest A) [46]) := by unfold numLeft; rw [hp, if_pos rfl]
          have h2 : Lib.trimPrefix (rest A) [46] = (rest A).drop 1 := by unfold Lib.trimPrefix; rw [hp', if_pos rfl]; rfl
          have h3 := rest_len (Lib.trimPrefix (rest A) [46])
          rw [← h1, h2, List.length_drop, hr] at h3
          omega
      have : numOk A = false := by unfold numOk numBehind; rw [hdg, hpt]; rfl
      rw [this] at hno; cases hno
    have hcut : Hid ((bmk A).extract k (bmk A).size = bmk (numLeft A)) := Lib.hid (by
      rw [cut_back, bmk_list, hk]
      have h := List.suffix_iff_eq_drop.1 (numLeft_suffix A)
      rw [← h]; rfl)
    rw [d1, d2, d3] at Hd
    have hzk : Hid (k = A.length - (numLeft A).length) := Lib.hid hk
    cases hok : dimenOk s.data.toList
    · have e1 : dimenV s.data.toList = 0 := by simp [dimenV, hok]
      have e2 : dimenE s.data.toList = 21 := by simp [dimenE, hok]
      have hno2 : ∀ u ∈ unitL, u.name ≠ numLeft A := by
        intro u hu he
        have : dimenOk s.data.toList = true := (dimenOk_iff _ (by rw [hA]; exact hno)).2 ⟨u, hu, by unfold leftOf; rw [hA]; exact he.symm, by unfold leftOf; rw [hA, ← he]; exact unit_own u hu⟩
        rw [this] at hok; cases hok
      obtain ⟨s1, s2⟩ := unit_none hno2
      have Hm := Lib.hid (measuredNo_any (whole40 (digs A)) (fracN (numBehind A)) (bmk (numLeft A)) (minusOf s.data.toList) w s1 s2)
      rw [e1, e2]
      rw [← hcut.out] at Hm
      generalize whole40 (digs A) = x at *
      generalize fracN (numBehind A) = y at *
      generalize minusOf s.data.toList = mm at *
      clear e1 e2 hok d1 d2 d3 hwn hno hA hsz hk hno2 s1 s2
      go_enter Tryd.func31, Tryd.ntmps31
      go_wp2_with (first | (go_at_call 57; refine Hsg.out.mono ?_; rintro e w' ⟨rfl, rfl⟩) | (go_at_call 58; refine Hd.out.mono ?_; rintro e w' ⟨rfl, rfl⟩) | (go_at_call 60; refine Hm.out.mono ?_; rintro e w' ⟨rfl, rfl⟩))
      go_ret2
      exact ⟨rfl, rfl⟩
    · obtain ⟨u, hu, hlu, huo⟩ := (dimenOk_iff _ (by rw [hA]; exact hno)).1 hok
      have hlu' : numLeft A = u.name := by have := hlu; unfold leftOf at this; rw [hA] at this; exact this
      have hds : dimSize s.data.toList = measSize (wholeN (digs A)) (fracN (numBehind A)) u := by
        unfold dimSize; rw [huo]
        show (if u.d = 0 then wholeN (digs (afterSign s.data.toList)) else u.n * sizeOfText s.data.toList / u.d) = _
        unfold measSize sizeOfText; rw [hA]
      have e1 : dimenV s.data.toList = dimV (if minusOf s.data.toList then -measSize (min (whole40 (digs A)) 2147483648) (fracN (numBehind A)) u else measSize (min (whole40 (digs A)) 2147483648) (fracN (numBehind A)) u) := by
        rw [← hwn, ← hds]; simp [dimenV, hok]
      have e2 : dimenE s.data.toList = dimE (measSize (min (whole40 (digs A)) 2147483648) (fracN (numBehind A)) u) := by
        rw [← hwn, ← hds]; simp [dimenE, hok]
      have Hm := Lib.hid (measured_any (whole40 (digs A)) (fracN (numBehind A)) u hu (minusOf s.data.toList) w b0 b1 f0 f1)
      rw [e1, e2]
      rw [← hlu', ← hcut.out] at Hm
      generalize measSize (min (whole40 (digs A)) 2147483648) (fracN (numBehind A)) u = Z at *
      generalize whole40 (digs A) = x at *
      generalize fracN (numBehind A) = y at *
      generalize minusOf s.data.toList = mm at *
      clear e1 e2 hok d1 d2 d3 hwn hno hA hsz hk hds hlu hlu' huo
      cases mm
      all_goals
        go_enter Tryd.func31, Tryd.ntmps31
        go_wp2_with (first | (go_at_call 57; refine Hsg.out.mono ?_; rintro e w' ⟨rfl, rfl⟩) | (go_at_call 58; refine Hd.out.mono ?_; rintro e w' ⟨rfl, rfl⟩) | (go_at_call 60; refine Hm.out.mono ?_; rintro e w' ⟨rfl, rfl⟩))
        go_ret2
        exact ⟨rfl, rfl⟩
end Go.Proofs.YtcdblgfaojejnaaDoor
