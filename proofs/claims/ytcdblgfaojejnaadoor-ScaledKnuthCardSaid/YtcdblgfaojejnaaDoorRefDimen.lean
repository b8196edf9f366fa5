/- The document's signed, made, Parse, Unit, Measured, Dimen: they come to the program's answers. -/
import Derived.Test.YtcdblgfaojejnaaDoorRefDecimal
import Derived.Test.YtcdblgfaojejnaaDoorDimen
import Derived.Test.YtcdblgfaojejnaaDoorRefSums
namespace Go.Proofs.YtcdblgfaojejnaaDoor
open Go.RowKit

theorem trim_minus {l : List UInt8} (h : minusOf l = true) : afterSign l = l.drop 1 := by
  unfold afterSign Lib.trimPrefix; rw [show Lib.hasPrefix l [45] = true from h, if_pos rfl]; rfl
theorem trim_plain {l : List UInt8} (h : minusOf l = false) : afterSign l = l := by
  unfold afterSign Lib.trimPrefix; rw [show Lib.hasPrefix l [45] = false from h, if_neg Bool.false_ne_true]
theorem byte_45 {c : UInt8} (h : (c.toNat : Int) = 45) : c = 45 := by
  apply UInt8.toNat_inj.1
  have : (45 : UInt8).toNat = 45 := rfl
  omega

set_option maxHeartbeats 1000000 in
theorem refSigned_any (s : ByteArray) (w : World) (hs : s.size ≤ 9223372036854775807) :
    Calls Tryd.prog 57 #[.string s] w fun e w' => e = .returned (.tuple #[.string (bmk (afterSign s.data.toList)), .bool (minusOf s.data.toList)]) ∧ w = w' := by
  by_cases hz : s.size = 0
  · have hl : s.data.toList = [] := List.eq_nil_of_length_eq_zero (by rw [← Lib.size_eq]; exact hz)
    have e1 : minusOf s.data.toList = false := by rw [hl]; rfl
    have e2 : bmk (afterSign s.data.toList) = s := by rw [trim_plain e1]; rfl
    rw [e1, e2]
    have hz' : ¬ 0 < s.size := by omega
    clear e1 e2 hl
    go_enter Tryd.func57, Tryd.ntmps57
    go_wp2
    go_ret2
    exact ⟨rfl, rfl⟩
  · have hp : 0 < s.size := by omega
    have hat := at_list s 0 hp
    have hm : minusOf s.data.toList = ((45 : UInt8) == s[0]'hp) := prefix_one hat
    by_cases h45 : s[0]'hp = 45
    · have e1 : minusOf s.data.toList = true := by rw [hm, h45]; rfl
      have e2 : bmk (afterSign s.data.toList) = s.extract 1 s.size := by rw [trim_minus e1, cut_back]; rfl
      have h45' : (((s[0]'hp).toNat : Int) == 45) = true := by rw [h45]; rfl
      rw [e1, e2]
      clear e1 e2 hm hat h45
      go_enter Tryd.func57, Tryd.ntmps57
      go_wp2
      go_ret2
      exact ⟨rfl, rfl⟩
    · have e1 : minusOf s.data.toList = false := by rw [hm, beq_eq_false_iff_ne]; exact fun e => h45 e.symm
      have e2 : bmk (afterSign s.data.toList) = s := by rw [trim_plain e1]; rfl
      have h45' : (((s[0]'hp).toNat : Int) == 45) = false := by rw [beq_eq_false_iff_ne]; exact fun e => h45 (byte_45 e)
      rw [e1, e2]
      clear e1 e2 hm hat h45
      go_enter Tryd.func57, Tryd.ntmps57
      go_wp2
      go_ret2
      exact ⟨rfl, rfl⟩

/-- points by their sign: of numbers from 0 on -/
def madeV (wh f : Int) (m : Bool) : Int := dimV (if m then -(65536 * wh + f) else 65536 * wh + f)
theorem dim_pos_V {n : Int} (h : 0 ≤ n) (m : Bool) : dimV (if m then -n else n) = if 1073741823 < n then 0 else if m then -n else n := by
  unfold dimV greatB
  cases m <;> simp only [if_true, if_false, Bool.false_eq_true] <;> by_cases hh : 1073741823 < n
  · rw [if_pos (by simp; omega), if_pos hh]
  · rw [if_neg (by simp; omega), if_neg hh]
  · rw [if_pos (by simp; omega), if_pos hh]
  · rw [if_neg (by simp; omega), if_neg hh]
theorem dim_pos_E {n : Int} (h : 0 ≤ n) : dimE n = if 1073741823 < n then 20 else 0 := by
  unfold dimE greatB
  by_cases hh : 1073741823 < n
  · rw [if_pos (by simp; omega), if_pos hh]
  · rw [if_neg (by simp; omega), if_neg hh]

set_option maxHeartbeats 1000000 in
theorem made_any (wh f : Int) (m : Bool) (w : World) (a0 : 0 ≤ wh) (a1 : wh ≤ 16335000000000000) (b0 : 0 ≤ f) (b1 : f ≤ 65536) :
    Calls Tryd.prog 59 #[.int .i64 wh, .int .i64 f, .bool m] w fun e w' => e = .returned (.tuple #[.int .i64 (dimV (if m then -(65536 * wh + f) else 65536 * wh + f)), .int .i64 (dimE (65536 * wh + f))]) ∧ w = w' := by
  rw [dim_pos_V (by omega), dim_pos_E (by omega)]
  by_cases hg : 1073741823 < 65536 * wh + f
  · rw [if_pos hg, if_pos hg]
    by_cases hw : 1073741823 < wh
    all_goals
      go_enter Tryd.func59, Tryd.ntmps59
      go_wp2
      go_ret2
      exact ⟨rfl, rfl⟩
  · rw [if_neg hg, if_neg hg]
    have hw : ¬ 1073741823 < wh := by omega
    cases m
    all_goals
      go_enter Tryd.func59, Tryd.ntmps59
      go_wp2
      go_ret2
      exact ⟨rfl, rfl⟩

theorem dim_cap (wh f : Int) (m : Bool) (a0 : 0 ≤ wh) (b0 : 0 ≤ f) : dimV (if m then -(65536 * wh + f) else 65536 * wh + f) = dimV (if m then -(65536 * min wh 2147483648 + f) else 65536 * min wh 2147483648 + f) ∧ dimE (65536 * wh + f) = dimE (65536 * min wh 2147483648 + f) := by
  rw [dim_pos_V (by omega), dim_pos_V (by omega), dim_pos_E (by omega), dim_pos_E (by omega)]
  by_cases h : wh ≤ 2147483648
  · rw [Int.min_eq_left h]; exact ⟨rfl, rfl⟩
  · have h1 : 1073741823 < 65536 * wh + f := by omega
    have h2 : 1073741823 < 65536 * min wh 2147483648 + f := by omega
    rw [if_pos h1, if_pos h2, if_pos h1, if_pos h2]; exact ⟨rfl, rfl⟩
theorem numOk_pos {l : List UInt8} (h : numOk l = true) : 0 < l.length := by
  cases l with
  | nil => revert h; decide
  | cons a b => simp
theorem numLeft_le (l : List UInt8) : (numLeft l).length ≤ l.length := by
  have h1 := rest_len l
  have h2 := trim_len (rest l) [46]
  have h3 := rest_len (Lib.trimPrefix (rest l) [46])
  unfold numLeft; split <;> omega

set_option maxHeartbeats 2000000 in
theorem refParse_any (s : ByteArray) (w : World) (hs : s.size ≤ 9223372036854775807) :
    Calls Tryd.prog 30 #[.string s] w fun e w' => e = .returned (.tuple #[.int .i64 (parseV s.data.toList), .int .i64 (parseE s.data.toList)]) ∧ w = w' := by
  have hal : (afterSign s.data.toList).length ≤ s.size := by rw [Lib.size_eq]; exact trim_len _ _
  have Hsg := Lib.hid (refSigned_any s w hs)
  generalize hA : afterSign s.data.toList = A at *
  have hsz : (bmk A).size = A.length := bmk_size A
  have Hd := Lib.hid (refDecimal_any (bmk A) w (by omega))
  rw [bmk_list] at Hd
  obtain ⟨⟨b0, b1⟩, hwn⟩ := whole40_bd (digs A) (digs_all_dig _)
  obtain ⟨f0, f1⟩ := fracN_bd (numBehind A) (numBehind_dig _)
  have hnl := numLeft_le A
  cases hok : parseOk s.data.toList
  · have e1 : parseV s.data.toList = 0 := by simp [parseV, hok]
    have e2 : parseE s.data.toList = 21 := by simp [parseE, hok]
    rw [e1, e2]
    have hn : refDn A = 0 ∨ (0 < refDn A ∧ refDn A < A.length) := by
      unfold parseOk at hok
      rw [hA] at hok
      unfold refDn
      cases hno : numOk A
      · exact .inl rfl
      · rw [hno, Bool.true_and] at hok
        rw [if_pos rfl]
        have : 0 < (numLeft A).length := by
          cases hl : numLeft A with
          | nil => rw [hl] at hok; cases hok
          | cons a b => simp
        omega
    generalize refDn A = n at *
    generalize refDw A = x at *
    generalize refDf A = y at *
    have Hsz := Lib.hid hsz
    have hsz2 : (A.length : Int) ≤ (bmk A).size := by omega
    clear e1 e2 hok hwn hA hsz
    rcases hn with rfl | ⟨n0, n1⟩
    · go_enter Tryd.func30, Tryd.ntmps30
      go_wp2_with (first | (go_at_call 57; refine Hsg.out.mono ?_; rintro e w' ⟨rfl, rfl⟩) | (go_at_call 58; refine Hd.out.mono ?_; rintro e w' ⟨rfl, rfl⟩))
      go_ret2
      exact ⟨rfl, rfl⟩
    · have hn0 : (n == 0) = false := beq_eq_false_iff_ne.2 (by omega)
      have n2 : n < (bmk A).size := by omega
      go_enter Tryd.func30, Tryd.ntmps30
      go_wp2_with (first | (go_at_call 57; refine Hsg.out.mono ?_; rintro e w' ⟨rfl, rfl⟩) | (go_at_call 58; refine Hd.out.mono ?_; rintro e w' ⟨rfl, rfl⟩))
      go_ret2
      exact ⟨rfl, rfl⟩
  · have hok' : numOk A = true ∧ (numLeft A).isEmpty = true := by
      unfold parseOk at hok; rw [hA] at hok; exact Bool.and_eq_true_iff.1 hok
    have hl0 : (numLeft A).length = 0 := by
      have := hok'.2
      rw [List.isEmpty_iff] at this; rw [this]; rfl
    have e1 : parseV s.data.toList = dimV (if minusOf s.data.toList then -(65536 * whole40 (digs A) + fracN (numBehind A)) else 65536 * whole40 (digs A) + fracN (numBehind A)) := by
      rw [(dim_cap _ _ _ b0 f0).1, ← hwn]
      simp only [parseV, hok, if_true, sizeOfText, hA]
    have e2 : parseE s.data.toList = dimE (65536 * whole40 (digs A) + fracN (numBehind A)) := by
      rw [(dim_cap _ _ true b0 f0).2, ← hwn]
      simp only [parseE, hok, if_true, sizeOfText, hA]
    rw [e1, e2]
    have d1 : refDw A = whole40 (digs A) := by unfold refDw; rw [hok'.1, if_pos rfl]
    have d2 : refDf A = fracN (numBehind A) := by unfold refDf; rw [hok'.1, if_pos rfl]
    have d3 : refDn A = (bmk A).size := by unfold refDn; rw [hok'.1, if_pos rfl, hl0, hsz]; simp
    have hp := numOk_pos hok'.1
    rw [d1, d2, d3] at Hd
    have Hm := Lib.hid (fun w => made_any (whole40 (digs A)) (fracN (numBehind A)) (minusOf s.data.toList) w b0 (by omega) f0 f1)
    generalize whole40 (digs A) = x at *
    generalize fracN (numBehind A) = y at *
    generalize minusOf s.data.toList = mm at *
    have hb0 : (((bmk A).size : Int) == 0) = false := beq_eq_false_iff_ne.2 (by omega)
    clear e1 e2 d1 d2 d3 hok hok' hl0 hwn hA hsz
    cases mm
    all_goals
      go_enter Tryd.func30, Tryd.ntmps30
      go_wp2_with (first | (go_at_call 57; refine Hsg.out.mono ?_; rintro e w' ⟨rfl, rfl⟩) | (go_at_call 58; refine Hd.out.mono ?_; rintro e w' ⟨rfl, rfl⟩) | (go_at_call 59; refine (Hm.out _).mono ?_; rintro e w' ⟨rfl, rfl⟩))
      go_ret2
      exact ⟨rfl, rfl⟩

/-- the unit of a name, those with numbers -/
def refUnit (l : List UInt8) : Option (Int × Int) :=
  if l = [112, 116] then some (1, 1)
  else if l = [105, 110] then some (7227, 100)
  else if l = [112, 99] then some (12, 1)
  else if l = [99, 109] then some (7227, 254)
  else if l = [109, 109] then some (7227, 2540)
  else if l = [98, 112] then some (7227, 7200)
  else if l = [100, 100] then some (1238, 1157)
  else if l = [99, 99] then some (14856, 1157)
  else none

def unitValue (l : List UInt8) : Value := match refUnit l with | some (a, b) => .tuple #[.int .i64 a, .int .i64 b, .bool true] | none => .tuple #[.int .i64 0, .int .i64 0, .bool false]

set_option maxHeartbeats 4000000 in
theorem refUnit_any (s : ByteArray) (w : World) : Calls Tryd.prog 72 #[.string s] w fun e w' => e = .returned (unitValue s.data.toList) ∧ w = w' := by
  by_cases h0 : s.data.toList = [112, 116]
  · obtain rfl : s = ⟨#[112, 116]⟩ := WideShapes.bytes_inj h0
    rw [show unitValue (ByteArray.mk #[112, 116]).data.toList = .tuple #[.int .i64 1, .int .i64 1, .bool true] from rfl]
    go_enter Tryd.func72, Tryd.ntmps72
    go_wp2
    go_ret3
    exact ⟨rfl, rfl⟩
  by_cases h1 : s.data.toList = [105, 110]
  · obtain rfl : s = ⟨#[105, 110]⟩ := WideShapes.bytes_inj h1
    rw [show unitValue (ByteArray.mk #[105, 110]).data.toList = .tuple #[.int .i64 7227, .int .i64 100, .bool true] from rfl]
    go_enter Tryd.func72, Tryd.ntmps72
    go_wp2
    go_ret3
    exact ⟨rfl, rfl⟩
  by_cases h2 : s.data.toList = [112, 99]
  · obtain rfl : s = ⟨#[112, 99]⟩ := WideShapes.bytes_inj h2
    rw [show unitValue (ByteArray.mk #[112, 99]).data.toList = .tuple #[.int .i64 12, .int .i64 1, .bool true] from rfl]
    go_enter Tryd.func72, Tryd.ntmps72
    go_wp2
    go_ret3
    exact ⟨rfl, rfl⟩
  by_cases h3 : s.data.toList = [99, 109]
  · obtain rfl : s = ⟨#[99, 109]⟩ := WideShapes.bytes_inj h3
    rw [show unitValue (ByteArray.mk #[99, 109]).data.toList = .tuple #[.int .i64 7227, .int .i64 254, .bool true] from rfl]
    go_enter Tryd.func72, Tryd.ntmps72
    go_wp2
    go_ret3
    exact ⟨rfl, rfl⟩
  by_cases h4 : s.data.toList = [109, 109]
  · obtain rfl : s = ⟨#[109, 109]⟩ := WideShapes.bytes_inj h4
    rw [show unitValue (ByteArray.mk #[109, 109]).data.toList = .tuple #[.int .i64 7227, .int .i64 2540, .bool true] from rfl]
    go_enter Tryd.func72, Tryd.ntmps72
    go_wp2
    go_ret3
    exact ⟨rfl, rfl⟩
  by_cases h5 : s.data.toList = [98, 112]
  · obtain rfl : s = ⟨#[98, 112]⟩ := WideShapes.bytes_inj h5
    rw [show unitValue (ByteArray.mk #[98, 112]).data.toList = .tuple #[.int .i64 7227, .int .i64 7200, .bool true] from rfl]
    go_enter Tryd.func72, Tryd.ntmps72
    go_wp2
    go_ret3
    exact ⟨rfl, rfl⟩
  by_cases h6 : s.data.toList = [100, 100]
  · obtain rfl : s = ⟨#[100, 100]⟩ := WideShapes.bytes_inj h6
    rw [show unitValue (ByteArray.mk #[100, 100]).data.toList = .tuple #[.int .i64 1238, .int .i64 1157, .bool true] from rfl]
    go_enter Tryd.func72, Tryd.ntmps72
    go_wp2
    go_ret3
    exact ⟨rfl, rfl⟩
  by_cases h7 : s.data.toList = [99, 99]
  · obtain rfl : s = ⟨#[99, 99]⟩ := WideShapes.bytes_inj h7
    rw [show unitValue (ByteArray.mk #[99, 99]).data.toList = .tuple #[.int .i64 14856, .int .i64 1157, .bool true] from rfl]
    go_enter Tryd.func72, Tryd.ntmps72
    go_wp2
    go_ret3
    exact ⟨rfl, rfl⟩
  have e : refUnit s.data.toList = none := by unfold refUnit; simp only [h0, h1, h2, h3, h4, h5, h6, h7, if_false]
  rw [show unitValue s.data.toList = .tuple #[.int .i64 0, .int .i64 0, .bool false] from by unfold unitValue; rw [e]]
  have k0 : (s.toList == [112, 116]) = false := by rw [beq_eq_false_iff_ne, Lib.toList_data]; exact h0
  have k1 : (s.toList == [105, 110]) = false := by rw [beq_eq_false_iff_ne, Lib.toList_data]; exact h1
  have k2 : (s.toList == [112, 99]) = false := by rw [beq_eq_false_iff_ne, Lib.toList_data]; exact h2
  have k3 : (s.toList == [99, 109]) = false := by rw [beq_eq_false_iff_ne, Lib.toList_data]; exact h3
  have k4 : (s.toList == [109, 109]) = false := by rw [beq_eq_false_iff_ne, Lib.toList_data]; exact h4
  have k5 : (s.toList == [98, 112]) = false := by rw [beq_eq_false_iff_ne, Lib.toList_data]; exact h5
  have k6 : (s.toList == [100, 100]) = false := by rw [beq_eq_false_iff_ne, Lib.toList_data]; exact h6
  have k7 : (s.toList == [99, 99]) = false := by rw [beq_eq_false_iff_ne, Lib.toList_data]; exact h7
  clear e h0 h1 h2 h3 h4 h5 h6 h7
  go_enter Tryd.func72, Tryd.ntmps72
  go_wp2
  go_ret3
  exact ⟨rfl, rfl⟩
end Go.Proofs.YtcdblgfaojejnaaDoor
