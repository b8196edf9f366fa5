/- galleyref03.Edge, char. -/
import Derived.Test.YtdhidpbenhmfgaaGreatM39
import Derived.Test.YtdhidpbenhmfgaaGreatFSize
import Derived.Laws.StructEq
namespace Go.Proofs.YtdhidpbenhmfgaaGreat
open Go.RowKit

set_option maxHeartbeats 1000000 in
theorem char_n (F : Fnt) (a : FAddr) (i : Nat) (w : World) (hF : FontAt w F a w.heap.size) (hi : i < F.chars.length) (m : Met) (hm : F.chars[i] = m) (h0 : m.w = 0) (h1 : m.h = 0) (h2 : m.d = 0) (h3 : m.it = 0) (h4 : m.tag = -1) (h5 : m.rest = 0) :
    Calls Tryz.prog 42 #[fontV F a, .int .i64 i] w fun e w' => e = .returned (.bool true) ∧ Kept w w' := by
  obtain ⟨A0, n0, A1, n1, A2, n2, A3, n3, A4, n4⟩ := a
  obtain ⟨b, o, hA, hb, hc⟩ := hF.m (by omega)
  obtain ⟨c0, c1, c2, c3, c4, c5⟩ := hc i hi
  obtain rfl : A0 = some ⟨b, o, none⟩ := hA
  rw [hm] at c0 c1 c2 c3 c4 c5
  clear hc hm hF
  obtain ⟨m0, m1, m2, m3, m4, m5⟩ := m
  simp only at c0 c1 c2 c3 c4 c5 h0 h1 h2 h3 h4 h5
  obtain rfl : m0 = 0 := by assumption
  obtain rfl : m1 = 0 := by assumption
  obtain rfl : m2 = 0 := by assumption
  obtain rfl : m3 = 0 := by assumption
  obtain rfl : m4 = -1 := by assumption
  obtain rfl : m5 = 0 := by assumption
  go_enter Tryz.func42, Tryz.ntmps42
  go_wp2_with (fail)
  go_ret
  exact ⟨rfl, (walloc _ _).trans (walloc _ _)⟩


set_option maxHeartbeats 1000000 in
theorem char_nw (F : Fnt) (a : FAddr) (i : Nat) (w : World) (hF : FontAt w F a w.heap.size) (hi : i < F.chars.length) (m : Met) (hm : F.chars[i] = m) (h0 : m.tag = -1) (h1 : ¬ m.w = 0) :
    Calls Tryz.prog 42 #[fontV F a, .int .i64 i] w fun e w' => e = .returned (.bool false) ∧ Kept w w' := by
  obtain ⟨A0, n0, A1, n1, A2, n2, A3, n3, A4, n4⟩ := a
  obtain ⟨b, o, hA, hb, hc⟩ := hF.m (by omega)
  obtain ⟨c0, c1, c2, c3, c4, c5⟩ := hc i hi
  obtain rfl : A0 = some ⟨b, o, none⟩ := hA
  rw [hm] at c0 c1 c2 c3 c4 c5
  clear hc hm hF
  obtain ⟨m0, m1, m2, m3, m4, m5⟩ := m
  simp only at c0 c1 c2 c3 c4 c5 h0 h1
  have f0 : (m0 == 0) = false := by simp [*] <;> omega
  obtain rfl : m4 = -1 := by assumption
  go_enter Tryz.func42, Tryz.ntmps42
  go_wp2_with (fail)
  go_ret
  exact ⟨rfl, (walloc _ _).trans (walloc _ _)⟩


set_option maxHeartbeats 1000000 in
theorem char_nh (F : Fnt) (a : FAddr) (i : Nat) (w : World) (hF : FontAt w F a w.heap.size) (hi : i < F.chars.length) (m : Met) (hm : F.chars[i] = m) (h0 : m.tag = -1) (h1 : m.w = 0) (h2 : ¬ m.h = 0) :
    Calls Tryz.prog 42 #[fontV F a, .int .i64 i] w fun e w' => e = .returned (.bool false) ∧ Kept w w' := by
  obtain ⟨A0, n0, A1, n1, A2, n2, A3, n3, A4, n4⟩ := a
  obtain ⟨b, o, hA, hb, hc⟩ := hF.m (by omega)
  obtain ⟨c0, c1, c2, c3, c4, c5⟩ := hc i hi
  obtain rfl : A0 = some ⟨b, o, none⟩ := hA
  rw [hm] at c0 c1 c2 c3 c4 c5
  clear hc hm hF
  obtain ⟨m0, m1, m2, m3, m4, m5⟩ := m
  simp only at c0 c1 c2 c3 c4 c5 h0 h1 h2
  have f0 : (m1 == 0) = false := by simp [*] <;> omega
  obtain rfl : m4 = -1 := by assumption
  obtain rfl : m0 = 0 := by assumption
  go_enter Tryz.func42, Tryz.ntmps42
  go_wp2_with (fail)
  go_ret
  exact ⟨rfl, (walloc _ _).trans (walloc _ _)⟩


set_option maxHeartbeats 1000000 in
theorem char_nd (F : Fnt) (a : FAddr) (i : Nat) (w : World) (hF : FontAt w F a w.heap.size) (hi : i < F.chars.length) (m : Met) (hm : F.chars[i] = m) (h0 : m.tag = -1) (h1 : m.w = 0) (h2 : m.h = 0) (h3 : ¬ m.d = 0) :
    Calls Tryz.prog 42 #[fontV F a, .int .i64 i] w fun e w' => e = .returned (.bool false) ∧ Kept w w' := by
  obtain ⟨A0, n0, A1, n1, A2, n2, A3, n3, A4, n4⟩ := a
  obtain ⟨b, o, hA, hb, hc⟩ := hF.m (by omega)
  obtain ⟨c0, c1, c2, c3, c4, c5⟩ := hc i hi
  obtain rfl : A0 = some ⟨b, o, none⟩ := hA
  rw [hm] at c0 c1 c2 c3 c4 c5
  clear hc hm hF
  obtain ⟨m0, m1, m2, m3, m4, m5⟩ := m
  simp only at c0 c1 c2 c3 c4 c5 h0 h1 h2 h3
  have f0 : (m2 == 0) = false := by simp [*] <;> omega
  obtain rfl : m4 = -1 := by assumption
  obtain rfl : m0 = 0 := by assumption
  obtain rfl : m1 = 0 := by assumption
  go_enter Tryz.func42, Tryz.ntmps42
  go_wp2_with (fail)
  go_ret
  exact ⟨rfl, (walloc _ _).trans (walloc _ _)⟩


set_option maxHeartbeats 1000000 in
theorem char_nit (F : Fnt) (a : FAddr) (i : Nat) (w : World) (hF : FontAt w F a w.heap.size) (hi : i < F.chars.length) (m : Met) (hm : F.chars[i] = m) (h0 : m.tag = -1) (h1 : m.w = 0) (h2 : m.h = 0) (h3 : m.d = 0) (h4 : ¬ m.it = 0) :
    Calls Tryz.prog 42 #[fontV F a, .int .i64 i] w fun e w' => e = .returned (.bool false) ∧ Kept w w' := by
  obtain ⟨A0, n0, A1, n1, A2, n2, A3, n3, A4, n4⟩ := a
  obtain ⟨b, o, hA, hb, hc⟩ := hF.m (by omega)
  obtain ⟨c0, c1, c2, c3, c4, c5⟩ := hc i hi
  obtain rfl : A0 = some ⟨b, o, none⟩ := hA
  rw [hm] at c0 c1 c2 c3 c4 c5
  clear hc hm hF
  obtain ⟨m0, m1, m2, m3, m4, m5⟩ := m
  simp only at c0 c1 c2 c3 c4 c5 h0 h1 h2 h3 h4
  have f0 : (m3 == 0) = false := by simp [*] <;> omega
  obtain rfl : m4 = -1 := by assumption
  obtain rfl : m0 = 0 := by assumption
  obtain rfl : m1 = 0 := by assumption
  obtain rfl : m2 = 0 := by assumption
  go_enter Tryz.func42, Tryz.ntmps42
  go_wp2_with (fail)
  go_ret
  exact ⟨rfl, (walloc _ _).trans (walloc _ _)⟩


set_option maxHeartbeats 1000000 in
theorem char_nrest (F : Fnt) (a : FAddr) (i : Nat) (w : World) (hF : FontAt w F a w.heap.size) (hi : i < F.chars.length) (m : Met) (hm : F.chars[i] = m) (h0 : m.tag = -1) (h1 : m.w = 0) (h2 : m.h = 0) (h3 : m.d = 0) (h4 : m.it = 0) (h5 : ¬ m.rest = 0) :
    Calls Tryz.prog 42 #[fontV F a, .int .i64 i] w fun e w' => e = .returned (.bool false) ∧ Kept w w' := by
  obtain ⟨A0, n0, A1, n1, A2, n2, A3, n3, A4, n4⟩ := a
  obtain ⟨b, o, hA, hb, hc⟩ := hF.m (by omega)
  obtain ⟨c0, c1, c2, c3, c4, c5⟩ := hc i hi
  obtain rfl : A0 = some ⟨b, o, none⟩ := hA
  rw [hm] at c0 c1 c2 c3 c4 c5
  clear hc hm hF
  obtain ⟨m0, m1, m2, m3, m4, m5⟩ := m
  simp only at c0 c1 c2 c3 c4 c5 h0 h1 h2 h3 h4 h5
  have f0 : (m5 == 0) = false := by simp [*] <;> omega
  obtain rfl : m4 = -1 := by assumption
  obtain rfl : m0 = 0 := by assumption
  obtain rfl : m1 = 0 := by assumption
  obtain rfl : m2 = 0 := by assumption
  obtain rfl : m3 = 0 := by assumption
  go_enter Tryz.func42, Tryz.ntmps42
  go_wp2_with (fail)
  go_ret
  exact ⟨rfl, (walloc _ _).trans (walloc _ _)⟩


set_option maxHeartbeats 1000000 in
theorem char_f0 (F : Fnt) (a : FAddr) (i : Nat) (w : World) (hF : FontAt w F a w.heap.size) (hi : i < F.chars.length) (m : Met) (hm : F.chars[i] = m) (h0 : ¬ m.tag = -1) (h1 : fixB m.w = false) :
    Calls Tryz.prog 42 #[fontV F a, .int .i64 i] w fun e w' => e = .returned (.bool false) ∧ Kept w w' := by
  obtain ⟨A0, n0, A1, n1, A2, n2, A3, n3, A4, n4⟩ := a
  obtain ⟨b, o, hA, hb, hc⟩ := hF.m (by omega)
  obtain ⟨c0, c1, c2, c3, c4, c5⟩ := hc i hi
  obtain rfl : A0 = some ⟨b, o, none⟩ := hA
  rw [hm] at c0 c1 c2 c3 c4 c5
  clear hc hm hF
  obtain ⟨m0, m1, m2, m3, m4, m5⟩ := m
  simp only at c0 c1 c2 c3 c4 c5 h0 h1
  have H0 := fun w => Lib.hid (rfix_no m0 (by assumption) w)
  have f0 : (m4 == -1) = false := by simp [*] <;> omega
  go_enter Tryz.func42, Tryz.ntmps42
  go_wp2_with (fail)
  refine (H0 _).out.mono ?_
  rintro e w' ⟨rfl, rfl⟩
  go_wp2_with (fail)
  go_ret
  exact ⟨rfl, (walloc _ _).trans (walloc _ _)⟩


set_option maxHeartbeats 1000000 in
theorem char_f1 (F : Fnt) (a : FAddr) (i : Nat) (w : World) (hF : FontAt w F a w.heap.size) (hi : i < F.chars.length) (m : Met) (hm : F.chars[i] = m) (h0 : ¬ m.tag = -1) (h1 : fixB m.w = true) (h2 : fixB m.h = false) :
    Calls Tryz.prog 42 #[fontV F a, .int .i64 i] w fun e w' => e = .returned (.bool false) ∧ Kept w w' := by
  obtain ⟨A0, n0, A1, n1, A2, n2, A3, n3, A4, n4⟩ := a
  obtain ⟨b, o, hA, hb, hc⟩ := hF.m (by omega)
  obtain ⟨c0, c1, c2, c3, c4, c5⟩ := hc i hi
  obtain rfl : A0 = some ⟨b, o, none⟩ := hA
  rw [hm] at c0 c1 c2 c3 c4 c5
  clear hc hm hF
  obtain ⟨m0, m1, m2, m3, m4, m5⟩ := m
  simp only at c0 c1 c2 c3 c4 c5 h0 h1 h2
  have H0 := fun w => Lib.hid (rfix_yes m0 (by assumption) w)
  have H1 := fun w => Lib.hid (rfix_no m1 (by assumption) w)
  have f0 : (m4 == -1) = false := by simp [*] <;> omega
  go_enter Tryz.func42, Tryz.ntmps42
  go_wp2_with (fail)
  refine (H0 _).out.mono ?_
  rintro e w' ⟨rfl, rfl⟩
  go_wp2_with (fail)
  refine (H1 _).out.mono ?_
  rintro e w' ⟨rfl, rfl⟩
  go_wp2_with (fail)
  go_ret
  exact ⟨rfl, (walloc _ _).trans (walloc _ _)⟩


set_option maxHeartbeats 1000000 in
theorem char_f2 (F : Fnt) (a : FAddr) (i : Nat) (w : World) (hF : FontAt w F a w.heap.size) (hi : i < F.chars.length) (m : Met) (hm : F.chars[i] = m) (h0 : ¬ m.tag = -1) (h1 : fixB m.w = true) (h2 : fixB m.h = true) (h3 : fixB m.d = false) :
    Calls Tryz.prog 42 #[fontV F a, .int .i64 i] w fun e w' => e = .returned (.bool false) ∧ Kept w w' := by
  obtain ⟨A0, n0, A1, n1, A2, n2, A3, n3, A4, n4⟩ := a
  obtain ⟨b, o, hA, hb, hc⟩ := hF.m (by omega)
  obtain ⟨c0, c1, c2, c3, c4, c5⟩ := hc i hi
  obtain rfl : A0 = some ⟨b, o, none⟩ := hA
  rw [hm] at c0 c1 c2 c3 c4 c5
  clear hc hm hF
  obtain ⟨m0, m1, m2, m3, m4, m5⟩ := m
  simp only at c0 c1 c2 c3 c4 c5 h0 h1 h2 h3
  have H0 := fun w => Lib.hid (rfix_yes m0 (by assumption) w)
  have H1 := fun w => Lib.hid (rfix_yes m1 (by assumption) w)
  have H2 := fun w => Lib.hid (rfix_no m2 (by assumption) w)
  have f0 : (m4 == -1) = false := by simp [*] <;> omega
  go_enter Tryz.func42, Tryz.ntmps42
  go_wp2_with (fail)
  refine (H0 _).out.mono ?_
  rintro e w' ⟨rfl, rfl⟩
  go_wp2_with (fail)
  refine (H1 _).out.mono ?_
  rintro e w' ⟨rfl, rfl⟩
  go_wp2_with (fail)
  refine (H2 _).out.mono ?_
  rintro e w' ⟨rfl, rfl⟩
  go_wp2_with (fail)
  go_ret
  exact ⟨rfl, (walloc _ _).trans (walloc _ _)⟩


set_option maxHeartbeats 1000000 in
theorem char_f3 (F : Fnt) (a : FAddr) (i : Nat) (w : World) (hF : FontAt w F a w.heap.size) (hi : i < F.chars.length) (m : Met) (hm : F.chars[i] = m) (h0 : ¬ m.tag = -1) (h1 : fixB m.w = true) (h2 : fixB m.h = true) (h3 : fixB m.d = true) (h4 : fixB m.it = false) :
    Calls Tryz.prog 42 #[fontV F a, .int .i64 i] w fun e w' => e = .returned (.bool false) ∧ Kept w w' := by
  obtain ⟨A0, n0, A1, n1, A2, n2, A3, n3, A4, n4⟩ := a
  obtain ⟨b, o, hA, hb, hc⟩ := hF.m (by omega)
  obtain ⟨c0, c1, c2, c3, c4, c5⟩ := hc i hi
  obtain rfl : A0 = some ⟨b, o, none⟩ := hA
  rw [hm] at c0 c1 c2 c3 c4 c5
  clear hc hm hF
  obtain ⟨m0, m1, m2, m3, m4, m5⟩ := m
  simp only at c0 c1 c2 c3 c4 c5 h0 h1 h2 h3 h4
  have H0 := fun w => Lib.hid (rfix_yes m0 (by assumption) w)
  have H1 := fun w => Lib.hid (rfix_yes m1 (by assumption) w)
  have H2 := fun w => Lib.hid (rfix_yes m2 (by assumption) w)
  have H3 := fun w => Lib.hid (rfix_no m3 (by assumption) w)
  have f0 : (m4 == -1) = false := by simp [*] <;> omega
  go_enter Tryz.func42, Tryz.ntmps42
  go_wp2_with (fail)
  refine (H0 _).out.mono ?_
  rintro e w' ⟨rfl, rfl⟩
  go_wp2_with (fail)
  refine (H1 _).out.mono ?_
  rintro e w' ⟨rfl, rfl⟩
  go_wp2_with (fail)
  refine (H2 _).out.mono ?_
  rintro e w' ⟨rfl, rfl⟩
  go_wp2_with (fail)
  refine (H3 _).out.mono ?_
  rintro e w' ⟨rfl, rfl⟩
  go_wp2_with (fail)
  go_ret
  exact ⟨rfl, (walloc _ _).trans (walloc _ _)⟩


set_option maxHeartbeats 1000000 in
theorem char_t0 (F : Fnt) (a : FAddr) (i : Nat) (w : World) (hF : FontAt w F a w.heap.size) (hi : i < F.chars.length) (m : Met) (hm : F.chars[i] = m) (h0 : m.tag = 0) (h1 : fixB m.w = true) (h2 : fixB m.h = true) (h3 : fixB m.d = true) (h4 : fixB m.it = true) :
    Calls Tryz.prog 42 #[fontV F a, .int .i64 i] w fun e w' => e = .returned (.bool (m.rest == 0)) ∧ Kept w w' := by
  obtain ⟨A0, n0, A1, n1, A2, n2, A3, n3, A4, n4⟩ := a
  obtain ⟨b, o, hA, hb, hc⟩ := hF.m (by omega)
  obtain ⟨c0, c1, c2, c3, c4, c5⟩ := hc i hi
  obtain rfl : A0 = some ⟨b, o, none⟩ := hA
  rw [hm] at c0 c1 c2 c3 c4 c5
  clear hc hm hF
  obtain ⟨m0, m1, m2, m3, m4, m5⟩ := m
  simp only at c0 c1 c2 c3 c4 c5 h0 h1 h2 h3 h4
  have H0 := fun w => Lib.hid (rfix_yes m0 (by assumption) w)
  have H1 := fun w => Lib.hid (rfix_yes m1 (by assumption) w)
  have H2 := fun w => Lib.hid (rfix_yes m2 (by assumption) w)
  have H3 := fun w => Lib.hid (rfix_yes m3 (by assumption) w)
  obtain rfl : m4 = 0 := by assumption
  go_enter Tryz.func42, Tryz.ntmps42
  go_wp2_with (fail)
  refine (H0 _).out.mono ?_
  rintro e w' ⟨rfl, rfl⟩
  go_wp2_with (fail)
  refine (H1 _).out.mono ?_
  rintro e w' ⟨rfl, rfl⟩
  go_wp2_with (fail)
  refine (H2 _).out.mono ?_
  rintro e w' ⟨rfl, rfl⟩
  go_wp2_with (fail)
  refine (H3 _).out.mono ?_
  rintro e w' ⟨rfl, rfl⟩
  go_wp2_with (fail)
  go_ret
  exact ⟨rfl, (walloc _ _).trans (walloc _ _)⟩


set_option maxHeartbeats 1000000 in
theorem char_t1a (F : Fnt) (a : FAddr) (i : Nat) (w : World) (hF : FontAt w F a w.heap.size) (hi : i < F.chars.length) (m : Met) (hm : F.chars[i] = m) (h0 : m.tag = 1) (h1 : fixB m.w = true) (h2 : fixB m.h = true) (h3 : fixB m.d = true) (h4 : fixB m.it = true) (h5 : m.rest < 0) :
    Calls Tryz.prog 42 #[fontV F a, .int .i64 i] w fun e w' => e = .returned (.bool false) ∧ Kept w w' := by
  obtain ⟨A0, n0, A1, n1, A2, n2, A3, n3, A4, n4⟩ := a
  obtain ⟨b, o, hA, hb, hc⟩ := hF.m (by omega)
  obtain ⟨c0, c1, c2, c3, c4, c5⟩ := hc i hi
  obtain rfl : A0 = some ⟨b, o, none⟩ := hA
  rw [hm] at c0 c1 c2 c3 c4 c5
  clear hc hm hF
  obtain ⟨m0, m1, m2, m3, m4, m5⟩ := m
  simp only at c0 c1 c2 c3 c4 c5 h0 h1 h2 h3 h4 h5
  have H0 := fun w => Lib.hid (rfix_yes m0 (by assumption) w)
  have H1 := fun w => Lib.hid (rfix_yes m1 (by assumption) w)
  have H2 := fun w => Lib.hid (rfix_yes m2 (by assumption) w)
  have H3 := fun w => Lib.hid (rfix_yes m3 (by assumption) w)
  have f0 : decide (0 ≤ m5) = false := by simp [*] <;> omega
  obtain rfl : m4 = 1 := by assumption
  go_enter Tryz.func42, Tryz.ntmps42
  go_wp2_with (fail)
  refine (H0 _).out.mono ?_
  rintro e w' ⟨rfl, rfl⟩
  go_wp2_with (fail)
  refine (H1 _).out.mono ?_
  rintro e w' ⟨rfl, rfl⟩
  go_wp2_with (fail)
  refine (H2 _).out.mono ?_
  rintro e w' ⟨rfl, rfl⟩
  go_wp2_with (fail)
  refine (H3 _).out.mono ?_
  rintro e w' ⟨rfl, rfl⟩
  go_wp2_with (fail)
  go_ret
  exact ⟨rfl, (walloc _ _).trans (walloc _ _)⟩


set_option maxHeartbeats 1000000 in
theorem char_t1b (F : Fnt) (a : FAddr) (i : Nat) (w : World) (hF : FontAt w F a w.heap.size) (hi : i < F.chars.length) (m : Met) (hm : F.chars[i] = m) (h0 : m.tag = 1) (h1 : fixB m.w = true) (h2 : fixB m.h = true) (h3 : fixB m.d = true) (h4 : fixB m.it = true) (h5 : 0 ≤ m.rest) (h6 : (F.steps.length : Int) ≤ m.rest) :
    Calls Tryz.prog 42 #[fontV F a, .int .i64 i] w fun e w' => e = .returned (.bool false) ∧ Kept w w' := by
  obtain ⟨A0, n0, A1, n1, A2, n2, A3, n3, A4, n4⟩ := a
  obtain ⟨b, o, hA, hb, hc⟩ := hF.m (by omega)
  obtain ⟨c0, c1, c2, c3, c4, c5⟩ := hc i hi
  obtain rfl : A0 = some ⟨b, o, none⟩ := hA
  rw [hm] at c0 c1 c2 c3 c4 c5
  clear hc hm hF
  obtain ⟨m0, m1, m2, m3, m4, m5⟩ := m
  simp only at c0 c1 c2 c3 c4 c5 h0 h1 h2 h3 h4 h5 h6
  have H0 := fun w => Lib.hid (rfix_yes m0 (by assumption) w)
  have H1 := fun w => Lib.hid (rfix_yes m1 (by assumption) w)
  have H2 := fun w => Lib.hid (rfix_yes m2 (by assumption) w)
  have H3 := fun w => Lib.hid (rfix_yes m3 (by assumption) w)
  have f0 : decide (0 ≤ m5) = true := by simp [*] <;> omega
  have f1 : decide (m5 < (F.steps.length : Int)) = false := by simp [*] <;> omega
  obtain rfl : m4 = 1 := by assumption
  go_enter Tryz.func42, Tryz.ntmps42
  go_wp2_with (fail)
  refine (H0 _).out.mono ?_
  rintro e w' ⟨rfl, rfl⟩
  go_wp2_with (fail)
  refine (H1 _).out.mono ?_
  rintro e w' ⟨rfl, rfl⟩
  go_wp2_with (fail)
  refine (H2 _).out.mono ?_
  rintro e w' ⟨rfl, rfl⟩
  go_wp2_with (fail)
  refine (H3 _).out.mono ?_
  rintro e w' ⟨rfl, rfl⟩
  go_wp2_with (fail)
  go_ret
  exact ⟨rfl, (walloc _ _).trans (walloc _ _)⟩


set_option maxHeartbeats 1000000 in
theorem char_t1c (F : Fnt) (a : FAddr) (i : Nat) (w : World) (hF : FontAt w F a w.heap.size) (hi : i < F.chars.length) (m : Met) (hm : F.chars[i] = m) (h0 : m.tag = 1) (h1 : fixB m.w = true) (h2 : fixB m.h = true) (h3 : fixB m.d = true) (h4 : fixB m.it = true) (h5 : 0 ≤ m.rest) (h6 : m.rest < F.steps.length) (h7 : 256 ≤ m.rest) :
    Calls Tryz.prog 42 #[fontV F a, .int .i64 i] w fun e w' => e = .returned (.bool false) ∧ Kept w w' := by
  obtain ⟨A0, n0, A1, n1, A2, n2, A3, n3, A4, n4⟩ := a
  obtain ⟨b, o, hA, hb, hc⟩ := hF.m (by omega)
  obtain ⟨c0, c1, c2, c3, c4, c5⟩ := hc i hi
  obtain rfl : A0 = some ⟨b, o, none⟩ := hA
  rw [hm] at c0 c1 c2 c3 c4 c5
  clear hc hm hF
  obtain ⟨m0, m1, m2, m3, m4, m5⟩ := m
  simp only at c0 c1 c2 c3 c4 c5 h0 h1 h2 h3 h4 h5 h6 h7
  have H0 := fun w => Lib.hid (rfix_yes m0 (by assumption) w)
  have H1 := fun w => Lib.hid (rfix_yes m1 (by assumption) w)
  have H2 := fun w => Lib.hid (rfix_yes m2 (by assumption) w)
  have H3 := fun w => Lib.hid (rfix_yes m3 (by assumption) w)
  have f0 : decide (0 ≤ m5) = true := by simp [*] <;> omega
  have f1 : decide (m5 < (F.steps.length : Int)) = true := by simp [*] <;> omega
  have f2 : decide (m5 < 256) = false := by simp [*] <;> omega
  obtain rfl : m4 = 1 := by assumption
  go_enter Tryz.func42, Tryz.ntmps42
  go_wp2_with (fail)
  refine (H0 _).out.mono ?_
  rintro e w' ⟨rfl, rfl⟩
  go_wp2_with (fail)
  refine (H1 _).out.mono ?_
  rintro e w' ⟨rfl, rfl⟩
  go_wp2_with (fail)
  refine (H2 _).out.mono ?_
  rintro e w' ⟨rfl, rfl⟩
  go_wp2_with (fail)
  refine (H3 _).out.mono ?_
  rintro e w' ⟨rfl, rfl⟩
  go_wp2_with (fail)
  go_ret
  exact ⟨rfl, (walloc _ _).trans (walloc _ _)⟩


set_option maxHeartbeats 1000000 in
theorem char_t1d (F : Fnt) (a : FAddr) (i : Nat) (w : World) (hF : FontAt w F a w.heap.size) (hi : i < F.chars.length) (m : Met) (hm : F.chars[i] = m) (h0 : m.tag = 1) (h1 : fixB m.w = true) (h2 : fixB m.h = true) (h3 : fixB m.d = true) (h4 : fixB m.it = true) (h5 : 0 ≤ m.rest) (h6 : m.rest < F.steps.length) (h7 : m.rest < 256) :
    Calls Tryz.prog 42 #[fontV F a, .int .i64 i] w fun e w' => e = .returned (.bool true) ∧ Kept w w' := by
  obtain ⟨A0, n0, A1, n1, A2, n2, A3, n3, A4, n4⟩ := a
  obtain ⟨b, o, hA, hb, hc⟩ := hF.m (by omega)
  obtain ⟨c0, c1, c2, c3, c4, c5⟩ := hc i hi
  obtain rfl : A0 = some ⟨b, o, none⟩ := hA
  rw [hm] at c0 c1 c2 c3 c4 c5
  clear hc hm hF
  obtain ⟨m0, m1, m2, m3, m4, m5⟩ := m
  simp only at c0 c1 c2 c3 c4 c5 h0 h1 h2 h3 h4 h5 h6 h7
  have H0 := fun w => Lib.hid (rfix_yes m0 (by assumption) w)
  have H1 := fun w => Lib.hid (rfix_yes m1 (by assumption) w)
  have H2 := fun w => Lib.hid (rfix_yes m2 (by assumption) w)
  have H3 := fun w => Lib.hid (rfix_yes m3 (by assumption) w)
  have f0 : decide (0 ≤ m5) = true := by simp [*] <;> omega
  have f1 : decide (m5 < (F.steps.length : Int)) = true := by simp [*] <;> omega
  have f2 : decide (m5 < 256) = true := by simp [*] <;> omega
  obtain rfl : m4 = 1 := by assumption
  go_enter Tryz.func42, Tryz.ntmps42
  go_wp2_with (fail)
  refine (H0 _).out.mono ?_
  rintro e w' ⟨rfl, rfl⟩
  go_wp2_with (fail)
  refine (H1 _).out.mono ?_
  rintro e w' ⟨rfl, rfl⟩
  go_wp2_with (fail)
  refine (H2 _).out.mono ?_
  rintro e w' ⟨rfl, rfl⟩
  go_wp2_with (fail)
  refine (H3 _).out.mono ?_
  rintro e w' ⟨rfl, rfl⟩
  go_wp2_with (fail)
  go_ret
  exact ⟨rfl, (walloc _ _).trans (walloc _ _)⟩


set_option maxHeartbeats 1000000 in
theorem char_t2a (F : Fnt) (a : FAddr) (i : Nat) (w : World) (hF : FontAt w F a w.heap.size) (hi : i < F.chars.length) (m : Met) (hm : F.chars[i] = m) (h0 : m.tag = 2) (h1 : fixB m.w = true) (h2 : fixB m.h = true) (h3 : fixB m.d = true) (h4 : fixB m.it = true) (h5 : m.rest < 0) :
    Calls Tryz.prog 42 #[fontV F a, .int .i64 i] w fun e w' => e = .returned (.bool false) ∧ Kept w w' := by
  obtain ⟨A0, n0, A1, n1, A2, n2, A3, n3, A4, n4⟩ := a
  obtain ⟨b, o, hA, hb, hc⟩ := hF.m (by omega)
  obtain ⟨c0, c1, c2, c3, c4, c5⟩ := hc i hi
  obtain rfl : A0 = some ⟨b, o, none⟩ := hA
  rw [hm] at c0 c1 c2 c3 c4 c5
  clear hc hm hF
  obtain ⟨m0, m1, m2, m3, m4, m5⟩ := m
  simp only at c0 c1 c2 c3 c4 c5 h0 h1 h2 h3 h4 h5
  have H0 := fun w => Lib.hid (rfix_yes m0 (by assumption) w)
  have H1 := fun w => Lib.hid (rfix_yes m1 (by assumption) w)
  have H2 := fun w => Lib.hid (rfix_yes m2 (by assumption) w)
  have H3 := fun w => Lib.hid (rfix_yes m3 (by assumption) w)
  have f0 : decide (0 ≤ m5) = false := by simp [*] <;> omega
  obtain rfl : m4 = 2 := by assumption
  go_enter Tryz.func42, Tryz.ntmps42
  go_wp2_with (fail)
  refine (H0 _).out.mono ?_
  rintro e w' ⟨rfl, rfl⟩
  go_wp2_with (fail)
  refine (H1 _).out.mono ?_
  rintro e w' ⟨rfl, rfl⟩
  go_wp2_with (fail)
  refine (H2 _).out.mono ?_
  rintro e w' ⟨rfl, rfl⟩
  go_wp2_with (fail)
  refine (H3 _).out.mono ?_
  rintro e w' ⟨rfl, rfl⟩
  go_wp2_with (fail)
  go_ret
  exact ⟨rfl, (walloc _ _).trans (walloc _ _)⟩


set_option maxHeartbeats 1000000 in
theorem char_t2b (F : Fnt) (a : FAddr) (i : Nat) (w : World) (hF : FontAt w F a w.heap.size) (hi : i < F.chars.length) (m : Met) (hm : F.chars[i] = m) (h0 : m.tag = 2) (h1 : fixB m.w = true) (h2 : fixB m.h = true) (h3 : fixB m.d = true) (h4 : fixB m.it = true) (h5 : 0 ≤ m.rest) (h6 : 256 ≤ m.rest) :
    Calls Tryz.prog 42 #[fontV F a, .int .i64 i] w fun e w' => e = .returned (.bool false) ∧ Kept w w' := by
  obtain ⟨A0, n0, A1, n1, A2, n2, A3, n3, A4, n4⟩ := a
  obtain ⟨b, o, hA, hb, hc⟩ := hF.m (by omega)
  obtain ⟨c0, c1, c2, c3, c4, c5⟩ := hc i hi
  obtain rfl : A0 = some ⟨b, o, none⟩ := hA
  rw [hm] at c0 c1 c2 c3 c4 c5
  clear hc hm hF
  obtain ⟨m0, m1, m2, m3, m4, m5⟩ := m
  simp only at c0 c1 c2 c3 c4 c5 h0 h1 h2 h3 h4 h5 h6
  have H0 := fun w => Lib.hid (rfix_yes m0 (by assumption) w)
  have H1 := fun w => Lib.hid (rfix_yes m1 (by assumption) w)
  have H2 := fun w => Lib.hid (rfix_yes m2 (by assumption) w)
  have H3 := fun w => Lib.hid (rfix_yes m3 (by assumption) w)
  have f0 : decide (0 ≤ m5) = true := by simp [*] <;> omega
  have f1 : decide (m5 < 256) = false := by simp [*] <;> omega
  obtain rfl : m4 = 2 := by assumption
  go_enter Tryz.func42, Tryz.ntmps42
  go_wp2_with (fail)
  refine (H0 _).out.mono ?_
  rintro e w' ⟨rfl, rfl⟩
  go_wp2_with (fail)
  refine (H1 _).out.mono ?_
  rintro e w' ⟨rfl, rfl⟩
  go_wp2_with (fail)
  refine (H2 _).out.mono ?_
  rintro e w' ⟨rfl, rfl⟩
  go_wp2_with (fail)
  refine (H3 _).out.mono ?_
  rintro e w' ⟨rfl, rfl⟩
  go_wp2_with (fail)
  go_ret
  exact ⟨rfl, (walloc _ _).trans (walloc _ _)⟩


set_option maxHeartbeats 1000000 in
theorem char_t2c (F : Fnt) (a : FAddr) (i : Nat) (w : World) (hF : FontAt w F a w.heap.size) (hi : i < F.chars.length) (m : Met) (hm : F.chars[i] = m) (hch : ∀ w1, Kept w w1 → Calls Tryz.prog 61 #[fontV F a, .int .i64 i] w1 fun e w2 => e = .returned (.bool (chainB F (F.chars.length + 1) i)) ∧ Kept w1 w2) (h0 : m.tag = 2) (h1 : fixB m.w = true) (h2 : fixB m.h = true) (h3 : fixB m.d = true) (h4 : fixB m.it = true) (h5 : 0 ≤ m.rest) (h6 : m.rest < 256) :
    Calls Tryz.prog 42 #[fontV F a, .int .i64 i] w fun e w' => e = .returned (.bool (chainB F (F.chars.length + 1) i)) ∧ Kept w w' := by
  obtain ⟨A0, n0, A1, n1, A2, n2, A3, n3, A4, n4⟩ := a
  obtain ⟨b, o, hA, hb, hc⟩ := hF.m (by omega)
  obtain ⟨c0, c1, c2, c3, c4, c5⟩ := hc i hi
  obtain rfl : A0 = some ⟨b, o, none⟩ := hA
  rw [hm] at c0 c1 c2 c3 c4 c5
  clear hc hm hF
  obtain ⟨m0, m1, m2, m3, m4, m5⟩ := m
  simp only at c0 c1 c2 c3 c4 c5 h0 h1 h2 h3 h4 h5 h6
  generalize chainB F (F.chars.length + 1) i = CH at *
  have HC := fun w1 hk => Lib.hid (hch w1 hk)
  clear hch
  have H0 := fun w => Lib.hid (rfix_yes m0 (by assumption) w)
  have H1 := fun w => Lib.hid (rfix_yes m1 (by assumption) w)
  have H2 := fun w => Lib.hid (rfix_yes m2 (by assumption) w)
  have H3 := fun w => Lib.hid (rfix_yes m3 (by assumption) w)
  have f0 : decide (0 ≤ m5) = true := by simp [*] <;> omega
  have f1 : decide (m5 < 256) = true := by simp [*] <;> omega
  obtain rfl : m4 = 2 := by assumption
  go_enter Tryz.func42, Tryz.ntmps42
  go_wp2_with (fail)
  refine (H0 _).out.mono ?_
  rintro e w' ⟨rfl, rfl⟩
  go_wp2_with (fail)
  refine (H1 _).out.mono ?_
  rintro e w' ⟨rfl, rfl⟩
  go_wp2_with (fail)
  refine (H2 _).out.mono ?_
  rintro e w' ⟨rfl, rfl⟩
  go_wp2_with (fail)
  refine (H3 _).out.mono ?_
  rintro e w' ⟨rfl, rfl⟩
  go_wp2_with (fail)
  refine (HC _ ((walloc _ _).trans (walloc _ _))).out.mono ?_
  rintro e w1 ⟨rfl, k1⟩
  go_wp2_with (fail)
  go_ret
  exact ⟨rfl, ((walloc _ _).trans (walloc _ _)).trans k1⟩


set_option maxHeartbeats 1000000 in
theorem char_t3a (F : Fnt) (a : FAddr) (i : Nat) (w : World) (hF : FontAt w F a w.heap.size) (hi : i < F.chars.length) (m : Met) (hm : F.chars[i] = m) (h0 : m.tag = 3) (h1 : fixB m.w = true) (h2 : fixB m.h = true) (h3 : fixB m.d = true) (h4 : fixB m.it = true) (h5 : m.rest < 0) :
    Calls Tryz.prog 42 #[fontV F a, .int .i64 i] w fun e w' => e = .returned (.bool false) ∧ Kept w w' := by
  obtain ⟨A0, n0, A1, n1, A2, n2, A3, n3, A4, n4⟩ := a
  obtain ⟨b, o, hA, hb, hc⟩ := hF.m (by omega)
  obtain ⟨c0, c1, c2, c3, c4, c5⟩ := hc i hi
  obtain rfl : A0 = some ⟨b, o, none⟩ := hA
  rw [hm] at c0 c1 c2 c3 c4 c5
  clear hc hm hF
  obtain ⟨m0, m1, m2, m3, m4, m5⟩ := m
  simp only at c0 c1 c2 c3 c4 c5 h0 h1 h2 h3 h4 h5
  have H0 := fun w => Lib.hid (rfix_yes m0 (by assumption) w)
  have H1 := fun w => Lib.hid (rfix_yes m1 (by assumption) w)
  have H2 := fun w => Lib.hid (rfix_yes m2 (by assumption) w)
  have H3 := fun w => Lib.hid (rfix_yes m3 (by assumption) w)
  have f0 : decide (0 ≤ m5) = false := by simp [*] <;> omega
  obtain rfl : m4 = 3 := by assumption
  go_enter Tryz.func42, Tryz.ntmps42
  go_wp2_with (fail)
  refine (H0 _).out.mono ?_
  rintro e w' ⟨rfl, rfl⟩
  go_wp2_with (fail)
  refine (H1 _).out.mono ?_
  rintro e w' ⟨rfl, rfl⟩
  go_wp2_with (fail)
  refine (H2 _).out.mono ?_
  rintro e w' ⟨rfl, rfl⟩
  go_wp2_with (fail)
  refine (H3 _).out.mono ?_
  rintro e w' ⟨rfl, rfl⟩
  go_wp2_with (fail)
  go_ret
  exact ⟨rfl, (walloc _ _).trans (walloc _ _)⟩


set_option maxHeartbeats 1000000 in
theorem char_t3b (F : Fnt) (a : FAddr) (i : Nat) (w : World) (hF : FontAt w F a w.heap.size) (hi : i < F.chars.length) (m : Met) (hm : F.chars[i] = m) (h0 : m.tag = 3) (h1 : fixB m.w = true) (h2 : fixB m.h = true) (h3 : fixB m.d = true) (h4 : fixB m.it = true) (h5 : 0 ≤ m.rest) (h6 : (F.pieces.length : Int) ≤ m.rest) :
    Calls Tryz.prog 42 #[fontV F a, .int .i64 i] w fun e w' => e = .returned (.bool false) ∧ Kept w w' := by
  obtain ⟨A0, n0, A1, n1, A2, n2, A3, n3, A4, n4⟩ := a
  obtain ⟨b, o, hA, hb, hc⟩ := hF.m (by omega)
  obtain ⟨c0, c1, c2, c3, c4, c5⟩ := hc i hi
  obtain rfl : A0 = some ⟨b, o, none⟩ := hA
  rw [hm] at c0 c1 c2 c3 c4 c5
  clear hc hm hF
  obtain ⟨m0, m1, m2, m3, m4, m5⟩ := m
  simp only at c0 c1 c2 c3 c4 c5 h0 h1 h2 h3 h4 h5 h6
  have H0 := fun w => Lib.hid (rfix_yes m0 (by assumption) w)
  have H1 := fun w => Lib.hid (rfix_yes m1 (by assumption) w)
  have H2 := fun w => Lib.hid (rfix_yes m2 (by assumption) w)
  have H3 := fun w => Lib.hid (rfix_yes m3 (by assumption) w)
  have f0 : decide (0 ≤ m5) = true := by simp [*] <;> omega
  have f1 : decide (m5 < (F.pieces.length : Int)) = false := by simp [*] <;> omega
  obtain rfl : m4 = 3 := by assumption
  go_enter Tryz.func42, Tryz.ntmps42
  go_wp2_with (fail)
  refine (H0 _).out.mono ?_
  rintro e w' ⟨rfl, rfl⟩
  go_wp2_with (fail)
  refine (H1 _).out.mono ?_
  rintro e w' ⟨rfl, rfl⟩
  go_wp2_with (fail)
  refine (H2 _).out.mono ?_
  rintro e w' ⟨rfl, rfl⟩
  go_wp2_with (fail)
  refine (H3 _).out.mono ?_
  rintro e w' ⟨rfl, rfl⟩
  go_wp2_with (fail)
  go_ret
  exact ⟨rfl, (walloc _ _).trans (walloc _ _)⟩


set_option maxHeartbeats 1000000 in
theorem char_t3c (F : Fnt) (a : FAddr) (i : Nat) (w : World) (hF : FontAt w F a w.heap.size) (hi : i < F.chars.length) (m : Met) (hm : F.chars[i] = m) (h0 : m.tag = 3) (h1 : fixB m.w = true) (h2 : fixB m.h = true) (h3 : fixB m.d = true) (h4 : fixB m.it = true) (h5 : 0 ≤ m.rest) (h6 : m.rest < F.pieces.length) :
    Calls Tryz.prog 42 #[fontV F a, .int .i64 i] w fun e w' => e = .returned (.bool true) ∧ Kept w w' := by
  obtain ⟨A0, n0, A1, n1, A2, n2, A3, n3, A4, n4⟩ := a
  obtain ⟨b, o, hA, hb, hc⟩ := hF.m (by omega)
  obtain ⟨c0, c1, c2, c3, c4, c5⟩ := hc i hi
  obtain rfl : A0 = some ⟨b, o, none⟩ := hA
  rw [hm] at c0 c1 c2 c3 c4 c5
  clear hc hm hF
  obtain ⟨m0, m1, m2, m3, m4, m5⟩ := m
  simp only at c0 c1 c2 c3 c4 c5 h0 h1 h2 h3 h4 h5 h6
  have H0 := fun w => Lib.hid (rfix_yes m0 (by assumption) w)
  have H1 := fun w => Lib.hid (rfix_yes m1 (by assumption) w)
  have H2 := fun w => Lib.hid (rfix_yes m2 (by assumption) w)
  have H3 := fun w => Lib.hid (rfix_yes m3 (by assumption) w)
  have f0 : decide (0 ≤ m5) = true := by simp [*] <;> omega
  have f1 : decide (m5 < (F.pieces.length : Int)) = true := by simp [*] <;> omega
  obtain rfl : m4 = 3 := by assumption
  go_enter Tryz.func42, Tryz.ntmps42
  go_wp2_with (fail)
  refine (H0 _).out.mono ?_
  rintro e w' ⟨rfl, rfl⟩
  go_wp2_with (fail)
  refine (H1 _).out.mono ?_
  rintro e w' ⟨rfl, rfl⟩
  go_wp2_with (fail)
  refine (H2 _).out.mono ?_
  rintro e w' ⟨rfl, rfl⟩
  go_wp2_with (fail)
  refine (H3 _).out.mono ?_
  rintro e w' ⟨rfl, rfl⟩
  go_wp2_with (fail)
  go_ret
  exact ⟨rfl, (walloc _ _).trans (walloc _ _)⟩


set_option maxHeartbeats 1000000 in
theorem char_tx (F : Fnt) (a : FAddr) (i : Nat) (w : World) (hF : FontAt w F a w.heap.size) (hi : i < F.chars.length) (m : Met) (hm : F.chars[i] = m) (h0 : ¬ m.tag = -1) (h1 : ¬ m.tag = 0) (h2 : ¬ m.tag = 1) (h3 : ¬ m.tag = 2) (h4 : ¬ m.tag = 3) (h5 : fixB m.w = true) (h6 : fixB m.h = true) (h7 : fixB m.d = true) (h8 : fixB m.it = true) :
    Calls Tryz.prog 42 #[fontV F a, .int .i64 i] w fun e w' => e = .returned (.bool false) ∧ Kept w w' := by
  obtain ⟨A0, n0, A1, n1, A2, n2, A3, n3, A4, n4⟩ := a
  obtain ⟨b, o, hA, hb, hc⟩ := hF.m (by omega)
  obtain ⟨c0, c1, c2, c3, c4, c5⟩ := hc i hi
  obtain rfl : A0 = some ⟨b, o, none⟩ := hA
  rw [hm] at c0 c1 c2 c3 c4 c5
  clear hc hm hF
  obtain ⟨m0, m1, m2, m3, m4, m5⟩ := m
  simp only at c0 c1 c2 c3 c4 c5 h0 h1 h2 h3 h4 h5 h6 h7 h8
  have H0 := fun w => Lib.hid (rfix_yes m0 (by assumption) w)
  have H1 := fun w => Lib.hid (rfix_yes m1 (by assumption) w)
  have H2 := fun w => Lib.hid (rfix_yes m2 (by assumption) w)
  have H3 := fun w => Lib.hid (rfix_yes m3 (by assumption) w)
  have f0 : (m4 == -1) = false := by simp [*] <;> omega
  have f1 : (m4 == 0) = false := by simp [*] <;> omega
  have f2 : (m4 == 1) = false := by simp [*] <;> omega
  have f3 : (m4 == 2) = false := by simp [*] <;> omega
  have f4 : (m4 == 3) = false := by simp [*] <;> omega
  go_enter Tryz.func42, Tryz.ntmps42
  go_wp2_with (fail)
  refine (H0 _).out.mono ?_
  rintro e w' ⟨rfl, rfl⟩
  go_wp2_with (fail)
  refine (H1 _).out.mono ?_
  rintro e w' ⟨rfl, rfl⟩
  go_wp2_with (fail)
  refine (H2 _).out.mono ?_
  rintro e w' ⟨rfl, rfl⟩
  go_wp2_with (fail)
  refine (H3 _).out.mono ?_
  rintro e w' ⟨rfl, rfl⟩
  go_wp2_with (fail)
  go_ret
  exact ⟨rfl, (walloc _ _).trans (walloc _ _)⟩

end Go.Proofs.YtdhidpbenhmfgaaGreat
