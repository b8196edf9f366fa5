/- flex.plus. -/
import Derived.Test.YtdlbpepkgoandaaDoorFlex
namespace Go.Proofs.YtdlbpepkgoandaaDoor
open Go.RowKit

def pN (a x b y : Int) : Int := if a = 0 then b else if b = 0 then a else if x < y then b else if y < x then a else addV a b
def pO (a x b y : Int) : Int := if a = 0 then y else if b = 0 then x else if x < y then y else x
def pE (a x b y : Int) : Int := if a = 0 then 0 else if b = 0 then 0 else if x < y then 0 else if y < x then 0 else addE a b

set_option maxHeartbeats 1000000 in
theorem fplus_any (a x b y : Int) (w : World) :
    Calls Tryd.prog 33 #[.agg #[.int .i64 a, .int .i64 x], .agg #[.int .i64 b, .int .i64 y]] w fun e w' => e = .returned (.tuple #[.agg #[.int .i64 (pN a x b y), .int .i64 (pO a x b y)], .int .i64 (pE a x b y)]) ∧ Kept w w' := by
  by_cases ha : a = 0
  · have e1 : pN a x b y = b := by simp [pN, ha]
    have e2 : pO a x b y = y := by simp [pO, ha]
    have e3 : pE a x b y = 0 := by simp [pE, ha]
    have hab : (a == 0) = true := by simpa using ha
    rw [e1, e2, e3]
    clear e1 e2 e3 ha
    go_enter Tryd.func33, Tryd.ntmps33
    go_wp2
    exact bodyPost_ret (v := .tuple #[.agg #[.int .i64 b, .int .i64 y], .int .i64 0]) (by simp [results, Tryd.results33, go_sem]) rfl ⟨rfl, (((Kept.refl _).alloc (Nat.le_refl _) _).alloc (by simp) _).alloc (by simp; try omega) _⟩
  · have hab : (a == 0) = false := by simpa using ha
    by_cases hb : b = 0
    · have e1 : pN a x b y = a := by simp [pN, ha, hb]
      have e2 : pO a x b y = x := by simp [pO, ha, hb]
      have e3 : pE a x b y = 0 := by simp [pE, hb]
      have hbb : (b == 0) = true := by simpa using hb
      have hbn : (b != 0) = false := by simpa using hb
      rw [e1, e2, e3]
      clear e1 e2 e3 ha hb
      go_enter Tryd.func33, Tryd.ntmps33
      go_wp2
      exact bodyPost_ret (v := .tuple #[.agg #[.int .i64 a, .int .i64 x], .int .i64 0]) (by simp [results, Tryd.results33, go_sem]) rfl ⟨rfl, (((Kept.refl _).alloc (Nat.le_refl _) _).alloc (by simp) _).alloc (by simp; try omega) _⟩
    · have hbb : (b == 0) = false := by simpa using hb
      have hbn : (b != 0) = true := by simpa using hb
      by_cases h1 : x < y
      · have e1 : pN a x b y = b := by simp [pN, ha, hb, h1]
        have e2 : pO a x b y = y := by simp [pO, ha, hb, h1]
        have e3 : pE a x b y = 0 := by simp [pE, ha, hb, h1]
        rw [e1, e2, e3]
        clear e1 e2 e3 ha hb
        go_enter Tryd.func33, Tryd.ntmps33
        go_wp2
        exact bodyPost_ret (v := .tuple #[.agg #[.int .i64 b, .int .i64 y], .int .i64 0]) (by simp [results, Tryd.results33, go_sem]) rfl ⟨rfl, (((Kept.refl _).alloc (Nat.le_refl _) _).alloc (by simp) _).alloc (by simp; try omega) _⟩
      · have h1b : decide (x < y) = false := decide_eq_false h1
        by_cases h2 : y < x
        · have e1 : pN a x b y = a := by simp [pN, ha, hb, h1, h2]
          have e2 : pO a x b y = x := by simp [pO, ha, hb, h1]
          have e3 : pE a x b y = 0 := by simp [pE, ha, hb, h1, h2]
          rw [e1, e2, e3]
          clear e1 e2 e3 ha hb
          go_enter Tryd.func33, Tryd.ntmps33
          go_wp2
          exact bodyPost_ret (v := .tuple #[.agg #[.int .i64 a, .int .i64 x], .int .i64 0]) (by simp [results, Tryd.results33, go_sem]) rfl ⟨rfl, (((Kept.refl _).alloc (Nat.le_refl _) _).alloc (by simp) _).alloc (by simp; try omega) _⟩
        · have h2b : decide (y < x) = false := decide_eq_false h2
          have e1 : pN a x b y = addV a b := by simp [pN, ha, hb, h1, h2]
          have e2 : pO a x b y = x := by simp [pO, ha, hb, h1]
          have e3 : pE a x b y = addE a b := by simp [pE, ha, hb, h1, h2]
          rw [e1, e2, e3]
          have hadd := fun w => Lib.hid (add_any a b w)
          generalize addV a b = V at *
          generalize addE a b = E at *
          clear e1 e2 e3 ha hb
          obtain ⟨W, hW⟩ : ∃ W, W = ((w.alloc (.cells #[.int .i64 a, .int .i64 x] 53)).alloc (.cells #[.int .i64 b, .int .i64 y] 53)).alloc (.cells #[.int .i64 0, .int .i64 0] 53) := ⟨_, rfl⟩
          obtain ⟨m0, m1, m2⟩ := made3 w _ _ _ W hW
          have hk0 : Kept w W := by rw [hW]; exact (((Kept.refl w).alloc (Nat.le_refl _) _).alloc (by simp) _).alloc (by simp; omega) _
          have hb0 := fun w1 (hk : Kept W w1) => Lib.hid (box_two m0 hk)
          have hb2 := fun w1 (hk : Kept W w1) => Lib.hid (box_two (B := w.heap.size + 1 + 1) m2 hk)
          have hW' := Lib.hid hW
          clear hW m0 m1 m2
          go_enter Tryd.func33, Tryd.ntmps33
          go_wp2_with (fail)
          rw [← hW'.out]
          refine (hadd _).out.mono ?_
          rintro e w1 ⟨rfl, k1⟩
          obtain ⟨p0, p1, p2, p3, p4⟩ := (hb0 _ k1).out
          obtain ⟨r0, r1, r2, r3, r4⟩ := (hb2 _ k1).out
          have kw : Kept w w1 := Kept.trans hk0 k1
          clear k1 hk0
          go_wp2_with (fail)
          exact bodyPost_ret (v := .tuple #[.agg #[.int .i64 V, .int .i64 x], .int .i64 E]) (by simp [results, Tryd.results33, go_sem, r0, r1]) rfl ⟨rfl, Below.setCell (Below.setCell kw (by simp; try omega) _) (by simp; try omega) _⟩
end Go.Proofs.YtdlbpepkgoandaaDoor
