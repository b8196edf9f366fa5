/- glue.Fit. -/
import Derived.Test.YtcikgaflnhpklaaFitMath
import Derived.RegionTactic
import Derived.ChangeAlike
import Derived.Outline
namespace Go.Proofs.Ytcikgaflnhpklaa
open Go.RowKit

theorem gfit_four {r : Bool} {a b c d : Int} {B o : Nat} {w : World} (hr : all4 a b c d = r) (h0 : w.cell? ⟨B, o, none⟩ = some (.int .i64 a)) (h1 : w.cell? ⟨B, o + 1, none⟩ = some (.int .i64 b))
    (h2 : w.cell? ⟨B, o + 2, none⟩ = some (.int .i64 c)) (h3 : w.cell? ⟨B, o + 3, none⟩ = some (.int .i64 d)) :
    Calls Try.prog 24 #[.slice (some ⟨B, o, none⟩) 4 4] w fun e w' => e = .returned (.bool r) ∧ w = w' := by
  subst hr
  have h := gfit_any B o [a, b, c, d] w (by simp) (by
    intro j hj
    simp at hj
    match j, hj with
    | 0, _ => exact h0
    | 1, _ => exact h1
    | 2, _ => exact h2
    | 3, _ => exact h3)
  refine h.mono ?_
  rintro e w' ⟨rfl, rfl⟩
  exact ⟨ret_bool (by simp [all4]), rfl⟩

/-- five results -/
theorem res5 {fn : Func} {a b c d e : Tmp} (h : fn.results = #[.tmp a, .tmp b, .tmp c, .tmp d, .tmp e]) (ts : Array Value) (P : Program) (w : World) :
    (results fn ts).run P w = .ok (.tuple #[ts.getD a undef, ts.getD b undef, ts.getD c undef, ts.getD d undef, ts.getD e undef]) w := by simp [results, h]

theorem Kept.drew {a b : World} (h : Kept a b) : Kept a b.drew := Below.drew h

theorem gfit_single {r : Bool} {a : Int} {B : Nat} {w : World} (hr : inB a = r) (h0 : w.cell? ⟨B, 0, none⟩ = some (.int .i64 a)) :
    Calls Try.prog 24 #[.slice (some ⟨B, 0, none⟩) 1 1] w fun e w' => e = .returned (.bool r) ∧ w = w' := by
  subst hr
  have h := gfit_any B 0 [a] w (by simp) (by
    intro j hj
    simp at hj
    match j, hj with
    | 0, _ => exact h0)
  refine h.mono ?_
  rintro e w' ⟨rfl, rfl⟩
  exact ⟨ret_bool (by simp), rfl⟩

set_option maxRecDepth 100000 in
set_option maxHeartbeats 1000000 in
theorem fit_any (n a0 a1 a2 a3 b0 b1 b2 b3 x : Int) (w : World) :
    Calls Try.prog 9 #[.agg #[.int .i64 n, .int .i64 a0, .int .i64 a1, .int .i64 a2, .int .i64 a3, .int .i64 b0, .int .i64 b1, .int .i64 b2, .int .i64 b3], .int .i64 x] w
      fun e w' => e = (fitT ⟨n, a0, a1, a2, a3, b0, b1, b2, b3⟩ x).ret ∧ Kept w w' := by
  cases hx : inB x
  · have e1 : fitT ⟨n, a0, a1, a2, a3, b0, b1, b2, b3⟩ x = ⟨0, 0, 0, 0, 11⟩ := by simp [fitT, fitOk, hx]
    rw [e1]
    unfold Fitted.ret
    have Hx := Lib.hid hx
    clear hx e1
    go_enter Try.func9, Try.ntmps9
    go_wp2_with (fail)
    refine (gfit_single Hx.out (by go_simp)).mono ?_
    rintro e w1 ⟨rfl, rfl⟩
    go_wp2_with (fail)
    exact bodyPost_ret (res5 rfl _ _ _) rfl ⟨rfl, ((Kept.refl w).alloc (Nat.le_refl _) _).alloc (by simp) _⟩
  · have Hx := Lib.hid hx
    cases ha : all4 a0 a1 a2 a3
    · have e1 : fitT ⟨n, a0, a1, a2, a3, b0, b1, b2, b3⟩ x = ⟨0, 0, 0, 0, 11⟩ := by simp [fitT, fitOk, ha]
      rw [e1]
      unfold Fitted.ret
      have Ha := Lib.hid ha
      clear hx ha e1
      go_enter Try.func9, Try.ntmps9
      go_wp2_with (fail)
      refine (gfit_single Hx.out (by go_simp)).mono ?_
      rintro e w1 ⟨rfl, rfl⟩
      go_wp2_with (fail)
      refine (gfit_four Ha.out (by go_simp) (by go_simp) (by go_simp) (by go_simp)).mono ?_
      rintro e w1 ⟨rfl, rfl⟩
      go_wp2_with (fail)
      exact bodyPost_ret (res5 rfl _ _ _) rfl ⟨rfl, ((Kept.refl w).alloc (Nat.le_refl _) _).alloc (by simp) _⟩
    · cases hb : all4 b0 b1 b2 b3
      · have e1 : fitT ⟨n, a0, a1, a2, a3, b0, b1, b2, b3⟩ x = ⟨0, 0, 0, 0, 11⟩ := by simp [fitT, fitOk, hb]
        rw [e1]
        unfold Fitted.ret
        have Ha := Lib.hid ha
        have Hb := Lib.hid hb
        clear hx ha hb e1
        go_enter Try.func9, Try.ntmps9
        go_wp2_with (fail)
        refine (gfit_single Hx.out (by go_simp)).mono ?_
        rintro e w1 ⟨rfl, rfl⟩
        go_wp2_with (fail)
        refine (gfit_four Ha.out (by go_simp) (by go_simp) (by go_simp) (by go_simp)).mono ?_
        rintro e w1 ⟨rfl, rfl⟩
        go_wp2_with (fail)
        refine (gfit_four Hb.out (by go_simp) (by go_simp) (by go_simp) (by go_simp)).mono ?_
        rintro e w1 ⟨rfl, rfl⟩
        go_wp2_with (fail)
        exact bodyPost_ret (res5 rfl _ _ _) rfl ⟨rfl, ((Kept.refl w).alloc (Nat.le_refl _) _).alloc (by simp) _⟩
      · have Ha := Lib.hid ha
        have Hb := Lib.hid hb
        have eOk : fitOk ⟨n, a0, a1, a2, a3, b0, b1, b2, b3⟩ x = true := by simp [fitOk, hx, ha, hb]
        by_cases hx0 : x = 0
        · subst hx0
          have e1 : fitT ⟨n, a0, a1, a2, a3, b0, b1, b2, b3⟩ 0 = ⟨0, 0, 0, 0, 0⟩ := by simp [fitT, eOk]
          rw [e1]
          unfold Fitted.ret
          have hg := fun w => Lib.hid (greatest_any a0 a1 a2 a3 w)
          clear hx ha hb e1 eOk
          go_enter Try.func9, Try.ntmps9
          go_wp2_with (fail)
          refine (gfit_single Hx.out (by go_simp)).mono ?_
          rintro e w1 ⟨rfl, rfl⟩
          go_wp2_with (fail)
          refine (gfit_four Ha.out (by go_simp) (by go_simp) (by go_simp) (by go_simp)).mono ?_
          rintro e w1 ⟨rfl, rfl⟩
          go_wp2_with (fail)
          refine (gfit_four Hb.out (by go_simp) (by go_simp) (by go_simp) (by go_simp)).mono ?_
          rintro e w1 ⟨rfl, rfl⟩
          go_wp2_with (fail)
          go_region
          all_goals go_wp2_with (fail)
          all_goals refine (hg _).out.mono ?_
          all_goals rintro e w2 ⟨rfl, k2⟩
          all_goals go_wp2_with (fail)
          all_goals exact bodyPost_ret (res5 rfl _ _ _) rfl ⟨rfl, Kept.trans (by repeat (first | exact Kept.refl _ | apply Below.drew | (refine Below.alloc ?_ (by simp; try omega) _) | (refine Below.setCell ?_ (by simp; try omega) _))) k2⟩
        · by_cases hxp : 0 < x
          · have hx1 : ¬ x < 0 := by omega
            have hxb : (x == 0) = false := by simpa using hx0
            obtain ⟨x0, x1⟩ := inB_yes hx
            have hmx : max x (-x) = x := by omega
            have hg := fun w => Lib.hid (greatest_any a0 a1 a2 a3 w)
            rcases top_cases a0 a1 a2 a3 with ⟨t1, _, _, _, _, t2⟩ | ⟨t1, ht⟩
            · have e1 : fitT ⟨n, a0, a1, a2, a3, b0, b1, b2, b3⟩ x = ⟨0, 0, 0, 0, 0⟩ := by simp [fitT, eOk, hx0, hxp, t1]
              rw [e1]
              unfold Fitted.ret
              rw [t1, t2] at hg
              clear hx ha hb e1 eOk t1 t2 hx0
              go_enter Try.func9, Try.ntmps9
              go_wp2_with (fail)
              refine (gfit_single Hx.out (by go_simp)).mono ?_
              rintro e w1 ⟨rfl, rfl⟩
              go_wp2_with (fail)
              refine (gfit_four Ha.out (by go_simp) (by go_simp) (by go_simp) (by go_simp)).mono ?_
              rintro e w1 ⟨rfl, rfl⟩
              go_wp2_with (fail)
              refine (gfit_four Hb.out (by go_simp) (by go_simp) (by go_simp) (by go_simp)).mono ?_
              rintro e w1 ⟨rfl, rfl⟩
              go_wp2_with (fail)
              go_region
              all_goals go_wp2_with (fail)
              all_goals refine (hg _).out.mono ?_
              all_goals rintro e w2 ⟨rfl, k2⟩
              all_goals go_wp2_with (fail)
              all_goals exact bodyPost_ret (res5 rfl _ _ _) rfl ⟨rfl, Kept.trans (by repeat (first | exact Kept.refl _ | apply Below.drew | (refine Below.alloc ?_ (by simp; try omega) _) | (refine Below.setCell ?_ (by simp; try omega) _))) k2⟩
            · have e1 : fitT ⟨n, a0, a1, a2, a3, b0, b1, b2, b3⟩ x = ⟨1, tO a1 a2 a3 4, x, pick4 (tO a1 a2 a3 4) a0 a1 a2 a3, 0⟩ := by simp [fitT, eOk, hx0, hxp, t1]
              rw [e1]
              unfold Fitted.ret
              rw [t1] at hg
              clear hx ha hb e1 eOk t1 hx0
              rcases ht with ⟨t2, _⟩ | ⟨t2, _⟩ | ⟨t2, _⟩ | ⟨t2, _⟩
              all_goals
                rw [t2] at hg ⊢
                clear t2
                simp only [pick4]
                simp only [if_true, Int.reduceEq, if_false]
                go_enter Try.func9, Try.ntmps9
                go_wp2_with (fail)
                refine (gfit_single Hx.out (by go_simp)).mono ?_
                rintro e w1 ⟨rfl, rfl⟩
                go_wp2_with (fail)
                refine (gfit_four Ha.out (by go_simp) (by go_simp) (by go_simp) (by go_simp)).mono ?_
                rintro e w1 ⟨rfl, rfl⟩
                go_wp2_with (fail)
                refine (gfit_four Hb.out (by go_simp) (by go_simp) (by go_simp) (by go_simp)).mono ?_
                rintro e w1 ⟨rfl, rfl⟩
                go_wp2_with (fail)
                go_region
                all_goals go_wp2_with (fail)
                all_goals refine (hg _).out.mono ?_
                all_goals rintro e w2 ⟨rfl, k2⟩
                all_goals obtain ⟨bc, bf⟩ := bcell k2
                all_goals go_wp2_with (fail)
                all_goals go_region
                all_goals go_wp2_with (fail)
                all_goals exact bodyPost_ret (res5 rfl _ _ _) rfl ⟨rfl, Kept.drew (Kept.trans (by repeat (first | exact Kept.refl _ | apply Below.drew | (refine Below.alloc ?_ (by simp; try omega) _) | (refine Below.setCell ?_ (by simp; try omega) _))) k2)⟩
          · have hx1 : x < 0 := by omega
            have hxb : (x == 0) = false := by simpa using hx0
            obtain ⟨x0, x1⟩ := inB_yes hx
            have hmx : max x (-x) = -x := by omega
            have hg := fun w => Lib.hid (greatest_any b0 b1 b2 b3 w)
            rcases top_cases b0 b1 b2 b3 with ⟨t1, _, _, _, _, t2⟩ | ⟨t1, ht⟩
            · have e1 : fitT ⟨n, a0, a1, a2, a3, b0, b1, b2, b3⟩ x = ⟨0, 0, 0, 0, 0⟩ := by simp [fitT, eOk, hx0, hxp, t1]
              rw [e1]
              unfold Fitted.ret
              rw [t1, t2] at hg
              clear hx ha hb e1 eOk t1 t2 hx0 hxp
              go_enter Try.func9, Try.ntmps9
              go_wp2_with (fail)
              refine (gfit_single Hx.out (by go_simp)).mono ?_
              rintro e w1 ⟨rfl, rfl⟩
              go_wp2_with (fail)
              refine (gfit_four Ha.out (by go_simp) (by go_simp) (by go_simp) (by go_simp)).mono ?_
              rintro e w1 ⟨rfl, rfl⟩
              go_wp2_with (fail)
              refine (gfit_four Hb.out (by go_simp) (by go_simp) (by go_simp) (by go_simp)).mono ?_
              rintro e w1 ⟨rfl, rfl⟩
              go_wp2_with (fail)
              go_region
              all_goals go_wp2_with (fail)
              all_goals go_region
              all_goals go_wp2_with (fail)
              all_goals refine (hg _).out.mono ?_
              all_goals rintro e w2 ⟨rfl, k2⟩
              all_goals obtain ⟨bc, bf⟩ := bcell k2
              all_goals go_wp2_with (fail)
              all_goals exact bodyPost_ret (res5 rfl _ _ _) rfl ⟨rfl, Kept.trans (by repeat (first | exact Kept.refl _ | apply Below.drew | (refine Below.alloc ?_ (by simp; try omega) _) | (refine Below.setCell ?_ (by simp; try omega) _))) k2⟩
            · have e1 : fitT ⟨n, a0, a1, a2, a3, b0, b1, b2, b3⟩ x = ⟨2, tO b1 b2 b3 4, (if tO b1 b2 b3 4 = 0 ∧ b0 < -x then b0 else -x), pick4 (tO b1 b2 b3 4) b0 b1 b2 b3, 0⟩ := by simp [fitT, eOk, hx0, hxp, t1]
              rw [e1]
              unfold Fitted.ret
              rw [t1] at hg
              clear hx ha hb e1 eOk t1 hx0 hxp
              rcases ht with ⟨t2, hp0, _⟩ | ⟨t2, _⟩ | ⟨t2, _⟩ | ⟨t2, _⟩
              · rw [t2] at hg ⊢
                clear t2
                simp only [pick4]
                simp only [if_true, true_and]
                by_cases hlt : b0 < -x
                · rw [if_pos hlt]
                  have hmn : min (-x) b0 = b0 := by omega
                  go_enter Try.func9, Try.ntmps9
                  go_wp2_with (fail)
                  refine (gfit_single Hx.out (by go_simp)).mono ?_
                  rintro e w1 ⟨rfl, rfl⟩
                  go_wp2_with (fail)
                  refine (gfit_four Ha.out (by go_simp) (by go_simp) (by go_simp) (by go_simp)).mono ?_
                  rintro e w1 ⟨rfl, rfl⟩
                  go_wp2_with (fail)
                  refine (gfit_four Hb.out (by go_simp) (by go_simp) (by go_simp) (by go_simp)).mono ?_
                  rintro e w1 ⟨rfl, rfl⟩
                  go_wp2_with (fail)
                  go_region
                  all_goals go_wp2_with (fail)
                  all_goals go_region
                  all_goals go_wp2_with (fail)
                  all_goals refine (hg _).out.mono ?_
                  all_goals rintro e w2 ⟨rfl, k2⟩
                  all_goals obtain ⟨bc, bf⟩ := bcell k2
                  all_goals go_wp2_with (fail)
                  all_goals go_region
                  all_goals go_wp2_with (fail)
                  all_goals exact bodyPost_ret (res5 rfl _ _ _) rfl ⟨rfl, Kept.drew (Kept.trans (by repeat (first | exact Kept.refl _ | apply Below.drew | (refine Below.alloc ?_ (by simp; try omega) _) | (refine Below.setCell ?_ (by simp; try omega) _))) k2)⟩
                · rw [if_neg hlt]
                  have hmn : min (-x) b0 = -x := by omega
                  go_enter Try.func9, Try.ntmps9
                  go_wp2_with (fail)
                  refine (gfit_single Hx.out (by go_simp)).mono ?_
                  rintro e w1 ⟨rfl, rfl⟩
                  go_wp2_with (fail)
                  refine (gfit_four Ha.out (by go_simp) (by go_simp) (by go_simp) (by go_simp)).mono ?_
                  rintro e w1 ⟨rfl, rfl⟩
                  go_wp2_with (fail)
                  refine (gfit_four Hb.out (by go_simp) (by go_simp) (by go_simp) (by go_simp)).mono ?_
                  rintro e w1 ⟨rfl, rfl⟩
                  go_wp2_with (fail)
                  go_region
                  all_goals go_wp2_with (fail)
                  all_goals go_region
                  all_goals go_wp2_with (fail)
                  all_goals refine (hg _).out.mono ?_
                  all_goals rintro e w2 ⟨rfl, k2⟩
                  all_goals obtain ⟨bc, bf⟩ := bcell k2
                  all_goals go_wp2_with (fail)
                  all_goals go_region
                  all_goals go_wp2_with (fail)
                  all_goals exact bodyPost_ret (res5 rfl _ _ _) rfl ⟨rfl, Kept.drew (Kept.trans (by repeat (first | exact Kept.refl _ | apply Below.drew | (refine Below.alloc ?_ (by simp; try omega) _) | (refine Below.setCell ?_ (by simp; try omega) _))) k2)⟩
              all_goals
                rw [t2] at hg ⊢
                clear t2
                simp only [pick4]
                simp only [Int.reduceEq, if_false, if_true, false_and]
                go_enter Try.func9, Try.ntmps9
                go_wp2_with (fail)
                refine (gfit_single Hx.out (by go_simp)).mono ?_
                rintro e w1 ⟨rfl, rfl⟩
                go_wp2_with (fail)
                refine (gfit_four Ha.out (by go_simp) (by go_simp) (by go_simp) (by go_simp)).mono ?_
                rintro e w1 ⟨rfl, rfl⟩
                go_wp2_with (fail)
                refine (gfit_four Hb.out (by go_simp) (by go_simp) (by go_simp) (by go_simp)).mono ?_
                rintro e w1 ⟨rfl, rfl⟩
                go_wp2_with (fail)
                go_region
                all_goals go_wp2_with (fail)
                all_goals go_region
                all_goals go_wp2_with (fail)
                all_goals refine (hg _).out.mono ?_
                all_goals rintro e w2 ⟨rfl, k2⟩
                all_goals obtain ⟨bc, bf⟩ := bcell k2
                all_goals go_wp2_with (fail)
                all_goals go_region
                all_goals go_wp2_with (fail)
                all_goals exact bodyPost_ret (res5 rfl _ _ _) rfl ⟨rfl, Kept.drew (Kept.trans (by repeat (first | exact Kept.refl _ | apply Below.drew | (refine Below.alloc ?_ (by simp; try omega) _) | (refine Below.setCell ?_ (by simp; try omega) _))) k2)⟩
end Go.Proofs.Ytcikgaflnhpklaa
