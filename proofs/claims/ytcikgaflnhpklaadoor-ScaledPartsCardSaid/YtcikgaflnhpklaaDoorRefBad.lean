/- The document's Badness; the walk of galleylaw01.ScaledParts. -/
import Derived.Test.YtcikgaflnhpklaaDoorRefPart
import Derived.Test.YtcikgaflnhpklaaDoorBad
import Derived.Test.YtcikgaflnhpklaaDoorKnows
namespace Go.Proofs.YtcikgaflnhpklaaDoor
open Go.RowKit

theorem ratio_val {t s : Int} : ratioR t s = if t ≤ 7230584 then 297 * t / s else if 1663497 ≤ s then t / (s / 297) else t := rfl

set_option maxHeartbeats 2000000 in
theorem refBad_any (t s : Int) (w : World) :
    Calls Tryd.prog 20 #[.int .i64 t, .int .i64 s] w fun e w' => e = .returned (.tuple #[.int .i64 (badV t s), .int .i64 (badE t s)]) ∧ w = w' := by
  cases ha : fitB t
  · have e1 : badV t s = 0 := by simp [badV, ha]
    have e2 : badE t s = 11 := by simp [badE, ha]
    rw [e1, e2]
    have Ha := fun w => Lib.hid (far_yes ha w)
    clear e1 e2 ha
    go_enter Tryd.func20, Tryd.ntmps20
    go_wp2_with (fail)
    refine (Ha _).out.mono ?_
    rintro e w1 ⟨rfl, rfl⟩
    go_wp2_with (fail)
    go_ret2
    exact ⟨rfl, rfl⟩
  · have Ha := fun w => Lib.hid (far_no ha w)
    cases hb : fitB s
    · have e1 : badV t s = 0 := by simp [badV, hb]
      have e2 : badE t s = 11 := by simp [badE, hb]
      rw [e1, e2]
      have Hb := fun w => Lib.hid (far_yes hb w)
      clear e1 e2 ha hb
      go_enter Tryd.func20, Tryd.ntmps20
      go_wp2_with (fail)
      refine (Ha _).out.mono ?_
      rintro e w1 ⟨rfl, rfl⟩
      go_wp2_with (fail)
      refine (Hb _).out.mono ?_
      rintro e w1 ⟨rfl, rfl⟩
      go_wp2_with (fail)
      go_ret2
      exact ⟨rfl, rfl⟩
    · have Hb := fun w => Lib.hid (far_no hb w)
      obtain ⟨t0, t1⟩ := fit_yes ha
      obtain ⟨s0, s1⟩ := fit_yes hb
      have eV : badV t s = if t < 0 then 0 else badR t s := by simp [badV, ha, hb]
      have eE : badE t s = if t < 0 then 1 else 0 := by simp [badE, ha, hb]
      rw [eV, eE]
      clear eV eE ha hb
      by_cases hn : t < 0
      · rw [if_pos hn, if_pos hn]
        go_enter Tryd.func20, Tryd.ntmps20
        go_wp2_with (fail)
        refine (Ha _).out.mono ?_
        rintro e w1 ⟨rfl, rfl⟩
        go_wp2_with (fail)
        refine (Hb _).out.mono ?_
        rintro e w1 ⟨rfl, rfl⟩
        go_wp2_with (fail)
        go_ret2
        exact ⟨rfl, rfl⟩
      · rw [if_neg hn, if_neg hn]
        by_cases hz : t = 0
        · subst hz
          have e1 : badR 0 s = 0 := by simp [badR]
          rw [e1]; clear e1
          go_enter Tryd.func20, Tryd.ntmps20
          go_wp2_with (fail)
          refine (Ha _).out.mono ?_
          rintro e w1 ⟨rfl, rfl⟩
          go_wp2_with (fail)
          refine (Hb _).out.mono ?_
          rintro e w1 ⟨rfl, rfl⟩
          go_wp2_with (fail)
          go_ret2
          exact ⟨rfl, rfl⟩
        · have hzb : (t == 0) = false := by simpa using hz
          by_cases hs : s < 1
          · have e1 : badR t s = 10000 := by simp [badR, hz, hs]
            rw [e1]; clear e1 hz
            go_enter Tryd.func20, Tryd.ntmps20
            go_wp2_with (fail)
            refine (Ha _).out.mono ?_
            rintro e w1 ⟨rfl, rfl⟩
            go_wp2_with (fail)
            refine (Hb _).out.mono ?_
            rintro e w1 ⟨rfl, rfl⟩
            go_wp2_with (fail)
            go_ret2
            exact ⟨rfl, rfl⟩
          · have e1 : badR t s = ofRatio (ratioR t s) := by simp [badR, hz, hs]
            have hr0 := ratioR_nonneg (t := t) (s := s) (by omega) (by omega)
            rw [e1]; clear e1 hz
            have hcase : (t ≤ 7230584 ∧ ratioR t s = 297 * t / s) ∨ (¬ t ≤ 7230584 ∧ 1663497 ≤ s ∧ ratioR t s = t / (s / 297)) ∨ (¬ t ≤ 7230584 ∧ ¬ 1663497 ≤ s ∧ ratioR t s = t) := by
              rw [ratio_val]
              by_cases h1 : t ≤ 7230584
              · rw [if_pos h1]; exact .inl ⟨h1, rfl⟩
              · by_cases h2 : 1663497 ≤ s
                · rw [if_neg h1, if_pos h2]; exact .inr (.inl ⟨h1, h2, rfl⟩)
                · rw [if_neg h1, if_neg h2]; exact .inr (.inr ⟨h1, h2, rfl⟩)
            by_cases hbig : 1290 < ratioR t s
            · have e2 : ofRatio (ratioR t s) = 10000 := by unfold ofRatio; rw [if_pos hbig]
              rw [e2]; clear e2
              generalize ratioR t s = R at *
              rcases hcase with ⟨h1, rfl⟩ | ⟨h1, h2, rfl⟩ | ⟨h1, h2, rfl⟩
              · go_enter Tryd.func20, Tryd.ntmps20
                go_wp2_with (fail)
                refine (Ha _).out.mono ?_
                rintro e w1 ⟨rfl, rfl⟩
                go_wp2_with (fail)
                refine (Hb _).out.mono ?_
                rintro e w1 ⟨rfl, rfl⟩
                go_wp2_with (fail)
                go_ret2
                exact ⟨rfl, rfl⟩
              · have hq : 0 < s / 297 := by omega
                go_enter Tryd.func20, Tryd.ntmps20
                go_wp2_with (fail)
                refine (Ha _).out.mono ?_
                rintro e w1 ⟨rfl, rfl⟩
                go_wp2_with (fail)
                refine (Hb _).out.mono ?_
                rintro e w1 ⟨rfl, rfl⟩
                go_wp2_with (fail)
                go_ret2
                exact ⟨rfl, rfl⟩
              · go_enter Tryd.func20, Tryd.ntmps20
                go_wp2_with (fail)
                refine (Ha _).out.mono ?_
                rintro e w1 ⟨rfl, rfl⟩
                go_wp2_with (fail)
                refine (Hb _).out.mono ?_
                rintro e w1 ⟨rfl, rfl⟩
                go_wp2_with (fail)
                go_ret2
                exact ⟨rfl, rfl⟩
            · have e2 : ofRatio (ratioR t s) = (ratioR t s * ratioR t s * ratioR t s + 131072) / 262144 := by unfold ofRatio; rw [if_neg hbig]
              rw [e2]; clear e2
              obtain ⟨c0, c1⟩ := cube_top hr0 (by omega : ratioR t s ≤ 1290)
              obtain ⟨q0, q1⟩ : 0 ≤ ratioR t s * ratioR t s ∧ ratioR t s * ratioR t s ≤ 1664100 := by
                have h := Int.mul_le_mul (show ratioR t s ≤ 1290 by omega) (show ratioR t s ≤ 1290 by omega) hr0 (by omega)
                exact ⟨Int.mul_nonneg hr0 hr0, by omega⟩
              obtain ⟨R, hR⟩ : ∃ R, ratioR t s = R := ⟨_, rfl⟩
              rw [hR] at hcase hbig hr0 c0 c1 q0 q1 ⊢
              clear hR
              rcases hcase with ⟨h1, hR⟩ | ⟨h1, h2, hR⟩ | ⟨h1, h2, rfl⟩
              · have hR' := hR.symm
                clear hR
                go_enter Tryd.func20, Tryd.ntmps20
                go_wp2_with (fail)
                refine (Ha _).out.mono ?_
                rintro e w1 ⟨rfl, rfl⟩
                go_wp2_with (fail)
                refine (Hb _).out.mono ?_
                rintro e w1 ⟨rfl, rfl⟩
                go_wp2_with (fail)
                go_ret2
                exact ⟨rfl, rfl⟩
              · have hR' := hR.symm
                clear hR
                have hq : 0 < s / 297 := by omega
                go_enter Tryd.func20, Tryd.ntmps20
                go_wp2_with (fail)
                refine (Ha _).out.mono ?_
                rintro e w1 ⟨rfl, rfl⟩
                go_wp2_with (fail)
                refine (Hb _).out.mono ?_
                rintro e w1 ⟨rfl, rfl⟩
                go_wp2_with (fail)
                go_ret2
                exact ⟨rfl, rfl⟩
              · omega

set_option maxHeartbeats 2000000 in
theorem scaledParts_walk (x : Int) (_wx : (Lit.int .i64 x).wf = true) (n : Int) (_wn : (Lit.int .i64 n).wf = true) (d : Int) (_wd : (Lit.int .i64 d).wf = true) (w : World) (ht : Tabs w) :
    Calls Tryd.prog 4 #[.int .i64 x, .int .i64 n, .int .i64 d] w fun e w' => e = .returned (.bool true) ∧ Kept w w' := by
  have HT := Lib.hid ht
  clear ht _wx _wn _wd
  have h1 := fun w => Lib.hid (part_any x n d w)
  have h2 := fun w => Lib.hid (badness_any x n w)
  have h3 := fun w => Lib.hid (refPart_any x n d w)
  have h4 := fun w => Lib.hid (refBad_any x n w)
  generalize prtV x n d = V at *
  generalize prtE x n d = E at *
  generalize badV x n = B at *
  generalize badE x n = F at *
  go_enter Tryd.func4, Tryd.ntmps4
  go_wp2_with (fail)
  refine (h1 _).out.mono ?_
  rintro e w1 ⟨rfl, k1⟩
  go_wp2_with (fail)
  refine (h2 _).out.mono ?_
  rintro e w2 ⟨rfl, k2⟩
  go_wp2_with (fail)
  refine (h3 _).out.mono ?_
  rintro e w3 ⟨rfl, rfl⟩
  go_wp2_with (fail)
  refine (h4 _).out.mono ?_
  rintro e w3 ⟨rfl, rfl⟩
  go_wp2_with (go_at_call 21; refine (num_any _ _).mono ?_; rintro e w' ⟨rfl, rfl⟩)
  refine (knows_any _ (HT.out.kept (k1.trans k2))).mono ?_
  rintro e w3 ⟨rfl, k3⟩
  go_wp2_with (fail)
  go_ret
  exact ⟨rfl, Kept.trans k1 (Kept.trans k2 k3)⟩
end Go.Proofs.YtcikgaflnhpklaaDoor
