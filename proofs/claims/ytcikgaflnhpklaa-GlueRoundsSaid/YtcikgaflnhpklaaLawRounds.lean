/- The walk of galleylaw02.GlueRounds. -/
import Derived.Test.YtcikgaflnhpklaaShareLaws
import Derived.Test.YtcikgaflnhpklaaLive
namespace Go.Proofs.Ytcikgaflnhpklaa
open Go.RowKit

set_option maxHeartbeats 4000000 in
theorem glueRounds_walk (s : Int) (_ws : (Lit.int .i64 s).wf = true) (m : Int) (_wm : (Lit.int .i64 m).wf = true) (n : Int) (_wn : (Lit.int .i64 n).wf = true) (d : Int) (_wd : (Lit.int .i64 d).wf = true) (w : World) :
    Calls Try.prog 8 #[.int .i64 s, .int .i64 m, .int .i64 n, .int .i64 d] w fun e w' => e = .returned (.bool true) ∧ Kept w w' := by
  clear _ws _wm _wn _wd
  have h1 := fun w => Lib.hid (share_any s n d w)
  by_cases hE : shareE s n d = 0
  · have hb := fun w => Lib.hid (share_any (-s) n d w)
    have hc := fun w => Lib.hid (share_any d n d w)
    have hm := fun w => Lib.hid (share_any m n d w)
    obtain ⟨⟨s0, s1⟩, ⟨n0, n1⟩, ⟨d0, d1⟩, _⟩ := share_parts hE
    obtain ⟨a0, a1⟩ := shareV_bd s n d
    obtain ⟨b0, b1⟩ := shareV_bd m n d
    rw [hE] at h1
    rw [(share_neg hE).1, (share_neg hE).2] at hb
    rw [(share_full hE).1, (share_full hE).2] at hc
    have Hm1 := Lib.hid (fun hE' hn hle => share_mono hE hE' hn hle : shareE m n d = 0 → 0 ≤ n → m ≤ s → shareV m n d ≤ shareV s n d)
    have Hm2 := Lib.hid (fun hE' hn hle => share_mono hE' hE hn hle : shareE m n d = 0 → 0 ≤ n → s ≤ m → shareV s n d ≤ shareV m n d)
    clear hE
    generalize shareV s n d = V at *
    generalize shareV m n d = U at *
    generalize shareE m n d = E at *
    by_cases hEm : E = 0
    · subst hEm
      by_cases hn : n < 0
      · clear Hm1 Hm2
        go_enter Try.func8, Try.ntmps8
        go_wp2_with (fail)
        refine (h1 _).out.mono ?_
        rintro e w1 ⟨rfl, k1⟩
        go_wp2_with (fail)
        refine (num_any _ _).mono ?_
        rintro e w2 ⟨rfl, rfl⟩
        go_wp2_with (fail)
        refine (hb _).out.mono ?_
        rintro e w2 ⟨rfl, k2⟩
        go_wp2_with (fail)
        refine (hc _).out.mono ?_
        rintro e w3 ⟨rfl, k3⟩
        go_wp2_with (fail)
        refine (num_any _ _).mono ?_
        rintro e w4 ⟨rfl, rfl⟩
        go_wp2_with (fail)
        refine (num_any _ _).mono ?_
        rintro e w4 ⟨rfl, rfl⟩
        go_wp2_with (fail)
        refine (hm _).out.mono ?_
        rintro e w4 ⟨rfl, k4⟩
        go_wp2_with (fail)
        refine (num_any _ _).mono ?_
        rintro e w5 ⟨rfl, rfl⟩
        go_wp2_with (fail)
        refine (live_any _).mono ?_
        rintro e w5 ⟨rfl, k5⟩
        go_wp2_with (fail)
        go_ret
        exact ⟨rfl, Kept.trans k1 (Kept.trans k2 (Kept.trans k3 (Kept.trans k4 k5)))⟩
      · have hs : (m < s ∧ U ≤ V) ∨ (m = s ∧ U = V) ∨ (s < m ∧ V ≤ U) := by
          rcases Int.lt_trichotomy m s with h | h | h
          · exact .inl ⟨h, Hm1.out rfl (by omega) (by omega)⟩
          · exact .inr (.inl ⟨h, Int.le_antisymm (Hm1.out rfl (by omega) (by omega)) (Hm2.out rfl (by omega) (by omega))⟩)
          · exact .inr (.inr ⟨h, Hm2.out rfl (by omega) (by omega)⟩)
        clear Hm1 Hm2
        rcases hs with ⟨g1, g2⟩ | ⟨rfl, rfl⟩ | ⟨g1, g2⟩
        all_goals
          go_enter Try.func8, Try.ntmps8
          go_wp2_with (fail)
          refine (h1 _).out.mono ?_
          rintro e w1 ⟨rfl, k1⟩
          go_wp2_with (fail)
          refine (num_any _ _).mono ?_
          rintro e w2 ⟨rfl, rfl⟩
          go_wp2_with (fail)
          refine (hb _).out.mono ?_
          rintro e w2 ⟨rfl, k2⟩
          go_wp2_with (fail)
          refine (hc _).out.mono ?_
          rintro e w3 ⟨rfl, k3⟩
          go_wp2_with (fail)
          refine (num_any _ _).mono ?_
          rintro e w4 ⟨rfl, rfl⟩
          go_wp2_with (fail)
          refine (num_any _ _).mono ?_
          rintro e w4 ⟨rfl, rfl⟩
          go_wp2_with (fail)
          refine (hm _).out.mono ?_
          rintro e w4 ⟨rfl, k4⟩
          go_wp2_with (fail)
          refine (num_any _ _).mono ?_
          rintro e w5 ⟨rfl, rfl⟩
          go_wp2_with (fail)
          refine (live_any _).mono ?_
          rintro e w5 ⟨rfl, k5⟩
          go_wp2_with (fail)
          go_ret
          exact ⟨rfl, Kept.trans k1 (Kept.trans k2 (Kept.trans k3 (Kept.trans k4 k5)))⟩
    · have hEm' : (E != 0) = true := by simpa using hEm
      clear Hm1 Hm2
      go_enter Try.func8, Try.ntmps8
      go_wp2_with (fail)
      refine (h1 _).out.mono ?_
      rintro e w1 ⟨rfl, k1⟩
      go_wp2_with (fail)
      refine (num_any _ _).mono ?_
      rintro e w2 ⟨rfl, rfl⟩
      go_wp2_with (fail)
      refine (hb _).out.mono ?_
      rintro e w2 ⟨rfl, k2⟩
      go_wp2_with (fail)
      refine (hc _).out.mono ?_
      rintro e w3 ⟨rfl, k3⟩
      go_wp2_with (fail)
      refine (num_any _ _).mono ?_
      rintro e w4 ⟨rfl, rfl⟩
      go_wp2_with (fail)
      refine (num_any _ _).mono ?_
      rintro e w4 ⟨rfl, rfl⟩
      go_wp2_with (fail)
      refine (hm _).out.mono ?_
      rintro e w4 ⟨rfl, k4⟩
      go_wp2_with (fail)
      refine (num_any _ _).mono ?_
      rintro e w5 ⟨rfl, rfl⟩
      go_wp2_with (fail)
      refine (live_any _).mono ?_
      rintro e w5 ⟨rfl, k5⟩
      go_wp2_with (fail)
      go_ret
      exact ⟨rfl, Kept.trans k1 (Kept.trans k2 (Kept.trans k3 (Kept.trans k4 k5)))⟩
  · rw [share_bad hE] at h1
    generalize shareE s n d = E at *
    have hE' : (E != 0) = true := by simpa using hE
    go_enter Try.func8, Try.ntmps8
    go_wp2_with (fail)
    refine (h1 _).out.mono ?_
    rintro e w1 ⟨rfl, k1⟩
    go_wp2_with (fail)
    refine (num_any _ _).mono ?_
    rintro e w2 ⟨rfl, rfl⟩
    go_wp2_with (fail)
    refine (live_any _).mono ?_
    rintro e w5 ⟨rfl, k5⟩
    go_wp2_with (fail)
    go_ret
    exact ⟨rfl, Kept.trans k1 k5⟩
end Go.Proofs.Ytcikgaflnhpklaa
