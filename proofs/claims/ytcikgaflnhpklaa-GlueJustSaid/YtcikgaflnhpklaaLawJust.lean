/- The walk of galleylaw02.GlueJust. -/
import Derived.Test.YtcikgaflnhpklaaJustMath
import Derived.Test.YtcikgaflnhpklaaLive
import Derived.Outline
namespace Go.Proofs.Ytcikgaflnhpklaa
open Go.RowKit

theorem GAt.more {w : World} {A : Option Addr} {gs : List Gl} {B B' : Nat} (h : GAt w A gs B) (hB : B ≤ B') : GAt w A gs B' := by
  intro hn
  obtain ⟨b, o, e, hlt, hc⟩ := h hn
  exact ⟨b, o, e, by omega, hc⟩

/-- the sizes that a row's setting answers, as numbers in memory -/
theorem sizes_read {w : World} {b n : Nat} {sg od nu de : Int} {gs : List Gl} (h : w.rowIs b 3 n (fun j => .int .i64 (szAt sg od nu de gs j))) (hn : gs.length = n) : IAt w (some ⟨b, 0, none⟩) (szL sg od nu de gs) w.heap.size :=
  IAt.of_row h h.lt (by rw [szL_len, hn]) (fun i hi => by rw [szL_get])

set_option maxRecDepth 100000 in
set_option maxHeartbeats 4000000 in
theorem glueJust_walk (w : World) (A : Option Addr) (gs : List Gl) (c : Nat) (h : GAt w A gs w.heap.size) (hlen : gs.length ≤ 9223372036854775807) (x : Int) :
    Calls Try.prog 5 #[.slice A gs.length c, .int .i64 x] w fun e w' => e = .returned (.bool true) ∧ Kept w w' := by
  by_cases hr : rowE gs = 0
  · have hs := Lib.hid (sum_good A gs c w h hr)
    have hf := fun w => Lib.hid (fit_any (natSum gs) (sumF 1 0 gs) (sumF 1 1 gs) (sumF 1 2 gs) (sumF 1 3 gs) (sumF 2 0 gs) (sumF 2 1 gs) (sumF 2 2 gs) (sumF 2 3 gs) x w)
    have eT : (⟨natSum gs, sumF 1 0 gs, sumF 1 1 gs, sumF 1 2 gs, sumF 1 3 gs, sumF 2 0 gs, sumF 2 1 gs, sumF 2 2 gs, sumF 2 3 gs⟩ : Tot) = totOf gs := rfl
    rw [eT] at hf
    clear eT
    have H := Lib.hid h; clear h
    rcases fit_cases gs x with hF | hF | ⟨hx, hxp, o, o0, o4, hF⟩ | ⟨hx, hxn, o, o0, o4, hF⟩ | ⟨hx, hxn, hp, hlt, hF⟩
    · rw [hF] at hf
      unfold Fitted.ret at hf
      clear hF hr
      go_enter Try.func5, Try.ntmps5
      go_wp2_with (fail)
      refine hs.out.mono ?_
      rintro e w1 ⟨rfl, k1⟩
      go_wp2_with (fail)
      refine (num_any _ _).mono ?_
      rintro e w2 ⟨rfl, rfl⟩
      go_wp2_with (fail)
      refine (hf _).out.mono ?_
      rintro e w2 ⟨rfl, k2⟩
      go_wp2_with (fail)
      refine (num_any _ _).mono ?_
      rintro e w3 ⟨rfl, rfl⟩
      go_wp2_with (fail)
      refine (live_any _).mono ?_
      rintro e w3 ⟨rfl, k3⟩
      go_wp2_with (fail)
      go_ret
      exact ⟨rfl, Kept.trans k1 (Kept.trans ((Kept.refl w1).alloc (Nat.le_refl _) _) (Kept.trans k2 k3))⟩
    · rw [hF] at hf
      unfold Fitted.ret at hf
      have hsz := fun w h => Lib.hid (sizes_good A gs c 0 0 0 0 w h (still_ok hr))
      have htot := fun w b (h : IAt w (some ⟨b, 0, none⟩) (szL 0 0 0 0 gs) w.heap.size) => Lib.hid (total_any (some ⟨b, 0, none⟩) (szL 0 0 0 0 gs) gs.length w (by rw [szL_len]; exact hlen) h (sz_bd hr))
      rw [still_total] at htot
      simp only [szL_len] at htot
      clear hF hr
      generalize sumF 1 0 gs = a0 at *
      generalize sumF 1 1 gs = a1 at *
      generalize sumF 1 2 gs = a2 at *
      generalize sumF 1 3 gs = a3 at *
      generalize sumF 2 0 gs = b0 at *
      generalize sumF 2 1 gs = b1 at *
      generalize sumF 2 2 gs = b2 at *
      generalize sumF 2 3 gs = b3 at *
      generalize natSum gs = n at *
      go_enter Try.func5, Try.ntmps5
      go_wp2_with (fail)
      refine hs.out.mono ?_
      rintro e w1 ⟨rfl, k1⟩
      go_wp2_with (fail)
      refine (num_any _ _).mono ?_
      rintro e w2 ⟨rfl, rfl⟩
      have hbx := Lib.hid (made1 w1 (.cells #[.int .i64 n, .int .i64 a0, .int .i64 a1, .int .i64 a2, .int .i64 a3, .int .i64 b0, .int .i64 b1, .int .i64 b2, .int .i64 b3] 24))
      go_wp2_with (fail)
      refine (hf _).out.mono ?_
      rintro e w2 ⟨rfl, k2⟩
      go_wp2_with (fail)
      refine (num_any _ _).mono ?_
      rintro e w3 ⟨rfl, rfl⟩
      go_wp2_with (fail)
      have k12 : Kept w w2 := Kept.trans k1 (Kept.trans ((Kept.refl w1).alloc (Nat.le_refl _) _) k2)
      refine (hsz _ ?_).out.mono ?_
      · exact (GAt.below H.out k12).more k12.size
      rintro e w3 ⟨b, rfl, hbb, hrow, k3⟩
      go_wp2_with (fail)
      refine (num_any _ _).mono ?_
      rintro e w4 ⟨rfl, rfl⟩
      go_wp2_with (fail)
      refine (htot _ _ (sizes_read hrow rfl)).out.mono ?_
      rintro e w4 ⟨rfl, rfl⟩
      obtain ⟨x0, x1, x2, x3, x4, x5, x6, x7, x8, _⟩ := box_nine hbx.out ((Kept.trans k2 k3).block w1.heap.size (by simp))
      have hl2 : w1.heap.size < w3.heap.size := by have := (Kept.trans k2 k3).size; simp at this; omega
      have k13 := Kept.trans k12 k3
      clear k1 k2 k3 hbb
      have Hrow := Lib.hid hrow; clear hrow
      go_wp2_with (fail)
      refine (live_any _).mono ?_
      rintro e w5 ⟨rfl, k5⟩
      go_wp2_with (fail)
      go_ret
      exact ⟨rfl, Kept.trans k13 k5⟩
    · rw [hF] at hf
      unfold Fitted.ret at hf
      clear hF
      have ho4 : o < 4 := o4
      obtain ⟨n0, n1⟩ := nat_bd hr gs.length
      rw [List.take_length] at n0 n1
      obtain ⟨i0, i1⟩ := inB_yes hx
      by_cases hok : szOk gs 1 o (x) (sumF 1 o gs)
      · have hsz := fun w h => Lib.hid (sizes_good A gs c 1 o (x) (sumF 1 o gs) w h hok)
        have htot := fun w b (h : IAt w (some ⟨b, 0, none⟩) (szL 1 o (x) (sumF 1 o gs) gs) w.heap.size) => Lib.hid (total_any (some ⟨b, 0, none⟩) (szL 1 o (x) (sumF 1 o gs) gs) gs.length w (by rw [szL_len]; exact hlen) h (sz_bd hr))
        have hst := set_total (.inl rfl) hok
        rw [show natSum gs + (if (1 : Int) = 2 then -(x) else x) = natSum gs + x by rw [if_neg (by decide)]] at hst
        rw [hst] at htot
        simp only [szL_len] at htot
        clear hr hok hst hx 
        generalize sumF 1 o gs = dd at *
        generalize sumF 1 0 gs = a0 at *
        generalize sumF 1 1 gs = a1 at *
        generalize sumF 1 2 gs = a2 at *
        generalize sumF 1 3 gs = a3 at *
        generalize sumF 2 0 gs = b0 at *
        generalize sumF 2 1 gs = b1 at *
        generalize sumF 2 2 gs = b2 at *
        generalize sumF 2 3 gs = b3 at *
        generalize natSum gs = n at *
        go_enter Try.func5, Try.ntmps5
        go_wp2_with (fail)
        refine hs.out.mono ?_
        rintro e w1 ⟨rfl, k1⟩
        go_wp2_with (fail)
        refine (num_any _ _).mono ?_
        rintro e w2 ⟨rfl, rfl⟩
        have hbx := Lib.hid (made1 w1 (.cells #[.int .i64 n, .int .i64 a0, .int .i64 a1, .int .i64 a2, .int .i64 a3, .int .i64 b0, .int .i64 b1, .int .i64 b2, .int .i64 b3] 24))
        go_wp2_with (fail)
        refine (hf _).out.mono ?_
        rintro e w2 ⟨rfl, k2⟩
        go_wp2_with (fail)
        refine (num_any _ _).mono ?_
        rintro e w3 ⟨rfl, rfl⟩
        go_wp2_with (fail)
        have k12 : Kept w w2 := Kept.trans k1 (Kept.trans ((Kept.refl w1).alloc (Nat.le_refl _) _) k2)
        refine (hsz _ ?_).out.mono ?_
        · exact (GAt.below H.out k12).more k12.size
        rintro e w3 ⟨b, rfl, hbb, hrow, k3⟩
        go_wp2_with (fail)
        refine (num_any _ _).mono ?_
        rintro e w4 ⟨rfl, rfl⟩
        go_wp2_with (fail)
        refine (htot _ _ (sizes_read hrow rfl)).out.mono ?_
        rintro e w4 ⟨rfl, rfl⟩
        obtain ⟨x0, x1, x2, x3, x4, x5, x6, x7, x8, _⟩ := box_nine hbx.out ((Kept.trans k2 k3).block w1.heap.size (by simp))
        have hl2 : w1.heap.size < w3.heap.size := by have := (Kept.trans k2 k3).size; simp at this; omega
        have k13 := Kept.trans k12 k3
        clear k1 k2 k3 hbb
        have Hrow := Lib.hid hrow; clear hrow
        go_wp2_with (fail)
        refine (live_any _).mono ?_
        rintro e w5 ⟨rfl, k5⟩
        go_wp2_with (fail)
        go_ret
        exact ⟨rfl, Kept.trans k13 k5⟩
      · have hsz := fun w h => Lib.hid (sizes_bad A gs c 1 o (x) (sumF 1 o gs) w hlen h hok)
        clear hr hok hx 
        generalize sumF 1 o gs = dd at *
        generalize sumF 1 0 gs = a0 at *
        generalize sumF 1 1 gs = a1 at *
        generalize sumF 1 2 gs = a2 at *
        generalize sumF 1 3 gs = a3 at *
        generalize sumF 2 0 gs = b0 at *
        generalize sumF 2 1 gs = b1 at *
        generalize sumF 2 2 gs = b2 at *
        generalize sumF 2 3 gs = b3 at *
        generalize natSum gs = n at *
        go_enter Try.func5, Try.ntmps5
        go_wp2_with (fail)
        refine hs.out.mono ?_
        rintro e w1 ⟨rfl, k1⟩
        go_wp2_with (fail)
        refine (num_any _ _).mono ?_
        rintro e w2 ⟨rfl, rfl⟩
        have hbx := Lib.hid (made1 w1 (.cells #[.int .i64 n, .int .i64 a0, .int .i64 a1, .int .i64 a2, .int .i64 a3, .int .i64 b0, .int .i64 b1, .int .i64 b2, .int .i64 b3] 24))
        go_wp2_with (fail)
        refine (hf _).out.mono ?_
        rintro e w2 ⟨rfl, k2⟩
        go_wp2_with (fail)
        refine (num_any _ _).mono ?_
        rintro e w3 ⟨rfl, rfl⟩
        go_wp2_with (fail)
        have k12 : Kept w w2 := Kept.trans k1 (Kept.trans ((Kept.refl w1).alloc (Nat.le_refl _) _) k2)
        refine (hsz _ ?_).out.mono ?_
        · exact (GAt.below H.out k12).more k12.size
        rintro e w3 ⟨c2, hc2, rfl, k3⟩
        have hc2b : (c2 != 0) = true := by simpa using hc2
        clear hc2
        go_wp2_with (fail)
        refine (num_any _ _).mono ?_
        rintro e w4 ⟨rfl, rfl⟩
        go_wp2_with (fail)
        refine (live_any _).mono ?_
        rintro e w5 ⟨rfl, k5⟩
        go_wp2_with (fail)
        go_ret
        exact ⟨rfl, Kept.trans k12 (Kept.trans k3 k5)⟩
    · rw [hF] at hf
      unfold Fitted.ret at hf
      clear hF
      have ho4 : o < 4 := o4
      obtain ⟨n0, n1⟩ := nat_bd hr gs.length
      rw [List.take_length] at n0 n1
      obtain ⟨i0, i1⟩ := inB_yes hx
      by_cases hok : szOk gs 2 o (-x) (sumF 2 o gs)
      · have hsz := fun w h => Lib.hid (sizes_good A gs c 2 o (-x) (sumF 2 o gs) w h hok)
        have htot := fun w b (h : IAt w (some ⟨b, 0, none⟩) (szL 2 o (-x) (sumF 2 o gs) gs) w.heap.size) => Lib.hid (total_any (some ⟨b, 0, none⟩) (szL 2 o (-x) (sumF 2 o gs) gs) gs.length w (by rw [szL_len]; exact hlen) h (sz_bd hr))
        have hst := set_total (.inr rfl) hok
        rw [show natSum gs + (if (2 : Int) = 2 then -(-x) else -x) = natSum gs + x by rw [if_pos rfl]; omega] at hst
        rw [hst] at htot
        simp only [szL_len] at htot
        clear hr hok hst hx 
        generalize sumF 2 o gs = dd at *
        generalize sumF 1 0 gs = a0 at *
        generalize sumF 1 1 gs = a1 at *
        generalize sumF 1 2 gs = a2 at *
        generalize sumF 1 3 gs = a3 at *
        generalize sumF 2 0 gs = b0 at *
        generalize sumF 2 1 gs = b1 at *
        generalize sumF 2 2 gs = b2 at *
        generalize sumF 2 3 gs = b3 at *
        generalize natSum gs = n at *
        go_enter Try.func5, Try.ntmps5
        go_wp2_with (fail)
        refine hs.out.mono ?_
        rintro e w1 ⟨rfl, k1⟩
        go_wp2_with (fail)
        refine (num_any _ _).mono ?_
        rintro e w2 ⟨rfl, rfl⟩
        have hbx := Lib.hid (made1 w1 (.cells #[.int .i64 n, .int .i64 a0, .int .i64 a1, .int .i64 a2, .int .i64 a3, .int .i64 b0, .int .i64 b1, .int .i64 b2, .int .i64 b3] 24))
        go_wp2_with (fail)
        refine (hf _).out.mono ?_
        rintro e w2 ⟨rfl, k2⟩
        go_wp2_with (fail)
        refine (num_any _ _).mono ?_
        rintro e w3 ⟨rfl, rfl⟩
        go_wp2_with (fail)
        have k12 : Kept w w2 := Kept.trans k1 (Kept.trans ((Kept.refl w1).alloc (Nat.le_refl _) _) k2)
        refine (hsz _ ?_).out.mono ?_
        · exact (GAt.below H.out k12).more k12.size
        rintro e w3 ⟨b, rfl, hbb, hrow, k3⟩
        go_wp2_with (fail)
        refine (num_any _ _).mono ?_
        rintro e w4 ⟨rfl, rfl⟩
        go_wp2_with (fail)
        refine (htot _ _ (sizes_read hrow rfl)).out.mono ?_
        rintro e w4 ⟨rfl, rfl⟩
        obtain ⟨x0, x1, x2, x3, x4, x5, x6, x7, x8, _⟩ := box_nine hbx.out ((Kept.trans k2 k3).block w1.heap.size (by simp))
        have hl2 : w1.heap.size < w3.heap.size := by have := (Kept.trans k2 k3).size; simp at this; omega
        have k13 := Kept.trans k12 k3
        clear k1 k2 k3 hbb
        have Hrow := Lib.hid hrow; clear hrow
        go_wp2_with (fail)
        refine (live_any _).mono ?_
        rintro e w5 ⟨rfl, k5⟩
        go_wp2_with (fail)
        go_ret
        exact ⟨rfl, Kept.trans k13 k5⟩
      · have hsz := fun w h => Lib.hid (sizes_bad A gs c 2 o (-x) (sumF 2 o gs) w hlen h hok)
        clear hr hok hx 
        generalize sumF 2 o gs = dd at *
        generalize sumF 1 0 gs = a0 at *
        generalize sumF 1 1 gs = a1 at *
        generalize sumF 1 2 gs = a2 at *
        generalize sumF 1 3 gs = a3 at *
        generalize sumF 2 0 gs = b0 at *
        generalize sumF 2 1 gs = b1 at *
        generalize sumF 2 2 gs = b2 at *
        generalize sumF 2 3 gs = b3 at *
        generalize natSum gs = n at *
        go_enter Try.func5, Try.ntmps5
        go_wp2_with (fail)
        refine hs.out.mono ?_
        rintro e w1 ⟨rfl, k1⟩
        go_wp2_with (fail)
        refine (num_any _ _).mono ?_
        rintro e w2 ⟨rfl, rfl⟩
        have hbx := Lib.hid (made1 w1 (.cells #[.int .i64 n, .int .i64 a0, .int .i64 a1, .int .i64 a2, .int .i64 a3, .int .i64 b0, .int .i64 b1, .int .i64 b2, .int .i64 b3] 24))
        go_wp2_with (fail)
        refine (hf _).out.mono ?_
        rintro e w2 ⟨rfl, k2⟩
        go_wp2_with (fail)
        refine (num_any _ _).mono ?_
        rintro e w3 ⟨rfl, rfl⟩
        go_wp2_with (fail)
        have k12 : Kept w w2 := Kept.trans k1 (Kept.trans ((Kept.refl w1).alloc (Nat.le_refl _) _) k2)
        refine (hsz _ ?_).out.mono ?_
        · exact (GAt.below H.out k12).more k12.size
        rintro e w3 ⟨c2, hc2, rfl, k3⟩
        have hc2b : (c2 != 0) = true := by simpa using hc2
        clear hc2
        go_wp2_with (fail)
        refine (num_any _ _).mono ?_
        rintro e w4 ⟨rfl, rfl⟩
        go_wp2_with (fail)
        refine (live_any _).mono ?_
        rintro e w5 ⟨rfl, k5⟩
        go_wp2_with (fail)
        go_ret
        exact ⟨rfl, Kept.trans k12 (Kept.trans k3 k5)⟩
    · rw [hF] at hf
      unfold Fitted.ret at hf
      clear hF
      have hxx := hxn
      obtain ⟨n0, n1⟩ := nat_bd hr gs.length
      rw [List.take_length] at n0 n1
      obtain ⟨i0, i1⟩ := inB_yes hx
      by_cases hok : szOk gs 2 0 (sumF 2 0 gs) (sumF 2 0 gs)
      · have hsz := fun w h => Lib.hid (sizes_good A gs c 2 0 (sumF 2 0 gs) (sumF 2 0 gs) w h hok)
        have htot := fun w b (h : IAt w (some ⟨b, 0, none⟩) (szL 2 0 (sumF 2 0 gs) (sumF 2 0 gs) gs) w.heap.size) => Lib.hid (total_any (some ⟨b, 0, none⟩) (szL 2 0 (sumF 2 0 gs) (sumF 2 0 gs) gs) gs.length w (by rw [szL_len]; exact hlen) h (sz_bd hr))
        have hst := set_total (.inr rfl) hok
        rw [show natSum gs + (if (2 : Int) = 2 then -(sumF 2 0 gs) else sumF 2 0 gs) = natSum gs - sumF 2 0 gs by rw [if_pos rfl]; omega] at hst
        rw [hst] at htot
        simp only [szL_len] at htot
        clear hr hok hst hx 
        generalize sumF 1 0 gs = a0 at *
        generalize sumF 1 1 gs = a1 at *
        generalize sumF 1 2 gs = a2 at *
        generalize sumF 1 3 gs = a3 at *
        generalize sumF 2 0 gs = b0 at *
        generalize sumF 2 1 gs = b1 at *
        generalize sumF 2 2 gs = b2 at *
        generalize sumF 2 3 gs = b3 at *
        generalize natSum gs = n at *
        have hne : (n - b0 == n + x) = false := by rw [beq_eq_false_iff_ne]; omega
        have hpp : b0 < -x := hlt
        go_enter Try.func5, Try.ntmps5
        go_wp2_with (fail)
        refine hs.out.mono ?_
        rintro e w1 ⟨rfl, k1⟩
        go_wp2_with (fail)
        refine (num_any _ _).mono ?_
        rintro e w2 ⟨rfl, rfl⟩
        have hbx := Lib.hid (made1 w1 (.cells #[.int .i64 n, .int .i64 a0, .int .i64 a1, .int .i64 a2, .int .i64 a3, .int .i64 b0, .int .i64 b1, .int .i64 b2, .int .i64 b3] 24))
        go_wp2_with (fail)
        refine (hf _).out.mono ?_
        rintro e w2 ⟨rfl, k2⟩
        go_wp2_with (fail)
        refine (num_any _ _).mono ?_
        rintro e w3 ⟨rfl, rfl⟩
        go_wp2_with (fail)
        have k12 : Kept w w2 := Kept.trans k1 (Kept.trans ((Kept.refl w1).alloc (Nat.le_refl _) _) k2)
        refine (hsz _ ?_).out.mono ?_
        · exact (GAt.below H.out k12).more k12.size
        rintro e w3 ⟨b, rfl, hbb, hrow, k3⟩
        go_wp2_with (fail)
        refine (num_any _ _).mono ?_
        rintro e w4 ⟨rfl, rfl⟩
        go_wp2_with (fail)
        refine (htot _ _ (sizes_read hrow rfl)).out.mono ?_
        rintro e w4 ⟨rfl, rfl⟩
        obtain ⟨x0, x1, x2, x3, x4, x5, x6, x7, x8, _⟩ := box_nine hbx.out ((Kept.trans k2 k3).block w1.heap.size (by simp))
        have hl2 : w1.heap.size < w3.heap.size := by have := (Kept.trans k2 k3).size; simp at this; omega
        have k13 := Kept.trans k12 k3
        clear k1 k2 k3 hbb
        have Hrow := Lib.hid hrow; clear hrow
        go_wp2_with (fail)
        refine (live_any _).mono ?_
        rintro e w5 ⟨rfl, k5⟩
        go_wp2_with (fail)
        go_ret
        exact ⟨rfl, Kept.trans k13 k5⟩
      · have hsz := fun w h => Lib.hid (sizes_bad A gs c 2 0 (sumF 2 0 gs) (sumF 2 0 gs) w hlen h hok)
        clear hr hok hx 
        generalize sumF 1 0 gs = a0 at *
        generalize sumF 1 1 gs = a1 at *
        generalize sumF 1 2 gs = a2 at *
        generalize sumF 1 3 gs = a3 at *
        generalize sumF 2 0 gs = b0 at *
        generalize sumF 2 1 gs = b1 at *
        generalize sumF 2 2 gs = b2 at *
        generalize sumF 2 3 gs = b3 at *
        generalize natSum gs = n at *
        go_enter Try.func5, Try.ntmps5
        go_wp2_with (fail)
        refine hs.out.mono ?_
        rintro e w1 ⟨rfl, k1⟩
        go_wp2_with (fail)
        refine (num_any _ _).mono ?_
        rintro e w2 ⟨rfl, rfl⟩
        have hbx := Lib.hid (made1 w1 (.cells #[.int .i64 n, .int .i64 a0, .int .i64 a1, .int .i64 a2, .int .i64 a3, .int .i64 b0, .int .i64 b1, .int .i64 b2, .int .i64 b3] 24))
        go_wp2_with (fail)
        refine (hf _).out.mono ?_
        rintro e w2 ⟨rfl, k2⟩
        go_wp2_with (fail)
        refine (num_any _ _).mono ?_
        rintro e w3 ⟨rfl, rfl⟩
        go_wp2_with (fail)
        have k12 : Kept w w2 := Kept.trans k1 (Kept.trans ((Kept.refl w1).alloc (Nat.le_refl _) _) k2)
        refine (hsz _ ?_).out.mono ?_
        · exact (GAt.below H.out k12).more k12.size
        rintro e w3 ⟨c2, hc2, rfl, k3⟩
        have hc2b : (c2 != 0) = true := by simpa using hc2
        clear hc2
        go_wp2_with (fail)
        refine (num_any _ _).mono ?_
        rintro e w4 ⟨rfl, rfl⟩
        go_wp2_with (fail)
        refine (live_any _).mono ?_
        rintro e w5 ⟨rfl, k5⟩
        go_wp2_with (fail)
        go_ret
        exact ⟨rfl, Kept.trans k12 (Kept.trans k3 k5)⟩
  · have hs := Lib.hid (sum_bad A gs c w hlen h hr)
    have hE : (rowE gs != 0) = true := by simpa using hr
    clear h hr
    generalize rowE gs = E at *
    have heq : ∀ w, (binOp .eql 24 (.agg #[.int .i64 0, .int .i64 0, .int .i64 0, .int .i64 0, .int .i64 0, .int .i64 0, .int .i64 0, .int .i64 0, .int .i64 0]) (.agg #[.int .i64 0, .int .i64 0, .int .i64 0, .int .i64 0, .int .i64 0, .int .i64 0, .int .i64 0, .int .i64 0, .int .i64 0])).run Try.prog w = .ok (.bool true) w := fun _ => by kernel_rfl
    go_enter Try.func5, Try.ntmps5
    go_wp2_with (fail)
    refine hs.out.mono ?_
    rintro e w1 ⟨rfl, k1⟩
    go_wp2_with (fail)
    refine (num_any _ _).mono ?_
    rintro e w2 ⟨rfl, rfl⟩
    go_wp2_with (fail)
    refine (live_any _).mono ?_
    rintro e w2 ⟨rfl, k2⟩
    go_wp2_with (fail)
    go_ret
    exact ⟨rfl, Kept.trans k1 (Kept.trans ((Kept.refl w1).alloc (Nat.le_refl _) _) k2)⟩
end Go.Proofs.Ytcikgaflnhpklaa
