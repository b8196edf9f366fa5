/- The document's Print. -/
import Derived.Test.YtlppbapofenagaaGreatDoorNumber
import Derived.Test.YtlppbapofenagaaGreatDoorPrintMath
import Derived.Test.YtlppbapofenagaaGreatDoorFar
namespace Go.Proofs.YtlppbapofenagaaGreatDoor
open Go.RowKit

theorem refNumber_any (n : Int) (h0 : 0 ≤ n) (h1 : n ≤ 4611686018427387904) (w : World) : Calls Tryz.prog 48 #[.int .i64 n] w fun e w' => e = .returned (.string ⟨(Lib.decDigits n.toNat).toArray⟩) ∧ Kept w w' := by
  obtain ⟨u, rfl⟩ : ∃ u : Nat, n = u := ⟨n.toNat, by omega⟩
  exact number_nat u (by omega) w

set_option maxHeartbeats 4000000 in
set_option maxRecDepth 100000 in
theorem refPrint_pos (m : Int) (w : World) (m0 : 0 ≤ m) (m1 : m ≤ 2147483647) :
    Calls Tryz.prog 18 #[.int .i64 m] w fun e w' => e = .returned (.string ⟨(printL m).toArray⟩) ∧ Kept w w' := by
  have E2 : Hid (printL m = Lib.decDigits (m / 65536).toNat ++ 46 :: fracOf (m % 65536)) := Lib.hid (by
    have e1 : absI m = m := by unfold absI; split <;> omega
    unfold printL
    rw [e1, if_neg (by omega), List.nil_append])
  have hf : fitB m = true := by simp [fitB]; omega
  have hl := dec_len (m / 65536).toNat
  have Hn := fun w => Lib.hid (refNumber_any (m / 65536) (by omega) (by omega) w)
  generalize hD : Lib.decDigits (m / 65536).toNat = D at *
  have HD := Lib.hid hD
  clear hD
  go_enter Tryz.func18, Tryz.ntmps18
  go_wp2_with (first | (go_at_call 47; refine (far_any _ _).mono ?_; rintro e w' ⟨rfl, rfl⟩) | (go_at_call 48; refine (Hn _).out.mono ?_; rintro e w1 ⟨rfl, k1⟩))
  have K1 := Lib.hid k1
  clear k1
  go_loopw [3, 4, 5] (fun o xs ds wr => ∃ (x d : Int) (n : Nat) (l : List UInt8), o = .string ⟨l.toArray⟩ ∧ xs = .int .i64 x ∧ ds = .int .i64 d ∧ AtRound x d n ∧ l.length ≤ 40000 - n ∧ Hid (l ++ fracDigits n x d = D ++ 46 :: fracOf (m % 65536)) ∧ Kept w wr) (fun _ _ ds _ => (1000000 - intOf ds).toNat)
  case atStart => exact ⟨10 * (m % 65536) + 5, 10, 5, D ++ [46], congrArg Value.string (WideShapes.bytes_inj (by simp)), rfl, rfl, by unfold AtRound; omega, by simp; omega, Lib.hid (by simp [fracOf]), K1.out⟩
  case round =>
    obtain ⟨x, d, n, l, rfl, rfl, rfl, hat, hll, Heq, hw⟩ := hrel
    have hy := hat.y
    obtain ⟨x0, x1, hdx⟩ := id hat
    have hn := hat.pos
    obtain ⟨n, rfl⟩ : ∃ k, n = k + 1 := ⟨n - 1, by omega⟩
    obtain ⟨y, ey⟩ : ∃ y, stepY x d = y := ⟨_, rfl⟩
    have hst := fun hx => hat.step hx
    have hla := @fracDigits_last x d n
    have hmo := @fracDigits_more x d n
    rw [ey] at hy hst hla hmo
    have d1 : 10 ≤ d ∧ d ≤ 100000 := by omega
    have n5 : n + 1 ≤ 5 := by omega
    have Hst := Lib.hid hst
    have Hla := Lib.hid hla
    have Hmo := Lib.hid hmo
    have Hw := Lib.hid hw
    obtain ⟨hy0, hy1⟩ := hy
    obtain ⟨d1, d2⟩ := d1
    have hcv := conv_one (48 + y / 65536) (by omega) (by omega) wr
    generalize hch : UInt8.ofNat (48 + y / 65536).toNat = ch at *
    have Hch := Lib.hid hch
    clear hdx hst hla hmo hat hw hch
    have hc : (65536 < d ∧ x + 32768 - 50000 = y) ∨ (¬ 65536 < d ∧ x = y) := by
      by_cases hd : 65536 < d
      · exact .inl ⟨hd, by rw [← ey]; unfold stepY; rw [if_pos hd]; omega⟩
      · exact .inr ⟨hd, by rw [← ey]; simp [stepY, hd]⟩
    clear ey
    rcases hc with ⟨hd, hc⟩ | ⟨hd, hc⟩
    all_goals
      subst hc
      go_wp2
      all_goals first
        | (go_ret
           have hx := Hla.out (by omega)
           have h2 := Heq.out
           rw [hx] at h2
           refine ⟨ret_str ?_, Hw.out.trans ((Below.refl _ _).alloc (Nat.le_refl _) _)⟩
           rw [E2.out, ← h2]
           apply WideShapes.bytes_inj
           simp)
        | (go_roundw
           case rel => exact ⟨_, _, n, l ++ [ch], congrArg Value.string (WideShapes.bytes_inj (by simp)), rfl, rfl, Hst.out (by omega), by simp; omega, Lib.hid (by rw [← Heq.out, Hmo.out (by omega)]; simp), Hw.out.trans ((Below.refl _ _).alloc (Nat.le_refl _) _)⟩
           case measure => simp [intOf]; omega)

set_option maxHeartbeats 2000000 in
theorem refPrint_any (s : Int) (w : World) :
    Calls Tryz.prog 18 #[.int .i64 s] w fun e w' => e = .returned (.string ⟨(if fitB s then printL s else []).toArray⟩) ∧ Kept w w' := by
  cases hf : fitB s
  · go_enter Tryz.func18, Tryz.ntmps18
    go_wp2_with (go_at_call 47; refine (far_any _ _).mono ?_; rintro e w' ⟨rfl, rfl⟩)
    go_ret
    exact ⟨rfl, Kept.refl _⟩
  · obtain ⟨s0, s1⟩ := fit_yes hf
    rw [if_pos rfl]
    by_cases hn : s < 0
    · obtain ⟨m, rfl⟩ : ∃ m, s = -m := ⟨-s, by omega⟩
      have H := fun w => Lib.hid (refPrint_pos m w (by omega) (by omega))
      have E2 : Hid (printL (-m) = 45 :: printL m) := Lib.hid (by
        have e1 : absI (-m) = m := by unfold absI; split <;> omega
        have e2 : absI m = m := by unfold absI; split <;> omega
        unfold printL
        rw [e1, e2, if_pos hn, if_neg (by omega)]; rfl)
      have hpl : (printL m).length ≤ 100000 := by
        unfold printL
        have e2 : absI m = m := by unfold absI; split <;> omega
        have h1 := dec_len (m / 65536).toNat
        have h2 := fracDigits_length 5 (10 * (m % 65536) + 5) 10
        rw [e2, if_neg (by omega)]
        simp only [List.nil_append, List.length_append, List.length_cons, fracOf]
        omega
      generalize printL m = L at *
      go_enter Tryz.func18, Tryz.ntmps18
      go_wp2_with (first | (go_at_call 47; refine (far_any _ _).mono ?_; rintro e w' ⟨rfl, rfl⟩) | (go_at_call 18; refine (H _).out.mono ?_; rintro e w1 ⟨rfl, k1⟩))
      go_ret
      refine ⟨ret_str ?_, k1⟩
      rw [E2.out]
      apply WideShapes.bytes_inj
      simp
    · exact refPrint_pos s w (by omega) (by omega)
end Go.Proofs.YtlppbapofenagaaGreatDoor
