/- font.fix, sized. -/
import Derived.Test.YtnipndfnfpofgaaCMetric
namespace Go.Proofs.Ytnipndfnfpofgaa
open Go.RowKit

def FixAt (xs : List Int) (w : World) (i : Value) (wr : World) : Prop := ∃ k : Nat, k ≤ xs.length ∧ i = .int .i64 k ∧ (∀ j, ∀ h : j < k, ∀ h' : j < xs.length, fixB xs[j] = true) ∧ Kept w wr

set_option maxHeartbeats 1000000 in
theorem cfix_any (A : Option Addr) (xs : List Int) (c : Nat) (w : World) (hl : xs.length ≤ 9223372036854775807) (hx : NumsAt w A xs w.heap.size) :
    Calls Try.prog 59 #[.slice A xs.length c] w fun e w' => e = .returned (.bool (xs.all fixB)) ∧ Kept w w' := by
  have HX := Lib.hid hx
  clear hx
  go_enter Try.func59, Try.ntmps59
  go_wp2
  go_loopw [7] (fun i wr => FixAt xs w i wr) (fun i _ => xs.length - (intOf i).toNat)
  case atStart => exact ⟨0, Nat.zero_le _, rfl, fun j h => absurd h (Nat.not_lt_zero _), Kept.refl _⟩
  case round =>
    obtain ⟨k, hk, rfl, hall, hkept⟩ := hrel
    have Hall := Lib.hid hall
    clear hall
    by_cases hlt : k < xs.length
    · obtain ⟨b, o, rfl, hb, hc⟩ := (HX.out.kept hkept) (by omega)
      have c0 := hc k hlt
      clear hc
      have Hyes : Hid (fixB xs[k] = true → ∀ j, ∀ h : j < k + 1, ∀ h' : j < xs.length, fixB xs[j] = true) := fun hy j h h' => by
        rcases Nat.lt_or_ge j k with hj | hj
        · exact Hall.out j hj h'
        · obtain rfl : j = k := by omega
          exact hy
      have Hno : Hid (fixB xs[k] = false → xs.all fixB = false) := fun hn => by
        rw [List.all_eq_false]; exact ⟨_, List.getElem_mem hlt, by simp [hn]⟩
      clear Hall
      generalize xs[k] = x at *
      have d0 : decide ((k : Int) < xs.length) = true := decide_eq_true (by omega)
      by_cases h1 : x < -16777216
      · have f1 : decide (x < -16777216) = true := decide_eq_true h1
        have Hr := Lib.hid (Hno.out (by unfold fixB; exact decide_eq_false (by omega)))
        clear Hno Hyes
        go_wp2
        go_ret
        exact ⟨ret_bool Hr.out.symm, by first | exact hkept | exact below_drewN hkept _⟩
      · have f1 : decide (x < -16777216) = false := decide_eq_false h1
        by_cases h2 : 16777215 < x
        · have f2 : decide (16777215 < x) = true := decide_eq_true h2
          have Hr := Lib.hid (Hno.out (by unfold fixB; exact decide_eq_false (by omega)))
          clear Hno Hyes
          go_wp2
          go_ret
          exact ⟨ret_bool Hr.out.symm, by first | exact hkept | exact below_drewN hkept _⟩
        · have f2 : decide (16777215 < x) = false := decide_eq_false h2
          have Hr := Lib.hid (Hyes.out (by unfold fixB; exact decide_eq_true (by omega)))
          clear Hno Hyes
          go_wp2
          go_roundw
          case rel => exact ⟨k + 1, by omega, by go_num, Hr.out, by first | exact hkept | exact below_drewN hkept _⟩
          case measure => simp [intOf]; omega
    · have Hr : Hid (xs.all fixB = true) := by
        unfold Hid
        rw [List.all_eq_true]
        intro z hz
        obtain ⟨j, hj, rfl⟩ := List.mem_iff_getElem.1 hz
        exact Hall.out j (by omega) hj
      clear Hall
      go_wp2
      go_ret
      exact ⟨ret_bool Hr.out.symm, hkept⟩

theorem sized_any (n : Int) (w : World) :
    Calls Try.prog 58 #[.int .i64 n] w fun e w' => e = .returned (.bool (decide (1 ≤ n ∧ n < 134217728))) ∧ w = w' := by
  by_cases h0 : 1 ≤ n
  · have f0 : decide (1 ≤ n) = true := decide_eq_true h0
    by_cases h1 : n ≤ 134217727
    · have f1 : decide (n ≤ 134217727) = true := decide_eq_true h1
      rw [decide_eq_true (by omega : 1 ≤ n ∧ n < 134217728)]
      go_enter Try.func58, Try.ntmps58
      go_wp2
      go_ret
      exact ⟨rfl, rfl⟩
    · have f1 : decide (n ≤ 134217727) = false := decide_eq_false h1
      rw [decide_eq_false (by omega : ¬ (1 ≤ n ∧ n < 134217728))]
      go_enter Try.func58, Try.ntmps58
      go_wp2
      go_ret
      exact ⟨rfl, rfl⟩
  · have f0 : decide (1 ≤ n) = false := decide_eq_false h0
    rw [decide_eq_false (by omega : ¬ (1 ≤ n ∧ n < 134217728))]
    go_enter Try.func58, Try.ntmps58
    go_wp2
    go_ret
    exact ⟨rfl, rfl⟩
end Go.Proofs.Ytnipndfnfpofgaa
