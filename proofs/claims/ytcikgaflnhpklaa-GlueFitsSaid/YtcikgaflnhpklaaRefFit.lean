/- The document's Fit. -/
import Derived.Test.YtcikgaflnhpklaaFit
import Derived.Test.YtcikgaflnhpklaaRefShare
namespace Go.Proofs.Ytcikgaflnhpklaa
open Go.RowKit

/-- are the first k of both within the limits? -/
def okK (x a0 a1 a2 a3 b0 b1 b2 b3 : Int) : Nat → Bool
  | 0 => inB x
  | 1 => inB x && (inB a0 && inB b0)
  | 2 => (inB x && (inB a0 && inB b0)) && (inB a1 && inB b1)
  | 3 => ((inB x && (inB a0 && inB b0)) && (inB a1 && inB b1)) && (inB a2 && inB b2)
  | _ => (((inB x && (inB a0 && inB b0)) && (inB a1 && inB b1)) && (inB a2 && inB b2)) && (inB a3 && inB b3)

theorem okK_all (n x a0 a1 a2 a3 b0 b1 b2 b3 : Int) : okK x a0 a1 a2 a3 b0 b1 b2 b3 4 = fitOk ⟨n, a0, a1, a2, a3, b0, b1, b2, b3⟩ x := by
  simp only [okK, fitOk, all4]
  cases inB x <;> cases inB a0 <;> cases inB a1 <;> cases inB a2 <;> cases inB a3 <;> cases inB b0 <;> cases inB b1 <;> cases inB b2 <;> cases inB b3 <;> rfl

def OkAt (x a0 a1 a2 a3 b0 b1 b2 b3 : Int) (w : World) (ok i : Value) (wr : World) : Prop := ∃ k : Nat, k ≤ 4 ∧ i = .int .i64 k ∧ ok = .bool (okK x a0 a1 a2 a3 b0 b1 b2 b3 k) ∧ w = wr

set_option maxRecDepth 100000 in
set_option maxHeartbeats 4000000 in
theorem ref_fit_any (n a0 a1 a2 a3 b0 b1 b2 b3 x : Int) (w : World) :
    Calls Try.prog 10 #[.agg #[.int .i64 n, .int .i64 a0, .int .i64 a1, .int .i64 a2, .int .i64 a3, .int .i64 b0, .int .i64 b1, .int .i64 b2, .int .i64 b3], .int .i64 x] w
      fun e w' => e = (fitT ⟨n, a0, a1, a2, a3, b0, b1, b2, b3⟩ x).ret ∧ Kept w w' := by
  have HA := Lib.hid (okK_all n x a0 a1 a2 a3 b0 b1 b2 b3)
  go_enter Try.func10, Try.ntmps10
  go_wp2_with (fail)
  refine (within_any x _).mono ?_
  rintro e w1 ⟨rfl, rfl⟩
  go_wp2_with (fail)
  go_loopw [9, 10] (fun ok i wr => OkAt x a0 a1 a2 a3 b0 b1 b2 b3 (w.alloc (.cells #[.int .i64 n, .int .i64 a0, .int .i64 a1, .int .i64 a2, .int .i64 a3, .int .i64 b0, .int .i64 b1, .int .i64 b2, .int .i64 b3] 24)) ok i wr) (fun _ i _ => (4 - intOf i).toNat)
  case atStart => exact ⟨0, by omega, rfl, rfl, rfl⟩
  case round =>
    obtain ⟨k, hk, rfl, rfl, rfl⟩ := hrel
    obtain rfl | rfl | rfl | rfl | rfl : k = 0 ∨ k = 1 ∨ k = 2 ∨ k = 3 ∨ k = 4 := by omega
    · have hs : okK x a0 a1 a2 a3 b0 b1 b2 b3 1 = (okK x a0 a1 a2 a3 b0 b1 b2 b3 0 && (inB a0 && inB b0)) := rfl
      cases ho : okK x a0 a1 a2 a3 b0 b1 b2 b3 0
      · rw [ho, Bool.false_and] at hs
        have Hs := Lib.hid hs
        clear hs ho
        go_wp2_with (fail)
        go_roundw
        case rel => exact ⟨1, by omega, rfl, by rw [Hs.out], rfl⟩
        case measure => simp [intOf]
      · rw [ho, Bool.true_and] at hs
        cases ha : inB a0
        · rw [ha, Bool.false_and] at hs
          have Hs := Lib.hid hs
          have Ha := fun w => Lib.hid (within_no a0 ha w)
          clear hs ho ha
          go_wp2_with (fail)
          refine (Ha _).out.mono ?_
          rintro e w2 ⟨rfl, rfl⟩
          go_wp2_with (fail)
          go_roundw
          case rel => exact ⟨1, by omega, rfl, by rw [Hs.out], rfl⟩
          case measure => simp [intOf]
        · rw [ha, Bool.true_and] at hs
          have Hs := Lib.hid hs
          have Ha := fun w => Lib.hid (within_yes a0 ha w)
          have Hb := fun w => Lib.hid (within_any b0 w)
          clear hs ho ha
          generalize inB b0 = r at *
          go_wp2_with (fail)
          refine (Ha _).out.mono ?_
          rintro e w2 ⟨rfl, rfl⟩
          go_wp2_with (fail)
          refine (Hb _).out.mono ?_
          rintro e w2 ⟨rfl, rfl⟩
          go_wp2_with (fail)
          go_roundw
          case rel => exact ⟨1, by omega, rfl, by rw [Hs.out], rfl⟩
          case measure => simp [intOf]
    · have hs : okK x a0 a1 a2 a3 b0 b1 b2 b3 2 = (okK x a0 a1 a2 a3 b0 b1 b2 b3 1 && (inB a1 && inB b1)) := rfl
      cases ho : okK x a0 a1 a2 a3 b0 b1 b2 b3 1
      · rw [ho, Bool.false_and] at hs
        have Hs := Lib.hid hs
        clear hs ho
        go_wp2_with (fail)
        go_roundw
        case rel => exact ⟨2, by omega, rfl, by rw [Hs.out], rfl⟩
        case measure => simp [intOf]
      · rw [ho, Bool.true_and] at hs
        cases ha : inB a1
        · rw [ha, Bool.false_and] at hs
          have Hs := Lib.hid hs
          have Ha := fun w => Lib.hid (within_no a1 ha w)
          clear hs ho ha
          go_wp2_with (fail)
          refine (Ha _).out.mono ?_
          rintro e w2 ⟨rfl, rfl⟩
          go_wp2_with (fail)
          go_roundw
          case rel => exact ⟨2, by omega, rfl, by rw [Hs.out], rfl⟩
          case measure => simp [intOf]
        · rw [ha, Bool.true_and] at hs
          have Hs := Lib.hid hs
          have Ha := fun w => Lib.hid (within_yes a1 ha w)
          have Hb := fun w => Lib.hid (within_any b1 w)
          clear hs ho ha
          generalize inB b1 = r at *
          go_wp2_with (fail)
          refine (Ha _).out.mono ?_
          rintro e w2 ⟨rfl, rfl⟩
          go_wp2_with (fail)
          refine (Hb _).out.mono ?_
          rintro e w2 ⟨rfl, rfl⟩
          go_wp2_with (fail)
          go_roundw
          case rel => exact ⟨2, by omega, rfl, by rw [Hs.out], rfl⟩
          case measure => simp [intOf]
    · have hs : okK x a0 a1 a2 a3 b0 b1 b2 b3 3 = (okK x a0 a1 a2 a3 b0 b1 b2 b3 2 && (inB a2 && inB b2)) := rfl
      cases ho : okK x a0 a1 a2 a3 b0 b1 b2 b3 2
      · rw [ho, Bool.false_and] at hs
        have Hs := Lib.hid hs
        clear hs ho
        go_wp2_with (fail)
        go_roundw
        case rel => exact ⟨3, by omega, rfl, by rw [Hs.out], rfl⟩
        case measure => simp [intOf]
      · rw [ho, Bool.true_and] at hs
        cases ha : inB a2
        · rw [ha, Bool.false_and] at hs
          have Hs := Lib.hid hs
          have Ha := fun w => Lib.hid (within_no a2 ha w)
          clear hs ho ha
          go_wp2_with (fail)
          refine (Ha _).out.mono ?_
          rintro e w2 ⟨rfl, rfl⟩
          go_wp2_with (fail)
          go_roundw
          case rel => exact ⟨3, by omega, rfl, by rw [Hs.out], rfl⟩
          case measure => simp [intOf]
        · rw [ha, Bool.true_and] at hs
          have Hs := Lib.hid hs
          have Ha := fun w => Lib.hid (within_yes a2 ha w)
          have Hb := fun w => Lib.hid (within_any b2 w)
          clear hs ho ha
          generalize inB b2 = r at *
          go_wp2_with (fail)
          refine (Ha _).out.mono ?_
          rintro e w2 ⟨rfl, rfl⟩
          go_wp2_with (fail)
          refine (Hb _).out.mono ?_
          rintro e w2 ⟨rfl, rfl⟩
          go_wp2_with (fail)
          go_roundw
          case rel => exact ⟨3, by omega, rfl, by rw [Hs.out], rfl⟩
          case measure => simp [intOf]
    · have hs : okK x a0 a1 a2 a3 b0 b1 b2 b3 4 = (okK x a0 a1 a2 a3 b0 b1 b2 b3 3 && (inB a3 && inB b3)) := rfl
      cases ho : okK x a0 a1 a2 a3 b0 b1 b2 b3 3
      · rw [ho, Bool.false_and] at hs
        have Hs := Lib.hid hs
        clear hs ho
        go_wp2_with (fail)
        go_roundw
        case rel => exact ⟨4, by omega, rfl, by rw [Hs.out], rfl⟩
        case measure => simp [intOf]
      · rw [ho, Bool.true_and] at hs
        cases ha : inB a3
        · rw [ha, Bool.false_and] at hs
          have Hs := Lib.hid hs
          have Ha := fun w => Lib.hid (within_no a3 ha w)
          clear hs ho ha
          go_wp2_with (fail)
          refine (Ha _).out.mono ?_
          rintro e w2 ⟨rfl, rfl⟩
          go_wp2_with (fail)
          go_roundw
          case rel => exact ⟨4, by omega, rfl, by rw [Hs.out], rfl⟩
          case measure => simp [intOf]
        · rw [ha, Bool.true_and] at hs
          have Hs := Lib.hid hs
          have Ha := fun w => Lib.hid (within_yes a3 ha w)
          have Hb := fun w => Lib.hid (within_any b3 w)
          clear hs ho ha
          generalize inB b3 = r at *
          go_wp2_with (fail)
          refine (Ha _).out.mono ?_
          rintro e w2 ⟨rfl, rfl⟩
          go_wp2_with (fail)
          refine (Hb _).out.mono ?_
          rintro e w2 ⟨rfl, rfl⟩
          go_wp2_with (fail)
          go_roundw
          case rel => exact ⟨4, by omega, rfl, by rw [Hs.out], rfl⟩
          case measure => simp [intOf]
    · rw [HA.out]
      cases hok : fitOk ⟨n, a0, a1, a2, a3, b0, b1, b2, b3⟩ x
      · have E1 := Lib.hid (show fitT ⟨n, a0, a1, a2, a3, b0, b1, b2, b3⟩ x = ⟨0, 0, 0, 0, 11⟩ by simp [fitT, hok])
        clear hok HA
        go_wp2_with (fail)
        exact bodyPost_ret (res5 rfl _ _ _) rfl ⟨by rw [E1.out]; rfl, (by repeat (first | exact Kept.refl _ | apply Below.drew | (refine Below.alloc ?_ (by simp; try omega) _) | (refine Below.setCell ?_ (by simp; try omega) _)))⟩
      · have hx : inB x = true := by
          unfold fitOk at hok
          exact (Bool.and_eq_true_iff.1 hok).1
        obtain ⟨x0, x1⟩ := inB_yes hx
        clear hx HA
        by_cases hx0 : x = 0
        · have E1 := Lib.hid (show fitT ⟨n, a0, a1, a2, a3, b0, b1, b2, b3⟩ x = ⟨0, 0, 0, 0, 0⟩ by unfold fitT; rw [if_pos hok, if_pos hx0])
          have hxb : (x == 0) = true := by simpa using hx0
          clear hok hx0
          go_wp2_with (fail)
          exact bodyPost_ret (res5 rfl _ _ _) rfl ⟨by rw [E1.out]; rfl, (by repeat (first | exact Kept.refl _ | apply Below.drew | (refine Below.alloc ?_ (by simp; try omega) _) | (refine Below.setCell ?_ (by simp; try omega) _)))⟩
        · have hxb : (x == 0) = false := by simpa using hx0
          by_cases hxp : 0 < x
          · have hx1 : ¬ x < 0 := by omega
            rcases top_cases a0 a1 a2 a3 with ⟨t1, q0, q1, q2, q3, t2⟩ | ⟨t1, ⟨t2, q0, q1, q2, q3⟩ | ⟨t2, q1, q2, q3⟩ | ⟨t2, q2, q3⟩ | ⟨t2, q3⟩⟩
            · have E1 := Lib.hid (show fitT ⟨n, a0, a1, a2, a3, b0, b1, b2, b3⟩ x = ⟨0, 0, 0, 0, 0⟩ by simp [fitT, hok, hx0, hxp, t1])
              clear hok hx0 hxp t1 t2
              go_wp2_with (fail)
              go_loop [14] (fun i => ∃ k : Nat, 0 ≤ k ∧ k ≤ 3 ∧ i = .int .i64 k) (fun i => (intOf i).toNat)
              case atStart => exact ⟨3, by omega, by omega, rfl⟩
              case round =>
                obtain ⟨k, hk0, hk, rfl⟩ := hrel
                obtain rfl | rfl | rfl | rfl : k = 3 ∨ k = 2 ∨ k = 1 ∨ k = 0 := by omega
                · go_wp2_with (fail)
                  go_round
                  case rel => exact ⟨2, by omega, by omega, rfl⟩
                  case measure => simp [intOf]
                · go_wp2_with (fail)
                  go_round
                  case rel => exact ⟨1, by omega, by omega, rfl⟩
                  case measure => simp [intOf]
                · go_wp2_with (fail)
                  go_round
                  case rel => exact ⟨0, by omega, by omega, rfl⟩
                  case measure => simp [intOf]
                · go_wp2_with (fail)
                  exact bodyPost_ret (res5 rfl _ _ _) rfl ⟨by rw [E1.out]; rfl, (by repeat (first | exact Kept.refl _ | apply Below.drew | (refine Below.alloc ?_ (by simp; try omega) _) | (refine Below.setCell ?_ (by simp; try omega) _)))⟩
            · have E1 := Lib.hid (show fitT ⟨n, a0, a1, a2, a3, b0, b1, b2, b3⟩ x = ⟨1, 0, x, a0, 0⟩ by simp [fitT, hok, hx0, hxp, t1, t2, pick4])
              clear hok hx0 hxp t1 t2
              go_wp2_with (fail)
              go_loop [14] (fun i => ∃ k : Nat, 0 ≤ k ∧ k ≤ 3 ∧ i = .int .i64 k) (fun i => (intOf i).toNat)
              case atStart => exact ⟨3, by omega, by omega, rfl⟩
              case round =>
                obtain ⟨k, hk0, hk, rfl⟩ := hrel
                obtain rfl | rfl | rfl | rfl : k = 3 ∨ k = 2 ∨ k = 1 ∨ k = 0 := by omega
                · go_wp2_with (fail)
                  go_round
                  case rel => exact ⟨2, by omega, by omega, rfl⟩
                  case measure => simp [intOf]
                · go_wp2_with (fail)
                  go_round
                  case rel => exact ⟨1, by omega, by omega, rfl⟩
                  case measure => simp [intOf]
                · go_wp2_with (fail)
                  go_round
                  case rel => exact ⟨0, by omega, by omega, rfl⟩
                  case measure => simp [intOf]
                · go_wp2_with (fail)
                  exact bodyPost_ret (res5 rfl _ _ _) rfl ⟨by rw [E1.out]; rfl, (by repeat (first | exact Kept.refl _ | apply Below.drew | (refine Below.alloc ?_ (by simp; try omega) _) | (refine Below.setCell ?_ (by simp; try omega) _)))⟩
            · have E1 := Lib.hid (show fitT ⟨n, a0, a1, a2, a3, b0, b1, b2, b3⟩ x = ⟨1, 1, x, a1, 0⟩ by simp [fitT, hok, hx0, hxp, t1, t2, pick4])
              clear hok hx0 hxp t1 t2
              go_wp2_with (fail)
              go_loop [14] (fun i => ∃ k : Nat, 1 ≤ k ∧ k ≤ 3 ∧ i = .int .i64 k) (fun i => (intOf i).toNat)
              case atStart => exact ⟨3, by omega, by omega, rfl⟩
              case round =>
                obtain ⟨k, hk0, hk, rfl⟩ := hrel
                obtain rfl | rfl | rfl : k = 3 ∨ k = 2 ∨ k = 1 := by omega
                · go_wp2_with (fail)
                  go_round
                  case rel => exact ⟨2, by omega, by omega, rfl⟩
                  case measure => simp [intOf]
                · go_wp2_with (fail)
                  go_round
                  case rel => exact ⟨1, by omega, by omega, rfl⟩
                  case measure => simp [intOf]
                · go_wp2_with (fail)
                  exact bodyPost_ret (res5 rfl _ _ _) rfl ⟨by rw [E1.out]; rfl, (by repeat (first | exact Kept.refl _ | apply Below.drew | (refine Below.alloc ?_ (by simp; try omega) _) | (refine Below.setCell ?_ (by simp; try omega) _)))⟩
            · have E1 := Lib.hid (show fitT ⟨n, a0, a1, a2, a3, b0, b1, b2, b3⟩ x = ⟨1, 2, x, a2, 0⟩ by simp [fitT, hok, hx0, hxp, t1, t2, pick4])
              clear hok hx0 hxp t1 t2
              go_wp2_with (fail)
              go_loop [14] (fun i => ∃ k : Nat, 2 ≤ k ∧ k ≤ 3 ∧ i = .int .i64 k) (fun i => (intOf i).toNat)
              case atStart => exact ⟨3, by omega, by omega, rfl⟩
              case round =>
                obtain ⟨k, hk0, hk, rfl⟩ := hrel
                obtain rfl | rfl : k = 3 ∨ k = 2 := by omega
                · go_wp2_with (fail)
                  go_round
                  case rel => exact ⟨2, by omega, by omega, rfl⟩
                  case measure => simp [intOf]
                · go_wp2_with (fail)
                  exact bodyPost_ret (res5 rfl _ _ _) rfl ⟨by rw [E1.out]; rfl, (by repeat (first | exact Kept.refl _ | apply Below.drew | (refine Below.alloc ?_ (by simp; try omega) _) | (refine Below.setCell ?_ (by simp; try omega) _)))⟩
            · have E1 := Lib.hid (show fitT ⟨n, a0, a1, a2, a3, b0, b1, b2, b3⟩ x = ⟨1, 3, x, a3, 0⟩ by simp [fitT, hok, hx0, hxp, t1, t2, pick4])
              clear hok hx0 hxp t1 t2
              go_wp2_with (fail)
              go_loop [14] (fun i => ∃ k : Nat, 3 ≤ k ∧ k ≤ 3 ∧ i = .int .i64 k) (fun i => (intOf i).toNat)
              case atStart => exact ⟨3, by omega, by omega, rfl⟩
              case round =>
                obtain ⟨k, hk0, hk, rfl⟩ := hrel
                obtain rfl : k = 3 := by omega
                · go_wp2_with (fail)
                  exact bodyPost_ret (res5 rfl _ _ _) rfl ⟨by rw [E1.out]; rfl, (by repeat (first | exact Kept.refl _ | apply Below.drew | (refine Below.alloc ?_ (by simp; try omega) _) | (refine Below.setCell ?_ (by simp; try omega) _)))⟩
          · have hx1 : x < 0 := by omega
            rcases top_cases b0 b1 b2 b3 with ⟨t1, q0, q1, q2, q3, t2⟩ | ⟨t1, ⟨t2, q0, q1, q2, q3⟩ | ⟨t2, q1, q2, q3⟩ | ⟨t2, q2, q3⟩ | ⟨t2, q3⟩⟩
            · have E1 := Lib.hid (show fitT ⟨n, a0, a1, a2, a3, b0, b1, b2, b3⟩ x = ⟨0, 0, 0, 0, 0⟩ by simp [fitT, hok, hx0, hxp, t1])
              clear hok hx0 hxp t1 t2
              go_wp2_with (fail)
              go_loop [14] (fun i => ∃ k : Nat, 0 ≤ k ∧ k ≤ 3 ∧ i = .int .i64 k) (fun i => (intOf i).toNat)
              case atStart => exact ⟨3, by omega, by omega, rfl⟩
              case round =>
                obtain ⟨k, hk0, hk, rfl⟩ := hrel
                obtain rfl | rfl | rfl | rfl : k = 3 ∨ k = 2 ∨ k = 1 ∨ k = 0 := by omega
                · go_wp2_with (fail)
                  go_round
                  case rel => exact ⟨2, by omega, by omega, rfl⟩
                  case measure => simp [intOf]
                · go_wp2_with (fail)
                  go_round
                  case rel => exact ⟨1, by omega, by omega, rfl⟩
                  case measure => simp [intOf]
                · go_wp2_with (fail)
                  go_round
                  case rel => exact ⟨0, by omega, by omega, rfl⟩
                  case measure => simp [intOf]
                · go_wp2_with (fail)
                  exact bodyPost_ret (res5 rfl _ _ _) rfl ⟨by rw [E1.out]; rfl, (by repeat (first | exact Kept.refl _ | apply Below.drew | (refine Below.alloc ?_ (by simp; try omega) _) | (refine Below.setCell ?_ (by simp; try omega) _)))⟩
            · by_cases hlt : b0 < -x
              · have E1 := Lib.hid (show fitT ⟨n, a0, a1, a2, a3, b0, b1, b2, b3⟩ x = ⟨2, 0, b0, b0, 0⟩ by simp [fitT, hok, hx0, hxp, t1, t2, hlt, pick4])
                clear hok hx0 hxp t1 t2
                go_wp2_with (fail)
                go_loop [14] (fun i => ∃ k : Nat, 0 ≤ k ∧ k ≤ 3 ∧ i = .int .i64 k) (fun i => (intOf i).toNat)
                case atStart => exact ⟨3, by omega, by omega, rfl⟩
                case round =>
                  obtain ⟨k, hk0, hk, rfl⟩ := hrel
                  obtain rfl | rfl | rfl | rfl : k = 3 ∨ k = 2 ∨ k = 1 ∨ k = 0 := by omega
                  · go_wp2_with (fail)
                    go_round
                    case rel => exact ⟨2, by omega, by omega, rfl⟩
                    case measure => simp [intOf]
                  · go_wp2_with (fail)
                    go_round
                    case rel => exact ⟨1, by omega, by omega, rfl⟩
                    case measure => simp [intOf]
                  · go_wp2_with (fail)
                    go_round
                    case rel => exact ⟨0, by omega, by omega, rfl⟩
                    case measure => simp [intOf]
                  · go_wp2_with (fail)
                    exact bodyPost_ret (res5 rfl _ _ _) rfl ⟨by rw [E1.out]; rfl, (by repeat (first | exact Kept.refl _ | apply Below.drew | (refine Below.alloc ?_ (by simp; try omega) _) | (refine Below.setCell ?_ (by simp; try omega) _)))⟩
              · have E1 := Lib.hid (show fitT ⟨n, a0, a1, a2, a3, b0, b1, b2, b3⟩ x = ⟨2, 0, -x, b0, 0⟩ by simp [fitT, hok, hx0, hxp, t1, t2, hlt, pick4])
                clear hok hx0 hxp t1 t2
                go_wp2_with (fail)
                go_loop [14] (fun i => ∃ k : Nat, 0 ≤ k ∧ k ≤ 3 ∧ i = .int .i64 k) (fun i => (intOf i).toNat)
                case atStart => exact ⟨3, by omega, by omega, rfl⟩
                case round =>
                  obtain ⟨k, hk0, hk, rfl⟩ := hrel
                  obtain rfl | rfl | rfl | rfl : k = 3 ∨ k = 2 ∨ k = 1 ∨ k = 0 := by omega
                  · go_wp2_with (fail)
                    go_round
                    case rel => exact ⟨2, by omega, by omega, rfl⟩
                    case measure => simp [intOf]
                  · go_wp2_with (fail)
                    go_round
                    case rel => exact ⟨1, by omega, by omega, rfl⟩
                    case measure => simp [intOf]
                  · go_wp2_with (fail)
                    go_round
                    case rel => exact ⟨0, by omega, by omega, rfl⟩
                    case measure => simp [intOf]
                  · go_wp2_with (fail)
                    exact bodyPost_ret (res5 rfl _ _ _) rfl ⟨by rw [E1.out]; rfl, (by repeat (first | exact Kept.refl _ | apply Below.drew | (refine Below.alloc ?_ (by simp; try omega) _) | (refine Below.setCell ?_ (by simp; try omega) _)))⟩
            · have E1 := Lib.hid (show fitT ⟨n, a0, a1, a2, a3, b0, b1, b2, b3⟩ x = ⟨2, 1, -x, b1, 0⟩ by simp [fitT, hok, hx0, hxp, t1, t2, pick4])
              clear hok hx0 hxp t1 t2
              go_wp2_with (fail)
              go_loop [14] (fun i => ∃ k : Nat, 1 ≤ k ∧ k ≤ 3 ∧ i = .int .i64 k) (fun i => (intOf i).toNat)
              case atStart => exact ⟨3, by omega, by omega, rfl⟩
              case round =>
                obtain ⟨k, hk0, hk, rfl⟩ := hrel
                obtain rfl | rfl | rfl : k = 3 ∨ k = 2 ∨ k = 1 := by omega
                · go_wp2_with (fail)
                  go_round
                  case rel => exact ⟨2, by omega, by omega, rfl⟩
                  case measure => simp [intOf]
                · go_wp2_with (fail)
                  go_round
                  case rel => exact ⟨1, by omega, by omega, rfl⟩
                  case measure => simp [intOf]
                · go_wp2_with (fail)
                  exact bodyPost_ret (res5 rfl _ _ _) rfl ⟨by rw [E1.out]; rfl, (by repeat (first | exact Kept.refl _ | apply Below.drew | (refine Below.alloc ?_ (by simp; try omega) _) | (refine Below.setCell ?_ (by simp; try omega) _)))⟩
            · have E1 := Lib.hid (show fitT ⟨n, a0, a1, a2, a3, b0, b1, b2, b3⟩ x = ⟨2, 2, -x, b2, 0⟩ by simp [fitT, hok, hx0, hxp, t1, t2, pick4])
              clear hok hx0 hxp t1 t2
              go_wp2_with (fail)
              go_loop [14] (fun i => ∃ k : Nat, 2 ≤ k ∧ k ≤ 3 ∧ i = .int .i64 k) (fun i => (intOf i).toNat)
              case atStart => exact ⟨3, by omega, by omega, rfl⟩
              case round =>
                obtain ⟨k, hk0, hk, rfl⟩ := hrel
                obtain rfl | rfl : k = 3 ∨ k = 2 := by omega
                · go_wp2_with (fail)
                  go_round
                  case rel => exact ⟨2, by omega, by omega, rfl⟩
                  case measure => simp [intOf]
                · go_wp2_with (fail)
                  exact bodyPost_ret (res5 rfl _ _ _) rfl ⟨by rw [E1.out]; rfl, (by repeat (first | exact Kept.refl _ | apply Below.drew | (refine Below.alloc ?_ (by simp; try omega) _) | (refine Below.setCell ?_ (by simp; try omega) _)))⟩
            · have E1 := Lib.hid (show fitT ⟨n, a0, a1, a2, a3, b0, b1, b2, b3⟩ x = ⟨2, 3, -x, b3, 0⟩ by simp [fitT, hok, hx0, hxp, t1, t2, pick4])
              clear hok hx0 hxp t1 t2
              go_wp2_with (fail)
              go_loop [14] (fun i => ∃ k : Nat, 3 ≤ k ∧ k ≤ 3 ∧ i = .int .i64 k) (fun i => (intOf i).toNat)
              case atStart => exact ⟨3, by omega, by omega, rfl⟩
              case round =>
                obtain ⟨k, hk0, hk, rfl⟩ := hrel
                obtain rfl : k = 3 := by omega
                · go_wp2_with (fail)
                  exact bodyPost_ret (res5 rfl _ _ _) rfl ⟨by rw [E1.out]; rfl, (by repeat (first | exact Kept.refl _ | apply Below.drew | (refine Below.alloc ?_ (by simp; try omega) _) | (refine Below.setCell ?_ (by simp; try omega) _)))⟩
end Go.Proofs.Ytcikgaflnhpklaa
