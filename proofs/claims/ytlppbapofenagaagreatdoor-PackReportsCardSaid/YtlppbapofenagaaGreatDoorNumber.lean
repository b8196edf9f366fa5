/- The document's Number: a whole number from 0 on, as digits. -/
import Derived.Test.YtlppbapofenagaaGreatDoorBase
import Derived.Lib.ItoaNum
import Derived.Lib.ItoaMem
import Derived.Deep.RegionWith
import Derived.IntWalk
namespace Go.Proofs.YtlppbapofenagaaGreatDoor
open Go.RowKit

/-- the digit's byte -/
def digC (u : Nat) : UInt8 := UInt8.ofNat (48 + u)
theorem dec_low {u : Nat} (h : u < 10) : Lib.decDigits u = [digC u] := Lib.decDigits_one h
theorem dec_high {u : Nat} (h : ¬ u < 10) : Lib.decDigits u = Lib.decDigits (u / 10) ++ [digC (u % 10)] := by unfold digC; rw [Lib.decDigits, dif_neg h]
theorem dec_len (u : Nat) : (Lib.decDigits u).length ≤ u + 1 := by
  induction u using Nat.strongRecOn with
  | ind u ih =>
    by_cases h : u < 10
    · rw [dec_low h]; simp
    · rw [dec_high h, List.length_append]
      have := ih (u / 10) (by omega)
      simp; omega

/-- 'string([]byte{..})' of one byte -/
theorem conv_at (n : Int) (n0 : 0 ≤ n) (n1 : n < 256) (W : World) (a : Nat) (h : W.cell? ⟨a, 0, none⟩ = some (.int .u8 n)) :
    (convert 81 9 (.slice (some ⟨a, 0, none⟩) 1 1)).run Tryz.prog W = .ok (.string ⟨#[UInt8.ofNat n.toNat]⟩) W := by
  have h := run_convert_bytes_back (P := Tryz.prog) W 81 9 5 ⟨a, 0, none⟩ 1 [UInt8.ofNat n.toNat] Tryz.underlying81 Tryz.underlying5 Tryz.underlying9 (by
    intro j hj
    obtain rfl : j = 0 := by simpa using hj
    rw [show (⟨a, 0, none⟩ : Addr).add 0 = ⟨a, 0, none⟩ from rfl, h]
    simp
    omega)
  exact h
theorem conv_one (n : Int) (n0 : 0 ≤ n) (n1 : n < 256) (w : World) :
    (convert 81 9 (.slice (some ⟨w.heap.size, 0, none⟩) 1 1)).run Tryz.prog (w.alloc (.cells #[.int .u8 n] 5)) = .ok (.string ⟨#[UInt8.ofNat n.toNat]⟩) (w.alloc (.cells #[.int .u8 n] 5)) :=
  conv_at n n0 n1 _ _ (by simp)

theorem numK1 {w w1 : World} (k : Kept w.drew w1) (o : Obj) : Kept w (w1.alloc o) :=
  (Below.trans (Below.drew (Below.refl _ w)) k).alloc k.size _
theorem numK2 {w w1 : World} {o : Obj} (k : Kept (w.drew.alloc o) w1) : Kept w w1 :=
  Below.trans ((Below.drew (Below.refl _ w)).alloc (Nat.le_refl _) o) (k.mono (by simp))
theorem ofNat_dig (u : Nat) : UInt8.ofNat (48 + (u : Int)).toNat = digC u := by unfold digC; congr 1

set_option maxHeartbeats 2000000 in
theorem number_low (u : Nat) (h : u < 10) (w : World) : Calls Tryz.prog 48 #[.int .i64 u] w fun e w' => e = .returned (.string ⟨(Lib.decDigits u).toArray⟩) ∧ Kept w w' := by
  rw [dec_low h]
  have hcv := conv_one (48 + (u : Int)) (by omega) (by omega) w
  rw [ofNat_dig] at hcv
  have hu : (u : Int) < 10 := by omega
  clear h
  go_enter Tryz.func48, Tryz.ntmps48
  go_wp2
  go_ret
  exact ⟨rfl, (Below.refl _ _).alloc (Nat.le_refl _) _⟩

set_option maxHeartbeats 4000000 in
set_option maxRecDepth 100000 in
theorem number_nat (u : Nat) : u ≤ 4611686018427387904 → ∀ w : World, Calls Tryz.prog 48 #[.int .i64 u] w fun e w' => e = .returned (.string ⟨(Lib.decDigits u).toArray⟩) ∧ Kept w w' := by
  induction u using Nat.strongRecOn with
  | ind u ih =>
    intro hu w
    by_cases h : u < 10
    · exact number_low u h w
    · rw [dec_high h]
      have H := Lib.hid (ih (u / 10) (by omega) (by omega))
      rw [show ((u / 10 : Nat) : Int) = (u : Int) / 10 from by omega] at H
      have hcv := conv_at (48 + (u : Int) % 10) (by omega) (by omega)
      have hd : UInt8.ofNat (48 + (u : Int) % 10).toNat = digC (u % 10) := by unfold digC; congr 1
      rw [hd] at hcv
      have hl := dec_len (u / 10)
      have h10 : ¬ (u : Int) < 10 := by omega
      have h63 : (u : Int) ≤ 4611686018427387904 := by omega
      have q1 : IntKind.i64.wrap ((u : Int) / 10) = (u : Int) / 10 := IntWalk.i64_in _ (by omega)
      have q2 : IntKind.i64.wrap (48 + (u : Int) % 10) = 48 + (u : Int) % 10 := IntWalk.i64_in _ (by omega)
      have q3 : IntKind.u8.wrap (48 + (u : Int) % 10) = 48 + (u : Int) % 10 := IntWalk.u8_in _ (by omega)
      have q4 : (u : Int).tmod 10 = (u : Int) % 10 := Int.tmod_eq_emod_of_nonneg (by omega)
      clear ih h hd
      generalize Lib.decDigits (u / 10) = D at *
      generalize digC (u % 10) = c at *
      go_enter Tryz.func48, Tryz.ntmps48
      go_wp2_with (fail)
      go_region_with (go_at_call 48; refine (H.out _).mono ?_; rintro e w1 ⟨rfl, k1⟩; obtain ⟨bc1, bf1⟩ := bcell k1)
      all_goals
        clear q1 q2 q3 q4 hcv
        first
          | (exfalso; omega)
          | (go_wp2
             go_ret
             refine ⟨ret_str (by apply WideShapes.bytes_inj; simp), ?_⟩
             first | exact numK1 k1 _ | exact numK2 k1)
end Go.Proofs.YtlppbapofenagaaGreatDoor
