/- scaled.writeFraction and scaled.Print. -/
import Derived.Test.YtlppbapofenagaaGreatDoorPrintMath
import Derived.Test.YtlppbapofenagaaGreatDoorBuilder
import Derived.Test.YtlppbapofenagaaGreatDoorAddsY
import Derived.Lib.AppendIntMem
namespace Go.Proofs.YtlppbapofenagaaGreatDoor
open Go.RowKit

set_option maxHeartbeats 2000000 in
theorem writeFraction_any (B b : Nat) (l : List UInt8) (f : Int) (w : World) (h : IsB B b l w) (hlen : l.length ≤ 1000) (hBw : B ≤ w.heap.size) (f0 : 0 ≤ f) (f1 : f < 65536) :
    Calls Tryz.prog 44 #[.pointer (some ⟨b, 0, none⟩), .int .i64 f] w fun e w' => e = .returned (.tuple #[]) ∧ IsB B b (l ++ fracOf f) w' ∧ Below B w w' := by
  go_enter Tryz.func44, Tryz.ntmps44
  go_wp2
  go_loopw [4, 5] (fun xs ds wr => ∃ (x d : Int) (n : Nat) (m : List UInt8), xs = .int .i64 x ∧ ds = .int .i64 d ∧ AtRound x d n ∧ m.length ≤ 1005 - n ∧ m ++ fracDigits n x d = l ++ fracOf f ∧ IsB B b m wr ∧ Below B w wr) (fun _ ds _ => (1000000 - intOf ds).toNat)
  case atStart => exact ⟨10 * f + 5, 10, 5, l, rfl, rfl, by unfold AtRound; omega, by omega, rfl, h, Below.refl _ _⟩
  case round =>
    obtain ⟨x, d, n, m, rfl, rfl, hat, hm, heq, hb, hw⟩ := hrel
    have hy := hat.y
    obtain ⟨x0, x1, hdx⟩ := id hat
    have hn := hat.pos
    obtain ⟨n, rfl⟩ : ∃ k, n = k + 1 := ⟨n - 1, by omega⟩
    obtain ⟨y, ey⟩ : ∃ y, stepY x d = y := ⟨_, rfl⟩
    have hst := fun hx => hat.step hx
    have hla := @fracDigits_last x d n
    have hmo := @fracDigits_more x d n
    rw [ey] at hy hst hla hmo
    have d1 : 10 ≤ d ∧ d ≤ 100000 := by omega
    have n5 : n + 1 ≤ 5 := by omega
    have w1 : B ≤ wr.heap.size := by have := hw.size; omega
    have Heq := Lib.hid heq
    have Hst := Lib.hid hst
    have Hla := Lib.hid hla
    have Hmo := Lib.hid hmo
    obtain ⟨hy0, hy1⟩ := hy
    obtain ⟨d1, d2⟩ := d1
    clear heq hdx hst hla hmo hat
    have hc : (65536 < d ∧ x + -17232 = y) ∨ (¬ 65536 < d ∧ x = y) := by
      by_cases hd : 65536 < d
      · exact .inl ⟨hd, by rw [← ey]; simp [stepY, hd]⟩
      · exact .inr ⟨hd, by rw [← ey]; simp [stepY, hd]⟩
    clear ey
    rcases hc with ⟨hd, hc⟩ | ⟨hd, hc⟩
    all_goals
      subst hc
      go_wp2_with (go_at_call 42; refine (writeByte_int B b m _ _ (by omega) (by omega) hb (by omega) w1).mono ?_; rintro e w2 ⟨rfl, hb2, hw2⟩)
      all_goals first
        | (go_end0
           have hx := Hla.out (by omega)
           rw [← Heq.out, hx]
           exact ⟨rfl, by simpa using hb2, hw.trans hw2⟩)
        | (refine bodyPost_ret (results_none rfl _ _ _) rfl ?_
           have hx := Hla.out (by omega)
           rw [← Heq.out, hx]
           exact ⟨rfl, by simpa using hb2, hw.trans hw2⟩)
        | (go_roundw
           case rel => exact ⟨_, _, n, _, rfl, rfl, Hst.out (by omega), by simp; omega, by rw [List.append_assoc, ← Heq.out, Hmo.out (by omega)]; rfl, hb2, hw.trans hw2⟩
           case measure => simp [intOf]; omega)

abbrev Tabs (w : World) : Prop := Lib.TabIs Tryz.prog w "internal/strconv.uint64pow10" .u64 Lib.pow10Tab
theorem Tabs.kept {w w' : World} (h : Tabs w) (k : Kept w w') : Tabs w' := Lib.tabBelow_of_tabIs h w' k

theorem itoa_any (n : Int) (h0 : 0 ≤ n) (h1 : n ≤ 9223372036854775807) (w : World) (ht : Tabs w) :
    Calls Tryz.prog 17 #[.int .i64 n] w fun e w' => e = .returned (.string ⟨(Lib.decDigits n.toNat).toArray⟩) ∧ Kept w w' := by
  refine (Tryz.strconv_Itoa n (by omega) h1 w ht).mono ?_
  rintro e w' ⟨rfl, k, os, rfl⟩
  refine ⟨?_, Lib.below_grow _ _ (Nat.le_refl _) k os⟩
  unfold Lib.itoa
  rw [if_neg (by omega)]

theorem decDigits_len (u : Nat) (h : u < 100000) : (Lib.decDigits u).length ≤ 5 := by
  rw [Lib.decDigits_length]
  rw [Lib.nDigits]; split
  · omega
  rw [Lib.nDigits]; split
  · omega
  rw [Lib.nDigits]; split
  · omega
  rw [Lib.nDigits]; split
  · omega
  rw [Lib.nDigits]; split
  · omega
  omega

set_option maxHeartbeats 2000000 in
theorem print_neg (m : Int) (w : World) (m0 : 1 ≤ m) (m1 : m ≤ 2147483647) (ht : Tabs w) :
    Calls Tryz.prog 15 #[.int .i64 (-m)] w fun e w' => e = .returned (.string ⟨(printL (-m)).toArray⟩) ∧ Kept w w' := by
  have Hf : Hid (fitB (-m) = true) := Lib.hid (by simp [fitB]; omega)
  have k0 : Kept w (w.alloc (.cells #[.int .i64 (-m)] 3)) := (Kept.refl _).alloc (Nat.le_refl _) _
  have E2 : Hid (printL (-m) = [45] ++ (Lib.decDigits (m / 65536).toNat ++ 46 :: fracOf (m % 65536))) := Lib.hid (by
    have e1 : absI (-m) = m := by unfold absI; split <;> omega
    unfold printL
    rw [e1, if_pos (by omega)])
  go_enter Tryz.func15, Tryz.ntmps15
  go_wp2_with (go_at_call 41; refine (fits_one Hf.out).mono ?_; rintro e w' ⟨rfl, rfl⟩)
  generalize hW : w.alloc (.cells #[.int .i64 (-m)] 3) = W
  have hz : w.heap.size + 1 = W.heap.size := by rw [← hW]; simp
  rw [hW] at k0
  rw [hz]
  have HW := Lib.hid hW
  have Hz := Lib.hid hz
  clear hW hz
  have hb0 := IsB.fresh W
  have kb : Below W.heap.size W (W.alloc (.cells #[.pointer none, .slice none 0 0] 83)) := (Below.refl _ _).alloc (Nat.le_refl _) _
  have hz1 : W.heap.size + 1 = (W.alloc (.cells #[.pointer none, .slice none 0 0] 83)).heap.size := by simp
  generalize hW1 : W.alloc (.cells #[.pointer none, .slice none 0 0] 83) = W1
  rw [hW1] at hb0 kb hz1
  have HW1 := Lib.hid hW1
  have z1 : W.heap.size ≤ W1.heap.size := by omega
  clear hW1 hz1
  refine (writeByte_int W.heap.size W.heap.size [] 45 _ (by omega) (by omega) hb0 (by simp) z1).mono ?_
  rintro e w2 ⟨rfl, hb2, k2⟩
  have z2 : W.heap.size ≤ w2.heap.size := by have := k2.size; omega
  have ht2 : Tabs w2 := ht.kept (k0.trans (kb.trans k2))
  go_wp2_with (fail)
  refine (itoa_any _ (by omega) (by omega) _ ht2).mono ?_
  rintro e w3 ⟨rfl, k3⟩
  have z3 : W.heap.size ≤ w3.heap.size := by have := k3.size; omega
  have hb3 := hb2.kept k3
  have hl3 := decDigits_len (m / 65536).toNat (by omega)
  have hs3 : (ByteArray.mk (Lib.decDigits (m / 65536).toNat).toArray).size ≤ 5 := by rw [Lib.size_eq]; simpa using hl3
  go_wp2_with (fail)
  refine (writeString_any W.heap.size W.heap.size _ _ _ hb3 (by simp; omega) z3).mono ?_
  rintro e w4 ⟨rfl, hb4, k4⟩
  have z4 : W.heap.size ≤ w4.heap.size := by have := k4.size; omega
  go_wp2_with (fail)
  refine (writeByte_int W.heap.size W.heap.size _ 46 _ (by omega) (by omega) hb4 (by simp; omega) z4).mono ?_
  rintro e w5 ⟨rfl, hb5, k5⟩
  have z5 : W.heap.size ≤ w5.heap.size := by have := k5.size; omega
  go_wp2_with (fail)
  refine (writeFraction_any W.heap.size W.heap.size _ _ _ hb5 (by simp; omega) z5 (by omega) (by omega)).mono ?_
  rintro e w6 ⟨rfl, hb6, k6⟩
  have z6 : W.heap.size ≤ w6.heap.size := by have := k6.size; omega
  go_wp2_with (fail)
  refine (Tryz.Builder_String_any W.heap.size W.heap.size _ _ hb6 z6).mono ?_
  rintro e w7 ⟨rfl, k7⟩
  go_wp2
  go_ret
  refine ⟨?_, k0.trans (kb.trans (k2.trans (((k3.mono z2).trans (k4.trans (k5.trans (k6.trans k7)))))))⟩
  rw [E2.out]
  simp

set_option maxHeartbeats 2000000 in
theorem print_pos (m : Int) (w : World) (m0 : 0 ≤ m) (m1 : m ≤ 2147483647) (ht : Tabs w) :
    Calls Tryz.prog 15 #[.int .i64 m] w fun e w' => e = .returned (.string ⟨(printL m).toArray⟩) ∧ Kept w w' := by
  have Hf : Hid (fitB m = true) := Lib.hid (by simp [fitB]; omega)
  have k0 : Kept w (w.alloc (.cells #[.int .i64 m] 3)) := (Kept.refl _).alloc (Nat.le_refl _) _
  have E2 : Hid (printL m = (Lib.decDigits (m / 65536).toNat ++ 46 :: fracOf (m % 65536))) := Lib.hid (by
    have e1 : absI m = m := by unfold absI; split <;> omega
    unfold printL
    rw [e1, if_neg (by omega), List.nil_append])
  go_enter Tryz.func15, Tryz.ntmps15
  go_wp2_with (go_at_call 41; refine (fits_one Hf.out).mono ?_; rintro e w' ⟨rfl, rfl⟩)
  generalize hW : w.alloc (.cells #[.int .i64 m] 3) = W
  have hz : w.heap.size + 1 = W.heap.size := by rw [← hW]; simp
  rw [hW] at k0
  rw [hz]
  have HW := Lib.hid hW
  have Hz := Lib.hid hz
  clear hW hz
  have hb0 := IsB.fresh W
  have kb : Below W.heap.size W (W.alloc (.cells #[.pointer none, .slice none 0 0] 83)) := (Below.refl _ _).alloc (Nat.le_refl _) _
  have hz1 : W.heap.size + 1 = (W.alloc (.cells #[.pointer none, .slice none 0 0] 83)).heap.size := by simp
  generalize hW1 : W.alloc (.cells #[.pointer none, .slice none 0 0] 83) = W1
  rw [hW1] at hb0 kb hz1
  have HW1 := Lib.hid hW1
  have z1 : W.heap.size ≤ W1.heap.size := by omega
  clear hW1 hz1
  have hb2 := hb0
  have z2 := z1
  have ht2 : Tabs W1 := ht.kept (k0.trans kb)
  refine (itoa_any _ (by omega) (by omega) _ ht2).mono ?_
  rintro e w3 ⟨rfl, k3⟩
  have z3 : W.heap.size ≤ w3.heap.size := by have := k3.size; omega
  have hb3 := hb2.kept k3
  have hl3 := decDigits_len (m / 65536).toNat (by omega)
  have hs3 : (ByteArray.mk (Lib.decDigits (m / 65536).toNat).toArray).size ≤ 5 := by rw [Lib.size_eq]; simpa using hl3
  go_wp2_with (fail)
  refine (writeString_any W.heap.size W.heap.size _ _ _ hb3 (by simp; omega) z3).mono ?_
  rintro e w4 ⟨rfl, hb4, k4⟩
  have z4 : W.heap.size ≤ w4.heap.size := by have := k4.size; omega
  go_wp2_with (fail)
  refine (writeByte_int W.heap.size W.heap.size _ 46 _ (by omega) (by omega) hb4 (by simp; omega) z4).mono ?_
  rintro e w5 ⟨rfl, hb5, k5⟩
  have z5 : W.heap.size ≤ w5.heap.size := by have := k5.size; omega
  go_wp2_with (fail)
  refine (writeFraction_any W.heap.size W.heap.size _ _ _ hb5 (by simp; omega) z5 (by omega) (by omega)).mono ?_
  rintro e w6 ⟨rfl, hb6, k6⟩
  have z6 : W.heap.size ≤ w6.heap.size := by have := k6.size; omega
  go_wp2_with (fail)
  refine (Tryz.Builder_String_any W.heap.size W.heap.size _ _ hb6 z6).mono ?_
  rintro e w7 ⟨rfl, k7⟩
  go_wp2
  go_ret
  refine ⟨?_, k0.trans (kb.trans (((k3.mono z2).trans (k4.trans (k5.trans (k6.trans k7))))))⟩
  rw [E2.out]
  simp

set_option maxHeartbeats 400000 in
theorem print_any (s : Int) (w : World) (ht : Tabs w) :
    Calls Tryz.prog 15 #[.int .i64 s] w fun e w' => e = .returned (.string ⟨(if fitB s then printL s else []).toArray⟩) ∧ Kept w w' := by
  cases hf : fitB s
  · have Hf := Lib.hid hf
    clear hf
    go_enter Tryz.func15, Tryz.ntmps15
    go_wp2_with (go_at_call 41; refine (fits_one Hf.out).mono ?_; rintro e w' ⟨rfl, rfl⟩)
    go_ret
    exact ⟨rfl, (Kept.refl _).alloc (Nat.le_refl _) _⟩
  · obtain ⟨s0, s1⟩ := fit_yes hf
    rw [if_pos rfl]
    by_cases hn : s < 0
    · obtain ⟨m, rfl⟩ : ∃ m, s = -m := ⟨-s, by omega⟩
      exact print_neg m w (by omega) (by omega) ht
    · exact print_pos s w (by omega) (by omega) ht
end Go.Proofs.YtlppbapofenagaaGreatDoor
