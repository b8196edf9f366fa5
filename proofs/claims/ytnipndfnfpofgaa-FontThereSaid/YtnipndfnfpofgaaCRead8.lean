/- font's reader: the font, at any bytes. -/
import Derived.Test.YtnipndfnfpofgaaCFont
namespace Go.Proofs.Ytnipndfnfpofgaa
open Go.RowKit

theorem counts_facts {bs : List Int} (hb : BytesOk bs) (h : countsB bs = true) : (∀ i < 12, 0 ≤ hv bs (2 * i) ∧ hv bs (2 * i) ≤ 32767) ∧ (bs.length : Int) = 4 * (cntB bs).lf ∧ (cntB bs).lf = wordsC (cntB bs) ∧ 2 ≤ (cntB bs).lh ∧ (cntB bs).bc ≤ (cntB bs).ec + 1 ∧ (cntB bs).ec < 256 := by
  unfold countsB at h
  rw [Bool.and_eq_true, List.all_eq_true, decide_eq_true_eq] at h
  exact ⟨fun i hi => by
    have q := h.1 i (List.mem_range.2 hi)
    unfold halfOk at q
    rw [decide_eq_true_eq] at q
    exact ⟨hv_bd hb _, q.2⟩, h.2⟩
theorem rfont_no (w : World) (R b o d : Nat) (bs : List Int) (h : Rd w R b o d 0 bs) (hb : BytesOk bs) (hlen : bs.length ≤ 1048576) (hcy : countsB bs = false) :
    Calls Try.prog 49 #[.pointer (some ⟨R, 0, none⟩)] w fun e w' => e = .panicked giveUp ∧ w.grownBy w' (some R) := by
  obtain ⟨W, hW⟩ : ∃ W, W = w.alloc (.cells #[.int .u32 0, .int .i64 0, .int .i64 0, .slice none 0 0, .slice none 0 0, .slice none 0 0, .slice none 0 0, .slice none 0 0] 28) := ⟨_, rfl⟩
  have hk0 : Kept w W := by rw [hW]; exact walloc _ _
  have hc := Lib.hid (counts_any W R b o d bs (h.grown (row := none) (grown_kept hk0) (by simp) (by simp)) hb hlen)
  rw [hcy] at hc
  have HW := Lib.hid hW
  clear hW h hb
  go_enter Try.func49, Try.ntmps49
  go_wp2_with (fail)
  rw [← HW.out]
  refine hc.out.mono ?_
  rintro e w1 (⟨hx, _⟩ | ⟨_, rfl, g1⟩)
  case inl => cases hx
  exact ⟨rfl, rfl, grown_trans (grown_kept hk0) g1⟩
theorem rfont_any (w : World) (R b o d : Nat) (bs : List Int) (h : Rd w R b o d 0 bs) (hb : BytesOk bs) (hlen : bs.length ≤ 1048576) :
    Calls Try.prog 49 #[.pointer (some ⟨R, 0, none⟩)] w fun e w' => (readB bs = true ∧ ∃ a, e = .returned (fontV (readF bs) a) ∧ FRead w' w.heap.size (readF bs) a ∧ w.grownBy w' (some R)) ∨ (readB bs = false ∧ e = .panicked giveUp ∧ w.grownBy w' (some R)) := by
  by_cases hcy : countsB bs = true
  · obtain ⟨hh, hL, hw, hlh, hbe, hec⟩ := counts_facts hb hcy
    have z0 := hh 0 (by omega)
    have z1 := hh 1 (by omega)
    have z2 := hh 2 (by omega)
    have z3 := hh 3 (by omega)
    have z4 := hh 4 (by omega)
    have z5 := hh 5 (by omega)
    have z6 := hh 6 (by omega)
    have z7 := hh 7 (by omega)
    have z8 := hh 8 (by omega)
    have z9 := hh 9 (by omega)
    have z10 := hh 10 (by omega)
    have z11 := hh 11 (by omega)
    simp only [Nat.mul_zero, Nat.reduceMul] at z0 z1 z2 z3 z4 z5 z6 z7 z8 z9 z10 z11
    unfold wordsC charsC at hw
    unfold cntB at hL hw hlh hbe hec
    dsimp only at hL hw hlh hbe hec
    have q := rfont_core w R b o d (hv bs 2).toNat (nC bs) (hv bs 8).toNat (hv bs 10).toNat (hv bs 12).toNat (hv bs 14).toNat (hv bs 16).toNat (hv bs 18).toNat (hv bs 20).toNat (hv bs 22).toNat (oC bs) (oW bs) (oS bs) (oK bs) (oP bs) (oQ bs)
      (hv bs 0) (hv bs 4) (hv bs 6) (unsV (wordS bs 24)) (unsV (wordS bs 28)) bs (rW bs) (rH bs) (rD bs) (rI bs) (sigs bs (oK bs) (hv bs 18).toNat) (sigs bs (oQ bs) (hv bs 22).toNat) (chW bs) (wordsAt bs (oS bs) (hv bs 16).toNat) (wordsAt bs (oP bs) (hv bs 20).toNat) (rMets bs)
      (zeroFirst (rW bs) && zeroFirst (rH bs) && zeroFirst (rD bs) && zeroFirst (rI bs)) (metsB bs)
      h hb hlen hcy (by unfold cntB; rw [Int.toNat_of_nonneg z1.1, Int.toNat_of_nonneg z4.1, Int.toNat_of_nonneg z5.1, Int.toNat_of_nonneg z6.1, Int.toNat_of_nonneg z7.1, Int.toNat_of_nonneg z8.1, Int.toNat_of_nonneg z9.1, Int.toNat_of_nonneg z10.1, Int.toNat_of_nonneg z11.1])
      (by unfold charsC cntB nC; dsimp only; omega) (by unfold cntB; constructor <;> (dsimp only; omega)) (by omega) rfl rfl rfl rfl rfl rfl (by unfold oQ oP oK oS oI oD oH oW oC nC; omega) (by omega) (by omega) (by omega) (by omega) (by omega) (by unfold nC; omega)
      rfl rfl rfl rfl rfl rfl rfl rfl rfl rfl rfl rfl rfl rfl
    have e1 : readB bs = (zeroFirst (rW bs) && zeroFirst (rH bs) && zeroFirst (rD bs) && zeroFirst (rI bs) && (metsB bs && fontB (readF bs))) := by
      unfold readB zerosB
      rw [hcy, Bool.true_and]
      simp only [Bool.and_assoc]
    rw [e1]
    exact q
  · rw [Bool.not_eq_true] at hcy
    have e1 : readB bs = false := by unfold readB; rw [hcy]; rfl
    rw [e1]
    exact (rfont_no w R b o d bs h hb hlen hcy).mono fun e w' q => .inr ⟨rfl, q.1, q.2⟩
end Go.Proofs.Ytnipndfnfpofgaa
