/- galleyref03.Check. -/
import Derived.Test.YtdhidpbenhmfgaaGreatFShape
namespace Go.Proofs.YtdhidpbenhmfgaaGreat
open Go.RowKit

theorem shape_any (F : Fnt) (a : FAddr) (w : World) (hF : FontAt w F a w.heap.size) :
    Calls Tryz.prog 41 #[fontV F a] w fun e w' => e = .returned (.bool (shapeB F)) ∧ Kept w w' := by
  have bad : headB F = false → shapeB F = false := fun h => by unfold shapeB; rw [h]; rfl
  by_cases h0 : F.design < 1048576
  · rw [bad (by unfold headB; simp; omega)]; exact shape_d0 F a w hF h0
  · by_cases h1 : 2147483647 < F.design
    · rw [bad (by unfold headB; simp; omega)]; exact shape_d1 F a w hF h0 h1
    · by_cases h2 : F.first < 0
      · rw [bad (by unfold headB; simp; omega)]; exact shape_d2 F a w hF h0 h1 h2
      · by_cases h3 : 255 < F.first
        · rw [bad (by unfold headB; simp; omega)]; exact shape_d3 F a w hF h0 h1 h2 h3
        · by_cases h4 : 256 - F.first < (F.chars.length : Int)
          · rw [bad (by unfold headB; simp; omega)]; exact shape_d4 F a w hF h0 h1 h2 h3 h4
          · have hd : decide (1048576 ≤ F.design ∧ F.design ≤ 2147483647 ∧ 0 ≤ F.first ∧ F.first ≤ 255 ∧ (F.chars.length : Int) ≤ 256 - F.first) = true := decide_eq_true (by omega)
            have lens : ∀ {x : Bool}, ¬ (F.steps.length ≤ 32510 ∧ F.kerns.length ≤ 32768 ∧ F.pieces.length ≤ 256 ∧ F.params.length ≤ 255) → headB F = false := fun h => by
              unfold headB; rw [decide_eq_false h]; simp
            have good : endsB F = true → ¬ 32510 < F.steps.length → ¬ 32768 < F.kerns.length → ¬ 256 < F.pieces.length → ¬ 255 < F.params.length → shapeB F = (kernsB F && parsB F) := fun he x0 x1 x2 x3 => by
              have hh : headB F = true := by unfold headB; rw [hd, he, decide_eq_true (by omega)]; rfl
              unfold shapeB; rw [hh]; rfl
            by_cases hz : F.chars.length = 0
            · by_cases hf : F.first = 0
              · have he : endsB F = true := by rw [ends_nil hz, hf]; rfl
                by_cases x0 : 32510 < F.steps.length
                · rw [bad (lens (x := true) (by omega))]; exact shape_l00 F a w hF h0 h1 h2 h3 h4 hz hf x0
                · by_cases x1 : 32768 < F.kerns.length
                  · rw [bad (lens (x := true) (by omega))]; exact shape_l01 F a w hF h0 h1 h2 h3 h4 hz hf x0 x1
                  · by_cases x2 : 256 < F.pieces.length
                    · rw [bad (lens (x := true) (by omega))]; exact shape_l02 F a w hF h0 h1 h2 h3 h4 hz hf x0 x1 x2
                    · by_cases x3 : 255 < F.params.length
                      · rw [bad (lens (x := true) (by omega))]; exact shape_l03 F a w hF h0 h1 h2 h3 h4 hz hf x0 x1 x2 x3
                      · rw [good he x0 x1 x2 x3]; exact shape_g0 F a w hF h0 h1 h2 h3 h4 hz hf x0 x1 x2 x3
              · have he : endsB F = false := by rw [ends_nil hz]; simpa using hf
                rw [bad (by unfold headB; rw [he]; simp)]; exact shape_e0 F a w hF h0 h1 h2 h3 h4 hz hf
            · have hp : 0 < F.chars.length := by omega
              by_cases t0 : F.chars[0].tag < 0
              · have he : endsB F = false := by rw [ends_cons hp]; exact decide_eq_false (by omega)
                rw [bad (by unfold headB; rw [he]; simp)]; exact shape_e1 F a w hF h0 h1 h2 h3 h4 hp t0
              · by_cases t1 : (F.chars[F.chars.length - 1]'(by omega)).tag < 0
                · have he : endsB F = false := by rw [ends_cons hp]; exact decide_eq_false (by omega)
                  rw [bad (by unfold headB; rw [he]; simp)]; exact shape_e2 F a w hF h0 h1 h2 h3 h4 hp (by omega) t1
                · have he : endsB F = true := by rw [ends_cons hp]; exact decide_eq_true (by omega)
                  by_cases x0 : 32510 < F.steps.length
                  · rw [bad (lens (x := true) (by omega))]; exact shape_l10 F a w hF h0 h1 h2 h3 h4 hp (by omega) (by omega) x0
                  · by_cases x1 : 32768 < F.kerns.length
                    · rw [bad (lens (x := true) (by omega))]; exact shape_l11 F a w hF h0 h1 h2 h3 h4 hp (by omega) (by omega) x0 x1
                    · by_cases x2 : 256 < F.pieces.length
                      · rw [bad (lens (x := true) (by omega))]; exact shape_l12 F a w hF h0 h1 h2 h3 h4 hp (by omega) (by omega) x0 x1 x2
                      · by_cases x3 : 255 < F.params.length
                        · rw [bad (lens (x := true) (by omega))]; exact shape_l13 F a w hF h0 h1 h2 h3 h4 hp (by omega) (by omega) x0 x1 x2 x3
                        · rw [good he x0 x1 x2 x3]; exact shape_g1 F a w hF h0 h1 h2 h3 h4 hp (by omega) (by omega) x0 x1 x2 x3

def LoopAt (n : Nat) (f : Nat → Bool) (W : World) (s : Value) (wr : World) : Prop := ∃ k : Nat, k ≤ n ∧ s = .int .i64 k ∧ (∀ j < k, f j = true) ∧ Kept W wr

set_option maxHeartbeats 2000000 in
theorem fcheck_bad (F : Fnt) (a : FAddr) (w : World) (hF : FontAt w F a w.heap.size) (h : shapeB F = false) :
    Calls Tryz.prog 10 #[fontV F a] w fun e w' => e = .returned (.int .i64 40) ∧ Kept w w' := by
  have hs := fun w' (hk : Kept w w') => Lib.hid (shape_any F a w' ((hF.kept hk).more hk.size))
  rw [h] at hs
  clear h
  go_enter Tryz.func10, Tryz.ntmps10
  go_wp2_with (fail)
  refine (hs _ (walloc _ _)).out.mono ?_
  rintro e w1 ⟨rfl, k1⟩
  go_wp2_with (fail)
  go_ret
  exact ⟨rfl, (walloc _ _).trans k1⟩

set_option maxRecDepth 100000 in
set_option maxHeartbeats 4000000 in
theorem fcheck_good (F : Fnt) (a : FAddr) (w : World) (hF : FontAt w F a w.heap.size) (hw : F.wf) (h : shapeB F = true) :
    Calls Tryz.prog 10 #[fontV F a] w fun e w' => e = .returned (.int .i64 (fontE F)) ∧ Kept w w' := by
  have hok := shape_ok h hw
  have hs := fun w' (hk : Kept w w') => Lib.hid (shape_any F a w' ((hF.kept hk).more hk.size))
  rw [h] at hs
  have hch := fun i (hi : i < F.chars.length) w' (hk : Kept w w') => Lib.hid (char_any F a i w' ((hF.kept hk).more hk.size) hi (fun w1 hk1 => chained_any F a i w1 ((hF.kept (hk.trans hk1)).more (hk.trans hk1).size) hw hok.first hok.many hi))
  have hst := fun i (hi : i < F.steps.length) w' (hk : Kept w w') => Lib.hid (step_any F a i w' ((hF.kept hk).more hk.size) hok hi)
  have hpc := fun p (hp : p ∈ F.pieces) w' (hk : Kept w w') => Lib.hid (piece_any F a p w' ((hF.kept hk).more hk.size) hok (hw.pieces p hp))
  have HP := Lib.hid hF.p
  have hE : ∀ b, fontB F = b → fontE F = if b then 0 else 40 := fun b hb => by unfold fontE; rw [hb]
  have HE := Lib.hid hE
  have l0 : F.chars.length ≤ 256 := hok.many
  have l1 : F.steps.length ≤ 32510 := hok.nsteps
  have l3 : F.pieces.length ≤ 256 := by
    have := h
    unfold shapeB headB at this
    simp only [Bool.and_eq_true, decide_eq_true_eq] at this
    exact this.1.2.2.2.2.1
  have Hh := Lib.hid h
  obtain ⟨A0, n0, A1, n1, A2, n2, A3, n3, A4, n4⟩ := a
  obtain ⟨W, hW⟩ : ∃ W, W = w.alloc (.cells #[.int .u32 F.check, .int .i64 F.design, .int .i64 F.first, .slice A0 F.chars.length n0, .slice A1 F.steps.length n1, .slice A2 F.kerns.length n2, .slice A3 F.pieces.length n3, .slice A4 F.params.length n4] 28) := ⟨_, rfl⟩
  have hk0 : Kept w W := by rw [hW]; exact walloc _ _
  have hB : FBox W w.heap.size F ⟨A0, n0, A1, n1, A2, n2, A3, n3, A4, n4⟩ := FBox.of_obj (by rw [hW]; exact mkobj _ _)
  have HW := Lib.hid hW
  clear hW hF hw h hok hE
  go_enter Tryz.func10, Tryz.ntmps10
  go_wp2_with (fail)
  rw [← HW.out]
  refine (hs _ hk0).out.mono ?_
  rintro e w1 ⟨rfl, k1⟩
  obtain ⟨b0, b1, b2, b3, b4, b5, b6, b7, bl⟩ := hB.kept k1
  clear hs
  go_wp2_with (fail)
  go_loopw [3] (fun s wr => LoopAt F.chars.length (charB F) W s wr) (fun s _ => F.chars.length - (intOf s).toNat)
  case atStart => exact ⟨0, by omega, rfl, fun j hj => by omega, k1⟩
  case round =>
    obtain ⟨k, hk, rfl, hall, hkept⟩ := hrel
    have Hall := Lib.hid hall
    clear hall b0 b1 b2 b3 b4 b5 b6 b7 bl
    obtain ⟨b0, b1, b2, b3, b4, b5, b6, b7, bl⟩ := hB.kept hkept
    by_cases hlt : k < F.chars.length
    · have hc := hch k hlt
      cases hx : charB F k
      · have HZ : Hid (fontE F = 40) := Lib.hid (HE.out false (by unfold fontB charsB; rw [range_no hlt hx]; simp))
        rw [hx] at hc
        clear hx
        go_wp2_with (fail)
        refine (hc _ (hk0.trans hkept)).out.mono ?_
        rintro e w2 ⟨rfl, k2⟩
        go_wp2_with (fail)
        go_ret
        exact ⟨ret_int HZ.out.symm, (hk0.trans hkept).trans k2⟩
      · have HN := Lib.hid (all_next Hall.out hx)
        rw [hx] at hc
        clear hx
        go_wp2_with (fail)
        refine (hc _ (hk0.trans hkept)).out.mono ?_
        rintro e w2 ⟨rfl, k2⟩
        go_wp2_with (fail)
        go_roundw
        case rel => exact ⟨k + 1, by omega, by go_num, HN.out, hkept.trans k2⟩
        case measure => simp [intOf]; omega
    · have HC : Hid (charsB F = true) := Lib.hid (range_yes (fun j hj => Hall.out j (by omega)))
      clear Hall hch
      go_wp2_with (fail)
      go_loopw [4] (fun s wr => LoopAt F.steps.length (stepB F) W s wr) (fun s _ => F.steps.length - (intOf s).toNat)
      case atStart => exact ⟨0, by omega, rfl, fun j hj => by omega, hkept⟩
      case round =>
        obtain ⟨k, hk, rfl, hall, hkept⟩ := hrel
        have Hall := Lib.hid hall
        clear hall b0 b1 b2 b3 b4 b5 b6 b7 bl
        obtain ⟨b0, b1, b2, b3, b4, b5, b6, b7, bl⟩ := hB.kept hkept
        by_cases hlt : k < F.steps.length
        · have hc := hst k hlt
          cases hx : stepB F k
          · have HZ : Hid (fontE F = 40) := Lib.hid (HE.out false (by unfold fontB stepsB; rw [range_no hlt hx]; simp))
            rw [hx] at hc
            clear hx
            go_wp2_with (fail)
            refine (hc _ (hk0.trans hkept)).out.mono ?_
            rintro e w2 ⟨rfl, k2⟩
            go_wp2_with (fail)
            go_ret
            exact ⟨ret_int HZ.out.symm, (hk0.trans hkept).trans k2⟩
          · have HN := Lib.hid (all_next Hall.out hx)
            rw [hx] at hc
            clear hx
            go_wp2_with (fail)
            refine (hc _ (hk0.trans hkept)).out.mono ?_
            rintro e w2 ⟨rfl, k2⟩
            go_wp2_with (fail)
            go_roundw
            case rel => exact ⟨k + 1, by omega, by go_num, HN.out, hkept.trans k2⟩
            case measure => simp [intOf]; omega
        · have HS : Hid (stepsB F = true) := Lib.hid (range_yes (fun j hj => Hall.out j (by omega)))
          clear Hall hst
          go_wp2_with (fail)
          go_loopw [5] (fun s wr => LoopAt F.pieces.length (fun k => match F.pieces[k]? with | none => false | some p => pieceB F p) W s wr) (fun s _ => F.pieces.length - (intOf s).toNat)
          case atStart => exact ⟨0, by omega, rfl, fun j hj => by omega, hkept⟩
          case round =>
            obtain ⟨k, hk, rfl, hall, hkept⟩ := hrel
            have Hall := Lib.hid hall
            clear hall b0 b1 b2 b3 b4 b5 b6 b7 bl
            obtain ⟨b0, b1, b2, b3, b4, b5, b6, b7, bl⟩ := hB.kept hkept
            by_cases hlt : k < F.pieces.length
            · obtain ⟨b, o, hA, hbl, hcell⟩ := HP.out (by omega)
              obtain rfl : A3 = some ⟨b, o, none⟩ := hA
              have hq : ∀ w', Kept W w' → ∀ j, w'.cell? ⟨b, j, none⟩ = w.cell? ⟨b, j, none⟩ := fun w' hk j => (hk0.trans hk).cell (p := ⟨b, j, none⟩) hbl
              obtain ⟨c0, c1, c2, c3⟩ := hcell k hlt
              have hc := hpc F.pieces[k] (List.getElem_mem hlt)
              obtain ⟨x, hx⟩ : ∃ x, pieceB F F.pieces[k] = x := ⟨_, rfl⟩
              have hX := Lib.hid (show (fun k => match F.pieces[k]? with | none => false | some p => pieceB F p) k = x by simp only [List.getElem?_eq_getElem hlt]; exact hx)
              rw [hx] at hc
              obtain ⟨p, hp⟩ : ∃ p, F.pieces[k] = p := ⟨_, rfl⟩
              rw [hp] at c0 c1 c2 c3 hc
              clear hx hp hcell
              obtain ⟨p0, p1, p2, p3⟩ := p
              simp only at c0 c1 c2 c3 hc
              have hS : ∀ w', Kept W w' → Hid (w'.cell? ⟨w.heap.size, 0, none⟩ = some (.int .u32 F.check) ∧ w'.cell? ⟨w.heap.size, 1, none⟩ = some (.int .i64 F.design) ∧ w'.cell? ⟨w.heap.size, 2, none⟩ = some (.int .i64 F.first) ∧ w'.cell? ⟨w.heap.size, 3, none⟩ = some (.slice A0 F.chars.length n0) ∧ w'.cell? ⟨w.heap.size, 4, none⟩ = some (.slice A1 F.steps.length n1) ∧ w'.cell? ⟨w.heap.size, 5, none⟩ = some (.slice A2 F.kerns.length n2) ∧ w'.cell? ⟨w.heap.size, 6, none⟩ = some (.slice (some ⟨b, o, none⟩) F.pieces.length n3) ∧ w'.cell? ⟨w.heap.size, 7, none⟩ = some (.slice A4 F.params.length n4) ∧ w'.cell? ⟨b, o + k * 4, none⟩ = some (.int .u8 p0) ∧ w'.cell? ⟨b, o + k * 4 + 1, none⟩ = some (.int .u8 p1) ∧ w'.cell? ⟨b, o + k * 4 + 2, none⟩ = some (.int .u8 p2) ∧ w'.cell? ⟨b, o + k * 4 + 3, none⟩ = some (.int .u8 p3) ∧ Kept W w') := fun w' hk => by
                obtain ⟨z0, z1, z2, z3, z4, z5, z6, z7, _⟩ := hB.kept hk
                exact Lib.hid ⟨z0, z1, z2, z3, z4, z5, z6, z7, (hq w' hk _).trans c0, (hq w' hk _).trans c1, (hq w' hk _).trans c2, (hq w' hk _).trans c3, hk⟩
              clear hq c0 c1 c2 c3
              cases x
              · have HZ : Hid (fontE F = 40) := Lib.hid (HE.out false (by unfold fontB piecesB; rw [range_no hlt hX.out]; simp))
                go_wp2_with (fail)
                go_region_held3 (fun w' => w'.cell? ⟨w.heap.size, 0, none⟩ = some (.int .u32 F.check) ∧ w'.cell? ⟨w.heap.size, 1, none⟩ = some (.int .i64 F.design) ∧ w'.cell? ⟨w.heap.size, 2, none⟩ = some (.int .i64 F.first) ∧ w'.cell? ⟨w.heap.size, 3, none⟩ = some (.slice A0 F.chars.length n0) ∧ w'.cell? ⟨w.heap.size, 4, none⟩ = some (.slice A1 F.steps.length n1) ∧ w'.cell? ⟨w.heap.size, 5, none⟩ = some (.slice A2 F.kerns.length n2) ∧ w'.cell? ⟨w.heap.size, 6, none⟩ = some (.slice (some ⟨b, o, none⟩) F.pieces.length n3) ∧ w'.cell? ⟨w.heap.size, 7, none⟩ = some (.slice A4 F.params.length n4) ∧ w'.cell? ⟨b, o + k * 4, none⟩ = some (.int .u8 p0) ∧ w'.cell? ⟨b, o + k * 4 + 1, none⟩ = some (.int .u8 p1) ∧ w'.cell? ⟨b, o + k * 4 + 2, none⟩ = some (.int .u8 p2) ∧ w'.cell? ⟨b, o + k * 4 + 3, none⟩ = some (.int .u8 p3) ∧ Kept W w') (first | exact (hS _ (by first | assumption | exact Below.drew (by assumption))).out) (first | (go_at_call 44; refine (hc _ (hk0.trans (Below.drew hkept))).out.mono ?_; rintro e w4 ⟨rfl, k4⟩; have kb : Kept W w4 := Kept.trans (Below.drew hkept) k4))
                all_goals
                  go_wp2_with (fail)
                  go_ret
                  exact ⟨ret_int HZ.out.symm, hk0.trans kb⟩
              · have HN := Lib.hid (all_next Hall.out hX.out)
                go_wp2_with (fail)
                go_region_held3 (fun w' => w'.cell? ⟨w.heap.size, 0, none⟩ = some (.int .u32 F.check) ∧ w'.cell? ⟨w.heap.size, 1, none⟩ = some (.int .i64 F.design) ∧ w'.cell? ⟨w.heap.size, 2, none⟩ = some (.int .i64 F.first) ∧ w'.cell? ⟨w.heap.size, 3, none⟩ = some (.slice A0 F.chars.length n0) ∧ w'.cell? ⟨w.heap.size, 4, none⟩ = some (.slice A1 F.steps.length n1) ∧ w'.cell? ⟨w.heap.size, 5, none⟩ = some (.slice A2 F.kerns.length n2) ∧ w'.cell? ⟨w.heap.size, 6, none⟩ = some (.slice (some ⟨b, o, none⟩) F.pieces.length n3) ∧ w'.cell? ⟨w.heap.size, 7, none⟩ = some (.slice A4 F.params.length n4) ∧ w'.cell? ⟨b, o + k * 4, none⟩ = some (.int .u8 p0) ∧ w'.cell? ⟨b, o + k * 4 + 1, none⟩ = some (.int .u8 p1) ∧ w'.cell? ⟨b, o + k * 4 + 2, none⟩ = some (.int .u8 p2) ∧ w'.cell? ⟨b, o + k * 4 + 3, none⟩ = some (.int .u8 p3) ∧ Kept W w') (first | exact (hS _ (by first | assumption | exact Below.drew (by assumption))).out) (first | (go_at_call 44; refine (hc _ (hk0.trans (Below.drew hkept))).out.mono ?_; rintro e w4 ⟨rfl, k4⟩; have kb : Kept W w4 := Kept.trans (Below.drew hkept) k4))
                all_goals
                  go_wp2_with (fail)
                  go_roundw
                  case rel => exact ⟨k + 1, by omega, by go_num, HN.out, kb⟩
                  case measure => simp [intOf]; omega
            · have HPP : Hid (piecesB F = true) := Lib.hid (range_yes (fun j hj => Hall.out j (by omega)))
              have HZ : Hid (fontE F = 0) := Lib.hid (HE.out true (by unfold fontB; rw [Hh.out, HC.out, HS.out, HPP.out]; rfl))
              clear Hall
              go_wp2_with (fail)
              go_ret
              exact ⟨ret_int HZ.out.symm, hk0.trans hkept⟩

theorem fcheck_any (F : Fnt) (a : FAddr) (w : World) (hF : FontAt w F a w.heap.size) (hw : F.wf) :
    Calls Tryz.prog 10 #[fontV F a] w fun e w' => e = .returned (.int .i64 (fontE F)) ∧ Kept w w' := by
  cases h : shapeB F
  · have : fontE F = 40 := by unfold fontE fontB; rw [h]; rfl
    rw [this]
    exact fcheck_bad F a w hF h
  · exact fcheck_good F a w hF hw h
end Go.Proofs.YtdhidpbenhmfgaaGreat
