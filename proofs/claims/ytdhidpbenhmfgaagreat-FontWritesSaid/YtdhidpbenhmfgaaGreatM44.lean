/- FStep2 FPiece. -/
import Derived.Test.YtdhidpbenhmfgaaGreatFStep
namespace Go.Proofs.YtdhidpbenhmfgaaGreat
open Go.RowKit

theorem step_any (F : Fnt) (a : FAddr) (i : Nat) (w : World) (hF : FontAt w F a w.heap.size) (hok : FOk F) (hi : i < F.steps.length) :
    Calls Tryz.prog 43 #[fontV F a, .int .i64 i] w fun e w' => e = .returned (.bool (stepB F i)) ∧ Kept w w' := by
  rw [stepB_of hi]
  obtain ⟨s, hs⟩ : ∃ s, F.steps[i] = s := ⟨_, rfl⟩
  rw [hs]
  unfold stB
  by_cases h0 : 128 < s.skip
  · rw [if_pos h0]
    by_cases h1 : i = 0
    · by_cases h2 : s.skip = 255
      · rw [if_pos ⟨h1, h2⟩]; exact step_A1 F a i w hF hok hi s hs h1 h0 h2
      · rw [if_neg (fun h => h2 h.2)]; exact step_A3 F a i w hF hok hi s hs h1 h0 h2
    · rw [if_neg (fun h => h1 h.1)]; exact step_A2 F a i w hF hok hi s hs h1 h0
  · rw [if_neg h0]
    cases ht : thB F s.next
    · by_cases he : s.next = edge F
      · rw [if_neg (fun h => h.2 he)]
        by_cases hc : s.skip < 128
        · by_cases hd : (F.steps.length : Int) ≤ i + s.skip + 1
          · rw [if_pos ⟨hc, hd⟩]; exact step_EC1 F a i w hF hok hi s hs ht h0 he hc hd
          · rw [if_neg (fun h => hd h.2)]
            by_cases hop : s.op < 128
            · rw [if_pos hop]; exact step_Ea1 F a i w hF hok hi s hs ht h0 he hc (by omega) hop
            · rw [if_neg hop]; exact step_Ea2 F a i w hF hok hi s hs ht h0 he hc (by omega) hop
        · rw [if_neg (fun h => hc h.1)]
          by_cases hop : s.op < 128
          · rw [if_pos hop]; exact step_Eb1 F a i w hF hok hi s hs ht h0 he hc hop
          · rw [if_neg hop]; exact step_Eb2 F a i w hF hok hi s hs ht h0 he hc hop
      · rw [if_pos ⟨rfl, he⟩]; exact step_B1 F a i w hF hok hi s hs ht h0 he
    · rw [if_neg (fun h => by cases h.1)]
      by_cases hc : s.skip < 128
      · by_cases hd : (F.steps.length : Int) ≤ i + s.skip + 1
        · rw [if_pos ⟨hc, hd⟩]; exact step_BC1 F a i w hF hok hi s hs ht h0 hc hd
        · rw [if_neg (fun h => hd h.2)]
          by_cases hop : s.op < 128
          · rw [if_pos hop]; exact step_Ba1 F a i w hF hok hi s hs ht h0 hc (by omega) hop
          · rw [if_neg hop]; exact step_Ba2 F a i w hF hok hi s hs ht h0 hc (by omega) hop
      · rw [if_neg (fun h => hc h.1)]
        by_cases hop : s.op < 128
        · rw [if_pos hop]; exact step_Bb1 F a i w hF hok hi s hs ht h0 hc hop
        · rw [if_neg hop]; exact step_Bb2 F a i w hF hok hi s hs ht h0 hc hop

end Go.Proofs.YtdhidpbenhmfgaaGreat
namespace Go.Proofs.YtdhidpbenhmfgaaGreat
open Go.RowKit

def PcAt (F : Fnt) (p : St) (W : World) (s5 : Value) (wr : World) : Prop := ∃ k : Nat, k ≤ 4 ∧ s5 = .int .i64 k ∧ (∀ j < k, okP F p j = true) ∧ Kept W wr

set_option maxRecDepth 100000 in
set_option maxHeartbeats 4000000 in
theorem piece_any (F : Fnt) (a : FAddr) (p : St) (w : World) (hF : FontAt w F a w.heap.size) (hok : FOk F) (hp : p.wf) :
    Calls Tryz.prog 44 #[fontV F a, .agg #[.int .u8 p.skip, .int .u8 p.next, .int .u8 p.op, .int .u8 p.rest]] w fun e w' => e = .returned (.bool (pieceB F p)) ∧ Kept w w' := by
  obtain ⟨W, hW⟩ : ∃ W, W = (w.alloc (.cells #[.int .u32 F.check, .int .i64 F.design, .int .i64 F.first, .slice a.A0 F.chars.length a.c0, .slice a.A1 F.steps.length a.c1, .slice a.A2 F.kerns.length a.c2, .slice a.A3 F.pieces.length a.c3, .slice a.A4 F.params.length a.c4] 28)).alloc (.cells #[.int .u8 p.skip, .int .u8 p.next, .int .u8 p.op, .int .u8 p.rest] 74) := ⟨_, rfl⟩
  have hk0 : Kept w W := by rw [hW]; exact (walloc _ _).trans (walloc _ _)
  have hB : FBox W w.heap.size F a := by rw [hW]; exact FBox.kept (FBox.of_obj (mkobj _ _)) (walloc _ _)
  have hSB : SBox W (w.heap.size + 1) p := by
    rw [hW]
    have := mkobj (w.alloc (.cells #[.int .u32 F.check, .int .i64 F.design, .int .i64 F.first, .slice a.A0 F.chars.length a.c0, .slice a.A1 F.steps.length a.c1, .slice a.A2 F.kerns.length a.c2, .slice a.A3 F.pieces.length a.c3, .slice a.A4 F.params.length a.c4] 28)) (.cells #[.int .u8 p.skip, .int .u8 p.next, .int .u8 p.op, .int .u8 p.rest] 74)
    exact SBox.of_obj (by simpa using this)
  have hth := fun (x : Int) (hx : byteB x) w' (hk : Kept w w') => Lib.hid (there_any F a x w' ((hF.kept hk).more hk.size) (hok.th (by unfold i64B; unfold byteB at hx; omega)))
  have HW := Lib.hid hW
  clear hW
  go_enter Tryz.func44, Tryz.ntmps44
  go_wp2_with (fail)
  rw [← HW.out]
  go_loopw [5] (fun s5 wr => PcAt F p W s5 wr) (fun s5 _ => 4 - (intOf s5).toNat)
  case atStart => exact ⟨0, by omega, rfl, fun j hj => by omega, Kept.refl _⟩
  case round =>
    obtain ⟨k, hk, rfl, hall, hkept⟩ := hrel
    have Hall := Lib.hid hall
    clear hall
    by_cases hk4 : k < 4
    · have hcell0 : ∀ w', Kept W w' → w'.cell? ⟨w.heap.size + 1, k, none⟩ = some (.int .u8 (pAt p k)) := fun w' hk' => by
        obtain ⟨z0, z1, z2, z3, _⟩ := hSB.kept hk'
        unfold pAt
        obtain rfl | rfl | rfl | rfl : k = 0 ∨ k = 1 ∨ k = 2 ∨ k = 3 := by omega
        · exact z0
        · exact z1
        · exact z2
        · exact z3
      have hx : byteB (pAt p k) := by
        unfold pAt
        split
        · exact hp.skip
        · split
          · exact hp.next
          · split
            · exact hp.op
            · exact hp.rest
      have Hok := Lib.hid (show okP F p k = (thB F (pAt p k) || (decide (k ≠ 3) && pAt p k == 0)) from rfl)
      have ht := hth (pAt p k) hx
      obtain ⟨x, hxe⟩ : ∃ x, pAt p k = x := ⟨_, rfl⟩
      rw [hxe] at hcell0 hx Hok ht
      have hcell := fun w' (h : Kept W w') => Lib.hid (hcell0 w' h)
      clear hcell0 hxe
      obtain ⟨x0, x1⟩ := hx
      have hwr : IntKind.i64.wrap x = x := IntWalk.i64_in _ (by omega)
      have hS : ∀ w', Kept W w' → Hid (w'.cell? ⟨w.heap.size, 0, none⟩ = some (.int .u32 F.check) ∧ w'.cell? ⟨w.heap.size, 1, none⟩ = some (.int .i64 F.design) ∧ w'.cell? ⟨w.heap.size, 2, none⟩ = some (.int .i64 F.first) ∧ w'.cell? ⟨w.heap.size, 3, none⟩ = some (.slice a.A0 F.chars.length a.c0) ∧ w'.cell? ⟨w.heap.size, 4, none⟩ = some (.slice a.A1 F.steps.length a.c1) ∧ w'.cell? ⟨w.heap.size, 5, none⟩ = some (.slice a.A2 F.kerns.length a.c2) ∧ w'.cell? ⟨w.heap.size, 6, none⟩ = some (.slice a.A3 F.pieces.length a.c3) ∧ w'.cell? ⟨w.heap.size, 7, none⟩ = some (.slice a.A4 F.params.length a.c4) ∧ w'.cell? ⟨w.heap.size + 1, k, none⟩ = some (.int .u8 x) ∧ Kept W w') := fun w' hk' => by
        obtain ⟨z0, z1, z2, z3, z4, z5, z6, z7, _⟩ := hB.kept hk'
        exact Lib.hid ⟨z0, z1, z2, z3, z4, z5, z6, z7, (hcell w' hk').out, hk'⟩
      generalize thV F x = V at *
      cases hb : thB F x
      · rw [hb] at ht Hok
        by_cases h3 : k = 3
        · have f0 : ((k : Int) == 3) = true := by simp [h3]
          have HE : Hid (pieceB F p = false) := Lib.hid (piece_no hk4 (by rw [Hok.out]; simp [h3]))
          clear h3 hb
          go_wp2_with (fail)
          go_region_held3 (fun w' => w'.cell? ⟨w.heap.size, 0, none⟩ = some (.int .u32 F.check) ∧ w'.cell? ⟨w.heap.size, 1, none⟩ = some (.int .i64 F.design) ∧ w'.cell? ⟨w.heap.size, 2, none⟩ = some (.int .i64 F.first) ∧ w'.cell? ⟨w.heap.size, 3, none⟩ = some (.slice a.A0 F.chars.length a.c0) ∧ w'.cell? ⟨w.heap.size, 4, none⟩ = some (.slice a.A1 F.steps.length a.c1) ∧ w'.cell? ⟨w.heap.size, 5, none⟩ = some (.slice a.A2 F.kerns.length a.c2) ∧ w'.cell? ⟨w.heap.size, 6, none⟩ = some (.slice a.A3 F.pieces.length a.c3) ∧ w'.cell? ⟨w.heap.size, 7, none⟩ = some (.slice a.A4 F.params.length a.c4) ∧ w'.cell? ⟨w.heap.size + 1, k, none⟩ = some (.int .u8 x) ∧ Kept W w') (first | exact (hS _ (by first | assumption | exact Below.drew (by assumption))).out) (first | (go_at_call 48; refine (ht _ (hk0.trans (Below.drew hkept))).out.mono ?_; rintro e w4 ⟨rfl, k4⟩; have kb : Kept W w4 := Kept.trans (Below.drew hkept) k4; have zx := hcell _ kb))
          all_goals
            have zy := zx.out
            go_wp2_with (fail)
            go_ret
            exact ⟨ret_bool HE.out.symm, hk0.trans kb⟩
        · have f0 : ((k : Int) == 3) = false := by simp; omega
          by_cases hz : x = 0
          · have f1 : (x != 0) = false := by simp [hz]
            have HE : Hid (okP F p k = true) := Lib.hid (by rw [Hok.out]; simp [h3, hz])
            clear h3 hb hz
            go_wp2_with (fail)
            go_region_held3 (fun w' => w'.cell? ⟨w.heap.size, 0, none⟩ = some (.int .u32 F.check) ∧ w'.cell? ⟨w.heap.size, 1, none⟩ = some (.int .i64 F.design) ∧ w'.cell? ⟨w.heap.size, 2, none⟩ = some (.int .i64 F.first) ∧ w'.cell? ⟨w.heap.size, 3, none⟩ = some (.slice a.A0 F.chars.length a.c0) ∧ w'.cell? ⟨w.heap.size, 4, none⟩ = some (.slice a.A1 F.steps.length a.c1) ∧ w'.cell? ⟨w.heap.size, 5, none⟩ = some (.slice a.A2 F.kerns.length a.c2) ∧ w'.cell? ⟨w.heap.size, 6, none⟩ = some (.slice a.A3 F.pieces.length a.c3) ∧ w'.cell? ⟨w.heap.size, 7, none⟩ = some (.slice a.A4 F.params.length a.c4) ∧ w'.cell? ⟨w.heap.size + 1, k, none⟩ = some (.int .u8 x) ∧ Kept W w') (first | exact (hS _ (by first | assumption | exact Below.drew (by assumption))).out) (first | (go_at_call 48; refine (ht _ (hk0.trans (Below.drew hkept))).out.mono ?_; rintro e w4 ⟨rfl, k4⟩; have kb : Kept W w4 := Kept.trans (Below.drew hkept) k4; have zx := hcell _ kb))
            all_goals
              have zy := zx.out
              go_wp2_with (fail)
              go_roundw
              case rel => exact ⟨k + 1, by omega, by go_num, all_next Hall.out HE.out, kb⟩
              case measure => simp [intOf]; omega
          · have f1 : (x != 0) = true := by simp [hz]
            have HE : Hid (pieceB F p = false) := Lib.hid (piece_no hk4 (by rw [Hok.out]; simp [hz]))
            clear h3 hb hz
            go_wp2_with (fail)
            go_region_held3 (fun w' => w'.cell? ⟨w.heap.size, 0, none⟩ = some (.int .u32 F.check) ∧ w'.cell? ⟨w.heap.size, 1, none⟩ = some (.int .i64 F.design) ∧ w'.cell? ⟨w.heap.size, 2, none⟩ = some (.int .i64 F.first) ∧ w'.cell? ⟨w.heap.size, 3, none⟩ = some (.slice a.A0 F.chars.length a.c0) ∧ w'.cell? ⟨w.heap.size, 4, none⟩ = some (.slice a.A1 F.steps.length a.c1) ∧ w'.cell? ⟨w.heap.size, 5, none⟩ = some (.slice a.A2 F.kerns.length a.c2) ∧ w'.cell? ⟨w.heap.size, 6, none⟩ = some (.slice a.A3 F.pieces.length a.c3) ∧ w'.cell? ⟨w.heap.size, 7, none⟩ = some (.slice a.A4 F.params.length a.c4) ∧ w'.cell? ⟨w.heap.size + 1, k, none⟩ = some (.int .u8 x) ∧ Kept W w') (first | exact (hS _ (by first | assumption | exact Below.drew (by assumption))).out) (first | (go_at_call 48; refine (ht _ (hk0.trans (Below.drew hkept))).out.mono ?_; rintro e w4 ⟨rfl, k4⟩; have kb : Kept W w4 := Kept.trans (Below.drew hkept) k4; have zx := hcell _ kb))
            all_goals
              have zy := zx.out
              go_wp2_with (fail)
              go_ret
              exact ⟨ret_bool HE.out.symm, hk0.trans kb⟩
      · rw [hb] at ht Hok
        have HE : Hid (okP F p k = true) := Lib.hid (by rw [Hok.out]; rfl)
        clear hb
        go_wp2_with (fail)
        go_region_held3 (fun w' => w'.cell? ⟨w.heap.size, 0, none⟩ = some (.int .u32 F.check) ∧ w'.cell? ⟨w.heap.size, 1, none⟩ = some (.int .i64 F.design) ∧ w'.cell? ⟨w.heap.size, 2, none⟩ = some (.int .i64 F.first) ∧ w'.cell? ⟨w.heap.size, 3, none⟩ = some (.slice a.A0 F.chars.length a.c0) ∧ w'.cell? ⟨w.heap.size, 4, none⟩ = some (.slice a.A1 F.steps.length a.c1) ∧ w'.cell? ⟨w.heap.size, 5, none⟩ = some (.slice a.A2 F.kerns.length a.c2) ∧ w'.cell? ⟨w.heap.size, 6, none⟩ = some (.slice a.A3 F.pieces.length a.c3) ∧ w'.cell? ⟨w.heap.size, 7, none⟩ = some (.slice a.A4 F.params.length a.c4) ∧ w'.cell? ⟨w.heap.size + 1, k, none⟩ = some (.int .u8 x) ∧ Kept W w') (first | exact (hS _ (by first | assumption | exact Below.drew (by assumption))).out) (first | (go_at_call 48; refine (ht _ (hk0.trans (Below.drew hkept))).out.mono ?_; rintro e w4 ⟨rfl, k4⟩; have kb : Kept W w4 := Kept.trans (Below.drew hkept) k4; have zx := hcell _ kb))
        all_goals
          go_wp2_with (fail)
          go_roundw
          case rel => exact ⟨k + 1, by omega, by go_num, all_next Hall.out HE.out, kb⟩
          case measure => simp [intOf]; omega
    · have HE : Hid (pieceB F p = true) := Lib.hid (piece_yes (fun j hj => Hall.out j (by omega)))
      go_wp2_with (fail)
      go_ret
      exact ⟨ret_bool HE.out.symm, hk0.trans hkept⟩
end Go.Proofs.YtdhidpbenhmfgaaGreat
