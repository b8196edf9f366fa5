/- font.piecesRight. -/
import Derived.Test.YtdhidpbenhmfgaaGreatCLoops
namespace Go.Proofs.YtdhidpbenhmfgaaGreat
open Go.RowKit

def pcOk (F : Fnt) (k : Nat) : Bool := match F.pieces[k]? with | none => false | some p => pieceB F p
theorem pcOk_of {F : Fnt} {k : Nat} (h : k < F.pieces.length) : pcOk F k = pieceB F F.pieces[k] := by unfold pcOk; rw [List.getElem?_eq_getElem h]

set_option maxRecDepth 100000 in
set_option maxHeartbeats 4000000 in
theorem piecesR_any (F : Fnt) (a : FAddr) (w : World) (hF : FontAt w F a w.heap.size) (hw : F.wf) (hl : F.pieces.length ≤ 256) :
    Calls Tryz.prog 40 #[fontV F a] w fun e w' => e = .returned (.bool (piecesB F)) ∧ Kept w w' := by
  obtain ⟨W, hW⟩ : ∃ W, W = w.alloc (.cells #[.int .u32 F.check, .int .i64 F.design, .int .i64 F.first, .slice a.A0 F.chars.length a.c0, .slice a.A1 F.steps.length a.c1, .slice a.A2 F.kerns.length a.c2, .slice a.A3 F.pieces.length a.c3, .slice a.A4 F.params.length a.c4] 28) := ⟨_, rfl⟩
  have hk0 : Kept w W := by rw [hW]; exact walloc _ _
  have hB : FBox W w.heap.size F a := FBox.of_obj (by rw [hW]; exact mkobj _ _)
  have HW := Lib.hid hW
  have hth := fun (x : Int) (hx : byteB x) w' (hk : Kept W w') => Lib.hid (cthere_any F a x w' ((hF.kept (hk0.trans hk)).more (hk0.trans hk).size) hw hx)
  have hp := fun (k : Nat) (h : k < F.pieces.length) => hw.pieces _ (List.getElem_mem h)
  have HF := Lib.hid hF.p
  clear hW hF hw
  go_enter Tryz.func40, Tryz.ntmps40
  go_wp2_with (fail)
  rw [← HW.out]
  go_loopw [10] (fun i wr => CLoop F.pieces.length (pcOk F) W i wr) (fun i _ => F.pieces.length - (intOf i).toNat)
  case atStart => exact ⟨0, Nat.zero_le _, rfl, fun j h => absurd h (Nat.not_lt_zero _), Kept.refl _⟩
  case round =>
    obtain ⟨wo, rfl⟩ : ∃ wo : World, wo = wr := ⟨_, rfl⟩
    obtain ⟨k, hk, rfl, hall, hkept⟩ := hrel
    have Hall := Lib.hid hall
    clear hall
    by_cases hlt : k < F.pieces.length
    · obtain ⟨b, o, hA, hbl, hcell⟩ := HF.out (by omega)
      obtain ⟨c0, c1, c2, c3⟩ := hcell k hlt
      have hq : ∀ j, wo.cell? ⟨b, j, none⟩ = w.cell? ⟨b, j, none⟩ := fun j => (hk0.trans hkept).cell (p := ⟨b, j, none⟩) hbl
      have d0 := (hq _).trans c0
      have d1 := (hq _).trans c1
      have d2 := (hq _).trans c2
      have d3 := (hq _).trans c3
      clear hq c0 c1 c2 c3 hcell
      have hpw := hp k hlt
      have Hno : Hid (pieceB F F.pieces[k] = false → piecesB F = false) := fun hn => range_no (f := pcOk F) hlt (by rw [pcOk_of hlt]; exact hn)
      have Hyes : Hid (pieceB F F.pieces[k] = true → ∀ j < k + 1, pcOk F j = true) := fun hy => all_next Hall.out (by rw [pcOk_of hlt]; exact hy)
      clear Hall hp
      generalize F.pieces[k] = p at *
      obtain ⟨W2, hW2⟩ : ∃ W2, W2 = wo.alloc (.cells #[.int .u8 p.skip, .int .u8 p.next, .int .u8 p.op, .int .u8 p.rest] 74) := ⟨_, rfl⟩
      have kW2 : Kept W W2 := by rw [hW2]; exact kalloc hkept _
      have hS : SBox W2 wo.heap.size p := by rw [hW2]; exact SBox.of_obj (mkobj _ _)
      obtain ⟨b0, b1, b2, b3, b4, b5, b6, b7, bl⟩ := hB.kept hkept
      have HW2 := Lib.hid hW2
      have dk : decide ((k : Int) < F.pieces.length) = true := decide_eq_true (by omega)
      obtain ⟨A0, n0, A1, n1, A2, n2, A3, n3, A4, n4⟩ := a
      obtain rfl : A3 = some ⟨b, o, none⟩ := hA
      clear hW2
      go_wp2_with (fail)
      rw [← HW2.out]
      clear b0 b1 b2 b3 b4 b5 b6 b7
      generalize wo.heap.size = B2 at *
      clear d0 d1 d2 d3 HW2
      go_loopw [16] (fun i wi => CLoop 3 (okP F p) W2 i wi) (fun i _ => 3 - (intOf i).toNat)
      case atStart => exact ⟨0, Nat.zero_le _, rfl, fun j h => absurd h (Nat.not_lt_zero _), Kept.refl _⟩
      case round =>
        obtain ⟨j, hj, rfl, hall, hkj⟩ := hrel
        have Hall := Lib.hid hall
        clear hall
        obtain ⟨b0, b1, b2, b3, b4, b5, b6, b7, bl'⟩ := hB.kept (kW2.trans hkj)
        by_cases hj3 : j < 3
        · have dj : decide ((j : Int) < 3) = true := decide_eq_true (by omega)
          have hcj : wr.cell? ⟨B2, j, none⟩ = some (.int .u8 (pAt p j)) := by
            obtain ⟨z0, z1, z2, z3, _⟩ := hS.kept hkj
            unfold pAt
            obtain rfl | rfl | rfl : j = 0 ∨ j = 1 ∨ j = 2 := by omega
            · exact z0
            · exact z1
            · exact z2
          have hx : byteB (pAt p j) := by
            unfold pAt
            split
            · exact hpw.skip
            · split
              · exact hpw.next
              · split
                · exact hpw.op
                · exact hpw.rest
          have Hok := Lib.hid (show okP F p j = (thB F (pAt p j) || (decide (j ≠ 3) && pAt p j == 0)) from rfl)
          have ht := hth (pAt p j) hx wr (kW2.trans hkj)
          generalize pAt p j = x at *
          obtain ⟨x0, x1⟩ := hx
          by_cases hz : x = 0
          · have f0 : (x != 0) = false := by simp [hz]
            have HE : Hid (∀ i < j + 1, okP F p i = true) := Lib.hid (all_next Hall.out (by rw [Hok.out, hz]; simp; omega))
            clear hz Hall ht Hok
            go_wp2_with (fail)
            go_roundw
            case rel => exact ⟨j + 1, by omega, by go_num, HE.out, hkj⟩
            case measure => simp [intOf]; omega
          · have f0 : (x != 0) = true := by simp [hz]
            cases hb : thB F x with
            | true =>
              rw [hb] at ht Hok
              have HE : Hid (∀ i < j + 1, okP F p i = true) := Lib.hid (all_next Hall.out (by rw [Hok.out]; rfl))
              clear hz Hall hb Hok
              go_wp2_with (fail)
              refine ht.out.mono ?_
              rintro e w1 ⟨rfl, k1⟩
              go_wp2_with (fail)
              go_roundw
              case rel => exact ⟨j + 1, by omega, by go_num, HE.out, hkj.trans k1⟩
              case measure => simp [intOf]; omega
            | false =>
              rw [hb] at ht Hok
              have HE : Hid (piecesB F = false) := Lib.hid (Hno.out (piece_no (k := j) (by omega) (by rw [Hok.out]; simp [hz])))
              clear hz Hall hb Hok
              go_wp2_with (fail)
              refine ht.out.mono ?_
              rintro e w1 ⟨rfl, k1⟩
              go_wp2_with (fail)
              go_ret
              exact ⟨ret_bool HE.out.symm, hk0.trans (kW2.trans (hkj.trans k1))⟩
        · obtain rfl : j = 3 := by omega
          obtain ⟨_, _, _, z3, _⟩ := hS.kept hkj
          have ht := hth p.rest hpw.rest wr (kW2.trans hkj)
          cases hb : thB F p.rest with
          | true =>
            rw [hb] at ht
            have HE : Hid (∀ i < k + 1, pcOk F i = true) := Lib.hid (Hyes.out (piece_yes (fun i hi => by
              by_cases h3 : i = 3
              · subst h3; show (thB F p.rest || _) = true; rw [hb]; rfl
              · exact Hall.out i (by omega))))
            clear Hall hb
            go_wp2_with (fail)
            refine ht.out.mono ?_
            rintro e w1 ⟨rfl, k1⟩
            go_wp2_with (fail)
            go_roundw
            case rel => exact ⟨k + 1, by omega, by go_num, HE.out, kW2.trans (hkj.trans k1)⟩
            case measure => simp [intOf]; omega
          | false =>
            rw [hb] at ht
            have HE : Hid (piecesB F = false) := Lib.hid (Hno.out (piece_no (k := 3) (by omega) (by show (thB F p.rest || _) = false; rw [hb]; rfl)))
            clear Hall hb
            go_wp2_with (fail)
            refine ht.out.mono ?_
            rintro e w1 ⟨rfl, k1⟩
            go_wp2_with (fail)
            go_ret
            exact ⟨ret_bool HE.out.symm, hk0.trans (kW2.trans (hkj.trans k1))⟩
    · have d0 : decide ((k : Int) < F.pieces.length) = false := decide_eq_false (by omega)
      have Hr : Hid (piecesB F = true) := Lib.hid (range_yes (f := pcOk F) fun j hj => Hall.out j (by omega))
      clear Hall
      go_wp2_with (fail)
      go_ret
      exact ⟨ret_bool Hr.out.symm, hk0.trans hkept⟩
end Go.Proofs.YtdhidpbenhmfgaaGreat
