/- font.chainsEnd. -/
import Derived.Test.YtdhidpbenhmfgaaGreatCChainMath
import Derived.Deep.LoopGhost
namespace Go.Proofs.YtdhidpbenhmfgaaGreat
open Go.RowKit

/-- 256 numbers in a block -/
structure MetAt (w : World) (M : Nat) (met : Nat → Int) : Prop where
  cell : ∀ j < 256, w.cell? ⟨M, j, none⟩ = some (.int .i64 (met j))
  free : ∀ j < 256, w.frozen? ⟨M, j, none⟩ = false
  lt : M < w.heap.size
theorem MetAt.kept {w w' : World} {M : Nat} {met : Nat → Int} (h : MetAt w M met) (hk : Kept w w') : MetAt w' M met :=
  ⟨fun j hj => (hk.cell (p := ⟨M, j, none⟩) h.lt).trans (h.cell j hj), fun j hj => (hk.frozen (p := ⟨M, j, none⟩) h.lt).trans (h.free j hj), Nat.lt_of_lt_of_le h.lt hk.size⟩
theorem MetAt.set {w : World} {M x : Nat} {met : Nat → Int} {v : Int} (h : MetAt w M met) (hx : x < 256) : MetAt (w.setCell ⟨M, x, none⟩ (.int .i64 v)) M (setF met x v) := by
  refine ⟨fun j hj => ?_, fun j hj => ?_, by simpa [World.setCell] using h.lt⟩
  · unfold setF
    split
    · rename_i e
      subst e
      have := h.cell j hj
      exact World.cell?_setCell_same _ _ _ this
    · rename_i e
      rw [World.cell?_setCell_other _ _ _ _ (by simp; try omega)]
      exact h.cell j hj
  · have := h.free j hj
    simpa using this
def zeroB (v : Option Value) : Bool := match v with | some (.int .i64 0) => true | _ => false
theorem zero_of {v : Option Value} (h : zeroB v = true) : v = some (.int .i64 0) := by
  unfold zeroB at h
  split at h
  · rfl
  · cases h
theorem zeros256 : (List.range 256).all (fun j => zeroB (Tryz.zeroCells97[j]?)) = true := by kernel_rfl
theorem MetAt.made (w : World) : MetAt (w.alloc (.cells Tryz.zeroCells97 97)) w.heap.size (fun _ => 0) := by
  have h := mkobj w (.cells Tryz.zeroCells97 97)
  have hz := List.all_eq_true.1 zeros256
  refine ⟨fun j hj => ?_, fun j _ => ?_, by simp⟩
  · have := zero_of (hz j (List.mem_range.2 hj))
    simp only [World.cell?, h]
    simpa using this
  · simp only [World.frozen?, h]
    simp

def ChainIn (F : Fnt) (W : World) (M k g : Nat) (s5 : Value) (wr : World) : Prop := ∃ (x : Nat) (met : Nat → Int), s5 = .int .i64 x ∧ Marked F k x met ∧ zeros met ≤ g ∧ MetAt wr M met ∧ Below M W wr
def ChainOut (F : Fnt) (W : World) (M : Nat) (s9 : Value) (wr : World) : Prop := ∃ (k : Nat) (met : Nat → Int), k ≤ F.chars.length ∧ s9 = .int .i64 k ∧ Marks F k met ∧ MetAt wr M met ∧ Below M W wr

set_option maxRecDepth 100000 in
set_option maxHeartbeats 4000000 in
theorem chainsE_any (F : Fnt) (a : FAddr) (w : World) (hF : FontAt w F a w.heap.size) (hf : 0 ≤ F.first ∧ F.first ≤ 255) (hl : F.chars.length ≤ 256) (V : Told F) :
    Calls Tryz.prog 38 #[fontV F a] w fun e w' => e = .returned (.bool (chainsB F)) ∧ Kept w w' := by
  obtain ⟨W, hW⟩ : ∃ W, W = (w.alloc (.cells #[.int .u32 F.check, .int .i64 F.design, .int .i64 F.first, .slice a.A0 F.chars.length a.c0, .slice a.A1 F.steps.length a.c1, .slice a.A2 F.kerns.length a.c2, .slice a.A3 F.pieces.length a.c3, .slice a.A4 F.params.length a.c4] 28)).alloc (.cells Tryz.zeroCells97 97) := ⟨_, rfl⟩
  obtain ⟨M, hM⟩ : ∃ M, M = w.heap.size + 1 := ⟨_, rfl⟩
  have hk0 : Kept w W := by rw [hW]; exact (walloc _ _).trans (walloc _ _)
  have hB : FBox W w.heap.size F a := by rw [hW]; exact FBox.kept (FBox.of_obj (mkobj _ _)) (walloc _ _)
  have hMet : MetAt W M (fun _ => 0) := by
    rw [hW, hM]
    have := MetAt.made (w.alloc (.cells #[.int .u32 F.check, .int .i64 F.design, .int .i64 F.first, .slice a.A0 F.chars.length a.c0, .slice a.A1 F.steps.length a.c1, .slice a.A2 F.kerns.length a.c2, .slice a.A3 F.pieces.length a.c3, .slice a.A4 F.params.length a.c4] 28))
    simpa using this
  have hFW : ∀ wr, Below M W wr → FBox wr w.heap.size F a := fun wr hb =>
    have q : ∀ o, wr.cell? ⟨w.heap.size, o, none⟩ = W.cell? ⟨w.heap.size, o, none⟩ := fun o => hb.cell (p := ⟨w.heap.size, o, none⟩) (by show w.heap.size < M; omega)
    ⟨(q 0).trans hB.b0, (q 1).trans hB.b1, (q 2).trans hB.b2, (q 3).trans hB.b3, (q 4).trans hB.b4, (q 5).trans hB.b5, (q 6).trans hB.b6, (q 7).trans hB.b7, Nat.lt_of_lt_of_le hB.lt hb.size⟩
  have hend : ∀ wr, Below M W wr → Kept w wr := fun wr hb => Below.trans hk0 (hb.mono (by omega))
  have HFm := Lib.hid hF.m
  have HW := Lib.hid hW
  have HV := Lib.hid V
  have HM := Lib.hid hM
  have hMlt : w.heap.size < M := by omega
  clear hW hF V hB hk0
  have hM' : w.heap.size + 1 = M := hM.symm
  clear hM
  go_enter Tryz.func38, Tryz.ntmps38
  go_wp2_with (fail)
  rw [← HW.out]
  try rw [← HM.out]
  clear hM'
  go_loopw [9] (fun s9 wr => ChainOut F W M s9 wr) (fun s9 _ => F.chars.length - (intOf s9).toNat)
  case atStart => exact ⟨0, fun _ => 0, Nat.zero_le _, rfl, ⟨fun j h => absurd h (Nat.not_lt_zero _), fun j _ => .inl rfl⟩, hMet, Below.refl _ _⟩
  case round =>
    obtain ⟨wo, rfl⟩ : ∃ wo : World, wo = wr := ⟨_, rfl⟩
    obtain ⟨k, met, hk, rfl, hmk, hma, hbo⟩ := hrel
    by_cases hlt : k < F.chars.length
    · have d0 : decide ((k : Int) < F.chars.length) = true := decide_eq_true (by omega)
      have HMk := Lib.hid hmk
      clear hmk
      go_wp2_with (fail)
      go_loopg [5] (zeros met) (fun g s5 wr => ChainIn F W M k g s5 wr)
      case atStart => exact ⟨k, met, rfl, HMk.out.start hlt, Nat.le_refl _, hma, hbo⟩
      case round =>
        obtain ⟨x, mt, rfl, hmd, hg, hmx, hbx⟩ := hrel
        have HMd := Lib.hid hmd
        have hx := hmd.lt
        have hbd := hmd.bd (by omega) (by omega)
        have hx256 : x < 256 := by omega
        have htg := tagAt_of hx
        have cx := hmx.cell x hx256
        have fx := hmx.free x hx256
        obtain ⟨b0, b1, b2, b3, b4, b5, b6, b7, bl⟩ := hFW wr hbx
        obtain ⟨b, o, hA, hbl, hcell⟩ := HFm.out (by omega)
        obtain ⟨_, _, _, _, q4, q5⟩ := hcell x hx
        have hq : ∀ j, wr.cell? ⟨b, j, none⟩ = w.cell? ⟨b, j, none⟩ := fun j => (hend wr hbx).cell (p := ⟨b, j, none⟩) hbl
        have d4 := (hq _).trans q4
        have d5 := (hq _).trans q5
        clear hq q4 q5 hcell hmd
        have hVx := fun h => Lib.hid (HV.out x hx h)
        rw [← htg] at hVx d4
        generalize F.chars[x].rest = rs at *
        clear htg
        generalize htgx : tagAt F x = tx at *
        have HT := Lib.hid htgx
        generalize hmv : mt x = mx at *
        have HX := Lib.hid hmv
        clear htgx hmv
        have HG := Lib.hid hg
        have HMx := Lib.hid hmx
        obtain ⟨hb0, hb1⟩ := hbd
        clear hg hmx
        obtain ⟨A0, n0, A1, n1, A2, n2, A3, n3, A4, n4⟩ := a
        obtain rfl : A0 = some ⟨b, o, none⟩ := hA
        by_cases ht : tx = 2
        · have z : (tx == 2) = true := by simp [ht]
          by_cases hm0 : mx = 0
          · have z1 : (mx == 0) = true := by simp [hm0]
            obtain ⟨y, hy⟩ : ∃ y, y = nx F x := ⟨_, rfl⟩
            have hV1 := (hVx ht).out
            rw [← hy] at hV1
            obtain ⟨hyl, hyr, hr0, hr1, _⟩ := hV1
            have hwr : IntKind.i64.wrap (rs - F.first) = (y : Int) := by rw [IntWalk.i64_in _ (by omega)]; omega
            have hwk : IntKind.i64.wrap ((k : Int) + 1) = (k : Int) + 1 := IntWalk.i64_in _ (by omega)
            obtain ⟨ws, hws⟩ : ∃ ws, ws = wr.setCell ⟨M, x, none⟩ (.int .i64 (k + 1)) := ⟨_, rfl⟩
            have hbs : Below M W ws := by rw [hws]; exact Below.setCell hbx (Nat.le_refl _) _
            have hms : MetAt ws M (setF mt x (k + 1)) := by rw [hws]; exact HMx.out.set hx256
            have HD : Hid (Marked F k y (setF mt x (k + 1)) ∧ zeros (setF mt x (k + 1)) < zeros mt) := Lib.hid ⟨by rw [hy]; exact HMd.out.go HV.out (by rw [HT.out]; exact ht) (by rw [HX.out]; exact hm0), zeros_less hx256 (by rw [HX.out]; exact hm0) (by omega)⟩
            obtain ⟨c0, c1, c2, c3, c4, c5, c6, c7, cl⟩ := hFW ws hbs
            have e5 : ws.cell? ⟨b, o + x * 6 + 5, none⟩ = some (.int .i64 rs) := by
              rw [hws, World.cell?_setCell_other _ _ _ _ (by simp; try omega)]; exact d5
            have HWS := Lib.hid hws
            have hsub : rs - F.first = (y : Int) := by omega
            clear hws hVx ht hm0 hy
            go_wp2_with (fail)
            rw [← HWS.out]
            go_quiet (fail)
            go_wp2_with (fail)
            go_roundg (zeros (setF mt x (k + 1)))
            case measure => have := HD.out.2; have := HG.out; omega
            case rel => exact ⟨y, setF mt x (k + 1), by first | rfl | go_num, HD.out.1, Nat.le_refl _, by first | exact hms | exact hms.kept (below_drewN (Kept.refl _) _), by first | exact hbs | exact below_drewN hbs _⟩
          · have z1 : (mx == 0) = false := by simp [hm0]
            by_cases hr : mx = k + 1
            · have z2 : (mx == (k : Int) + 1) = true := by simp [hr]
              have HE : Hid (chainsB F = false) := Lib.hid (chains_no HV.out hlt (HMd.out.round hx256 (by rw [HX.out]; exact hr)))
              clear hVx ht hm0 hr
              go_wp2_with (fail)
              go_ret
              exact ⟨ret_bool HE.out.symm, hend _ hbx⟩
            · have z2 : (mx == (k : Int) + 1) = false := by simp [hr]
              have HE : Hid (Marks F (k + 1) mt) := Lib.hid (HMd.out.end HMk.out.past (HMd.out.old hx256 (by rw [HX.out]; exact hr) (by rw [HX.out]; exact hm0)))
              clear hVx ht hm0 hr
              go_wp2_with (fail)
              go_roundw
              case rel => exact ⟨k + 1, mt, by omega, by go_num, HE.out, HMx.out, hbx⟩
              case measure => simp [intOf]; omega
        · have z : (tx == 2) = false := by simp [ht]
          have hp := HMd.out.plain hx256 (by rw [HT.out]; exact ht)
          rw [HX.out] at hp
          have z2 : (mx == (k : Int) + 1) = false := by simp [hp.1]
          have HE : Hid (Marks F (k + 1) mt) := Lib.hid (HMd.out.end HMk.out.past hp.2)
          clear hVx ht hp
          go_wp2_with (fail)
          go_roundw
          case rel => exact ⟨k + 1, mt, by omega, by go_num, HE.out, HMx.out, hbx⟩
          case measure => simp [intOf]; omega
    · have d0 : decide ((k : Int) < F.chars.length) = false := decide_eq_false (by omega)
      have HE : Hid (chainsB F = true) := Lib.hid (chains_yes HV.out fun i hi => hmk.past i (by omega))
      clear hmk
      go_wp2_with (fail)
      go_ret
      exact ⟨ret_bool HE.out.symm, hend _ hbo⟩
end Go.Proofs.YtdhidpbenhmfgaaGreat
