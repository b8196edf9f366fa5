/- font's reader: counts. -/
import Derived.Test.YtdhidpbenhmfgaaGreatCRead1
import Derived.Test.YtdhidpbenhmfgaaGreatM17
import Derived.Test.YtdhidpbenhmfgaaGreatDims0
import Derived.Deep.MidRow
import Derived.Deep.RegionHeld2
import Derived.StillTailTactics
namespace Go.Proofs.YtdhidpbenhmfgaaGreat
open Go.RowKit

theorem grown_setCells (w : World) (b o : Nat) (l : List Value) : w.grownBy (w.setCells b o l) (some b) := by
  induction l generalizing w o with
  | nil => exact World.grownBy.refl _ _
  | cons v l ih => exact grown_trans (grown_setCell w b o v) (ih (w.setCell ⟨b, o, none⟩ v) (o + 1))
theorem need_any (t : Bool) (w : World) : Calls Tryz.prog 88 #[.bool t] w fun e w' => (t = true ∧ e = .returned (.tuple #[]) ∧ w' = w) ∨ (t = false ∧ e = .panicked giveUp ∧ w' = w) := by
  cases t
  · exact (need_no w).mono fun e w' h => .inr ⟨rfl, h.1, h.2⟩
  · exact (need_yes w).mono fun e w' h => .inl ⟨rfl, h.1, h.2⟩
def halfOk (bs : List Int) (k : Nat) : Bool := decide (k + 2 ≤ bs.length ∧ hv bs k ≤ 32767)
theorem half_any (w : World) (R b o c k : Nat) (bs : List Int) (h : Rd w R b o c k bs) (hb : BytesOk bs) :
    Calls Tryz.prog 94 #[.pointer (some ⟨R, 0, none⟩)] w fun e w' => (halfOk bs k = true ∧ e = .returned (.int .i64 (hv bs k)) ∧ Rd w' R b o c (k + 2) bs ∧ w.grownBy w' (some R)) ∨ (halfOk bs k = false ∧ e = .panicked giveUp ∧ w.grownBy w' (some R)) := by
  by_cases h0 : k + 2 ≤ bs.length
  · by_cases h1 : hv bs k ≤ 32767
    · exact (half_ok w R b o c k bs h hb h0 h1).mono fun e w' q => .inl ⟨decide_eq_true ⟨h0, h1⟩, q.1, q.2.1, q.2.2⟩
    · exact (half_great w R b o c k bs h hb h0 (by omega)).mono fun e w' q => .inr ⟨decide_eq_false (by omega), q.1, q.2⟩
  · exact (half_short w R b o c k bs h (by omega)).mono fun e w' q => .inr ⟨decide_eq_false (by omega), q.1, by rw [q.2]; exact World.grownBy.refl _ _⟩
theorem hv_bd {bs : List Int} (hb : BytesOk bs) (k : Nat) : 0 ≤ hv bs k := by
  have g : ∀ i : Nat, 0 ≤ bs[i]?.getD 0 := fun i => by
    cases h : bs[i]? with
    | none => simp
    | some x => simp; exact (hb x (List.mem_of_getElem? h)).1
  unfold hv
  have := g k; have := g (k + 1); omega
/-- the twelve halves -/
def cntB (bs : List Int) : Cnt := ⟨hv bs 0, hv bs 2, hv bs 4, hv bs 6, hv bs 8, hv bs 10, hv bs 12, hv bs 14, hv bs 16, hv bs 18, hv bs 20, hv bs 22⟩
def countsB (bs : List Int) : Bool := (List.range 12).all (fun i => halfOk bs (2 * i)) && decide ((bs.length : Int) = 4 * (cntB bs).lf ∧ (cntB bs).lf = wordsC (cntB bs) ∧ 2 ≤ (cntB bs).lh ∧ (cntB bs).bc ≤ (cntB bs).ec + 1 ∧ (cntB bs).ec < 256)
theorem countsB_no {bs : List Int} {i : Nat} (hi : i < 12) (h : halfOk bs (2 * i) = false) : countsB bs = false := by
  unfold countsB; rw [range_no hi h]; rfl
theorem countsB_yes {bs : List Int} (h : ∀ i < 12, halfOk bs (2 * i) = true) : countsB bs = decide ((bs.length : Int) = 4 * (cntB bs).lf ∧ (cntB bs).lf = wordsC (cntB bs) ∧ 2 ≤ (cntB bs).lh ∧ (cntB bs).bc ≤ (cntB bs).ec + 1 ∧ (cntB bs).ec < 256) := by
  unfold countsB; rw [range_yes h]; rfl

set_option maxRecDepth 100000 in
set_option maxHeartbeats 16000000 in
theorem counts_any (w : World) (R b o c : Nat) (bs : List Int) (h : Rd w R b o c 0 bs) (hb : BytesOk bs) (_hlen : bs.length ≤ 1048576) :
    Calls Tryz.prog 74 #[.pointer (some ⟨R, 0, none⟩)] w fun e w' => (countsB bs = true ∧ e = .returned (cntA (cntB bs)) ∧ Rd w' R b o c 24 bs ∧ w.grownBy w' (some R)) ∨ (countsB bs = false ∧ e = .panicked giveUp ∧ w.grownBy w' (some R)) := by
  obtain ⟨p, h1, h2⟩ := h.box
  obtain ⟨W, hW⟩ : ∃ W, W = w.alloc (.cells #[.int .i64 0, .int .i64 0, .int .i64 0, .int .i64 0, .int .i64 0, .int .i64 0, .int .i64 0, .int .i64 0, .int .i64 0, .int .i64 0, .int .i64 0, .int .i64 0] 61) := ⟨_, rfl⟩
  have hRl : R < w.heap.size := (Array.getElem?_eq_some_iff.1 h1).1
  have g0 : w.grownBy W (some R) := by rw [hW]; exact grown_kept (walloc _ _)
  have HBL := Lib.hid h.blt
  have h0 : Rd W R b o c 0 bs := h.grown (row := none) (by rw [hW]; exact grown_kept (walloc _ _)) (by simp) (by simp)
  have hres : W.heap[w.heap.size]? = some (.cells #[.int .i64 0, .int .i64 0, .int .i64 0, .int .i64 0, .int .i64 0, .int .i64 0, .int .i64 0, .int .i64 0, .int .i64 0, .int .i64 0, .int .i64 0, .int .i64 0] 61 (0, 0)) := by rw [hW]; exact mkobj _ _
  have r0 : w.cell? ⟨R, 0, none⟩ = some (.slice (some ⟨b, p, none⟩) bs.length c) := by simp [World.cell?, h1]
  have hhalf := fun k w' (hr : Rd w' R b o c k bs) => Lib.hid (half_any w' R b o c k bs hr hb)
  have p0 := hv_bd hb 0
  have p1 := hv_bd hb 2
  have p2 := hv_bd hb 4
  have p3 := hv_bd hb 6
  have p4 := hv_bd hb 8
  have p5 := hv_bd hb 10
  have p6 := hv_bd hb 12
  have p7 := hv_bd hb 14
  have p8 := hv_bd hb 16
  have p9 := hv_bd hb 18
  have p10 := hv_bd hb 20
  have p11 := hv_bd hb 22
  have HW := Lib.hid hW
  have Hyes := Lib.hid (fun h => countsB_yes h : (∀ i < 12, halfOk bs (2 * i) = true) → _)
  have Hno := fun (i : Nat) (hi : i < 12) (h : halfOk bs (2 * i) = false) => Lib.hid (countsB_no hi h)
  have Hcn : Hid (cntB bs = ⟨hv bs 0, hv bs 2, hv bs 4, hv bs 6, hv bs 8, hv bs 10, hv bs 12, hv bs 14, hv bs 16, hv bs 18, hv bs 20, hv bs 22⟩) := Lib.hid rfl
  have Hwd := fun (q : CntB (cntB bs)) w' => Lib.hid (words_any (cntB bs) w' q)
  clear hW h h1 h2
  go_enter Tryz.func74, Tryz.ntmps74
  go_wp2_with (fail)
  rw [← HW.out]
  refine (hhalf 0 _ h0).out.mono ?_
  rintro e w1 (⟨ho0, rfl, hr1, hg1⟩ | ⟨ho0, rfl, hg1⟩)
  case inr => exact ⟨rfl, .inr ⟨(Hno 0 (by omega) ho0).out, rfl, grown_trans g0 hg1⟩⟩
  have g1 := grown_trans g0 hg1
  go_wp2_with (fail)
  refine (hhalf 2 _ hr1).out.mono ?_
  rintro e w2 (⟨ho1, rfl, hr2, hg2⟩ | ⟨ho1, rfl, hg2⟩)
  case inr => exact ⟨rfl, .inr ⟨(Hno 1 (by omega) ho1).out, rfl, grown_trans g1 hg2⟩⟩
  have g2 := grown_trans g1 hg2
  go_wp2_with (fail)
  refine (hhalf 4 _ hr2).out.mono ?_
  rintro e w3 (⟨ho2, rfl, hr3, hg3⟩ | ⟨ho2, rfl, hg3⟩)
  case inr => exact ⟨rfl, .inr ⟨(Hno 2 (by omega) ho2).out, rfl, grown_trans g2 hg3⟩⟩
  have g3 := grown_trans g2 hg3
  go_wp2_with (fail)
  refine (hhalf 6 _ hr3).out.mono ?_
  rintro e w4 (⟨ho3, rfl, hr4, hg4⟩ | ⟨ho3, rfl, hg4⟩)
  case inr => exact ⟨rfl, .inr ⟨(Hno 3 (by omega) ho3).out, rfl, grown_trans g3 hg4⟩⟩
  have g4 := grown_trans g3 hg4
  go_wp2_with (fail)
  refine (hhalf 8 _ hr4).out.mono ?_
  rintro e w5 (⟨ho4, rfl, hr5, hg5⟩ | ⟨ho4, rfl, hg5⟩)
  case inr => exact ⟨rfl, .inr ⟨(Hno 4 (by omega) ho4).out, rfl, grown_trans g4 hg5⟩⟩
  have g5 := grown_trans g4 hg5
  go_wp2_with (fail)
  refine (hhalf 10 _ hr5).out.mono ?_
  rintro e w6 (⟨ho5, rfl, hr6, hg6⟩ | ⟨ho5, rfl, hg6⟩)
  case inr => exact ⟨rfl, .inr ⟨(Hno 5 (by omega) ho5).out, rfl, grown_trans g5 hg6⟩⟩
  have g6 := grown_trans g5 hg6
  go_wp2_with (fail)
  refine (hhalf 12 _ hr6).out.mono ?_
  rintro e w7 (⟨ho6, rfl, hr7, hg7⟩ | ⟨ho6, rfl, hg7⟩)
  case inr => exact ⟨rfl, .inr ⟨(Hno 6 (by omega) ho6).out, rfl, grown_trans g6 hg7⟩⟩
  have g7 := grown_trans g6 hg7
  go_wp2_with (fail)
  refine (hhalf 14 _ hr7).out.mono ?_
  rintro e w8 (⟨ho7, rfl, hr8, hg8⟩ | ⟨ho7, rfl, hg8⟩)
  case inr => exact ⟨rfl, .inr ⟨(Hno 7 (by omega) ho7).out, rfl, grown_trans g7 hg8⟩⟩
  have g8 := grown_trans g7 hg8
  go_wp2_with (fail)
  refine (hhalf 16 _ hr8).out.mono ?_
  rintro e w9 (⟨ho8, rfl, hr9, hg9⟩ | ⟨ho8, rfl, hg9⟩)
  case inr => exact ⟨rfl, .inr ⟨(Hno 8 (by omega) ho8).out, rfl, grown_trans g8 hg9⟩⟩
  have g9 := grown_trans g8 hg9
  go_wp2_with (fail)
  refine (hhalf 18 _ hr9).out.mono ?_
  rintro e w10 (⟨ho9, rfl, hr10, hg10⟩ | ⟨ho9, rfl, hg10⟩)
  case inr => exact ⟨rfl, .inr ⟨(Hno 9 (by omega) ho9).out, rfl, grown_trans g9 hg10⟩⟩
  have g10 := grown_trans g9 hg10
  go_wp2_with (fail)
  refine (hhalf 20 _ hr10).out.mono ?_
  rintro e w11 (⟨ho10, rfl, hr11, hg11⟩ | ⟨ho10, rfl, hg11⟩)
  case inr => exact ⟨rfl, .inr ⟨(Hno 10 (by omega) ho10).out, rfl, grown_trans g10 hg11⟩⟩
  have g11 := grown_trans g10 hg11
  go_wp2_with (fail)
  refine (hhalf 22 _ hr11).out.mono ?_
  rintro e w12 (⟨ho11, rfl, hr12, hg12⟩ | ⟨ho11, rfl, hg12⟩)
  case inr => exact ⟨rfl, .inr ⟨(Hno 11 (by omega) ho11).out, rfl, grown_trans g11 hg12⟩⟩
  have g12 := grown_trans g11 hg12
  go_wp2_with (fail)
  obtain ⟨N0, hN0⟩ : ∃ N0, N0 = w12.alloc (.cells #[.int .i64 (hv bs 0), .int .i64 (hv bs 2), .int .i64 (hv bs 4), .int .i64 (hv bs 6), .int .i64 (hv bs 8), .int .i64 (hv bs 10), .int .i64 (hv bs 12), .int .i64 (hv bs 14), .int .i64 (hv bs 16), .int .i64 (hv bs 18), .int .i64 (hv bs 20), .int .i64 (hv bs 22)] 61) := ⟨_, rfl⟩
  have kN : Kept w12 N0 := by rw [hN0]; exact walloc _ _
  have gN : w.grownBy N0 (some R) := grown_trans g12 (grown_kept kN)
  have rN : Rd N0 R b o c 24 bs := hr12.grown (row := none) (grown_kept kN) (by simp) (by simp)
  have hNb : N0.heap[w12.heap.size]? = some (.cells #[.int .i64 (hv bs 0), .int .i64 (hv bs 2), .int .i64 (hv bs 4), .int .i64 (hv bs 6), .int .i64 (hv bs 8), .int .i64 (hv bs 10), .int .i64 (hv bs 12), .int .i64 (hv bs 14), .int .i64 (hv bs 16), .int .i64 (hv bs 18), .int .i64 (hv bs 20), .int .i64 (hv bs 22)] 61 (0, 0)) := by rw [hN0]; exact mkobj _ _
  have hrs : N0.heap[w.heap.size]? = some (.cells #[.int .i64 0, .int .i64 0, .int .i64 0, .int .i64 0, .int .i64 0, .int .i64 0, .int .i64 0, .int .i64 0, .int .i64 0, .int .i64 0, .int .i64 0, .int .i64 0] 61 (0, 0)) := by
    have q : ∀ {a b : World}, a.grownBy b (some R) → w.heap.size < a.heap.size → b.heap[w.heap.size]? = a.heap[w.heap.size]? := fun hg hl => hg.block _ hl (by intro e; cases e; omega)
    have hl : w.heap.size < W.heap.size := (Array.getElem?_eq_some_iff.1 hres).1
    have gW : W.grownBy N0 (some R) := grown_trans (grown_trans (grown_trans (grown_trans (grown_trans (grown_trans (grown_trans (grown_trans (grown_trans (grown_trans (grown_trans (grown_trans hg1 hg2) hg3) hg4) hg5) hg6) hg7) hg8) hg9) hg10) hg11) hg12) (grown_kept kN)
    rw [q gW hl]; exact hres
  have HN0 := Lib.hid hN0
  have hor : ∀ i < 12, halfOk bs (2 * i) = true := by
    intro i hi
    match i, hi with
    | 0, _ => exact ho0
    | 1, _ => exact ho1
    | 2, _ => exact ho2
    | 3, _ => exact ho3
    | 4, _ => exact ho4
    | 5, _ => exact ho5
    | 6, _ => exact ho6
    | 7, _ => exact ho7
    | 8, _ => exact ho8
    | 9, _ => exact ho9
    | 10, _ => exact ho10
    | 11, _ => exact ho11
  have hcy := (Hyes.out hor)
  have u0 : hv bs 0 ≤ 32767 := by unfold halfOk at ho0; rw [decide_eq_true_eq] at ho0; exact ho0.2
  have u1 : hv bs 2 ≤ 32767 := by unfold halfOk at ho1; rw [decide_eq_true_eq] at ho1; exact ho1.2
  have u2 : hv bs 4 ≤ 32767 := by unfold halfOk at ho2; rw [decide_eq_true_eq] at ho2; exact ho2.2
  have u3 : hv bs 6 ≤ 32767 := by unfold halfOk at ho3; rw [decide_eq_true_eq] at ho3; exact ho3.2
  have u4 : hv bs 8 ≤ 32767 := by unfold halfOk at ho4; rw [decide_eq_true_eq] at ho4; exact ho4.2
  have u5 : hv bs 10 ≤ 32767 := by unfold halfOk at ho5; rw [decide_eq_true_eq] at ho5; exact ho5.2
  have u6 : hv bs 12 ≤ 32767 := by unfold halfOk at ho6; rw [decide_eq_true_eq] at ho6; exact ho6.2
  have u7 : hv bs 14 ≤ 32767 := by unfold halfOk at ho7; rw [decide_eq_true_eq] at ho7; exact ho7.2
  have u8 : hv bs 16 ≤ 32767 := by unfold halfOk at ho8; rw [decide_eq_true_eq] at ho8; exact ho8.2
  have u9 : hv bs 18 ≤ 32767 := by unfold halfOk at ho9; rw [decide_eq_true_eq] at ho9; exact ho9.2
  have u10 : hv bs 20 ≤ 32767 := by unfold halfOk at ho10; rw [decide_eq_true_eq] at ho10; exact ho10.2
  have u11 : hv bs 22 ≤ 32767 := by unfold halfOk at ho11; rw [decide_eq_true_eq] at ho11; exact ho11.2
  have hwd := fun w' => Hwd ⟨by show -1 ≤ hv bs 2 ∧ hv bs 2 ≤ 16777216; omega, by show -1 ≤ hv bs 4 ∧ hv bs 4 ≤ 16777216; omega, by show -1 ≤ hv bs 6 ∧ hv bs 6 ≤ 16777216; omega, by show -1 ≤ hv bs 8 ∧ hv bs 8 ≤ 16777216; omega, by show -1 ≤ hv bs 10 ∧ hv bs 10 ≤ 16777216; omega, by show -1 ≤ hv bs 12 ∧ hv bs 12 ≤ 16777216; omega, by show -1 ≤ hv bs 14 ∧ hv bs 14 ≤ 16777216; omega, by show -1 ≤ hv bs 16 ∧ hv bs 16 ≤ 16777216; omega, by show -1 ≤ hv bs 18 ∧ hv bs 18 ≤ 16777216; omega, by show -1 ≤ hv bs 20 ∧ hv bs 20 ≤ 16777216; omega, by show -1 ≤ hv bs 22 ∧ hv bs 22 ≤ 16777216; omega⟩ w'
  have Hq : Hid (wordsC (cntB bs) = wordsC (cntB bs)) := Lib.hid rfl
  have hS : ∀ w', Kept N0 w' → Hid (w'.cell? ⟨w12.heap.size, 0, none⟩ = some (.int .i64 (hv bs 0)) ∧ w'.cell? ⟨w12.heap.size, 1, none⟩ = some (.int .i64 (hv bs 2)) ∧ w'.cell? ⟨w12.heap.size, 2, none⟩ = some (.int .i64 (hv bs 4)) ∧ w'.cell? ⟨w12.heap.size, 3, none⟩ = some (.int .i64 (hv bs 6)) ∧ w'.cell? ⟨w12.heap.size, 4, none⟩ = some (.int .i64 (hv bs 8)) ∧ w'.cell? ⟨w12.heap.size, 5, none⟩ = some (.int .i64 (hv bs 10)) ∧ w'.cell? ⟨w12.heap.size, 6, none⟩ = some (.int .i64 (hv bs 12)) ∧ w'.cell? ⟨w12.heap.size, 7, none⟩ = some (.int .i64 (hv bs 14)) ∧ w'.cell? ⟨w12.heap.size, 8, none⟩ = some (.int .i64 (hv bs 16)) ∧ w'.cell? ⟨w12.heap.size, 9, none⟩ = some (.int .i64 (hv bs 18)) ∧ w'.cell? ⟨w12.heap.size, 10, none⟩ = some (.int .i64 (hv bs 20)) ∧ w'.cell? ⟨w12.heap.size, 11, none⟩ = some (.int .i64 (hv bs 22))) := fun w' hk => by
    obtain ⟨y0, y1, y2, y3, y4, y5, y6, y7, y8, y9, y10, y11, _, _⟩ := cells12 ((hk.block w12.heap.size (Array.getElem?_eq_some_iff.1 hNb).1).trans hNb)
    exact Lib.hid ⟨y0, y1, y2, y3, y4, y5, y6, y7, y8, y9, y10, y11⟩
  have kb : Kept N0 N0.drew := (Kept.refl N0).drew
  have hno : ∀ (_ : ¬ ((bs.length : Int) = 4 * (cntB bs).lf ∧ (cntB bs).lf = wordsC (cntB bs) ∧ 2 ≤ (cntB bs).lh ∧ (cntB bs).bc ≤ (cntB bs).ec + 1 ∧ (cntB bs).ec < 256)), countsB bs = false := fun h => by rw [hcy, decide_eq_false h]
  have HNO := Lib.hid hno
  have HCY := Lib.hid hcy
  have elf : (cntB bs).lf = hv bs 0 := rfl
  have HLF := Lib.hid elf
  have e4 : IntKind.i64.wrap (4 * hv bs 0) = 4 * hv bs 0 := IntWalk.i64_in _ (by omega)
  clear hN0 hor hno hcy elf ho0 ho1 ho2 ho3 ho4 ho5 ho6 ho7 ho8 ho9 ho10 ho11 hr1 hr2 hr3 hr4 hr5 hr6 hr7 hr8 hr9 hr10 hr11 hr12 hg1 hg2 hg3 hg4 hg5 hg6 hg7 hg8 hg9 hg10 hg11 hg12
  rw [show cntA (cntB bs) = .agg #[.int .i64 (hv bs 0), .int .i64 (hv bs 2), .int .i64 (hv bs 4), .int .i64 (hv bs 6), .int .i64 (hv bs 8), .int .i64 (hv bs 10), .int .i64 (hv bs 12), .int .i64 (hv bs 14), .int .i64 (hv bs 16), .int .i64 (hv bs 18), .int .i64 (hv bs 20), .int .i64 (hv bs 22)] from rfl] at hwd
  generalize hqq : wordsC (cntB bs) = q at *
  have HQ := Lib.hid hqq
  clear hqq
  by_cases hl4 : (bs.length : Int) = 4 * hv bs 0
  case neg =>
    have z : ((bs.length : Int) == 4 * hv bs 0) = false := beq_eq_false_iff_ne.2 hl4
    have HE := Lib.hid (HNO.out (fun hh => hl4 (by rw [hh.1, HLF.out])))
    clear hl4 hwd
    obtain ⟨y0, y1, y2, y3, y4, y5, y6, y7, y8, y9, y10, y11, _, _⟩ := cells12 hNb
    rw [← HN0.out]
    go_still_tail 12, (by kernel_rfl)
    go_wp2_with (fail)
    refine (need_no _).mono ?_
    rintro e z9 ⟨rfl, rfl⟩
    exact ⟨rfl, .inr ⟨HE.out, rfl, gN.trans (grown_kept kb)⟩⟩
  have z : ((bs.length : Int) == 4 * hv bs 0) = true := beq_iff_eq.2 hl4
  have HL4 := Lib.hid hl4
  clear hl4
  obtain ⟨y0, y1, y2, y3, y4, y5, y6, y7, y8, y9, y10, y11, _, _⟩ := cells12 hNb
  rw [← HN0.out]
  go_region_held2 (fun w' => w'.cell? ⟨w12.heap.size, 0, none⟩ = some (.int .i64 (hv bs 0)) ∧ w'.cell? ⟨w12.heap.size, 1, none⟩ = some (.int .i64 (hv bs 2)) ∧ w'.cell? ⟨w12.heap.size, 2, none⟩ = some (.int .i64 (hv bs 4)) ∧ w'.cell? ⟨w12.heap.size, 3, none⟩ = some (.int .i64 (hv bs 6)) ∧ w'.cell? ⟨w12.heap.size, 4, none⟩ = some (.int .i64 (hv bs 8)) ∧ w'.cell? ⟨w12.heap.size, 5, none⟩ = some (.int .i64 (hv bs 10)) ∧ w'.cell? ⟨w12.heap.size, 6, none⟩ = some (.int .i64 (hv bs 12)) ∧ w'.cell? ⟨w12.heap.size, 7, none⟩ = some (.int .i64 (hv bs 14)) ∧ w'.cell? ⟨w12.heap.size, 8, none⟩ = some (.int .i64 (hv bs 16)) ∧ w'.cell? ⟨w12.heap.size, 9, none⟩ = some (.int .i64 (hv bs 18)) ∧ w'.cell? ⟨w12.heap.size, 10, none⟩ = some (.int .i64 (hv bs 20)) ∧ w'.cell? ⟨w12.heap.size, 11, none⟩ = some (.int .i64 (hv bs 22))) (first | exact (hS _ (by assumption)).out) (first
    | (go_at_call 56; refine (hwd _).out.mono ?_; rintro e z1 ⟨rfl, k1⟩; have kc := kb.trans k1; clear kb k1; have kb := kc; clear kc)
    | (go_at_call 88; refine (need_any _ _).mono ?_; rintro e z9 (⟨hb1, rfl, rfl⟩ | ⟨hb1, rfl, rfl⟩); rotate_left; exact ⟨rfl, .inr ⟨HNO.out (fun hh => by rw [HLF.out] at hh; exact absurd hh.2.1 (by simpa using hb1)), rfl, gN.trans (grown_kept kb)⟩⟩))
  have hlfq : hv bs 0 = q := by simpa using hb1
  obtain ⟨y0, y1, y2, y3, y4, y5, y6, y7, y8, y9, y10, y11⟩ := (hS _ kb).out
  by_cases k1 : 2 ≤ hv bs 2
  case neg =>
    have f : decide (2 ≤ hv bs 2) = false := decide_eq_false k1
    have HE := Lib.hid (HNO.out (fun hh => k1 hh.2.2.1))
    clear k1
    go_wp2_with (fail)
    refine (need_no _).mono ?_
    rintro e z8 ⟨rfl, rfl⟩
    exact ⟨rfl, .inr ⟨HE.out, rfl, gN.trans (grown_kept kb)⟩⟩
  have f1 : decide (2 ≤ hv bs 2) = true := decide_eq_true k1
  by_cases k2 : hv bs 4 ≤ hv bs 6 + 1
  case neg =>
    have f : decide (hv bs 4 ≤ hv bs 6 + 1) = false := decide_eq_false k2
    have HE := Lib.hid (HNO.out (fun hh => k2 hh.2.2.2.1))
    clear k2
    go_wp2_with (fail)
    refine (need_no _).mono ?_
    rintro e z8 ⟨rfl, rfl⟩
    exact ⟨rfl, .inr ⟨HE.out, rfl, gN.trans (grown_kept kb)⟩⟩
  have f2 : decide (hv bs 4 ≤ hv bs 6 + 1) = true := decide_eq_true k2
  by_cases k3 : hv bs 6 < 256
  case neg =>
    have f : decide (hv bs 6 < 256) = false := decide_eq_false k3
    have HE := Lib.hid (HNO.out (fun hh => k3 hh.2.2.2.2))
    clear k3
    go_wp2_with (fail)
    refine (need_no _).mono ?_
    rintro e z8 ⟨rfl, rfl⟩
    exact ⟨rfl, .inr ⟨HE.out, rfl, gN.trans (grown_kept kb)⟩⟩
  have f3 : decide (hv bs 6 < 256) = true := decide_eq_true k3
  have HE : Hid (countsB bs = true) := Lib.hid (by rw [HCY.out]; exact decide_eq_true ⟨HL4.out, by rw [HLF.out]; first | exact hlfq | (rw [HQ.out]; exact hlfq), k1, k2, k3⟩)
  have hsz : (Tryz.prog.info? 61).map (·.size) = some 12 := by kernel_rfl
  have hrg : z9.rangeAt w12.heap.size 0 [.int .i64 (hv bs 0), .int .i64 (hv bs 2), .int .i64 (hv bs 4), .int .i64 (hv bs 6), .int .i64 (hv bs 8), .int .i64 (hv bs 10), .int .i64 (hv bs 12), .int .i64 (hv bs 14), .int .i64 (hv bs 16), .int .i64 (hv bs 18), .int .i64 (hv bs 20), .int .i64 (hv bs 22)] := by
    intro j v hv'
    match j with
    | 0 => simp at hv'; subst hv'; exact y0
    | 1 => simp at hv'; subst hv'; exact y1
    | 2 => simp at hv'; subst hv'; exact y2
    | 3 => simp at hv'; subst hv'; exact y3
    | 4 => simp at hv'; subst hv'; exact y4
    | 5 => simp at hv'; subst hv'; exact y5
    | 6 => simp at hv'; subst hv'; exact y6
    | 7 => simp at hv'; subst hv'; exact y7
    | 8 => simp at hv'; subst hv'; exact y8
    | 9 => simp at hv'; subst hv'; exact y9
    | 10 => simp at hv'; subst hv'; exact y10
    | 11 => simp at hv'; subst hv'; exact y11
    | j + 12 => simp at hv'
  have hth : z9.there w.heap.size 0 12 := by
    obtain ⟨t0, t1, t2, t3, t4, t5, t6, t7, t8, t9, t10, t11, tf, _⟩ := cells12 ((kb.block w.heap.size (Array.getElem?_eq_some_iff.1 hrs).1).trans hrs)
    intro j hj
    match j, hj with
    | 0, _ => exact ⟨by rw [show (0 : Nat) = 0 + 0 from rfl] at t0; rw [t0]; rfl, tf _⟩
    | 1, _ => exact ⟨by rw [show (1 : Nat) = 0 + 1 from rfl] at t1; rw [t1]; rfl, tf _⟩
    | 2, _ => exact ⟨by rw [show (2 : Nat) = 0 + 2 from rfl] at t2; rw [t2]; rfl, tf _⟩
    | 3, _ => exact ⟨by rw [show (3 : Nat) = 0 + 3 from rfl] at t3; rw [t3]; rfl, tf _⟩
    | 4, _ => exact ⟨by rw [show (4 : Nat) = 0 + 4 from rfl] at t4; rw [t4]; rfl, tf _⟩
    | 5, _ => exact ⟨by rw [show (5 : Nat) = 0 + 5 from rfl] at t5; rw [t5]; rfl, tf _⟩
    | 6, _ => exact ⟨by rw [show (6 : Nat) = 0 + 6 from rfl] at t6; rw [t6]; rfl, tf _⟩
    | 7, _ => exact ⟨by rw [show (7 : Nat) = 0 + 7 from rfl] at t7; rw [t7]; rfl, tf _⟩
    | 8, _ => exact ⟨by rw [show (8 : Nat) = 0 + 8 from rfl] at t8; rw [t8]; rfl, tf _⟩
    | 9, _ => exact ⟨by rw [show (9 : Nat) = 0 + 9 from rfl] at t9; rw [t9]; rfl, tf _⟩
    | 10, _ => exact ⟨by rw [show (10 : Nat) = 0 + 10 from rfl] at t10; rw [t10]; rfl, tf _⟩
    | 11, _ => exact ⟨by rw [show (11 : Nat) = 0 + 11 from rfl] at t11; rw [t11]; rfl, tf _⟩
  have hone : (#[.int .i64 (hv bs 0), .int .i64 (hv bs 2), .int .i64 (hv bs 4), .int .i64 (hv bs 6), .int .i64 (hv bs 8), .int .i64 (hv bs 10), .int .i64 (hv bs 12), .int .i64 (hv bs 14), .int .i64 (hv bs 16), .int .i64 (hv bs 18), .int .i64 (hv bs 20), .int .i64 (hv bs 22)] : Array Value).all (·.oneCell') = true := all_oneCell_toArray (fun v hv => by simp only [List.mem_cons, List.not_mem_nil, or_false] at hv; rcases hv with rfl | rfl | rfl | rfl | rfl | rfl | rfl | rfl | rfl | rfl | rfl | rfl <;> rfl)
  clear hlfq k1 k2 k3 hwd HNO HCY hb1
  go_wp2_with (fail)
  refine (need_yes _).mono ?_
  rintro e z8 ⟨rfl, rfl⟩
  go_wp2_with (first | (refine wpList_load_mid rfl 61 _ rfl w12.heap.size 0 rfl _ _ hrg Tryz.underlying61 rfl hsz ?_) | (refine wpList_store_mid rfl 61 _ _ rfl w.heap.size 0 _ rfl rfl hth hsz hone ?_))
  generalize hWf : (World.setCells _ _ _ _) = Wf
  have hrs' : Wf.rangeAt w.heap.size 0 [.int .i64 (hv bs 0), .int .i64 (hv bs 2), .int .i64 (hv bs 4), .int .i64 (hv bs 6), .int .i64 (hv bs 8), .int .i64 (hv bs 10), .int .i64 (hv bs 12), .int .i64 (hv bs 14), .int .i64 (hv bs 16), .int .i64 (hv bs 18), .int .i64 (hv bs 20), .int .i64 (hv bs 22)] := by rw [← hWf]; exact World.rangeAt_setCells_same _ _ _ _ (by simpa using hth)
  have f0' : Wf.cell? ⟨w.heap.size, 0, none⟩ = some _ := hrs' 0 _ rfl
  have f1' : Wf.cell? ⟨w.heap.size, 1, none⟩ = some _ := hrs' 1 _ rfl
  have f2' : Wf.cell? ⟨w.heap.size, 2, none⟩ = some _ := hrs' 2 _ rfl
  have f3' : Wf.cell? ⟨w.heap.size, 3, none⟩ = some _ := hrs' 3 _ rfl
  have f4' : Wf.cell? ⟨w.heap.size, 4, none⟩ = some _ := hrs' 4 _ rfl
  have f5' : Wf.cell? ⟨w.heap.size, 5, none⟩ = some _ := hrs' 5 _ rfl
  have f6' : Wf.cell? ⟨w.heap.size, 6, none⟩ = some _ := hrs' 6 _ rfl
  have f7' : Wf.cell? ⟨w.heap.size, 7, none⟩ = some _ := hrs' 7 _ rfl
  have f8' : Wf.cell? ⟨w.heap.size, 8, none⟩ = some _ := hrs' 8 _ rfl
  have f9' : Wf.cell? ⟨w.heap.size, 9, none⟩ = some _ := hrs' 9 _ rfl
  have f10' : Wf.cell? ⟨w.heap.size, 10, none⟩ = some _ := hrs' 10 _ rfl
  have f11' : Wf.cell? ⟨w.heap.size, 11, none⟩ = some _ := hrs' 11 _ rfl
  have hbl := rN.blt
  have hfin : Hid (Rd Wf R b o c 24 bs ∧ w.grownBy Wf (some R)) := Lib.hid (by
    rw [← hWf]
    have gs := grown_setCells z8 w.heap.size 0 [.int .i64 (hv bs 0), .int .i64 (hv bs 2), .int .i64 (hv bs 4), .int .i64 (hv bs 6), .int .i64 (hv bs 8), .int .i64 (hv bs 10), .int .i64 (hv bs 12), .int .i64 (hv bs 14), .int .i64 (hv bs 16), .int .i64 (hv bs 18), .int .i64 (hv bs 20), .int .i64 (hv bs 22)]
    exact ⟨(rN.grown (row := none) (grown_kept kb) (by simp) (by simp)).grown gs (by intro e; cases e; omega) (by intro e; cases e; exact absurd HBL.out (Nat.lt_irrefl _)), grown_new (grown_trans gN (grown_kept kb)) gs (Nat.le_refl _)⟩)
  clear hWf hrs' hth hrg hone
  exact bodyPost_ret (v := .agg #[.int .i64 (hv bs 0), .int .i64 (hv bs 2), .int .i64 (hv bs 4), .int .i64 (hv bs 6), .int .i64 (hv bs 8), .int .i64 (hv bs 10), .int .i64 (hv bs 12), .int .i64 (hv bs 14), .int .i64 (hv bs 16), .int .i64 (hv bs 18), .int .i64 (hv bs 20), .int .i64 (hv bs 22)]) (by simp [results, Tryz.results74, go_sem, f0', f1', f2', f3', f4', f5', f6', f7', f8', f9', f10', f11']) rfl (.inl ⟨HE.out, rfl, hfin.out.1, hfin.out.2⟩)
end Go.Proofs.YtdhidpbenhmfgaaGreat
