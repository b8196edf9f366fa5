/- FontThere's walk. -/
import Derived.Test.YtnipndfnfpofgaaKnow3
namespace Go.Proofs.Ytnipndfnfpofgaa
open Go.RowKit

/-- what At answers of a font that is one -/
def atL (F : Fnt) (c n : Int) : Int × Int × Int × Int × Int := if thB F c then (sizeV n (metV F c).w, sizeV n (metV F c).h, sizeV n (metV F c).d, sizeV n (metV F c).it, 0) else (0, 0, 0, 0, 42)
theorem atL_eq {F : Fnt} {c n : Int} (h : fontE F = 0) (h0 : 1 ≤ n) (h1 : n < 134217728) : atV F c n = .tuple #[.int .i64 (atL F c n).1, .int .i64 (atL F c n).2.1, .int .i64 (atL F c n).2.2.1, .int .i64 (atL F c n).2.2.2.1, .int .i64 (atL F c n).2.2.2.2] := by
  unfold atV atL
  rw [if_pos h, if_pos (decide_eq_true ⟨h0, h1⟩)]
  cases thB F c <;> rfl
theorem atL_err {F : Fnt} {c n : Int} : (thB F c = true ∧ (atL F c n).2.2.2.2 = 0) ∨ (thB F c = false ∧ (atL F c n).2.2.2.2 = 42) := by
  unfold atL
  cases h : thB F c
  · exact .inr ⟨rfl, rfl⟩
  · exact .inl ⟨rfl, rfl⟩
theorem writeE_cases (F : Fnt) : writeE F = 0 ∨ writeE F = 6 ∨ writeE F = 40 := by
  unfold writeE
  split
  · split <;> simp
  · simp
theorem writeB_no {F : Fnt} (h : ¬ writeE F = 0) : writeB F = [] := by unfold writeB; rw [if_neg h]
def ThLoop (W wr : World) (s9 : Value) : Prop := ∃ k : Nat, k ≤ 256 ∧ s9 = .int .i64 k ∧ Kept W wr

set_option maxRecDepth 100000 in
set_option maxHeartbeats 4000000 in
theorem fontThere_walk (w : World) (F : Fnt) (a : FAddr) (hF : FontAt w F a w.heap.size) (hw : F.wf) (n : Int) (_w1 : (Lit.int .i64 n).wf = true) :
    Calls Try.prog 6 #[fontV F a, .int .i64 n] w fun e w' => e = .returned (.bool true) ∧ Kept w w' := by
  clear _w1
  have t0 := Int.natAbs_tmod n 134217727
  have t1 : n.natAbs % (134217727 : Int).natAbs < 134217727 := Nat.mod_lt _ (by decide)
  have n1 : -134217727 < n.tmod 134217727 ∧ n.tmod 134217727 < 134217727 := by omega
  clear t0 t1
  have hk := fun w => Lib.hid (know3_any w)
  have hWr := fun w' (hk : Kept w w') => Lib.hid (write_any F a w' ((hF.kept hk).more hk.size) hw)
  have hRd := fun v w0 w2 B (h : BRow w2 B v (writeB F)) (hk : Kept w2 w0) => Lib.hid (read_brow h (bytes_writeB hw) hk)
  have hMe := fun (c : Int) (hc : 0 ≤ c ∧ c ≤ 255) w' (hk : Kept w w') => Lib.hid (cmetric_any F a c w' ((hF.kept hk).more hk.size) hw hc)
  have hAt := fun (G : Fnt) (b : FAddr) (hG : G.wf) (c D : Int) (hc : 0 ≤ c ∧ c ≤ 255) w' (hF' : FontAt w' G b w'.heap.size) => Lib.hid (cat_any G b c D w' hF' hG hc)
  have HF := Lib.hid hF
  have HWF := Lib.hid hw
  clear hF hw
  by_cases he : writeE F = 0
  · obtain ⟨hr1, hr2⟩ := read_back_any HWF.out he
    have hfe := (writeE_ok he).1
    rw [he] at hWr
    have hRd' := fun v w0 w2 B (h : BRow w2 B v (writeB F)) (hk : Kept w2 w0) => Lib.hid ((hRd v w0 w2 B h hk).out.mono fun (e : Ending) (w' : World) ⟨a, e1, hF, k⟩ => (⟨a, by rw [e1, hr1, hr2], by rw [hr2] at hF; exact hF, k⟩ : ∃ a, e = Ending.returned (.tuple #[fontV F a, .int .i64 0]) ∧ FontAt w' F a w'.heap.size ∧ Kept w0 w'))
    have HFE := Lib.hid hfe
    clear hRd hr1 hr2 he hfe
    have kb := walloc w (.cells #[.int .u32 F.check, .int .i64 F.design, .int .i64 F.first, .slice a.A0 F.chars.length a.c0, .slice a.A1 F.steps.length a.c1, .slice a.A2 F.kerns.length a.c2, .slice a.A3 F.pieces.length a.c3, .slice a.A4 F.params.length a.c4] 28)
    have ob : FObj (w.alloc (.cells #[.int .u32 F.check, .int .i64 F.design, .int .i64 F.first, .slice a.A0 F.chars.length a.c0, .slice a.A1 F.steps.length a.c1, .slice a.A2 F.kerns.length a.c2, .slice a.A3 F.pieces.length a.c3, .slice a.A4 F.params.length a.c4] 28)) w.heap.size (.int .u32 F.check) (.int .i64 F.design) (.int .i64 F.first) (.slice a.A0 F.chars.length a.c0) (.slice a.A1 F.steps.length a.c1) (.slice a.A2 F.kerns.length a.c2) (.slice a.A3 F.pieces.length a.c3) (.slice a.A4 F.params.length a.c4) := mkobj _ _
    have Hwr := hWr _ kb
    have OB := Lib.hid ob
    have KB := Lib.hid kb
    clear ob kb hWr
    go_enter Try.func6, Try.ntmps6
    go_wp2_with (fail)
    obtain ⟨D, hD, D0, D1⟩ : ∃ D : Int, 1 + n.tmod 134217727 % 134217727 = D ∧ 1 ≤ D ∧ D < 134217728 := ⟨_, rfl, by omega, by omega⟩
    rw [hD]
    clear hD n1
    refine Hwr.out.mono ?_
    rintro e w2 ⟨v, rfl, hrow, k2⟩
    obtain ⟨A, m, c, rfl⟩ := own_slice hrow
    have Hr := hRd' _ _ _ _ hrow (Kept.refl _)
    clear hrow hRd'
    go_wp2_with (fail)
    refine Hr.out.mono ?_
    rintro e w3 ⟨b, rfl, hG, k3⟩
    have kc := walloc w3 (.cells #[.int .u32 F.check, .int .i64 F.design, .int .i64 F.first, .slice b.A0 F.chars.length b.c0, .slice b.A1 F.steps.length b.c1, .slice b.A2 F.kerns.length b.c2, .slice b.A3 F.pieces.length b.c3, .slice b.A4 F.params.length b.c4] 28)
    have oc : FObj (w3.alloc (.cells #[.int .u32 F.check, .int .i64 F.design, .int .i64 F.first, .slice b.A0 F.chars.length b.c0, .slice b.A1 F.steps.length b.c1, .slice b.A2 F.kerns.length b.c2, .slice b.A3 F.pieces.length b.c3, .slice b.A4 F.params.length b.c4] 28)) w3.heap.size (.int .u32 F.check) (.int .i64 F.design) (.int .i64 F.first) (.slice b.A0 F.chars.length b.c0) (.slice b.A1 F.steps.length b.c1) (.slice b.A2 F.kerns.length b.c2) (.slice b.A3 F.pieces.length b.c3) (.slice b.A4 F.params.length b.c4) := mkobj _ _
    have OC := Lib.hid oc
    have KC := Lib.hid kc
    have HG := Lib.hid hG
    have K03 := Lib.hid (((KB.out.trans k2).trans k3).trans kc)
    have KB3 := Lib.hid ((k2.trans k3).trans kc)
    clear oc kc hG k2 k3
    go_wp2_with (first | (go_at_call 14; refine (num3_any _ _).mono ?_; rintro e w' ⟨rfl, rfl⟩) | (go_at_call 17; refine (hk _).out.mono ?_; rintro e w5 ⟨rfl, k5⟩))
    have HB := fun wr (hk : Kept w5 wr) => Lib.hid (FObj.cells (OB.out.grown (row := none) (grown_kept ((KB3.out.trans k5).trans hk)) (by simp)))
    have HC := fun wr (hk : Kept w5 wr) => Lib.hid (FObj.cells (OC.out.grown (row := none) (grown_kept (k5.trans hk)) (by simp)))
    have K05 := Lib.hid (K03.out.trans k5)
    have FF := fun wr (hk : Kept w5 wr) => Lib.hid ((HF.out.kept (K05.out.trans hk)).more (K05.out.trans hk).size)
    have FG := fun wr (hk : Kept w5 wr) => Lib.hid ((HG.out.kept ((KC.out.trans k5).trans hk)).more ((KC.out.trans k5).trans hk).size)
    have s5 : w.heap.size < w5.heap.size := Nat.lt_of_lt_of_le (OB.out.cells.2.2.2.2.2.2.2.2.2) (KB3.out.trans k5).size
    have s6 : w3.heap.size < w5.heap.size := Nat.lt_of_lt_of_le (OC.out.cells.2.2.2.2.2.2.2.2.2) k5.size
    clear k5
    go_loopw [9] (fun s9 wr => ThLoop w5 wr s9) (fun s9 _ => 256 - (intOf s9).toNat)
    case atStart => exact ⟨0, by omega, rfl, Kept.refl _⟩
    case round =>
      obtain ⟨k, hk', rfl, hkr⟩ := hrel
      by_cases hlt : k < 256
      · have d0 : decide ((k : Int) < 256) = true := decide_eq_true (by omega)
        have hw8 : IntKind.u8.wrap (k : Int) = k := by rw [IntKind.wrap_u8]; omega
        have hA1 := fun w' (h : Kept w5 w') => Lib.hid (hAt F a HWF.out k D (by omega) w' (FF w' h).out).out
        have hA2 := fun w' (h : Kept w5 w') => Lib.hid (hAt F b HWF.out k D (by omega) w' (FG w' h).out).out
        rw [atL_eq HFE.out D0 D1] at hA1 hA2
        have hM := hMe k (by omega) wr (K05.out.trans hkr)
        have hcs := atL_err (F := F) (c := k) (n := D)
        generalize (atL F k D).1 = p1 at *
        generalize (atL F k D).2.1 = p2 at *
        generalize (atL F k D).2.2.1 = p3 at *
        generalize (atL F k D).2.2.2.1 = p4 at *
        generalize (atL F k D).2.2.2.2 = p5 at *
        generalize metV F k = m at *
        generalize thB F k = th at *
        obtain ⟨m0, m1, m2, m3, m4, m5⟩ := m
        have hb1 : (p1 != p1) = false := bne_self_eq_false p1
        rcases hcs with ⟨rfl, rfl⟩ | ⟨rfl, rfl⟩
        all_goals (
          obtain ⟨x0, x1, x2, x3, x4, x5, x6, x7, xf, xl⟩ := (HB wr hkr).out
          go_wp2_with (fail)
          refine hM.out.mono ?_
          rintro e y1 ⟨rfl, j1⟩
          clear x0 x1 x2 x3 x4 x5 x6 x7 xf xl
          have h1 : Kept w5 (y1.alloc (.cells #[.int .i64 m0, .int .i64 m1, .int .i64 m2, .int .i64 m3, .int .i64 m4, .int .i64 m5] 47)) := (hkr.trans j1).trans (walloc _ _)
          obtain ⟨x0, x1, x2, x3, x4, x5, x6, x7, xf, xl⟩ := (HB y1 (hkr.trans j1)).out
          have Ha := hA1 _ h1
          go_wp2_with (fail)
          refine Ha.out.mono ?_
          rintro e y2 ⟨rfl, j2⟩
          clear x0 x1 x2 x3 x4 x5 x6 x7 xf xl
          have h2 := h1.trans j2
          obtain ⟨x0, x1, x2, x3, x4, x5, x6, x7, xf, xl⟩ := (HC y2 h2).out
          have Hb := hA2 _ h2
          go_wp2_with (fail)
          refine Hb.out.mono ?_
          rintro e y3 ⟨rfl, j3⟩
          have h3 := Lib.hid (h2.trans j3)
          clear x0 x1 x2 x3 x4 x5 x6 x7 xf xl h1 h2 j1 j2 j3
          go_wp2_with (go_at_call 14; refine (num3_any _ _).mono ?_; rintro e w' ⟨rfl, rfl⟩)
          go_roundw
          case rel => exact ⟨k + 1, by omega, by go_num, h3.out⟩
          case measure => simp [intOf]; omega)
      · obtain rfl : k = 256 := by omega
        go_wp2_with (fail)
        go_ret
        exact ⟨rfl, K05.out.trans hkr⟩
  · have e0 := writeB_no he
    have hr := read_empty
    have hRd' := fun v w0 w2 B (h : BRow w2 B v (writeB F)) (hk : Kept w2 w0) => Lib.hid ((hRd v w0 w2 B h hk).out.mono fun (e : Ending) (w' : World) ⟨a, e1, hF, k⟩ => (⟨a, by rw [e1, e0, hr.1, hr.2], k⟩ : ∃ a, e = Ending.returned (.tuple #[fontV emptyF a, .int .i64 40]) ∧ Kept w0 w'))
    have Hwr := hWr _ (walloc w (.cells #[.int .u32 F.check, .int .i64 F.design, .int .i64 F.first, .slice a.A0 F.chars.length a.c0, .slice a.A1 F.steps.length a.c1, .slice a.A2 F.kerns.length a.c2, .slice a.A3 F.pieces.length a.c3, .slice a.A4 F.params.length a.c4] 28))
    have KB := Lib.hid (walloc w (.cells #[.int .u32 F.check, .int .i64 F.design, .int .i64 F.first, .slice a.A0 F.chars.length a.c0, .slice a.A1 F.steps.length a.c1, .slice a.A2 F.kerns.length a.c2, .slice a.A3 F.pieces.length a.c3, .slice a.A4 F.params.length a.c4] 28))
    have z0 : (writeE F != 0) = true := bne_iff_ne.2 he
    clear hRd hWr e0 hr he
    generalize writeE F = E at *
    go_enter Try.func6, Try.ntmps6
    go_wp2_with (fail)
    refine Hwr.out.mono ?_
    rintro e w2 ⟨v, rfl, hrow, k2⟩
    obtain ⟨A, m, c, rfl⟩ := own_slice hrow
    have Hr := hRd' _ _ _ _ hrow (Kept.refl _)
    clear hrow hRd'
    go_wp2_with (fail)
    refine Hr.out.mono ?_
    rintro e w3 ⟨⟨b0, b1, b2, b3, b4, b5, b6, b7, b8, b9⟩, rfl, k3⟩
    dsimp only [fontV, emptyF]
    go_wp2_with (first | (go_at_call 14; refine (num3_any _ _).mono ?_; rintro e w' ⟨rfl, rfl⟩) | (go_at_call 17; refine (hk _).out.mono ?_; rintro e w5 ⟨rfl, k5⟩))
    go_ret
    exact ⟨ret_bool (by first | rfl | decide), ((KB.out.trans k2).trans k3).trans ((walloc _ _).trans k5)⟩
end Go.Proofs.Ytnipndfnfpofgaa
