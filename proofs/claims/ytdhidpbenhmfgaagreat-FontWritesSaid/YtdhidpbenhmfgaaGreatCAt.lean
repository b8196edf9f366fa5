/- font.At. -/
import Derived.Test.YtdhidpbenhmfgaaGreatCCheck
import Derived.Test.YtdhidpbenhmfgaaGreatCSize
import Derived.Deep.QuietTactic
namespace Go.Proofs.YtdhidpbenhmfgaaGreat
open Go.RowKit

theorem met_fix {F : Fnt} {c : Int} (h : fontB F = true) (ht : thB F c = true) : fixB (metV F c).w = true ∧ fixB (metV F c).h = true ∧ fixB (metV F c).d = true ∧ fixB (metV F c).it = true := by
  rw [fontB_eq] at h
  unfold cfontB at h
  simp only [Bool.and_eq_true] at h
  have hall := charsR_all h.2.2.1
  unfold thB at ht
  cases hth : thereAt F c with
  | none => rw [hth] at ht; cases ht
  | some k =>
    have hk := there_lt hth
    have e : metV F c = F.chars[k] := by unfold metV; rw [hth]; simp only [List.getElem?_eq_getElem hk]; rfl
    rw [e]
    have h1 := List.all_eq_true.1 hall _ (List.getElem_mem hk)
    unfold charRB at h1
    have htag : ¬ F.chars[k].tag = -1 := by
      unfold thereAt at hth
      split at hth
      · split at hth
        · rename_i m hm
          split at hth
          · rename_i hr
            cases hth
            rw [List.getElem?_eq_getElem hk] at hm
            cases hm
            omega
          · cases hth
        · cases hth
      · cases hth
    rw [if_neg htag, Bool.and_eq_true] at h1
    have := List.all_eq_true.1 h1.1
    exact ⟨this _ (by simp), this _ (by simp), this _ (by simp), this _ (by simp)⟩

set_option maxRecDepth 100000 in
set_option maxHeartbeats 2000000 in
theorem cat_bad (F : Fnt) (a : FAddr) (c n : Int) (w : World) (hF : FontAt w F a w.heap.size) (hw : F.wf) (h : fontE F = 40) :
    Calls Tryz.prog 17 #[fontV F a, .int .u8 c, .int .i64 n] w fun e w' => e = .returned (.tuple #[.int .i64 0, .int .i64 0, .int .i64 0, .int .i64 0, .int .i64 40]) ∧ Kept w w' := by
  obtain ⟨W, hW⟩ : ∃ W, W = w.alloc (.cells #[.int .u32 F.check, .int .i64 F.design, .int .i64 F.first, .slice a.A0 F.chars.length a.c0, .slice a.A1 F.steps.length a.c1, .slice a.A2 F.kerns.length a.c2, .slice a.A3 F.pieces.length a.c3, .slice a.A4 F.params.length a.c4] 28) := ⟨_, rfl⟩
  have hk0 : Kept w W := by rw [hW]; exact walloc _ _
  have hB : FBox W w.heap.size F a := FBox.of_obj (by rw [hW]; exact mkobj _ _)
  have hs := fun w' (hk : Kept w w') => Lib.hid (ccheck_any F a w' ((hF.kept hk).more hk.size) hw)
  have HW := Lib.hid hW
  clear hW
  rw [h] at hs
  clear h
  go_enter Tryz.func17, Tryz.ntmps17
  go_wp2_with (fail)
  rw [← HW.out]
  refine (hs _ hk0).out.mono ?_
  rintro e w1 ⟨rfl, k1⟩
  have kw : Kept w w1 := hk0.trans k1
  obtain ⟨b0, b1, b2, b3, b4, b5, b6, b7, bl⟩ := hB.kept k1
  go_wp2_with (fail)
  exact bodyPost_ret (v := .tuple #[.int .i64 0, .int .i64 0, .int .i64 0, .int .i64 0, .int .i64 40]) (by simp [results, Tryz.results17, go_sem]) rfl ⟨rfl, kw⟩

set_option maxRecDepth 100000 in
set_option maxHeartbeats 2000000 in
theorem cat_lo (F : Fnt) (a : FAddr) (c n : Int) (w : World) (hF : FontAt w F a w.heap.size) (hw : F.wf) (h : fontE F = 0) (hn : decide (1 ≤ n ∧ n < 134217728) = false) :
    Calls Tryz.prog 17 #[fontV F a, .int .u8 c, .int .i64 n] w fun e w' => e = .returned (.tuple #[.int .i64 0, .int .i64 0, .int .i64 0, .int .i64 0, .int .i64 11]) ∧ Kept w w' := by
  obtain ⟨W, hW⟩ : ∃ W, W = w.alloc (.cells #[.int .u32 F.check, .int .i64 F.design, .int .i64 F.first, .slice a.A0 F.chars.length a.c0, .slice a.A1 F.steps.length a.c1, .slice a.A2 F.kerns.length a.c2, .slice a.A3 F.pieces.length a.c3, .slice a.A4 F.params.length a.c4] 28) := ⟨_, rfl⟩
  have hk0 : Kept w W := by rw [hW]; exact walloc _ _
  have hB : FBox W w.heap.size F a := FBox.of_obj (by rw [hW]; exact mkobj _ _)
  have hs := fun w' (hk : Kept w w') => Lib.hid (ccheck_any F a w' ((hF.kept hk).more hk.size) hw)
  have HW := Lib.hid hW
  clear hW
  rw [h] at hs
  have hsz := fun w => Lib.hid (sized_any n w)
  rw [hn] at hsz
  clear h hn
  go_enter Tryz.func17, Tryz.ntmps17
  go_wp2_with (fail)
  rw [← HW.out]
  refine (hs _ hk0).out.mono ?_
  rintro e w1 ⟨rfl, k1⟩
  have kw : Kept w w1 := hk0.trans k1
  obtain ⟨b0, b1, b2, b3, b4, b5, b6, b7, bl⟩ := hB.kept k1
  go_wp2_with (fail)
  refine (hsz _).out.mono ?_
  rintro e w' ⟨rfl, rfl⟩
  go_wp2_with (fail)
  exact bodyPost_ret (v := .tuple #[.int .i64 0, .int .i64 0, .int .i64 0, .int .i64 0, .int .i64 11]) (by simp [results, Tryz.results17, go_sem]) rfl ⟨rfl, kw⟩

set_option maxRecDepth 100000 in
set_option maxHeartbeats 2000000 in
theorem cat_no (F : Fnt) (a : FAddr) (c n : Int) (w : World) (hF : FontAt w F a w.heap.size) (hw : F.wf) (h : fontE F = 0) (hn : decide (1 ≤ n ∧ n < 134217728) = true) (hc : 0 ≤ c ∧ c ≤ 255) (ht : thB F c = false) :
    Calls Tryz.prog 17 #[fontV F a, .int .u8 c, .int .i64 n] w fun e w' => e = .returned (.tuple #[.int .i64 0, .int .i64 0, .int .i64 0, .int .i64 0, .int .i64 42]) ∧ Kept w w' := by
  have hm := fun w' (hk : Kept w w') => Lib.hid (cmetric_any F a c w' ((hF.kept hk).more hk.size) hw hc)
  rw [ht] at hm
  generalize metV F c = m at *
  clear ht hc
  obtain ⟨W, hW⟩ : ∃ W, W = w.alloc (.cells #[.int .u32 F.check, .int .i64 F.design, .int .i64 F.first, .slice a.A0 F.chars.length a.c0, .slice a.A1 F.steps.length a.c1, .slice a.A2 F.kerns.length a.c2, .slice a.A3 F.pieces.length a.c3, .slice a.A4 F.params.length a.c4] 28) := ⟨_, rfl⟩
  have hk0 : Kept w W := by rw [hW]; exact walloc _ _
  have hB : FBox W w.heap.size F a := FBox.of_obj (by rw [hW]; exact mkobj _ _)
  have hs := fun w' (hk : Kept w w') => Lib.hid (ccheck_any F a w' ((hF.kept hk).more hk.size) hw)
  have HW := Lib.hid hW
  clear hW
  rw [h] at hs
  have hsz := fun w => Lib.hid (sized_any n w)
  rw [hn] at hsz
  clear h hn
  go_enter Tryz.func17, Tryz.ntmps17
  go_wp2_with (fail)
  rw [← HW.out]
  refine (hs _ hk0).out.mono ?_
  rintro e w1 ⟨rfl, k1⟩
  have kw : Kept w w1 := hk0.trans k1
  obtain ⟨b0, b1, b2, b3, b4, b5, b6, b7, bl⟩ := hB.kept k1
  go_wp2_with (fail)
  refine (hsz _).out.mono ?_
  rintro e w' ⟨rfl, rfl⟩
  go_wp2_with (fail)
  refine (hm _ kw).out.mono ?_
  rintro e w2 ⟨rfl, k2⟩
  have kw2 := kw.trans k2
  go_wp2_with (fail)
  exact bodyPost_ret (v := .tuple #[.int .i64 0, .int .i64 0, .int .i64 0, .int .i64 0, .int .i64 42]) (by simp [results, Tryz.results17, go_sem]) rfl ⟨rfl, (kalloc kw2 _)⟩

set_option maxRecDepth 100000 in
set_option maxHeartbeats 2000000 in
theorem cat_yes (F : Fnt) (a : FAddr) (c n : Int) (w : World) (hF : FontAt w F a w.heap.size) (hw : F.wf) (h : fontE F = 0) (hn : decide (1 ≤ n ∧ n < 134217728) = true) (hc : 0 ≤ c ∧ c ≤ 255) (ht : thB F c = true) :
    Calls Tryz.prog 17 #[fontV F a, .int .u8 c, .int .i64 n] w fun e w' => e = .returned (.tuple #[.int .i64 (sizeV n (metV F c).w), .int .i64 (sizeV n (metV F c).h), .int .i64 (sizeV n (metV F c).d), .int .i64 (sizeV n (metV F c).it), .int .i64 0]) ∧ Kept w w' := by
  have hfx := met_fix (by unfold fontE at h; split at h; assumption; cases h) ht
  have hz := fun (x : Int) w (hx : x = (metV F c).w ∨ x = (metV F c).h ∨ x = (metV F c).d ∨ x = (metV F c).it) => Lib.hid (csize_any n x w (of_decide_eq_true hn).1 (of_decide_eq_true hn).2 (by rcases hx with h | h | h | h <;> rw [h] <;> first | exact hfx.1 | exact hfx.2.1 | exact hfx.2.2.1 | exact hfx.2.2.2))
  have hm := fun w' (hk : Kept w w') => Lib.hid (cmetric_any F a c w' ((hF.kept hk).more hk.size) hw hc)
  rw [ht] at hm
  generalize metV F c = m at *
  generalize sizeV n = R at *
  clear ht hc hfx
  obtain ⟨W, hW⟩ : ∃ W, W = w.alloc (.cells #[.int .u32 F.check, .int .i64 F.design, .int .i64 F.first, .slice a.A0 F.chars.length a.c0, .slice a.A1 F.steps.length a.c1, .slice a.A2 F.kerns.length a.c2, .slice a.A3 F.pieces.length a.c3, .slice a.A4 F.params.length a.c4] 28) := ⟨_, rfl⟩
  have hk0 : Kept w W := by rw [hW]; exact walloc _ _
  have hB : FBox W w.heap.size F a := FBox.of_obj (by rw [hW]; exact mkobj _ _)
  have hs := fun w' (hk : Kept w w') => Lib.hid (ccheck_any F a w' ((hF.kept hk).more hk.size) hw)
  have HW := Lib.hid hW
  clear hW
  rw [h] at hs
  have hsz := fun w => Lib.hid (sized_any n w)
  rw [hn] at hsz
  clear h hn
  go_enter Tryz.func17, Tryz.ntmps17
  go_wp2_with (fail)
  rw [← HW.out]
  refine (hs _ hk0).out.mono ?_
  rintro e w1 ⟨rfl, k1⟩
  have kw : Kept w w1 := hk0.trans k1
  obtain ⟨b0, b1, b2, b3, b4, b5, b6, b7, bl⟩ := hB.kept k1
  go_wp2_with (fail)
  refine (hsz _).out.mono ?_
  rintro e w' ⟨rfl, rfl⟩
  go_wp2_with (fail)
  refine (hm _ kw).out.mono ?_
  rintro e w2 ⟨rfl, k2⟩
  have kw2 := kw.trans k2
  obtain ⟨m0, m1, m2, m3, m4, m5⟩ := m
  dsimp only at *
  obtain ⟨W2, hW2⟩ : ∃ W2, W2 = w2.alloc (.cells #[.int .i64 m0, .int .i64 m1, .int .i64 m2, .int .i64 m3, .int .i64 m4, .int .i64 m5] 43) := ⟨_, rfl⟩
  have kW2 : Kept w W2 := by rw [hW2]; exact kalloc kw2 _
  obtain ⟨t0, t1, t2, t3, t4, t5, tf, tl⟩ := mbox (w1 := W2) (B := w2.heap.size) (by rw [hW2]; exact mkobj _ _)
  have HW2 := Lib.hid hW2
  clear hW2
  go_wp2_with (fail)
  rw [← HW2.out]
  go_quiet ((go_at_call 51; refine Calls.quiet_of_same ((hz _ _ ?_).out.mono (fun _ _ h => ⟨h.1, h.2.symm⟩)); simp))
  go_wp2_with (fail)
  exact bodyPost_ret (v := .tuple #[.int .i64 (R m0), .int .i64 (R m1), .int .i64 (R m2), .int .i64 (R m3), .int .i64 0]) (by simp [results, Tryz.results17, go_sem]) rfl ⟨rfl, (by first | exact kW2 | exact below_drewN kW2 _)⟩

def atV (F : Fnt) (c n : Int) : Value :=
  if fontE F = 0 then (if decide (1 ≤ n ∧ n < 134217728) = true then (if thB F c = true then .tuple #[.int .i64 (sizeV n (metV F c).w), .int .i64 (sizeV n (metV F c).h), .int .i64 (sizeV n (metV F c).d), .int .i64 (sizeV n (metV F c).it), .int .i64 0] else .tuple #[.int .i64 0, .int .i64 0, .int .i64 0, .int .i64 0, .int .i64 42]) else .tuple #[.int .i64 0, .int .i64 0, .int .i64 0, .int .i64 0, .int .i64 11]) else .tuple #[.int .i64 0, .int .i64 0, .int .i64 0, .int .i64 0, .int .i64 40]
theorem cat_any (F : Fnt) (a : FAddr) (c n : Int) (w : World) (hF : FontAt w F a w.heap.size) (hw : F.wf) (hc : 0 ≤ c ∧ c ≤ 255) :
    Calls Tryz.prog 17 #[fontV F a, .int .u8 c, .int .i64 n] w fun e w' => e = .returned (atV F c n) ∧ Kept w w' := by
  unfold atV
  by_cases h : fontE F = 0
  · rw [if_pos h]
    cases hn : decide (1 ≤ n ∧ n < 134217728) with
    | false => rw [if_neg (by simp)]; exact cat_lo F a c n w hF hw h hn
    | true =>
      rw [if_pos rfl]
      cases ht : thB F c with
      | false => rw [if_neg (by simp)]; exact cat_no F a c n w hF hw h hn hc ht
      | true => rw [if_pos rfl]; exact cat_yes F a c n w hF hw h hn hc ht
  · rw [if_neg h]; exact cat_bad F a c n w hF hw (by unfold fontE at h ⊢; split at h; exact absurd rfl h; rw [if_neg (by assumption)])
end Go.Proofs.YtdhidpbenhmfgaaGreat
