/- FontBack's walk. -/
import Derived.Test.YtnipndfnfpofgaaCReadZ
import Derived.Test.YtnipndfnfpofgaaLawThere3
import Derived.Laws.BytesArg
namespace Go.Proofs.Ytnipndfnfpofgaa
open Go.RowKit

abbrev fboxO (F : Fnt) (a : FAddr) : Obj := .cells #[.int .u32 F.check, .int .i64 F.design, .int .i64 F.first, .slice a.A0 F.chars.length a.c0, .slice a.A1 F.steps.length a.c1, .slice a.A2 F.kerns.length a.c2, .slice a.A3 F.pieces.length a.c3, .slice a.A4 F.params.length a.c4] 28
def FIs (w : World) (B : Nat) (F : Fnt) (a : FAddr) : Prop := FObj w B (.int .u32 F.check) (.int .i64 F.design) (.int .i64 F.first) (.slice a.A0 F.chars.length a.c0) (.slice a.A1 F.steps.length a.c1) (.slice a.A2 F.kerns.length a.c2) (.slice a.A3 F.pieces.length a.c3) (.slice a.A4 F.params.length a.c4)
theorem fis_new (w : World) (F : Fnt) (a : FAddr) : FIs (w.alloc (fboxO F a)) w.heap.size F a := mkobj _ _
theorem FIs.kept {w w' : World} {B : Nat} {F : Fnt} {a : FAddr} (h : FIs w B F a) (k : Kept w w') : FIs w' B F a := FObj.grown (row := none) h (grown_kept k) (by simp)
theorem fat_kept {w w' : World} {F : Fnt} {a : FAddr} (h : FontAt w F a w.heap.size) (k : Kept w w') : FontAt w' F a w'.heap.size := (h.kept k).more k.size
theorem row_kept {w w' : World} {B : Nat} {v : Value} {l : List Int} (h : BRow w B v l) (k : Kept w w') : BRow w' B v l := h.kept (grown_kept (row := none) k) (own_none _)
theorem row_string {w : World} {B n c : Nat} {A : Option Addr} {l : List Int} (h : BRow w B (.slice A n c) l) (hl : 0 < l.length) : (convert 29 9 (.slice A n c)).run Try.prog w = .ok (.string (strOfNums l)) w := by
  obtain ⟨A', c', e, hA, hc, hm, _⟩ := brow_read h
  cases e
  obtain ⟨b, o, rfl, hb, q⟩ := hA hl
  exact run_convert_bytes_arg w 29 5 Try.underlying29 Try.underlying5 b o _ _ l rfl (fun i hi => by rw [List.getD_eq_getElem?_getD, List.getElem?_eq_getElem hi]; exact q i hi) 9 Try.underlying9
theorem writeL_pos (F : Fnt) : 0 < (writeL F).length := by
  have h := writeL_len F
  rw [wCnt_lf] at h
  omega

set_option maxRecDepth 100000 in
set_option maxHeartbeats 4000000 in
theorem back_y_no (w : World) (F : Fnt) (a : FAddr) (hF : FontAt w F a w.heap.size) (hw : F.wf) (A : Option Addr) (n c : Nat) (bs : List Int) (hn : bs.length = n) (hA : BytesAt w A bs w.heap.size) (hcap : n ≤ c) (hbig : c ≤ maxLen) (hb : BytesOk bs) (he : writeE F = 0) (hr : ¬ readE bs = 0) :
    Calls Try.prog 3 #[fontV F a, .slice A n c] w fun e w' => e = .returned (.bool true) ∧ Kept w w' := by
  have hk := fun w => Lib.hid (know3_any w)
  have Hwr := Lib.hid (write_any F a (w.alloc (fboxO F a)) (fat_kept hF (walloc _ _)) hw)
  have FB := Lib.hid (fis_new w F a)
  have KB := Lib.hid (walloc w (fboxO F a))
  have HRB := fun w' (k : Kept w w') => Lib.hid (cread_all A n c bs w' hn ((hA.kept k).more k.size) hcap hbig hb)
  obtain ⟨hr1, hr2⟩ := read_back_any hw he
  rw [he] at Hwr
  have hRdF := fun v w0 w2 B (h : BRow w2 B v (writeB F)) (hk : Kept w2 w0) => Lib.hid ((read_brow h (bytes_writeB hw) hk).mono fun (e : Ending) (w' : World) ⟨a, e1, hF, k⟩ => (⟨a, by rw [e1, hr1, hr2], by rw [hr2] at hF; exact hF, k⟩ : ∃ a, e = Ending.returned (.tuple #[fontV F a, .int .i64 0]) ∧ FontAt w' F a w'.heap.size ∧ Kept w0 w'))
  have HSF := fun b w' (h1 : FontAt w' F a w'.heap.size) (h2 : FontAt w' F b w'.heap.size) => Lib.hid (sameF_any F F a b w' h1 h2 hw hw)
  rw [show decide (F = F) = true from decide_eq_true rfl] at HSF
  clear hr1 hr2
  have hv := readE_no hr
  have z1 : (readE bs != 0) = true := bne_iff_ne.2 hr
  have HRB' := fun w' (k : Kept w w') => Lib.hid ((HRB w' k).out.mono fun (e : Ending) (w2 : World) ⟨a, e1, hF, k⟩ => (⟨a, by rw [e1, hv], k⟩ : ∃ a, e = Ending.returned (.tuple #[fontV emptyF a, .int .i64 (readE bs)]) ∧ Kept w' w2))
  clear hv hr HRB
  generalize readE bs = E2 at *
  have HF := Lib.hid hF
  clear hF hw he hA hn hcap hbig hb
  go_enter Try.func3, Try.ntmps3
  go_wp2_with (fail)
  refine Hwr.out.mono ?_
  rintro e w2 ⟨v, rfl, hrow, k2⟩
  obtain ⟨A2, m2, c2, rfl⟩ := own_slice hrow
  have Hr := hRdF _ _ _ _ hrow (Kept.refl _)
  clear hrow hRdF
  go_wp2_with (go_at_call 14; refine (num3_any _ _).mono ?_; rintro e w' ⟨rfl, rfl⟩)
  refine Hr.out.mono ?_
  rintro e w3 ⟨b3, rfl, hG3, k3⟩
  obtain ⟨x0, x1, x2, x3, x4, x5, x6, x7, xf, xl⟩ := FObj.cells (FB.out.kept (k2.trans k3))
  have HS := HSF b3 (w3.alloc (fboxO F b3)) (fat_kept HF.out (((KB.out.trans k2).trans k3).trans (walloc _ _))) (fat_kept hG3 (walloc _ _))
  have KX := Lib.hid (((KB.out.trans k2).trans k3).trans (walloc w3 (fboxO F b3)))
  clear hG3 k2 k3
  go_wp2_with (first | (go_at_call 14; refine (num3_any _ _).mono ?_; rintro e w' ⟨rfl, rfl⟩) | (go_at_call 16; refine HS.out.mono ?_; rintro e w4 ⟨rfl, k4⟩))
  have KZ := Lib.hid (KX.out.trans k4)
  clear x0 x1 x2 x3 x4 x5 x6 x7 xf xl k4
  refine (HRB' _ KZ.out).out.mono ?_
  rintro e w5 ⟨⟨b0, b1, b2, b3, b4, b5, b6, b7, b8, b9⟩, rfl, k5⟩
  dsimp only [fontV, emptyF]
  go_wp2_with (first | (go_at_call 14; refine (num3_any _ _).mono ?_; rintro e w' ⟨rfl, rfl⟩) | (go_at_call 17; refine (hk _).out.mono ?_; rintro e w6 ⟨rfl, k6⟩))
  go_ret
  exact ⟨ret_bool (by first | rfl | decide), (KZ.out.trans k5).trans ((walloc _ _).trans k6)⟩

set_option maxRecDepth 100000 in
set_option maxHeartbeats 4000000 in
theorem back_y_six (w : World) (F : Fnt) (a : FAddr) (hF : FontAt w F a w.heap.size) (hw : F.wf) (A : Option Addr) (n c : Nat) (bs : List Int) (hn : bs.length = n) (hA : BytesAt w A bs w.heap.size) (hcap : n ≤ c) (hbig : c ≤ maxLen) (hb : BytesOk bs) (he : writeE F = 0) (hr : readE bs = 0) (h2 : writeE (readV bs) = 6) :
    Calls Try.prog 3 #[fontV F a, .slice A n c] w fun e w' => e = .returned (.bool true) ∧ Kept w w' := by
  have hk := fun w => Lib.hid (know3_any w)
  have Hwr := Lib.hid (write_any F a (w.alloc (fboxO F a)) (fat_kept hF (walloc _ _)) hw)
  have FB := Lib.hid (fis_new w F a)
  have KB := Lib.hid (walloc w (fboxO F a))
  have HRB := fun w' (k : Kept w w') => Lib.hid (cread_all A n c bs w' hn ((hA.kept k).more k.size) hcap hbig hb)
  obtain ⟨hr1, hr2⟩ := read_back_any hw he
  rw [he] at Hwr
  have hRdF := fun v w0 w2 B (h : BRow w2 B v (writeB F)) (hk : Kept w2 w0) => Lib.hid ((read_brow h (bytes_writeB hw) hk).mono fun (e : Ending) (w' : World) ⟨a, e1, hF, k⟩ => (⟨a, by rw [e1, hr1, hr2], by rw [hr2] at hF; exact hF, k⟩ : ∃ a, e = Ending.returned (.tuple #[fontV F a, .int .i64 0]) ∧ FontAt w' F a w'.heap.size ∧ Kept w0 w'))
  have HSF := fun b w' (h1 : FontAt w' F a w'.heap.size) (h2 : FontAt w' F b w'.heap.size) => Lib.hid (sameF_any F F a b w' h1 h2 hw hw)
  rw [show decide (F = F) = true from decide_eq_true rfl] at HSF
  clear hr1 hr2
  obtain ⟨gw, gf⟩ := readE_font hb hr
  have HRB' := fun w' (k : Kept w w') => Lib.hid ((HRB w' k).out.mono fun (e : Ending) (w2 : World) ⟨a, e1, hF, k⟩ => (⟨a, by rw [e1, hr], hF, k⟩ : ∃ a, e = Ending.returned (.tuple #[fontV (readV bs) a, .int .i64 0]) ∧ FontAt w2 (readV bs) a w2.heap.size ∧ Kept w' w2))
  clear hr HRB
  generalize readV bs = G at *
  have HWG := fun b w' (h : FontAt w' G b w'.heap.size) => Lib.hid (write_any G b w' h gw)
  rw [h2] at HWG
  have HCk := fun b w' (h : FontAt w' G b w'.heap.size) => Lib.hid (ccheck_any G b w' h gw)
  rw [gf] at HCk
  clear h2 gw gf
  have HF := Lib.hid hF
  clear hF hw he hA hn hcap hbig hb
  go_enter Try.func3, Try.ntmps3
  go_wp2_with (fail)
  refine Hwr.out.mono ?_
  rintro e w2 ⟨v, rfl, hrow, k2⟩
  obtain ⟨A2, m2, c2, rfl⟩ := own_slice hrow
  have Hr := hRdF _ _ _ _ hrow (Kept.refl _)
  clear hrow hRdF
  go_wp2_with (go_at_call 14; refine (num3_any _ _).mono ?_; rintro e w' ⟨rfl, rfl⟩)
  refine Hr.out.mono ?_
  rintro e w3 ⟨b3, rfl, hG3, k3⟩
  obtain ⟨x0, x1, x2, x3, x4, x5, x6, x7, xf, xl⟩ := FObj.cells (FB.out.kept (k2.trans k3))
  have HS := HSF b3 (w3.alloc (fboxO F b3)) (fat_kept HF.out (((KB.out.trans k2).trans k3).trans (walloc _ _))) (fat_kept hG3 (walloc _ _))
  have KX := Lib.hid (((KB.out.trans k2).trans k3).trans (walloc w3 (fboxO F b3)))
  clear hG3 k2 k3
  go_wp2_with (first | (go_at_call 14; refine (num3_any _ _).mono ?_; rintro e w' ⟨rfl, rfl⟩) | (go_at_call 16; refine HS.out.mono ?_; rintro e w4 ⟨rfl, k4⟩))
  have KZ := Lib.hid (KX.out.trans k4)
  clear x0 x1 x2 x3 x4 x5 x6 x7 xf xl k4
  refine (HRB' _ KZ.out).out.mono ?_
  rintro e w5 ⟨b5, rfl, hG5, k5⟩
  have FG := Lib.hid (fis_new w5 G b5)
  have HG5 := Lib.hid (fat_kept hG5 (walloc w5 (fboxO G b5)))
  have K5 := Lib.hid ((KZ.out.trans k5).trans (walloc w5 (fboxO G b5)))
  clear hG5 k5
  go_wp2_with (first | (go_at_call 14; refine (num3_any _ _).mono ?_; rintro e w' ⟨rfl, rfl⟩) | (go_at_call 17; refine (hk _).out.mono ?_; rintro e w6 ⟨rfl, k6⟩; obtain ⟨x0, x1, x2, x3, x4, x5, x6, x7, xf, xl⟩ := FObj.cells (FG.out.kept k6)))
  clear x0 x1 x2 x3 x4 x5 x6 x7 xf xl
  refine (HWG b5 _ (fat_kept HG5.out k6)).out.mono ?_
  rintro e w7 ⟨v7, rfl, hrow7, k7⟩
  obtain ⟨A7, m7, c7, rfl⟩ := own_slice hrow7
  obtain ⟨x0, x1, x2, x3, x4, x5, x6, x7, xf, xl⟩ := FObj.cells (FG.out.kept (k6.trans k7))
  have HR7 := Lib.hid hrow7
  have K7 := Lib.hid (k6.trans k7)
  clear hrow7 k6 k7
  go_wp2_with (fail)
  refine (HCk b5 _ (fat_kept HG5.out K7.out)).out.mono ?_
  rintro e w8 ⟨rfl, k8⟩
  clear x0 x1 x2 x3 x4 x5 x6 x7 xf xl
  obtain ⟨x0, x1, x2, x3, x4, x5, x6, x7, xf, xl⟩ := FObj.cells (FG.out.kept (K7.out.trans k8))
  have K8 := Lib.hid k8
  clear k8
  go_wp2_with (go_at_call 14; refine (num3_any _ _).mono ?_; rintro e w' ⟨rfl, rfl⟩)
  clear x0 x1 x2 x3 x4 x5 x6 x7 xf xl
  refine (HCk b5 _ (fat_kept HG5.out (K7.out.trans K8.out))).out.mono ?_
  rintro e w9 ⟨rfl, k9⟩
  go_wp2_with (go_at_call 14; refine (num3_any _ _).mono ?_; rintro e w' ⟨rfl, rfl⟩)
  go_ret
  exact ⟨ret_bool (by first | rfl | decide), ((K5.out.trans K7.out).trans K8.out).trans k9⟩

set_option maxRecDepth 100000 in
set_option maxHeartbeats 4000000 in
theorem back_y_ok (w : World) (F : Fnt) (a : FAddr) (hF : FontAt w F a w.heap.size) (hw : F.wf) (A : Option Addr) (n c : Nat) (bs : List Int) (hn : bs.length = n) (hA : BytesAt w A bs w.heap.size) (hcap : n ≤ c) (hbig : c ≤ maxLen) (hb : BytesOk bs) (he : writeE F = 0) (hr : readE bs = 0) (h2 : writeE (readV bs) = 0) :
    Calls Try.prog 3 #[fontV F a, .slice A n c] w fun e w' => e = .returned (.bool true) ∧ Kept w w' := by
  have hk := fun w => Lib.hid (know3_any w)
  have Hwr := Lib.hid (write_any F a (w.alloc (fboxO F a)) (fat_kept hF (walloc _ _)) hw)
  have FB := Lib.hid (fis_new w F a)
  have KB := Lib.hid (walloc w (fboxO F a))
  have HRB := fun w' (k : Kept w w') => Lib.hid (cread_all A n c bs w' hn ((hA.kept k).more k.size) hcap hbig hb)
  obtain ⟨hr1, hr2⟩ := read_back_any hw he
  rw [he] at Hwr
  have hRdF := fun v w0 w2 B (h : BRow w2 B v (writeB F)) (hk : Kept w2 w0) => Lib.hid ((read_brow h (bytes_writeB hw) hk).mono fun (e : Ending) (w' : World) ⟨a, e1, hF, k⟩ => (⟨a, by rw [e1, hr1, hr2], by rw [hr2] at hF; exact hF, k⟩ : ∃ a, e = Ending.returned (.tuple #[fontV F a, .int .i64 0]) ∧ FontAt w' F a w'.heap.size ∧ Kept w0 w'))
  have HSF := fun b w' (h1 : FontAt w' F a w'.heap.size) (h2 : FontAt w' F b w'.heap.size) => Lib.hid (sameF_any F F a b w' h1 h2 hw hw)
  rw [show decide (F = F) = true from decide_eq_true rfl] at HSF
  clear hr1 hr2
  obtain ⟨gw, gf⟩ := readE_font hb hr
  have HRB' := fun w' (k : Kept w w') => Lib.hid ((HRB w' k).out.mono fun (e : Ending) (w2 : World) ⟨a, e1, hF, k⟩ => (⟨a, by rw [e1, hr], hF, k⟩ : ∃ a, e = Ending.returned (.tuple #[fontV (readV bs) a, .int .i64 0]) ∧ FontAt w2 (readV bs) a w2.heap.size ∧ Kept w' w2))
  clear hr HRB
  generalize readV bs = G at *
  have HWG := fun b w' (h : FontAt w' G b w'.heap.size) => Lib.hid (write_any G b w' h gw)
  rw [h2] at HWG
  have HCk := fun b w' (h : FontAt w' G b w'.heap.size) => Lib.hid (ccheck_any G b w' h gw)
  rw [gf] at HCk
  obtain ⟨hr3, hr4⟩ := read_back_any gw h2
  have hRdG := fun v w0 w2 B (h : BRow w2 B v (writeB G)) (hk : Kept w2 w0) => Lib.hid ((read_brow h (bytes_writeB gw) hk).mono fun (e : Ending) (w' : World) ⟨a, e1, hF, k⟩ => (⟨a, by rw [e1, hr3, hr4], by rw [hr4] at hF; exact hF, k⟩ : ∃ a, e = Ending.returned (.tuple #[fontV G a, .int .i64 0]) ∧ FontAt w' G a w'.heap.size ∧ Kept w0 w'))
  have HSG := fun b c w' (h1 : FontAt w' G b w'.heap.size) (h2 : FontAt w' G c w'.heap.size) => Lib.hid (sameF_any G G b c w' h1 h2 gw gw)
  rw [show decide (G = G) = true from decide_eq_true rfl] at HSG
  have hpos : 0 < (writeB G).length := by unfold writeB; rw [if_pos h2]; exact writeL_pos G
  have HP := Lib.hid hpos
  clear hr3 hr4 hpos
  clear h2 gw gf
  have HF := Lib.hid hF
  clear hF hw he hA hn hcap hbig hb
  go_enter Try.func3, Try.ntmps3
  go_wp2_with (fail)
  refine Hwr.out.mono ?_
  rintro e w2 ⟨v, rfl, hrow, k2⟩
  obtain ⟨A2, m2, c2, rfl⟩ := own_slice hrow
  have Hr := hRdF _ _ _ _ hrow (Kept.refl _)
  clear hrow hRdF
  go_wp2_with (go_at_call 14; refine (num3_any _ _).mono ?_; rintro e w' ⟨rfl, rfl⟩)
  refine Hr.out.mono ?_
  rintro e w3 ⟨b3, rfl, hG3, k3⟩
  obtain ⟨x0, x1, x2, x3, x4, x5, x6, x7, xf, xl⟩ := FObj.cells (FB.out.kept (k2.trans k3))
  have HS := HSF b3 (w3.alloc (fboxO F b3)) (fat_kept HF.out (((KB.out.trans k2).trans k3).trans (walloc _ _))) (fat_kept hG3 (walloc _ _))
  have KX := Lib.hid (((KB.out.trans k2).trans k3).trans (walloc w3 (fboxO F b3)))
  clear hG3 k2 k3
  go_wp2_with (first | (go_at_call 14; refine (num3_any _ _).mono ?_; rintro e w' ⟨rfl, rfl⟩) | (go_at_call 16; refine HS.out.mono ?_; rintro e w4 ⟨rfl, k4⟩))
  have KZ := Lib.hid (KX.out.trans k4)
  clear x0 x1 x2 x3 x4 x5 x6 x7 xf xl k4
  refine (HRB' _ KZ.out).out.mono ?_
  rintro e w5 ⟨b5, rfl, hG5, k5⟩
  have FG := Lib.hid (fis_new w5 G b5)
  have HG5 := Lib.hid (fat_kept hG5 (walloc w5 (fboxO G b5)))
  have K5 := Lib.hid ((KZ.out.trans k5).trans (walloc w5 (fboxO G b5)))
  clear hG5 k5
  go_wp2_with (first | (go_at_call 14; refine (num3_any _ _).mono ?_; rintro e w' ⟨rfl, rfl⟩) | (go_at_call 17; refine (hk _).out.mono ?_; rintro e w6 ⟨rfl, k6⟩; obtain ⟨x0, x1, x2, x3, x4, x5, x6, x7, xf, xl⟩ := FObj.cells (FG.out.kept k6)))
  clear x0 x1 x2 x3 x4 x5 x6 x7 xf xl
  refine (HWG b5 _ (fat_kept HG5.out k6)).out.mono ?_
  rintro e w7 ⟨v7, rfl, hrow7, k7⟩
  obtain ⟨A7, m7, c7, rfl⟩ := own_slice hrow7
  obtain ⟨x0, x1, x2, x3, x4, x5, x6, x7, xf, xl⟩ := FObj.cells (FG.out.kept (k6.trans k7))
  have HR7 := Lib.hid hrow7
  have K7 := Lib.hid (k6.trans k7)
  clear hrow7 k6 k7
  go_wp2_with (fail)
  refine (HCk b5 _ (fat_kept HG5.out K7.out)).out.mono ?_
  rintro e w8 ⟨rfl, k8⟩
  clear x0 x1 x2 x3 x4 x5 x6 x7 xf xl
  obtain ⟨x0, x1, x2, x3, x4, x5, x6, x7, xf, xl⟩ := FObj.cells (FG.out.kept (K7.out.trans k8))
  have K8 := Lib.hid k8
  clear k8
  go_wp2_with (go_at_call 14; refine (num3_any _ _).mono ?_; rintro e w' ⟨rfl, rfl⟩)
  clear x0 x1 x2 x3 x4 x5 x6 x7 xf xl
  refine (hRdG _ _ _ _ HR7.out K8.out).out.mono ?_
  rintro e w9 ⟨b9, rfl, hK9, k9⟩
  have FK := Lib.hid (fis_new w9 G b9)
  have HK9 := Lib.hid (fat_kept hK9 (walloc w9 (fboxO G b9)))
  have K9 := Lib.hid (k9.trans (walloc w9 (fboxO G b9)))
  clear hK9 k9
  go_wp2_with (fail)
  refine (HWG b9 _ HK9.out).out.mono ?_
  rintro e w10 ⟨v10, rfl, hrow10, k10⟩
  obtain ⟨A10, m10, c10, rfl⟩ := own_slice hrow10
  have HR10 := Lib.hid hrow10
  obtain ⟨x0, x1, x2, x3, x4, x5, x6, x7, xf, xl⟩ := FObj.cells (FK.out.kept k10)
  obtain ⟨y0, y1, y2, y3, y4, y5, y6, y7, yf, yl⟩ := FObj.cells (FG.out.kept (((K7.out.trans K8.out).trans K9.out).trans k10))
  have HS := HSG b9 b5 w10 (fat_kept HK9.out k10) (fat_kept HG5.out (((K7.out.trans K8.out).trans K9.out).trans k10))
  have K10 := Lib.hid k10
  clear hrow10 k10
  go_wp2_with (first | (go_at_call 14; refine (num3_any _ _).mono ?_; rintro e w' ⟨rfl, rfl⟩) | (go_at_call 16; refine HS.out.mono ?_; rintro e w11 ⟨rfl, k11⟩; have cv1 := row_string (row_kept HR10.out k11) HP.out; have cv2 := row_string (row_kept HR7.out (((K8.out.trans K9.out).trans K10.out).trans k11)) HP.out))
  go_ret
  exact ⟨ret_bool (by first | rfl | decide), ((((K5.out.trans K7.out).trans K8.out).trans K9.out).trans K10.out).trans k11⟩

set_option maxRecDepth 100000 in
set_option maxHeartbeats 4000000 in
theorem back_n_no (w : World) (F : Fnt) (a : FAddr) (hF : FontAt w F a w.heap.size) (hw : F.wf) (A : Option Addr) (n c : Nat) (bs : List Int) (hn : bs.length = n) (hA : BytesAt w A bs w.heap.size) (hcap : n ≤ c) (hbig : c ≤ maxLen) (hb : BytesOk bs) (he : ¬ writeE F = 0) (hr : ¬ readE bs = 0) :
    Calls Try.prog 3 #[fontV F a, .slice A n c] w fun e w' => e = .returned (.bool true) ∧ Kept w w' := by
  have hk := fun w => Lib.hid (know3_any w)
  have Hwr := Lib.hid (write_any F a (w.alloc (fboxO F a)) (fat_kept hF (walloc _ _)) hw)
  have FB := Lib.hid (fis_new w F a)
  have KB := Lib.hid (walloc w (fboxO F a))
  have HRB := fun w' (k : Kept w w') => Lib.hid (cread_all A n c bs w' hn ((hA.kept k).more k.size) hcap hbig hb)
  have z0 : (writeE F == 0) = false := beq_eq_false_iff_ne.2 he
  have hv := readE_no hr
  have z1 : (readE bs != 0) = true := bne_iff_ne.2 hr
  have HRB' := fun w' (k : Kept w w') => Lib.hid ((HRB w' k).out.mono fun (e : Ending) (w2 : World) ⟨a, e1, hF, k⟩ => (⟨a, by rw [e1, hv], k⟩ : ∃ a, e = Ending.returned (.tuple #[fontV emptyF a, .int .i64 (readE bs)]) ∧ Kept w' w2))
  clear hv hr HRB
  generalize readE bs = E2 at *
  have HF := Lib.hid hF
  clear hF hw he hA hn hcap hbig hb
  generalize writeE F = E1 at *
  go_enter Try.func3, Try.ntmps3
  go_wp2_with (fail)
  refine Hwr.out.mono ?_
  rintro e w2 ⟨v, rfl, hrow, k2⟩
  obtain ⟨A2, m2, c2, rfl⟩ := own_slice hrow
  have KZ := Lib.hid (KB.out.trans k2)
  clear hrow k2
  go_wp2_with (go_at_call 14; refine (num3_any _ _).mono ?_; rintro e w' ⟨rfl, rfl⟩)
  refine (HRB' _ KZ.out).out.mono ?_
  rintro e w5 ⟨⟨b0, b1, b2, b3, b4, b5, b6, b7, b8, b9⟩, rfl, k5⟩
  dsimp only [fontV, emptyF]
  go_wp2_with (first | (go_at_call 14; refine (num3_any _ _).mono ?_; rintro e w' ⟨rfl, rfl⟩) | (go_at_call 17; refine (hk _).out.mono ?_; rintro e w6 ⟨rfl, k6⟩))
  go_ret
  exact ⟨ret_bool (by first | rfl | decide), (KZ.out.trans k5).trans ((walloc _ _).trans k6)⟩

set_option maxRecDepth 100000 in
set_option maxHeartbeats 4000000 in
theorem back_n_six (w : World) (F : Fnt) (a : FAddr) (hF : FontAt w F a w.heap.size) (hw : F.wf) (A : Option Addr) (n c : Nat) (bs : List Int) (hn : bs.length = n) (hA : BytesAt w A bs w.heap.size) (hcap : n ≤ c) (hbig : c ≤ maxLen) (hb : BytesOk bs) (he : ¬ writeE F = 0) (hr : readE bs = 0) (h2 : writeE (readV bs) = 6) :
    Calls Try.prog 3 #[fontV F a, .slice A n c] w fun e w' => e = .returned (.bool true) ∧ Kept w w' := by
  have hk := fun w => Lib.hid (know3_any w)
  have Hwr := Lib.hid (write_any F a (w.alloc (fboxO F a)) (fat_kept hF (walloc _ _)) hw)
  have FB := Lib.hid (fis_new w F a)
  have KB := Lib.hid (walloc w (fboxO F a))
  have HRB := fun w' (k : Kept w w') => Lib.hid (cread_all A n c bs w' hn ((hA.kept k).more k.size) hcap hbig hb)
  have z0 : (writeE F == 0) = false := beq_eq_false_iff_ne.2 he
  obtain ⟨gw, gf⟩ := readE_font hb hr
  have HRB' := fun w' (k : Kept w w') => Lib.hid ((HRB w' k).out.mono fun (e : Ending) (w2 : World) ⟨a, e1, hF, k⟩ => (⟨a, by rw [e1, hr], hF, k⟩ : ∃ a, e = Ending.returned (.tuple #[fontV (readV bs) a, .int .i64 0]) ∧ FontAt w2 (readV bs) a w2.heap.size ∧ Kept w' w2))
  clear hr HRB
  generalize readV bs = G at *
  have HWG := fun b w' (h : FontAt w' G b w'.heap.size) => Lib.hid (write_any G b w' h gw)
  rw [h2] at HWG
  have HCk := fun b w' (h : FontAt w' G b w'.heap.size) => Lib.hid (ccheck_any G b w' h gw)
  rw [gf] at HCk
  clear h2 gw gf
  have HF := Lib.hid hF
  clear hF hw he hA hn hcap hbig hb
  generalize writeE F = E1 at *
  go_enter Try.func3, Try.ntmps3
  go_wp2_with (fail)
  refine Hwr.out.mono ?_
  rintro e w2 ⟨v, rfl, hrow, k2⟩
  obtain ⟨A2, m2, c2, rfl⟩ := own_slice hrow
  have KZ := Lib.hid (KB.out.trans k2)
  clear hrow k2
  go_wp2_with (go_at_call 14; refine (num3_any _ _).mono ?_; rintro e w' ⟨rfl, rfl⟩)
  refine (HRB' _ KZ.out).out.mono ?_
  rintro e w5 ⟨b5, rfl, hG5, k5⟩
  have FG := Lib.hid (fis_new w5 G b5)
  have HG5 := Lib.hid (fat_kept hG5 (walloc w5 (fboxO G b5)))
  have K5 := Lib.hid ((KZ.out.trans k5).trans (walloc w5 (fboxO G b5)))
  clear hG5 k5
  go_wp2_with (first | (go_at_call 14; refine (num3_any _ _).mono ?_; rintro e w' ⟨rfl, rfl⟩) | (go_at_call 17; refine (hk _).out.mono ?_; rintro e w6 ⟨rfl, k6⟩; obtain ⟨x0, x1, x2, x3, x4, x5, x6, x7, xf, xl⟩ := FObj.cells (FG.out.kept k6)))
  clear x0 x1 x2 x3 x4 x5 x6 x7 xf xl
  refine (HWG b5 _ (fat_kept HG5.out k6)).out.mono ?_
  rintro e w7 ⟨v7, rfl, hrow7, k7⟩
  obtain ⟨A7, m7, c7, rfl⟩ := own_slice hrow7
  obtain ⟨x0, x1, x2, x3, x4, x5, x6, x7, xf, xl⟩ := FObj.cells (FG.out.kept (k6.trans k7))
  have HR7 := Lib.hid hrow7
  have K7 := Lib.hid (k6.trans k7)
  clear hrow7 k6 k7
  go_wp2_with (fail)
  refine (HCk b5 _ (fat_kept HG5.out K7.out)).out.mono ?_
  rintro e w8 ⟨rfl, k8⟩
  clear x0 x1 x2 x3 x4 x5 x6 x7 xf xl
  obtain ⟨x0, x1, x2, x3, x4, x5, x6, x7, xf, xl⟩ := FObj.cells (FG.out.kept (K7.out.trans k8))
  have K8 := Lib.hid k8
  clear k8
  go_wp2_with (go_at_call 14; refine (num3_any _ _).mono ?_; rintro e w' ⟨rfl, rfl⟩)
  clear x0 x1 x2 x3 x4 x5 x6 x7 xf xl
  refine (HCk b5 _ (fat_kept HG5.out (K7.out.trans K8.out))).out.mono ?_
  rintro e w9 ⟨rfl, k9⟩
  go_wp2_with (go_at_call 14; refine (num3_any _ _).mono ?_; rintro e w' ⟨rfl, rfl⟩)
  go_ret
  exact ⟨ret_bool (by first | rfl | decide), ((K5.out.trans K7.out).trans K8.out).trans k9⟩

set_option maxRecDepth 100000 in
set_option maxHeartbeats 4000000 in
theorem back_n_ok (w : World) (F : Fnt) (a : FAddr) (hF : FontAt w F a w.heap.size) (hw : F.wf) (A : Option Addr) (n c : Nat) (bs : List Int) (hn : bs.length = n) (hA : BytesAt w A bs w.heap.size) (hcap : n ≤ c) (hbig : c ≤ maxLen) (hb : BytesOk bs) (he : ¬ writeE F = 0) (hr : readE bs = 0) (h2 : writeE (readV bs) = 0) :
    Calls Try.prog 3 #[fontV F a, .slice A n c] w fun e w' => e = .returned (.bool true) ∧ Kept w w' := by
  have hk := fun w => Lib.hid (know3_any w)
  have Hwr := Lib.hid (write_any F a (w.alloc (fboxO F a)) (fat_kept hF (walloc _ _)) hw)
  have FB := Lib.hid (fis_new w F a)
  have KB := Lib.hid (walloc w (fboxO F a))
  have HRB := fun w' (k : Kept w w') => Lib.hid (cread_all A n c bs w' hn ((hA.kept k).more k.size) hcap hbig hb)
  have z0 : (writeE F == 0) = false := beq_eq_false_iff_ne.2 he
  obtain ⟨gw, gf⟩ := readE_font hb hr
  have HRB' := fun w' (k : Kept w w') => Lib.hid ((HRB w' k).out.mono fun (e : Ending) (w2 : World) ⟨a, e1, hF, k⟩ => (⟨a, by rw [e1, hr], hF, k⟩ : ∃ a, e = Ending.returned (.tuple #[fontV (readV bs) a, .int .i64 0]) ∧ FontAt w2 (readV bs) a w2.heap.size ∧ Kept w' w2))
  clear hr HRB
  generalize readV bs = G at *
  have HWG := fun b w' (h : FontAt w' G b w'.heap.size) => Lib.hid (write_any G b w' h gw)
  rw [h2] at HWG
  have HCk := fun b w' (h : FontAt w' G b w'.heap.size) => Lib.hid (ccheck_any G b w' h gw)
  rw [gf] at HCk
  obtain ⟨hr3, hr4⟩ := read_back_any gw h2
  have hRdG := fun v w0 w2 B (h : BRow w2 B v (writeB G)) (hk : Kept w2 w0) => Lib.hid ((read_brow h (bytes_writeB gw) hk).mono fun (e : Ending) (w' : World) ⟨a, e1, hF, k⟩ => (⟨a, by rw [e1, hr3, hr4], by rw [hr4] at hF; exact hF, k⟩ : ∃ a, e = Ending.returned (.tuple #[fontV G a, .int .i64 0]) ∧ FontAt w' G a w'.heap.size ∧ Kept w0 w'))
  have HSG := fun b c w' (h1 : FontAt w' G b w'.heap.size) (h2 : FontAt w' G c w'.heap.size) => Lib.hid (sameF_any G G b c w' h1 h2 gw gw)
  rw [show decide (G = G) = true from decide_eq_true rfl] at HSG
  have hpos : 0 < (writeB G).length := by unfold writeB; rw [if_pos h2]; exact writeL_pos G
  have HP := Lib.hid hpos
  clear hr3 hr4 hpos
  clear h2 gw gf
  have HF := Lib.hid hF
  clear hF hw he hA hn hcap hbig hb
  generalize writeE F = E1 at *
  go_enter Try.func3, Try.ntmps3
  go_wp2_with (fail)
  refine Hwr.out.mono ?_
  rintro e w2 ⟨v, rfl, hrow, k2⟩
  obtain ⟨A2, m2, c2, rfl⟩ := own_slice hrow
  have KZ := Lib.hid (KB.out.trans k2)
  clear hrow k2
  go_wp2_with (go_at_call 14; refine (num3_any _ _).mono ?_; rintro e w' ⟨rfl, rfl⟩)
  refine (HRB' _ KZ.out).out.mono ?_
  rintro e w5 ⟨b5, rfl, hG5, k5⟩
  have FG := Lib.hid (fis_new w5 G b5)
  have HG5 := Lib.hid (fat_kept hG5 (walloc w5 (fboxO G b5)))
  have K5 := Lib.hid ((KZ.out.trans k5).trans (walloc w5 (fboxO G b5)))
  clear hG5 k5
  go_wp2_with (first | (go_at_call 14; refine (num3_any _ _).mono ?_; rintro e w' ⟨rfl, rfl⟩) | (go_at_call 17; refine (hk _).out.mono ?_; rintro e w6 ⟨rfl, k6⟩; obtain ⟨x0, x1, x2, x3, x4, x5, x6, x7, xf, xl⟩ := FObj.cells (FG.out.kept k6)))
  clear x0 x1 x2 x3 x4 x5 x6 x7 xf xl
  refine (HWG b5 _ (fat_kept HG5.out k6)).out.mono ?_
  rintro e w7 ⟨v7, rfl, hrow7, k7⟩
  obtain ⟨A7, m7, c7, rfl⟩ := own_slice hrow7
  obtain ⟨x0, x1, x2, x3, x4, x5, x6, x7, xf, xl⟩ := FObj.cells (FG.out.kept (k6.trans k7))
  have HR7 := Lib.hid hrow7
  have K7 := Lib.hid (k6.trans k7)
  clear hrow7 k6 k7
  go_wp2_with (fail)
  refine (HCk b5 _ (fat_kept HG5.out K7.out)).out.mono ?_
  rintro e w8 ⟨rfl, k8⟩
  clear x0 x1 x2 x3 x4 x5 x6 x7 xf xl
  obtain ⟨x0, x1, x2, x3, x4, x5, x6, x7, xf, xl⟩ := FObj.cells (FG.out.kept (K7.out.trans k8))
  have K8 := Lib.hid k8
  clear k8
  go_wp2_with (go_at_call 14; refine (num3_any _ _).mono ?_; rintro e w' ⟨rfl, rfl⟩)
  clear x0 x1 x2 x3 x4 x5 x6 x7 xf xl
  refine (hRdG _ _ _ _ HR7.out K8.out).out.mono ?_
  rintro e w9 ⟨b9, rfl, hK9, k9⟩
  have FK := Lib.hid (fis_new w9 G b9)
  have HK9 := Lib.hid (fat_kept hK9 (walloc w9 (fboxO G b9)))
  have K9 := Lib.hid (k9.trans (walloc w9 (fboxO G b9)))
  clear hK9 k9
  go_wp2_with (fail)
  refine (HWG b9 _ HK9.out).out.mono ?_
  rintro e w10 ⟨v10, rfl, hrow10, k10⟩
  obtain ⟨A10, m10, c10, rfl⟩ := own_slice hrow10
  have HR10 := Lib.hid hrow10
  obtain ⟨x0, x1, x2, x3, x4, x5, x6, x7, xf, xl⟩ := FObj.cells (FK.out.kept k10)
  obtain ⟨y0, y1, y2, y3, y4, y5, y6, y7, yf, yl⟩ := FObj.cells (FG.out.kept (((K7.out.trans K8.out).trans K9.out).trans k10))
  have HS := HSG b9 b5 w10 (fat_kept HK9.out k10) (fat_kept HG5.out (((K7.out.trans K8.out).trans K9.out).trans k10))
  have K10 := Lib.hid k10
  clear hrow10 k10
  go_wp2_with (first | (go_at_call 14; refine (num3_any _ _).mono ?_; rintro e w' ⟨rfl, rfl⟩) | (go_at_call 16; refine HS.out.mono ?_; rintro e w11 ⟨rfl, k11⟩; have cv1 := row_string (row_kept HR10.out k11) HP.out; have cv2 := row_string (row_kept HR7.out (((K8.out.trans K9.out).trans K10.out).trans k11)) HP.out))
  go_ret
  exact ⟨ret_bool (by first | rfl | decide), ((((K5.out.trans K7.out).trans K8.out).trans K9.out).trans K10.out).trans k11⟩

theorem fontBack_walk (w : World) (F : Fnt) (a : FAddr) (hF : FontAt w F a w.heap.size) (hw : F.wf) (A : Option Addr) (bs : List Int) (c : Nat) (hA : BytesAt w A bs w.heap.size) (hb : BytesWf bs) (hc : bs.length ≤ c ∧ c ≤ maxLen) :
    Calls Try.prog 3 #[fontV F a, .slice A bs.length c] w fun e w' => e = .returned (.bool true) ∧ Kept w w' := by
  have hb' : BytesOk bs := hb.2
  by_cases he : writeE F = 0
  · by_cases hr : readE bs = 0
    · rcases writeE_cases (readV bs) with h2 | h2 | h2
      · exact back_y_ok w F a hF hw A _ c bs rfl hA hc.1 hc.2 hb' he hr h2
      · exact back_y_six w F a hF hw A _ c bs rfl hA hc.1 hc.2 hb' he hr h2
      · have := (readE_font hb' hr).2
        unfold writeE at h2
        rw [if_pos this] at h2
        split at h2 <;> omega
    · exact back_y_no w F a hF hw A _ c bs rfl hA hc.1 hc.2 hb' he hr
  · by_cases hr : readE bs = 0
    · rcases writeE_cases (readV bs) with h2 | h2 | h2
      · exact back_n_ok w F a hF hw A _ c bs rfl hA hc.1 hc.2 hb' he hr h2
      · exact back_n_six w F a hF hw A _ c bs rfl hA hc.1 hc.2 hb' he hr h2
      · have := (readE_font hb' hr).2
        unfold writeE at h2
        rw [if_pos this] at h2
        split at h2 <;> omega
    · exact back_n_no w F a hF hw A _ c bs rfl hA hc.1 hc.2 hb' he hr
end Go.Proofs.Ytnipndfnfpofgaa
