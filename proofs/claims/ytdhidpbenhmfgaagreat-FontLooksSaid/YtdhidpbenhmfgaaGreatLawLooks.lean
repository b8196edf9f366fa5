/- FontLooks' walk. -/
import Derived.Test.YtdhidpbenhmfgaaGreatM38
import Derived.Test.YtdhidpbenhmfgaaGreatRNext
import Derived.Test.YtdhidpbenhmfgaaGreatOwnF
import Derived.Test.YtdhidpbenhmfgaaGreatFSame2
import Derived.Laws.BytesArg
import Derived.Laws.StructEq
namespace Go.Proofs.YtdhidpbenhmfgaaGreat
open Go.RowKit

abbrev fboxL (F : Fnt) (a : FAddr) : Obj := .cells #[.int .u32 F.check, .int .i64 F.design, .int .i64 F.first, .slice a.A0 F.chars.length a.c0, .slice a.A1 F.steps.length a.c1, .slice a.A2 F.kerns.length a.c2, .slice a.A3 F.pieces.length a.c3, .slice a.A4 F.params.length a.c4] 28
def FIl (w : World) (B : Nat) (F : Fnt) (a : FAddr) : Prop := FObj w B (.int .u32 F.check) (.int .i64 F.design) (.int .i64 F.first) (.slice a.A0 F.chars.length a.c0) (.slice a.A1 F.steps.length a.c1) (.slice a.A2 F.kerns.length a.c2) (.slice a.A3 F.pieces.length a.c3) (.slice a.A4 F.params.length a.c4)
theorem fil_new (w : World) (F : Fnt) (a : FAddr) : FIl (w.alloc (fboxL F a)) w.heap.size F a := mkobj _ _
theorem FIl.kept {w w' : World} {B : Nat} {F : Fnt} {a : FAddr} (h : FIl w B F a) (k : Kept w w') : FIl w' B F a := FObj.grown (row := none) h (grown_kept k) (by simp)
theorem fal_kept {w w' : World} {F : Fnt} {a : FAddr} (h : FontAt w F a w.heap.size) (k : Kept w w') : FontAt w' F a w'.heap.size := (h.kept k).more k.size
theorem rowl_kept {w w' : World} {B : Nat} {v : Value} {l : List Int} (h : BRow w B v l) (k : Kept w w') : BRow w' B v l := h.kept (grown_kept (row := none) k) (own_none _)
theorem row_text {w : World} {B n c : Nat} {A : Option Addr} {l : List Int} (h : BRow w B (.slice A n c) l) : (convert 30 9 (.slice A n c)).run Tryz.prog w = .ok (.string (strOfNums l)) w := by
  rcases h.2 with ⟨e, h0⟩ | ⟨g, cap, cur, e, _, hg, _⟩
  · cases e
    obtain rfl : l = [] := List.eq_nil_of_length_eq_zero h0
    exact run_convert_bytes_nil w 30 5 Tryz.underlying30 Tryz.underlying5 _ _ 9 Tryz.underlying9
  · cases e
    refine run_convert_bytes_arg w 30 5 Tryz.underlying30 Tryz.underlying5 g 0 _ _ l rfl (fun i hi => ?_) 9 Tryz.underlying9
    have q := World.ownsRow.cells h (g := g) rfl i (.int .u8 (l.getD i 0)) (by rw [List.getElem?_map, List.getElem?_eq_getElem hi, List.getD_eq_getElem?_getD, List.getElem?_eq_getElem hi]; rfl)
    rw [Go.Addr.add_mid] at q
    exact q
/-- what At answers, number by number -/
theorem atV_nums (F : Fnt) (c n : Int) : ∃ p1 p2 p3 p4 p5 : Int, atV F c n = .tuple #[.int .i64 p1, .int .i64 p2, .int .i64 p3, .int .i64 p4, .int .i64 p5] := by
  unfold atV
  split
  · split
    · split
      · exact ⟨_, _, _, _, _, rfl⟩
      · exact ⟨_, _, _, _, _, rfl⟩
    · exact ⟨_, _, _, _, _, rfl⟩
  · exact ⟨_, _, _, _, _, rfl⟩
theorem fontB_of {F : Fnt} (h : fontE F = 0) : fontB F = true := by
  unfold fontE at h
  split at h
  · assumption
  · cases h
theorem at_any (F : Fnt) (a : FAddr) (c n : Int) (w : World) (hF : FontAt w F a w.heap.size) (hw : F.wf) (hc : 0 ≤ c ∧ c ≤ 255) :
    Calls Tryz.prog 18 #[fontV F a, .int .u8 c, .int .i64 n] w fun e w' => e = .returned (atV F c n) ∧ Kept w w' := by
  unfold atV
  by_cases h : fontE F = 0
  · rw [if_pos h]
    by_cases h0 : n < 1
    · rw [if_neg (by simp; omega)]
      exact at_lo F a c n w hF hw h h0
    · by_cases h1 : 134217728 ≤ n
      · rw [if_neg (by simp; omega)]
        exact at_hi F a c n w hF hw h h0 h1
      · have hd : decide (1 ≤ n ∧ n < 134217728) = true := decide_eq_true (by omega)
        rw [if_pos hd]
        cases ht : thB F c
        · rw [if_neg (by simp)]
          exact at_no F a c n w hF hw h h0 h1 hc ht
        · rw [if_pos rfl]
          obtain ⟨f0, f1, f2, f3⟩ := met_fix (fontB_of h) ht
          have hz : ∀ x, fixB x = true → sizeR n x = sizeV n x := fun x hx => by unfold sizeR sizeOk; rw [hd, hx]; rfl
          rw [← hz _ f0, ← hz _ f1, ← hz _ f2, ← hz _ f3]
          exact at_yes F a c n w hF hw h h0 h1 hc ht
  · have h40 : fontE F = 40 := by unfold fontE at h ⊢; split at h; exact absurd rfl h; rw [if_neg (by assumption)]
    rw [if_neg h]
    exact at_bad F a c n w hF hw h40

set_option maxRecDepth 100000 in
set_option maxHeartbeats 8000000 in
theorem fontLooks_walk (w : World) (F : Fnt) (a : FAddr) (hF : FontAt w F a w.heap.size) (hw : F.wf) (hf : FFit F a) (c : Int) (hc0 : (Lit.int .u8 c).wf = true) (n : Int) (_h1 : (Lit.int .i64 n).wf = true) (x : Int) (_h2 : (Lit.int .i64 x).wf = true) :
    Calls Tryz.prog 4 #[fontV F a, .int .u8 c, .int .i64 n, .int .i64 x] w fun e w' => e = .returned (.bool true) ∧ Kept w w' := by
  have hc : 0 ≤ c ∧ c ≤ 255 := wf_u8 hc0
  have hk := fun w => Lib.hid (know3_any w)
  have Hown := Lib.hid (own_any F a (w.alloc (fboxL F a)) (fal_kept hF (walloc _ _)) hw hf)
  have FA := fun w' (k : Kept w w') => fal_kept hF k
  have cM := fun (b : FAddr) w' (h : FontAt w' F b w'.heap.size) => Lib.hid (cmetric_any F b c w' h hw hc)
  have rM := fun w' (k : Kept w w') => Lib.hid (metric_any F a c w' (FA w' k) hw hc)
  have cS := fun w' => Lib.hid (cSize_any n x w')
  have rS := fun w' => Lib.hid (rsize_any n x w')
  have cA := fun (b : FAddr) w' (h : FontAt w' F b w'.heap.size) => Lib.hid (cat_any F b c n w' h hw hc)
  have rA := fun w' (k : Kept w w') => Lib.hid (at_any F a c n w' (FA w' k) hw hc)
  have cN := fun (b : FAddr) w' (h : FontAt w' F b w'.heap.size) => Lib.hid (next_any F b c w' h hw hc)
  have rN := fun w' (k : Kept w w') => Lib.hid (rnext_any F a c w' (FA w' k) hw hc)
  have hS := fun (b : FAddr) w' (h : FontAt w' F b w'.heap.size) (k : Kept w w') => Lib.hid (sameF_any F F b a w' h (FA w' k) hw hw)
  rw [decide_eq_true rfl] at hS
  obtain ⟨p1, p2, p3, p4, p5, hp⟩ := atV_nums F c n
  rw [hp] at cA rA
  generalize metV F c = m at *
  generalize thB F c = t at *
  generalize sizeR n x = s at *
  generalize sizeE n x = e at *
  generalize nextE F c = q at *
  generalize nextL F c = L at *
  obtain ⟨m0, m1, m2, m3, m4, m5⟩ := m
  dsimp only [metA] at cM rM
  have OA := Lib.hid (fil_new w F a)
  have KA := Lib.hid (walloc w (fboxL F a))
  clear hp hF hw hf FA _h1 _h2 hc0
  go_enter Tryz.func4, Tryz.ntmps4
  go_wp2_with (fail)
  refine Hown.out.mono ?_
  rintro e1 w1 ⟨b, rfl, hG, k1⟩
  have K1 := Lib.hid (KA.out.trans k1)
  obtain ⟨W2, hW2⟩ : ∃ W2, W2 = w1.alloc (fboxL F b) := ⟨_, rfl⟩
  have OB : Hid (FIl W2 w1.heap.size F b) := Lib.hid (by rw [hW2]; exact fil_new w1 F b)
  have OA2 : Hid (FIl W2 w.heap.size F a) := Lib.hid (by rw [hW2]; exact (OA.out.kept k1).kept (walloc _ _))
  have K2 : Hid (Kept w W2) := Lib.hid (by rw [hW2]; exact K1.out.trans (walloc _ _))
  have HG : Hid (FontAt W2 F b W2.heap.size) := Lib.hid (by rw [hW2]; exact fal_kept hG (walloc _ _))
  have HW2 := Lib.hid hW2
  clear hW2 hG k1
  go_wp2_with (fail)
  rw [← HW2.out]
  refine (cM b W2 HG.out).out.mono ?_
  rintro e2 z1 ⟨rfl, k1⟩
  obtain ⟨Z1, hZ1⟩ : ∃ Z1, Z1 = z1.alloc (.cells #[.int .i64 m0, .int .i64 m1, .int .i64 m2, .int .i64 m3, .int .i64 m4, .int .i64 m5] 43) := ⟨_, rfl⟩
  have J1 : Hid (Kept W2 Z1) := Lib.hid (by rw [hZ1]; exact k1.trans (walloc _ _))
  have M1 : Hid (Z1.heap[z1.heap.size]? = some (.cells #[.int .i64 m0, .int .i64 m1, .int .i64 m2, .int .i64 m3, .int .i64 m4, .int .i64 m5] 43 (0, 0))) := Lib.hid (by rw [hZ1]; exact mkobj _ _)
  have L1 : Hid (z1.heap.size < Z1.heap.size) := Lib.hid (by rw [hZ1]; simp)
  obtain ⟨x0, x1, x2, x3, x4, x5, x6, x7, xf, xl⟩ := FObj.cells (OA2.out.kept k1)
  have HZ1 := Lib.hid hZ1
  clear hZ1 k1
  go_wp2_with (fail)
  rw [← HZ1.out]
  refine (rM Z1 (K2.out.trans J1.out)).out.mono ?_
  rintro e3 z2 ⟨rfl, k2⟩
  clear x0 x1 x2 x3 x4 x5 x6 x7 xf xl
  obtain ⟨Z2, hZ2⟩ : ∃ Z2, Z2 = z2.alloc (.cells #[.int .i64 m0, .int .i64 m1, .int .i64 m2, .int .i64 m3, .int .i64 m4, .int .i64 m5] 43) := ⟨_, rfl⟩
  have J2 : Hid (Kept W2 Z2) := Lib.hid (by rw [hZ2]; exact (J1.out.trans k2).trans (walloc _ _))
  have J12 : Hid (Kept Z1 Z2) := Lib.hid (by rw [hZ2]; exact k2.trans (walloc _ _))
  have M2 : Hid (Z2.heap[z2.heap.size]? = some (.cells #[.int .i64 m0, .int .i64 m1, .int .i64 m2, .int .i64 m3, .int .i64 m4, .int .i64 m5] 43 (0, 0))) := Lib.hid (by rw [hZ2]; exact mkobj _ _)
  have L2 : Hid (z2.heap.size < Z2.heap.size) := Lib.hid (by rw [hZ2]; simp)
  have HZ2 := Lib.hid hZ2
  clear hZ2 k2
  go_wp2_with (fail)
  rw [← HZ2.out]
  refine (cS Z2).out.mono ?_
  rintro e4 z3 ⟨rfl, k3⟩
  have J3 := Lib.hid (J2.out.trans k3)
  have J23 := Lib.hid k3
  clear k3
  go_wp2_with (fail)
  refine (rS z3).out.mono ?_
  rintro e5 z3' ⟨rfl, rfl⟩
  obtain ⟨x0, x1, x2, x3, x4, x5, x6, x7, xf, xl⟩ := FObj.cells (OB.out.kept J3.out)
  go_wp2_with (fail)
  refine (cA b z3 (fal_kept HG.out J3.out)).out.mono ?_
  rintro e6 z4 ⟨rfl, k4⟩
  clear x0 x1 x2 x3 x4 x5 x6 x7 xf xl
  have J4 := Lib.hid (J3.out.trans k4)
  have J24 := Lib.hid (J23.out.trans k4)
  obtain ⟨x0, x1, x2, x3, x4, x5, x6, x7, xf, xl⟩ := FObj.cells (OA2.out.kept J4.out)
  clear k4
  go_wp2_with (fail)
  refine (rA z4 (K2.out.trans J4.out)).out.mono ?_
  rintro e7 z5 ⟨rfl, k5⟩
  clear x0 x1 x2 x3 x4 x5 x6 x7 xf xl
  have J5 := Lib.hid (J4.out.trans k5)
  have J25 := Lib.hid (J24.out.trans k5)
  obtain ⟨x0, x1, x2, x3, x4, x5, x6, x7, xf, xl⟩ := FObj.cells (OB.out.kept J5.out)
  clear k5
  go_wp2_with (fail)
  refine (cN b z5 (fal_kept HG.out J5.out)).out.mono ?_
  rintro e8 z6 ⟨v6, rfl, hr6, k6⟩
  obtain ⟨A6, n6, c6, rfl⟩ := own_slice hr6
  clear x0 x1 x2 x3 x4 x5 x6 x7 xf xl
  have J6 := Lib.hid (J5.out.trans k6)
  have J26 := Lib.hid (J25.out.trans k6)
  have R6 := Lib.hid hr6
  obtain ⟨x0, x1, x2, x3, x4, x5, x6, x7, xf, xl⟩ := FObj.cells (OA2.out.kept J6.out)
  clear k6 hr6
  go_wp2_with (fail)
  refine (rN z6 (K2.out.trans J6.out)).out.mono ?_
  rintro e9 z7 ⟨v7, rfl, hr7, k7⟩
  obtain ⟨A7, n7, c7, rfl⟩ := own_slice hr7
  clear x0 x1 x2 x3 x4 x5 x6 x7 xf xl
  have J7 := Lib.hid (J6.out.trans k7)
  have J27 := Lib.hid (J26.out.trans k7)
  have cv1 := row_text (rowl_kept R6.out k7)
  have cv2 := row_text hr7
  generalize strOfNums L = T at cv1 cv2
  obtain ⟨x0, x1, x2, x3, x4, x5, x6, x7, xf, xl⟩ := FObj.cells (OA2.out.kept J7.out)
  obtain ⟨y0, y1, y2, y3, y4, y5, y6, y7, yf, yl⟩ := FObj.cells (OB.out.kept J7.out)
  obtain ⟨a0, a1, a2, a3, a4, a5, af, al⟩ := mbox (((J12.out.trans J27.out).block z1.heap.size L1.out).trans M1.out)
  obtain ⟨b0, b1, b2, b3, b4, b5, bf, bl⟩ := mbox ((J27.out.block z2.heap.size L2.out).trans M2.out)
  have HS := hS b z7 (fal_kept HG.out J7.out) (K2.out.trans J7.out)
  clear k7 hr7
  go_wp2_with (first | (go_at_call 8; refine (num3_any _ _).mono ?_; rintro e w' ⟨rfl, rfl⟩) | (go_at_call 11; refine HS.out.mono ?_; rintro e w8 ⟨rfl, k8⟩) | (go_at_call 12; refine (hk _).out.mono ?_; rintro e w9 ⟨rfl, k9⟩))
  go_ret
  exact ⟨ret_bool (by first | rfl | decide), ((K2.out.trans J7.out).trans k8).trans k9⟩
end Go.Proofs.YtdhidpbenhmfgaaGreat
