/- font.Write. -/
import Derived.Test.YtdhidpbenhmfgaaGreatWMath
import Derived.Test.YtdhidpbenhmfgaaGreatCCof
import Derived.Test.YtdhidpbenhmfgaaGreatDims
import Derived.LoopN
namespace Go.Proofs.YtdhidpbenhmfgaaGreat
open Go.RowKit

theorem irow_nums {w : World} {B L : Nat} {v : Value} {xs : List Int} (h : IRow w B v xs) (hL : xs.length = L) : ∃ A c, v = .slice A L c ∧ NumsAt w A xs w.heap.size ∧ xs.length ≤ c := by
  rcases h.2 with ⟨rfl, h0⟩ | ⟨g, cap, cur, rfl, hb, hg, hn, hc, hs, ht⟩
  · exact ⟨none, 0, by rw [← hL, h0], fun hn => by omega, by omega⟩
  · refine ⟨_, _, by rw [hL], fun _ => ⟨g, 0, rfl, (Array.getElem?_eq_some_iff.1 hg).1, fun k hk => ?_⟩, hn⟩
    have hcell := World.ownsRow.cells h (g := g) rfl k (.int .i64 xs[k]) (by simp [hk])
    rw [Go.Addr.add_mid] at hcell
    exact hcell
theorem nums2 {w : World} {B C : Nat} {x y : Int} {T : TypeId} (h : w.heap[B]? = some (.cells #[.int .i64 x, .int .i64 y] T (0, 0))) (hC : B < C) : NumsAt w (some ⟨B, 0, none⟩) [x, y] C := fun _ =>
  ⟨B, 0, rfl, hC, fun k hk => by
    match k, hk with
    | 0, _ => simp [World.cell?, h]
    | 1, _ => simp [World.cell?, h]⟩
theorem below_words {B : Nat} {w0 w w' : World} {v : Value} {xs : List Int} (h : Below B w0 w) (hr : BRow w B v xs) (hB : B ≤ w.heap.size) (hg : w.grownBy w' v.ownBlock) : Below B w0 w' :=
  h.grown hg hB (fun j e => (World.ownsRow.lt hr j e).1)
theorem NumsAt.low {w : World} {A : Option Addr} {l : List Int} {B : Nat} (h : NumsAt w A l B) (hn : 0 < l.length) : ∀ b o, A = some ⟨b, o, none⟩ → b < B := fun b o e => by
  obtain ⟨b', o', e', hb, _⟩ := h hn
  rw [e'] at e; cases e; exact hb
theorem StsAt.low {w : World} {A : Option Addr} {l : List St} {B : Nat} (h : StsAt w A l B) (hn : 0 < l.length) : ∀ b o, A = some ⟨b, o, none⟩ → b < B := fun b o e => by
  obtain ⟨b', o', e', hb, _⟩ := h hn
  rw [e'] at e; cases e; exact hb
theorem MetsAt.low {w : World} {A : Option Addr} {l : List Met} {B : Nat} (h : MetsAt w A l B) (hn : 0 < l.length) : ∀ b o, A = some ⟨b, o, none⟩ → b < B := fun b o e => by
  obtain ⟨b', o', e', hb, _⟩ := h hn
  rw [e'] at e; cases e; exact hb
theorem Tabs4.more {w : World} {v0 v1 v2 v3 : Value} {x0 x1 x2 x3 : List Int} {B : Nat} {w' : World} (h : Tabs4 w' v0 v1 v2 v3 x0 x1 x2 x3 B) (_hs : w.heap.size ≤ w'.heap.size) (hB : B ≤ w.heap.size) : Tabs4 w' v0 v1 v2 v3 x0 x1 x2 x3 w'.heap.size := by
  obtain ⟨⟨A0, c0, e0, n0, q0⟩, ⟨A1, c1, e1, n1, q1⟩, ⟨A2, c2, e2, n2, q2⟩, ⟨A3, c3, e3, n3, q3⟩, l0, l1, l2, l3, s0, s1, s2, s3⟩ := h
  have hC : B ≤ w'.heap.size := Nat.le_trans hB _hs
  exact ⟨⟨A0, c0, e0, n0.more hC, q0⟩, ⟨A1, c1, e1, n1.more hC, q1⟩, ⟨A2, c2, e2, n2.more hC, q2⟩, ⟨A3, c3, e3, n3.more hC, q3⟩, l0, l1, l2, l3, s0, s1, s2, s3⟩
theorem apart_low {w : World} {B : Nat} {v : Value} {xs : List Int} {A : Option Addr} (hr : BRow w B v xs) (h : ∀ b o, A = some ⟨b, o, none⟩ → b < B) : ∀ b o, A = some ⟨b, o, none⟩ → v.ownBlock ≠ some b := fun b o e k => by
  have h1 := h b o e
  have h2 := (World.ownsRow.lt hr b k).1
  omega

set_option maxRecDepth 100000 in
set_option maxHeartbeats 2000000 in
theorem write_bad (F : Fnt) (a : FAddr) (w : World) (hF : FontAt w F a w.heap.size) (hw : F.wf) (h : fontE F = 40) :
    Calls Tryz.prog 6 #[fontV F a] w fun e w' => ∃ v, e = .returned (.tuple #[v, .int .i64 40]) ∧ BRow w' w.heap.size v [] ∧ Kept w w' := by
  obtain ⟨W, hW⟩ : ∃ W, W = w.alloc (.cells #[.int .u32 F.check, .int .i64 F.design, .int .i64 F.first, .slice a.A0 F.chars.length a.c0, .slice a.A1 F.steps.length a.c1, .slice a.A2 F.kerns.length a.c2, .slice a.A3 F.pieces.length a.c3, .slice a.A4 F.params.length a.c4] 28) := ⟨_, rfl⟩
  have hk0 : Kept w W := by rw [hW]; exact walloc _ _
  have hB : FBox W w.heap.size F a := FBox.of_obj (by rw [hW]; exact mkobj _ _)
  have hF' := fun w' (hk : Kept w w') => (hF.kept hk).more hk.size
  have hs := fun w' (hk : Kept w w') => Lib.hid (ccheck_any F a w' (hF' w' hk) hw)
  have HW := Lib.hid hW
  clear hW
  rw [h] at hs
  clear h hF' hF hw
  go_enter Tryz.func6, Tryz.ntmps6
  go_wp2_with (fail)
  rw [← HW.out]
  refine (hs _ hk0).out.mono ?_
  rintro e w1 ⟨rfl, k1⟩
  have kw : Kept w w1 := hk0.trans k1
  go_wp2_with (fail)
  go_ret2
  exact ⟨_, rfl, World.ownsRow_nil _ _ _ _, kw⟩

set_option maxRecDepth 100000 in
set_option maxHeartbeats 4000000 in
theorem write_s0 (F : Fnt) (a : FAddr) (w : World) (hF : FontAt w F a w.heap.size) (hw : F.wf) (h : fontE F = 0) (g0 : 256 < (wCnt F).nw) :
    Calls Tryz.prog 6 #[fontV F a] w fun e w' => ∃ v, e = .returned (.tuple #[v, .int .i64 6]) ∧ BRow w' w.heap.size v [] ∧ Kept w w' := by
  obtain ⟨W, hW⟩ : ∃ W, W = w.alloc (.cells #[.int .u32 F.check, .int .i64 F.design, .int .i64 F.first, .slice a.A0 F.chars.length a.c0, .slice a.A1 F.steps.length a.c1, .slice a.A2 F.kerns.length a.c2, .slice a.A3 F.pieces.length a.c3, .slice a.A4 F.params.length a.c4] 28) := ⟨_, rfl⟩
  have hk0 : Kept w W := by rw [hW]; exact walloc _ _
  have hB : FBox W w.heap.size F a := FBox.of_obj (by rw [hW]; exact mkobj _ _)
  have hF' := fun w' (hk : Kept w w') => (hF.kept hk).more hk.size
  have hs := fun w' (hk : Kept w w') => Lib.hid (ccheck_any F a w' (hF' w' hk) hw)
  have HW := Lib.hid hW
  clear hW
  rw [h] at hs
  have hbd := font_bd h
  have hdim : ∀ w', Kept w w' → Hid (Calls Tryz.prog 21 #[fontV F a] w' fun e w'' => ∃ u0 u1 u2 u3, e = .returned (.agg #[u0, u1, u2, u3]) ∧ Rows4 w'' w'.heap.size u0 u1 u2 u3 (0 :: tW F) (0 :: tH F) (0 :: tD F) (0 :: tI F) ∧ Kept w' w'') := fun w' hk => Lib.hid (dimensOf_any F a w' (hF' w' hk) (by omega))
  have hlen := tabs_len F
  obtain ⟨L0, hL0⟩ : ∃ L, (0 :: tW F).length = L := ⟨_, rfl⟩
  obtain ⟨L1, hL1⟩ : ∃ L, (0 :: tH F).length = L := ⟨_, rfl⟩
  obtain ⟨L2, hL2⟩ : ∃ L, (0 :: tD F).length = L := ⟨_, rfl⟩
  obtain ⟨L3, hL3⟩ : ∃ L, (0 :: tI F).length = L := ⟨_, rfl⟩
  have hcnt : ∀ A0 A1 A2 A3 q0 q1 q2 q3 w', Hid (Calls Tryz.prog 22 #[fontV F a, .agg #[.slice A0 L0 q0, .slice A1 L1 q1, .slice A2 L2 q2, .slice A3 L3 q3]] w' fun e w'' => e = .returned (cntA (wCnt F)) ∧ Kept w' w'') := fun A0 A1 A2 A3 q0 q1 q2 q3 w' => by
    have := countsOf_any F a A0 A1 A2 A3 L0 L1 L2 L3 q0 q1 q2 q3 w' hbd.1 (by omega) hbd.2.2.1 hbd.2.2.2.1 hbd.2.2.2.2.1 hbd.2.2.2.2.2 (by rw [← hL0]; simp; omega) (by rw [← hL1]; simp; omega) (by rw [← hL2]; simp; omega) (by rw [← hL3]; simp; omega)
    rw [← hL0, ← hL1, ← hL2, ← hL3] at this ⊢
    exact Lib.hid this
  generalize wCnt F = C at *
  obtain ⟨c0, c1, c2, c3, c4, c5, c6, c7, c8, c9, c10, c11⟩ := C
  dsimp only at *
  have t0 : decide (256 < c4) = true := decide_eq_true g0
  have HL0 := Lib.hid hL0
  clear hL0
  have HL1 := Lib.hid hL1
  clear hL1
  have HL2 := Lib.hid hL2
  clear hL2
  have HL3 := Lib.hid hL3
  clear hL3
  clear h hF' hF hw hbd hlen g0
  go_enter Tryz.func6, Tryz.ntmps6
  go_wp2_with (fail)
  rw [← HW.out]
  refine (hs _ hk0).out.mono ?_
  rintro e w1 ⟨rfl, k1⟩
  have kw1 : Kept w w1 := hk0.trans k1
  obtain ⟨b10, b11, b12, b13, b14, b15, b16, b17, b1l⟩ := hB.kept k1
  go_wp2_with (fail)
  refine (hdim _ kw1).out.mono ?_
  rintro e w2 ⟨u0, u1, u2, u3, rfl, hrows, k2⟩
  have kW2 : Kept W w2 := k1.trans k2
  have kw2 : Kept w w2 := hk0.trans kW2
  obtain ⟨A0, q0, rfl, N0, p0⟩ := irow_nums hrows.r0 HL0.out
  obtain ⟨A1, q1, rfl, N1, p1⟩ := irow_nums hrows.r1 HL1.out
  obtain ⟨A2, q2, rfl, N2, p2⟩ := irow_nums hrows.r2 HL2.out
  obtain ⟨A3, q3, rfl, N3, p3⟩ := irow_nums hrows.r3 HL3.out
  obtain ⟨b20, b21, b22, b23, b24, b25, b26, b27, b2l⟩ := hB.kept kW2
  obtain ⟨D2, hD2⟩ : ∃ D2, D2 = w2.alloc (.cells #[.slice A0 L0 q0, .slice A1 L1 q1, .slice A2 L2 q2, .slice A3 L3 q3] 58) := ⟨_, rfl⟩
  have kD : Kept w2 D2 := by rw [hD2]; exact walloc _ _
  have hDo : DObj D2 w2.heap.size (.slice A0 L0 q0) (.slice A1 L1 q1) (.slice A2 L2 q2) (.slice A3 L3 q3) := by rw [hD2]; exact mkobj _ _
  have HD2 := Lib.hid hD2
  clear hD2 hrows
  go_wp2_with (fail)
  rw [← HD2.out]
  refine (hcnt _ _ _ _ _ _ _ _ _).out.mono ?_
  rintro e w3 ⟨rfl, k3⟩
  have kW3 : Kept W w3 := kW2.trans (kD.trans k3)
  have kw3 : Kept w w3 := hk0.trans kW3
  obtain ⟨b30, b31, b32, b33, b34, b35, b36, b37, b3l⟩ := hB.kept kW3
  have hDo3 := hDo.grown (row := none) (grown_kept k3) (by simp)
  obtain ⟨d30, d31, d32, d33, d3f, d3l⟩ := hDo3.cells
  go_wp2_with (fail)
  go_ret2
  exact ⟨_, rfl, World.ownsRow_nil _ _ _ _, kalloc kw3 _⟩

set_option maxRecDepth 100000 in
set_option maxHeartbeats 4000000 in
theorem write_s1 (F : Fnt) (a : FAddr) (w : World) (hF : FontAt w F a w.heap.size) (hw : F.wf) (h : fontE F = 0) (g0 : ¬ 256 < (wCnt F).nw) (g1 : 16 < (wCnt F).nh) :
    Calls Tryz.prog 6 #[fontV F a] w fun e w' => ∃ v, e = .returned (.tuple #[v, .int .i64 6]) ∧ BRow w' w.heap.size v [] ∧ Kept w w' := by
  obtain ⟨W, hW⟩ : ∃ W, W = w.alloc (.cells #[.int .u32 F.check, .int .i64 F.design, .int .i64 F.first, .slice a.A0 F.chars.length a.c0, .slice a.A1 F.steps.length a.c1, .slice a.A2 F.kerns.length a.c2, .slice a.A3 F.pieces.length a.c3, .slice a.A4 F.params.length a.c4] 28) := ⟨_, rfl⟩
  have hk0 : Kept w W := by rw [hW]; exact walloc _ _
  have hB : FBox W w.heap.size F a := FBox.of_obj (by rw [hW]; exact mkobj _ _)
  have hF' := fun w' (hk : Kept w w') => (hF.kept hk).more hk.size
  have hs := fun w' (hk : Kept w w') => Lib.hid (ccheck_any F a w' (hF' w' hk) hw)
  have HW := Lib.hid hW
  clear hW
  rw [h] at hs
  have hbd := font_bd h
  have hdim : ∀ w', Kept w w' → Hid (Calls Tryz.prog 21 #[fontV F a] w' fun e w'' => ∃ u0 u1 u2 u3, e = .returned (.agg #[u0, u1, u2, u3]) ∧ Rows4 w'' w'.heap.size u0 u1 u2 u3 (0 :: tW F) (0 :: tH F) (0 :: tD F) (0 :: tI F) ∧ Kept w' w'') := fun w' hk => Lib.hid (dimensOf_any F a w' (hF' w' hk) (by omega))
  have hlen := tabs_len F
  obtain ⟨L0, hL0⟩ : ∃ L, (0 :: tW F).length = L := ⟨_, rfl⟩
  obtain ⟨L1, hL1⟩ : ∃ L, (0 :: tH F).length = L := ⟨_, rfl⟩
  obtain ⟨L2, hL2⟩ : ∃ L, (0 :: tD F).length = L := ⟨_, rfl⟩
  obtain ⟨L3, hL3⟩ : ∃ L, (0 :: tI F).length = L := ⟨_, rfl⟩
  have hcnt : ∀ A0 A1 A2 A3 q0 q1 q2 q3 w', Hid (Calls Tryz.prog 22 #[fontV F a, .agg #[.slice A0 L0 q0, .slice A1 L1 q1, .slice A2 L2 q2, .slice A3 L3 q3]] w' fun e w'' => e = .returned (cntA (wCnt F)) ∧ Kept w' w'') := fun A0 A1 A2 A3 q0 q1 q2 q3 w' => by
    have := countsOf_any F a A0 A1 A2 A3 L0 L1 L2 L3 q0 q1 q2 q3 w' hbd.1 (by omega) hbd.2.2.1 hbd.2.2.2.1 hbd.2.2.2.2.1 hbd.2.2.2.2.2 (by rw [← hL0]; simp; omega) (by rw [← hL1]; simp; omega) (by rw [← hL2]; simp; omega) (by rw [← hL3]; simp; omega)
    rw [← hL0, ← hL1, ← hL2, ← hL3] at this ⊢
    exact Lib.hid this
  generalize wCnt F = C at *
  obtain ⟨c0, c1, c2, c3, c4, c5, c6, c7, c8, c9, c10, c11⟩ := C
  dsimp only at *
  have t0 : decide (256 < c4) = false := decide_eq_false g0
  have t1 : decide (16 < c5) = true := decide_eq_true g1
  have HL0 := Lib.hid hL0
  clear hL0
  have HL1 := Lib.hid hL1
  clear hL1
  have HL2 := Lib.hid hL2
  clear hL2
  have HL3 := Lib.hid hL3
  clear hL3
  clear h hF' hF hw hbd hlen g0 g1
  go_enter Tryz.func6, Tryz.ntmps6
  go_wp2_with (fail)
  rw [← HW.out]
  refine (hs _ hk0).out.mono ?_
  rintro e w1 ⟨rfl, k1⟩
  have kw1 : Kept w w1 := hk0.trans k1
  obtain ⟨b10, b11, b12, b13, b14, b15, b16, b17, b1l⟩ := hB.kept k1
  go_wp2_with (fail)
  refine (hdim _ kw1).out.mono ?_
  rintro e w2 ⟨u0, u1, u2, u3, rfl, hrows, k2⟩
  have kW2 : Kept W w2 := k1.trans k2
  have kw2 : Kept w w2 := hk0.trans kW2
  obtain ⟨A0, q0, rfl, N0, p0⟩ := irow_nums hrows.r0 HL0.out
  obtain ⟨A1, q1, rfl, N1, p1⟩ := irow_nums hrows.r1 HL1.out
  obtain ⟨A2, q2, rfl, N2, p2⟩ := irow_nums hrows.r2 HL2.out
  obtain ⟨A3, q3, rfl, N3, p3⟩ := irow_nums hrows.r3 HL3.out
  obtain ⟨b20, b21, b22, b23, b24, b25, b26, b27, b2l⟩ := hB.kept kW2
  obtain ⟨D2, hD2⟩ : ∃ D2, D2 = w2.alloc (.cells #[.slice A0 L0 q0, .slice A1 L1 q1, .slice A2 L2 q2, .slice A3 L3 q3] 58) := ⟨_, rfl⟩
  have kD : Kept w2 D2 := by rw [hD2]; exact walloc _ _
  have hDo : DObj D2 w2.heap.size (.slice A0 L0 q0) (.slice A1 L1 q1) (.slice A2 L2 q2) (.slice A3 L3 q3) := by rw [hD2]; exact mkobj _ _
  have HD2 := Lib.hid hD2
  clear hD2 hrows
  go_wp2_with (fail)
  rw [← HD2.out]
  refine (hcnt _ _ _ _ _ _ _ _ _).out.mono ?_
  rintro e w3 ⟨rfl, k3⟩
  have kW3 : Kept W w3 := kW2.trans (kD.trans k3)
  have kw3 : Kept w w3 := hk0.trans kW3
  obtain ⟨b30, b31, b32, b33, b34, b35, b36, b37, b3l⟩ := hB.kept kW3
  have hDo3 := hDo.grown (row := none) (grown_kept k3) (by simp)
  obtain ⟨d30, d31, d32, d33, d3f, d3l⟩ := hDo3.cells
  go_wp2_with (fail)
  go_ret2
  exact ⟨_, rfl, World.ownsRow_nil _ _ _ _, kalloc kw3 _⟩

set_option maxRecDepth 100000 in
set_option maxHeartbeats 4000000 in
theorem write_s2 (F : Fnt) (a : FAddr) (w : World) (hF : FontAt w F a w.heap.size) (hw : F.wf) (h : fontE F = 0) (g0 : ¬ 256 < (wCnt F).nw) (g1 : ¬ 16 < (wCnt F).nh) (g2 : 16 < (wCnt F).nd) :
    Calls Tryz.prog 6 #[fontV F a] w fun e w' => ∃ v, e = .returned (.tuple #[v, .int .i64 6]) ∧ BRow w' w.heap.size v [] ∧ Kept w w' := by
  obtain ⟨W, hW⟩ : ∃ W, W = w.alloc (.cells #[.int .u32 F.check, .int .i64 F.design, .int .i64 F.first, .slice a.A0 F.chars.length a.c0, .slice a.A1 F.steps.length a.c1, .slice a.A2 F.kerns.length a.c2, .slice a.A3 F.pieces.length a.c3, .slice a.A4 F.params.length a.c4] 28) := ⟨_, rfl⟩
  have hk0 : Kept w W := by rw [hW]; exact walloc _ _
  have hB : FBox W w.heap.size F a := FBox.of_obj (by rw [hW]; exact mkobj _ _)
  have hF' := fun w' (hk : Kept w w') => (hF.kept hk).more hk.size
  have hs := fun w' (hk : Kept w w') => Lib.hid (ccheck_any F a w' (hF' w' hk) hw)
  have HW := Lib.hid hW
  clear hW
  rw [h] at hs
  have hbd := font_bd h
  have hdim : ∀ w', Kept w w' → Hid (Calls Tryz.prog 21 #[fontV F a] w' fun e w'' => ∃ u0 u1 u2 u3, e = .returned (.agg #[u0, u1, u2, u3]) ∧ Rows4 w'' w'.heap.size u0 u1 u2 u3 (0 :: tW F) (0 :: tH F) (0 :: tD F) (0 :: tI F) ∧ Kept w' w'') := fun w' hk => Lib.hid (dimensOf_any F a w' (hF' w' hk) (by omega))
  have hlen := tabs_len F
  obtain ⟨L0, hL0⟩ : ∃ L, (0 :: tW F).length = L := ⟨_, rfl⟩
  obtain ⟨L1, hL1⟩ : ∃ L, (0 :: tH F).length = L := ⟨_, rfl⟩
  obtain ⟨L2, hL2⟩ : ∃ L, (0 :: tD F).length = L := ⟨_, rfl⟩
  obtain ⟨L3, hL3⟩ : ∃ L, (0 :: tI F).length = L := ⟨_, rfl⟩
  have hcnt : ∀ A0 A1 A2 A3 q0 q1 q2 q3 w', Hid (Calls Tryz.prog 22 #[fontV F a, .agg #[.slice A0 L0 q0, .slice A1 L1 q1, .slice A2 L2 q2, .slice A3 L3 q3]] w' fun e w'' => e = .returned (cntA (wCnt F)) ∧ Kept w' w'') := fun A0 A1 A2 A3 q0 q1 q2 q3 w' => by
    have := countsOf_any F a A0 A1 A2 A3 L0 L1 L2 L3 q0 q1 q2 q3 w' hbd.1 (by omega) hbd.2.2.1 hbd.2.2.2.1 hbd.2.2.2.2.1 hbd.2.2.2.2.2 (by rw [← hL0]; simp; omega) (by rw [← hL1]; simp; omega) (by rw [← hL2]; simp; omega) (by rw [← hL3]; simp; omega)
    rw [← hL0, ← hL1, ← hL2, ← hL3] at this ⊢
    exact Lib.hid this
  generalize wCnt F = C at *
  obtain ⟨c0, c1, c2, c3, c4, c5, c6, c7, c8, c9, c10, c11⟩ := C
  dsimp only at *
  have t0 : decide (256 < c4) = false := decide_eq_false g0
  have t1 : decide (16 < c5) = false := decide_eq_false g1
  have t2 : decide (16 < c6) = true := decide_eq_true g2
  have HL0 := Lib.hid hL0
  clear hL0
  have HL1 := Lib.hid hL1
  clear hL1
  have HL2 := Lib.hid hL2
  clear hL2
  have HL3 := Lib.hid hL3
  clear hL3
  clear h hF' hF hw hbd hlen g0 g1 g2
  go_enter Tryz.func6, Tryz.ntmps6
  go_wp2_with (fail)
  rw [← HW.out]
  refine (hs _ hk0).out.mono ?_
  rintro e w1 ⟨rfl, k1⟩
  have kw1 : Kept w w1 := hk0.trans k1
  obtain ⟨b10, b11, b12, b13, b14, b15, b16, b17, b1l⟩ := hB.kept k1
  go_wp2_with (fail)
  refine (hdim _ kw1).out.mono ?_
  rintro e w2 ⟨u0, u1, u2, u3, rfl, hrows, k2⟩
  have kW2 : Kept W w2 := k1.trans k2
  have kw2 : Kept w w2 := hk0.trans kW2
  obtain ⟨A0, q0, rfl, N0, p0⟩ := irow_nums hrows.r0 HL0.out
  obtain ⟨A1, q1, rfl, N1, p1⟩ := irow_nums hrows.r1 HL1.out
  obtain ⟨A2, q2, rfl, N2, p2⟩ := irow_nums hrows.r2 HL2.out
  obtain ⟨A3, q3, rfl, N3, p3⟩ := irow_nums hrows.r3 HL3.out
  obtain ⟨b20, b21, b22, b23, b24, b25, b26, b27, b2l⟩ := hB.kept kW2
  obtain ⟨D2, hD2⟩ : ∃ D2, D2 = w2.alloc (.cells #[.slice A0 L0 q0, .slice A1 L1 q1, .slice A2 L2 q2, .slice A3 L3 q3] 58) := ⟨_, rfl⟩
  have kD : Kept w2 D2 := by rw [hD2]; exact walloc _ _
  have hDo : DObj D2 w2.heap.size (.slice A0 L0 q0) (.slice A1 L1 q1) (.slice A2 L2 q2) (.slice A3 L3 q3) := by rw [hD2]; exact mkobj _ _
  have HD2 := Lib.hid hD2
  clear hD2 hrows
  go_wp2_with (fail)
  rw [← HD2.out]
  refine (hcnt _ _ _ _ _ _ _ _ _).out.mono ?_
  rintro e w3 ⟨rfl, k3⟩
  have kW3 : Kept W w3 := kW2.trans (kD.trans k3)
  have kw3 : Kept w w3 := hk0.trans kW3
  obtain ⟨b30, b31, b32, b33, b34, b35, b36, b37, b3l⟩ := hB.kept kW3
  have hDo3 := hDo.grown (row := none) (grown_kept k3) (by simp)
  obtain ⟨d30, d31, d32, d33, d3f, d3l⟩ := hDo3.cells
  go_wp2_with (fail)
  go_ret2
  exact ⟨_, rfl, World.ownsRow_nil _ _ _ _, kalloc kw3 _⟩

set_option maxRecDepth 100000 in
set_option maxHeartbeats 4000000 in
theorem write_s3 (F : Fnt) (a : FAddr) (w : World) (hF : FontAt w F a w.heap.size) (hw : F.wf) (h : fontE F = 0) (g0 : ¬ 256 < (wCnt F).nw) (g1 : ¬ 16 < (wCnt F).nh) (g2 : ¬ 16 < (wCnt F).nd) (g3 : 64 < (wCnt F).ni) :
    Calls Tryz.prog 6 #[fontV F a] w fun e w' => ∃ v, e = .returned (.tuple #[v, .int .i64 6]) ∧ BRow w' w.heap.size v [] ∧ Kept w w' := by
  obtain ⟨W, hW⟩ : ∃ W, W = w.alloc (.cells #[.int .u32 F.check, .int .i64 F.design, .int .i64 F.first, .slice a.A0 F.chars.length a.c0, .slice a.A1 F.steps.length a.c1, .slice a.A2 F.kerns.length a.c2, .slice a.A3 F.pieces.length a.c3, .slice a.A4 F.params.length a.c4] 28) := ⟨_, rfl⟩
  have hk0 : Kept w W := by rw [hW]; exact walloc _ _
  have hB : FBox W w.heap.size F a := FBox.of_obj (by rw [hW]; exact mkobj _ _)
  have hF' := fun w' (hk : Kept w w') => (hF.kept hk).more hk.size
  have hs := fun w' (hk : Kept w w') => Lib.hid (ccheck_any F a w' (hF' w' hk) hw)
  have HW := Lib.hid hW
  clear hW
  rw [h] at hs
  have hbd := font_bd h
  have hdim : ∀ w', Kept w w' → Hid (Calls Tryz.prog 21 #[fontV F a] w' fun e w'' => ∃ u0 u1 u2 u3, e = .returned (.agg #[u0, u1, u2, u3]) ∧ Rows4 w'' w'.heap.size u0 u1 u2 u3 (0 :: tW F) (0 :: tH F) (0 :: tD F) (0 :: tI F) ∧ Kept w' w'') := fun w' hk => Lib.hid (dimensOf_any F a w' (hF' w' hk) (by omega))
  have hlen := tabs_len F
  obtain ⟨L0, hL0⟩ : ∃ L, (0 :: tW F).length = L := ⟨_, rfl⟩
  obtain ⟨L1, hL1⟩ : ∃ L, (0 :: tH F).length = L := ⟨_, rfl⟩
  obtain ⟨L2, hL2⟩ : ∃ L, (0 :: tD F).length = L := ⟨_, rfl⟩
  obtain ⟨L3, hL3⟩ : ∃ L, (0 :: tI F).length = L := ⟨_, rfl⟩
  have hcnt : ∀ A0 A1 A2 A3 q0 q1 q2 q3 w', Hid (Calls Tryz.prog 22 #[fontV F a, .agg #[.slice A0 L0 q0, .slice A1 L1 q1, .slice A2 L2 q2, .slice A3 L3 q3]] w' fun e w'' => e = .returned (cntA (wCnt F)) ∧ Kept w' w'') := fun A0 A1 A2 A3 q0 q1 q2 q3 w' => by
    have := countsOf_any F a A0 A1 A2 A3 L0 L1 L2 L3 q0 q1 q2 q3 w' hbd.1 (by omega) hbd.2.2.1 hbd.2.2.2.1 hbd.2.2.2.2.1 hbd.2.2.2.2.2 (by rw [← hL0]; simp; omega) (by rw [← hL1]; simp; omega) (by rw [← hL2]; simp; omega) (by rw [← hL3]; simp; omega)
    rw [← hL0, ← hL1, ← hL2, ← hL3] at this ⊢
    exact Lib.hid this
  generalize wCnt F = C at *
  obtain ⟨c0, c1, c2, c3, c4, c5, c6, c7, c8, c9, c10, c11⟩ := C
  dsimp only at *
  have t0 : decide (256 < c4) = false := decide_eq_false g0
  have t1 : decide (16 < c5) = false := decide_eq_false g1
  have t2 : decide (16 < c6) = false := decide_eq_false g2
  have t3 : decide (64 < c7) = true := decide_eq_true g3
  have HL0 := Lib.hid hL0
  clear hL0
  have HL1 := Lib.hid hL1
  clear hL1
  have HL2 := Lib.hid hL2
  clear hL2
  have HL3 := Lib.hid hL3
  clear hL3
  clear h hF' hF hw hbd hlen g0 g1 g2 g3
  go_enter Tryz.func6, Tryz.ntmps6
  go_wp2_with (fail)
  rw [← HW.out]
  refine (hs _ hk0).out.mono ?_
  rintro e w1 ⟨rfl, k1⟩
  have kw1 : Kept w w1 := hk0.trans k1
  obtain ⟨b10, b11, b12, b13, b14, b15, b16, b17, b1l⟩ := hB.kept k1
  go_wp2_with (fail)
  refine (hdim _ kw1).out.mono ?_
  rintro e w2 ⟨u0, u1, u2, u3, rfl, hrows, k2⟩
  have kW2 : Kept W w2 := k1.trans k2
  have kw2 : Kept w w2 := hk0.trans kW2
  obtain ⟨A0, q0, rfl, N0, p0⟩ := irow_nums hrows.r0 HL0.out
  obtain ⟨A1, q1, rfl, N1, p1⟩ := irow_nums hrows.r1 HL1.out
  obtain ⟨A2, q2, rfl, N2, p2⟩ := irow_nums hrows.r2 HL2.out
  obtain ⟨A3, q3, rfl, N3, p3⟩ := irow_nums hrows.r3 HL3.out
  obtain ⟨b20, b21, b22, b23, b24, b25, b26, b27, b2l⟩ := hB.kept kW2
  obtain ⟨D2, hD2⟩ : ∃ D2, D2 = w2.alloc (.cells #[.slice A0 L0 q0, .slice A1 L1 q1, .slice A2 L2 q2, .slice A3 L3 q3] 58) := ⟨_, rfl⟩
  have kD : Kept w2 D2 := by rw [hD2]; exact walloc _ _
  have hDo : DObj D2 w2.heap.size (.slice A0 L0 q0) (.slice A1 L1 q1) (.slice A2 L2 q2) (.slice A3 L3 q3) := by rw [hD2]; exact mkobj _ _
  have HD2 := Lib.hid hD2
  clear hD2 hrows
  go_wp2_with (fail)
  rw [← HD2.out]
  refine (hcnt _ _ _ _ _ _ _ _ _).out.mono ?_
  rintro e w3 ⟨rfl, k3⟩
  have kW3 : Kept W w3 := kW2.trans (kD.trans k3)
  have kw3 : Kept w w3 := hk0.trans kW3
  obtain ⟨b30, b31, b32, b33, b34, b35, b36, b37, b3l⟩ := hB.kept kW3
  have hDo3 := hDo.grown (row := none) (grown_kept k3) (by simp)
  obtain ⟨d30, d31, d32, d33, d3f, d3l⟩ := hDo3.cells
  go_wp2_with (fail)
  go_ret2
  exact ⟨_, rfl, World.ownsRow_nil _ _ _ _, kalloc kw3 _⟩

set_option maxRecDepth 100000 in
set_option maxHeartbeats 4000000 in
theorem write_s4 (F : Fnt) (a : FAddr) (w : World) (hF : FontAt w F a w.heap.size) (hw : F.wf) (h : fontE F = 0) (g0 : ¬ 256 < (wCnt F).nw) (g1 : ¬ 16 < (wCnt F).nh) (g2 : ¬ 16 < (wCnt F).nd) (g3 : ¬ 64 < (wCnt F).ni) (g4 : 32767 < (wCnt F).lf) :
    Calls Tryz.prog 6 #[fontV F a] w fun e w' => ∃ v, e = .returned (.tuple #[v, .int .i64 6]) ∧ BRow w' w.heap.size v [] ∧ Kept w w' := by
  obtain ⟨W, hW⟩ : ∃ W, W = w.alloc (.cells #[.int .u32 F.check, .int .i64 F.design, .int .i64 F.first, .slice a.A0 F.chars.length a.c0, .slice a.A1 F.steps.length a.c1, .slice a.A2 F.kerns.length a.c2, .slice a.A3 F.pieces.length a.c3, .slice a.A4 F.params.length a.c4] 28) := ⟨_, rfl⟩
  have hk0 : Kept w W := by rw [hW]; exact walloc _ _
  have hB : FBox W w.heap.size F a := FBox.of_obj (by rw [hW]; exact mkobj _ _)
  have hF' := fun w' (hk : Kept w w') => (hF.kept hk).more hk.size
  have hs := fun w' (hk : Kept w w') => Lib.hid (ccheck_any F a w' (hF' w' hk) hw)
  have HW := Lib.hid hW
  clear hW
  rw [h] at hs
  have hbd := font_bd h
  have hdim : ∀ w', Kept w w' → Hid (Calls Tryz.prog 21 #[fontV F a] w' fun e w'' => ∃ u0 u1 u2 u3, e = .returned (.agg #[u0, u1, u2, u3]) ∧ Rows4 w'' w'.heap.size u0 u1 u2 u3 (0 :: tW F) (0 :: tH F) (0 :: tD F) (0 :: tI F) ∧ Kept w' w'') := fun w' hk => Lib.hid (dimensOf_any F a w' (hF' w' hk) (by omega))
  have hlen := tabs_len F
  obtain ⟨L0, hL0⟩ : ∃ L, (0 :: tW F).length = L := ⟨_, rfl⟩
  obtain ⟨L1, hL1⟩ : ∃ L, (0 :: tH F).length = L := ⟨_, rfl⟩
  obtain ⟨L2, hL2⟩ : ∃ L, (0 :: tD F).length = L := ⟨_, rfl⟩
  obtain ⟨L3, hL3⟩ : ∃ L, (0 :: tI F).length = L := ⟨_, rfl⟩
  have hcnt : ∀ A0 A1 A2 A3 q0 q1 q2 q3 w', Hid (Calls Tryz.prog 22 #[fontV F a, .agg #[.slice A0 L0 q0, .slice A1 L1 q1, .slice A2 L2 q2, .slice A3 L3 q3]] w' fun e w'' => e = .returned (cntA (wCnt F)) ∧ Kept w' w'') := fun A0 A1 A2 A3 q0 q1 q2 q3 w' => by
    have := countsOf_any F a A0 A1 A2 A3 L0 L1 L2 L3 q0 q1 q2 q3 w' hbd.1 (by omega) hbd.2.2.1 hbd.2.2.2.1 hbd.2.2.2.2.1 hbd.2.2.2.2.2 (by rw [← hL0]; simp; omega) (by rw [← hL1]; simp; omega) (by rw [← hL2]; simp; omega) (by rw [← hL3]; simp; omega)
    rw [← hL0, ← hL1, ← hL2, ← hL3] at this ⊢
    exact Lib.hid this
  generalize wCnt F = C at *
  obtain ⟨c0, c1, c2, c3, c4, c5, c6, c7, c8, c9, c10, c11⟩ := C
  dsimp only at *
  have t0 : decide (256 < c4) = false := decide_eq_false g0
  have t1 : decide (16 < c5) = false := decide_eq_false g1
  have t2 : decide (16 < c6) = false := decide_eq_false g2
  have t3 : decide (64 < c7) = false := decide_eq_false g3
  have t4 : decide (32767 < c0) = true := decide_eq_true g4
  have HL0 := Lib.hid hL0
  clear hL0
  have HL1 := Lib.hid hL1
  clear hL1
  have HL2 := Lib.hid hL2
  clear hL2
  have HL3 := Lib.hid hL3
  clear hL3
  clear h hF' hF hw hbd hlen g0 g1 g2 g3 g4
  go_enter Tryz.func6, Tryz.ntmps6
  go_wp2_with (fail)
  rw [← HW.out]
  refine (hs _ hk0).out.mono ?_
  rintro e w1 ⟨rfl, k1⟩
  have kw1 : Kept w w1 := hk0.trans k1
  obtain ⟨b10, b11, b12, b13, b14, b15, b16, b17, b1l⟩ := hB.kept k1
  go_wp2_with (fail)
  refine (hdim _ kw1).out.mono ?_
  rintro e w2 ⟨u0, u1, u2, u3, rfl, hrows, k2⟩
  have kW2 : Kept W w2 := k1.trans k2
  have kw2 : Kept w w2 := hk0.trans kW2
  obtain ⟨A0, q0, rfl, N0, p0⟩ := irow_nums hrows.r0 HL0.out
  obtain ⟨A1, q1, rfl, N1, p1⟩ := irow_nums hrows.r1 HL1.out
  obtain ⟨A2, q2, rfl, N2, p2⟩ := irow_nums hrows.r2 HL2.out
  obtain ⟨A3, q3, rfl, N3, p3⟩ := irow_nums hrows.r3 HL3.out
  obtain ⟨b20, b21, b22, b23, b24, b25, b26, b27, b2l⟩ := hB.kept kW2
  obtain ⟨D2, hD2⟩ : ∃ D2, D2 = w2.alloc (.cells #[.slice A0 L0 q0, .slice A1 L1 q1, .slice A2 L2 q2, .slice A3 L3 q3] 58) := ⟨_, rfl⟩
  have kD : Kept w2 D2 := by rw [hD2]; exact walloc _ _
  have hDo : DObj D2 w2.heap.size (.slice A0 L0 q0) (.slice A1 L1 q1) (.slice A2 L2 q2) (.slice A3 L3 q3) := by rw [hD2]; exact mkobj _ _
  have HD2 := Lib.hid hD2
  clear hD2 hrows
  go_wp2_with (fail)
  rw [← HD2.out]
  refine (hcnt _ _ _ _ _ _ _ _ _).out.mono ?_
  rintro e w3 ⟨rfl, k3⟩
  have kW3 : Kept W w3 := kW2.trans (kD.trans k3)
  have kw3 : Kept w w3 := hk0.trans kW3
  obtain ⟨b30, b31, b32, b33, b34, b35, b36, b37, b3l⟩ := hB.kept kW3
  have hDo3 := hDo.grown (row := none) (grown_kept k3) (by simp)
  obtain ⟨d30, d31, d32, d33, d3f, d3l⟩ := hDo3.cells
  go_wp2_with (fail)
  go_ret2
  exact ⟨_, rfl, World.ownsRow_nil _ _ _ _, kalloc kw3 _⟩

set_option maxRecDepth 100000 in
set_option maxHeartbeats 16000000 in
theorem write_ok (F : Fnt) (a : FAddr) (w : World) (hF : FontAt w F a w.heap.size) (hw : F.wf) (h : fontE F = 0) (g0 : ¬ 256 < (wCnt F).nw) (g1 : ¬ 16 < (wCnt F).nh) (g2 : ¬ 16 < (wCnt F).nd) (g3 : ¬ 64 < (wCnt F).ni) (g4 : ¬ 32767 < (wCnt F).lf) :
    Calls Tryz.prog 6 #[fontV F a] w fun e w' => ∃ v, e = .returned (.tuple #[v, .int .i64 0]) ∧ BRow w' w.heap.size v (writeL F) ∧ Kept w w' := by
  have hmf : ∀ (fn : Fn) (first cap : Array Value) (w : World), (Instr.makeFunc fn first cap).run Tryz.prog w = .ok (.func fn first cap) w := fun _ _ _ _ => rfl
  have hix0 : ∀ (p0 p1 p2 p3 : Option Addr) (l0 l1 l2 l3 r0 r1 r2 r3 : Nat) (w : World), (Instr.index 68 (.agg #[.slice p0 l0 r0, .slice p1 l1 r1, .slice p2 l2 r2, .slice p3 l3 r3]) (.int .i64 0)).run Tryz.prog w = .ok (.slice p0 l0 r0) w := fun _ _ _ _ _ _ _ _ _ _ _ _ _ => by first | rfl | (show _ = _; kernel_rfl)
  have hix1 : ∀ (p0 p1 p2 p3 : Option Addr) (l0 l1 l2 l3 r0 r1 r2 r3 : Nat) (w : World), (Instr.index 68 (.agg #[.slice p0 l0 r0, .slice p1 l1 r1, .slice p2 l2 r2, .slice p3 l3 r3]) (.int .i64 1)).run Tryz.prog w = .ok (.slice p1 l1 r1) w := fun _ _ _ _ _ _ _ _ _ _ _ _ _ => by first | rfl | (show _ = _; kernel_rfl)
  have hix2 : ∀ (p0 p1 p2 p3 : Option Addr) (l0 l1 l2 l3 r0 r1 r2 r3 : Nat) (w : World), (Instr.index 68 (.agg #[.slice p0 l0 r0, .slice p1 l1 r1, .slice p2 l2 r2, .slice p3 l3 r3]) (.int .i64 2)).run Tryz.prog w = .ok (.slice p2 l2 r2) w := fun _ _ _ _ _ _ _ _ _ _ _ _ _ => by first | rfl | (show _ = _; kernel_rfl)
  have hix3 : ∀ (p0 p1 p2 p3 : Option Addr) (l0 l1 l2 l3 r0 r1 r2 r3 : Nat) (w : World), (Instr.index 68 (.agg #[.slice p0 l0 r0, .slice p1 l1 r1, .slice p2 l2 r2, .slice p3 l3 r3]) (.int .i64 3)).run Tryz.prog w = .ok (.slice p3 l3 r3) w := fun _ _ _ _ _ _ _ _ _ _ _ _ _ => by first | rfl | (show _ = _; kernel_rfl)
  obtain ⟨W, hW⟩ : ∃ W, W = w.alloc (.cells #[.int .u32 F.check, .int .i64 F.design, .int .i64 F.first, .slice a.A0 F.chars.length a.c0, .slice a.A1 F.steps.length a.c1, .slice a.A2 F.kerns.length a.c2, .slice a.A3 F.pieces.length a.c3, .slice a.A4 F.params.length a.c4] 28) := ⟨_, rfl⟩
  have hk0 : Kept w W := by rw [hW]; exact walloc _ _
  have hB : FBox W w.heap.size F a := FBox.of_obj (by rw [hW]; exact mkobj _ _)
  have hF' := fun w' (hk : Kept w w') => (hF.kept hk).more hk.size
  have hs := fun w' (hk : Kept w w') => Lib.hid (ccheck_any F a w' (hF' w' hk) hw)
  have HW := Lib.hid hW
  clear hW
  rw [h] at hs
  have hbd := font_bd h
  have hdim : ∀ w', Kept w w' → Hid (Calls Tryz.prog 21 #[fontV F a] w' fun e w'' => ∃ u0 u1 u2 u3, e = .returned (.agg #[u0, u1, u2, u3]) ∧ Rows4 w'' w'.heap.size u0 u1 u2 u3 (0 :: tW F) (0 :: tH F) (0 :: tD F) (0 :: tI F) ∧ Kept w' w'') := fun w' hk => Lib.hid (dimensOf_any F a w' (hF' w' hk) (by omega))
  have hlen := tabs_len F
  obtain ⟨L0, hL0⟩ : ∃ L, (0 :: tW F).length = L := ⟨_, rfl⟩
  obtain ⟨L1, hL1⟩ : ∃ L, (0 :: tH F).length = L := ⟨_, rfl⟩
  obtain ⟨L2, hL2⟩ : ∃ L, (0 :: tD F).length = L := ⟨_, rfl⟩
  obtain ⟨L3, hL3⟩ : ∃ L, (0 :: tI F).length = L := ⟨_, rfl⟩
  have hcnt : ∀ A0 A1 A2 A3 q0 q1 q2 q3 w', Hid (Calls Tryz.prog 22 #[fontV F a, .agg #[.slice A0 L0 q0, .slice A1 L1 q1, .slice A2 L2 q2, .slice A3 L3 q3]] w' fun e w'' => e = .returned (cntA (wCnt F)) ∧ Kept w' w'') := fun A0 A1 A2 A3 q0 q1 q2 q3 w' => by
    have := countsOf_any F a A0 A1 A2 A3 L0 L1 L2 L3 q0 q1 q2 q3 w' hbd.1 (by omega) hbd.2.2.1 hbd.2.2.2.1 hbd.2.2.2.2.1 hbd.2.2.2.2.2 (by rw [← hL0]; simp; omega) (by rw [← hL1]; simp; omega) (by rw [← hL2]; simp; omega) (by rw [← hL3]; simp; omega)
    rw [← hL0, ← hL1, ← hL2, ← hL3] at this ⊢
    exact Lib.hid this
  have hby : ∀ w', Hid (Calls Tryz.prog 23 #[cntA (wCnt F)] w' fun e w'' => ∃ v, e = .returned v ∧ BRow w'' w'.heap.size v (cntL (wCnt F) 12) ∧ Kept w' w'') := fun w' => Lib.hid (cbytes_any (wCnt F) w' (wCnt_ok hbd.1 hbd.2.1 (by omega)))
  have hx0 : (cntL (wCnt F) 12).length = 24 := cntL_len _ _
  obtain ⟨X0, hX0⟩ : ∃ X, X = cntL (wCnt F) 12 := ⟨_, rfl⟩
  have hwl : writeL F = X0 ++ numsL [F.check, F.design] ++ metsL F ++ numsL (0 :: tW F) ++ numsL (0 :: tH F) ++ numsL (0 :: tD F) ++ numsL (0 :: tI F) ++ stsL F.steps ++ numsL F.kerns ++ stsL F.pieces ++ numsL F.params := by rw [hX0]; rfl
  rw [← hX0] at hby hx0
  rw [hwl]
  clear hX0 hwl
  obtain ⟨i64W, i64H, i64D, i64I⟩ := tabs_i64 hw
  have hsrt : (tW F).Pairwise (· ≤ ·) ∧ (tH F).Pairwise (· ≤ ·) ∧ (tD F).Pairwise (· ≤ ·) ∧ (tI F).Pairwise (· ≤ ·) := ⟨rising_sorted _, noZero_sorted (rising_sorted _), noZero_sorted (rising_sorted _), noZero_sorted (rising_sorted _)⟩
  have hsz : L0 ≤ 256 ∧ L1 ≤ 16 ∧ L2 ≤ 16 ∧ L3 ≤ 64 := by
    have e0 : (wCnt F).nw = ((0 :: tW F).length : Nat) := rfl
    have e1 : (wCnt F).nh = ((0 :: tH F).length : Nat) := rfl
    have e2 : (wCnt F).nd = ((0 :: tD F).length : Nat) := rfl
    have e3 : (wCnt F).ni = ((0 :: tI F).length : Nat) := rfl
    rw [e0, hL0] at g0; rw [e1, hL1] at g1; rw [e2, hL2] at g2; rw [e3, hL3] at g3
    omega
  have htag := fun m (hm : m ∈ F.chars) => font_tag h hm
  have hchk : i64B F.check := by unfold i64B; have := hw.check; omega
  obtain ⟨ck0, ck1⟩ := hw.check
  -- the parts' lengths
  have z1 : (numsL [F.check, F.design]).length = 8 := flat_len numS _
  have z2 : (metsL F).length = 4 * F.chars.length := flat_len _ _
  have z3 : (numsL (0 :: tW F)).length = 4 * L0 := by rw [← hL0]; exact flat_len numS _
  have z4 : (numsL (0 :: tH F)).length = 4 * L1 := by rw [← hL1]; exact flat_len numS _
  have z5 : (numsL (0 :: tD F)).length = 4 * L2 := by rw [← hL2]; exact flat_len numS _
  have z6 : (numsL (0 :: tI F)).length = 4 * L3 := by rw [← hL3]; exact flat_len numS _
  have z7 : (stsL F.steps).length = 4 * F.steps.length := flat_len idS _
  have z8 : (numsL F.kerns).length = 4 * F.kerns.length := flat_len numS _
  have z9 : (stsL F.pieces).length = 4 * F.pieces.length := flat_len idS _
  -- the contracts
  have cI : ∀ (w' : World) (B : Nat) (v : Value) (xs : List Int) (A : Option Addr) (l : List Int) (c L : Nat), l.length = L → BRow w' B v xs → NumsAt w' A l w'.heap.size → (0 < l.length → ∀ b o, A = some ⟨b, o, none⟩ → v.ownBlock ≠ some b) → (∀ x ∈ l, i64B x) → L ≤ 70000 → xs.length ≤ 10000000 → B ≤ w'.heap.size → Hid (Calls Tryz.prog 24 #[v, .slice A L c, .func (.func 25) #[] #[]] w' fun e w'' => ∃ v', e = .returned v' ∧ BRow w'' B v' (xs ++ numsL l) ∧ w'.grownBy w'' v.ownBlock) := fun w' B v xs A l c L hl hr hn ha hi hL hx hB => by
    subst hl
    exact Lib.hid ((words_int w' B v xs A l c hr hn ha (fun x hx w'' _ => ofNumber_any x w'' (hi x hx).1 (hi x hx).2) hL hx hB).mono fun e w'' ⟨v', e1, e2, e3, _⟩ => ⟨v', e1, e2, e3⟩)
  have cS : ∀ (w' : World) (B : Nat) (v : Value) (xs : List Int) (A : Option Addr) (l : List St) (c : Nat), BRow w' B v xs → StsAt w' A l w'.heap.size → (0 < l.length → ∀ b o, A = some ⟨b, o, none⟩ → v.ownBlock ≠ some b) → l.length ≤ 70000 → xs.length ≤ 10000000 → B ≤ w'.heap.size → Hid (Calls Tryz.prog 28 #[v, .slice A l.length c, .func (.func 29) #[] #[]] w' fun e w'' => ∃ v', e = .returned v' ∧ BRow w'' B v' (xs ++ stsL l) ∧ w'.grownBy w'' v.ownBlock) := fun w' B v xs A l c hr hn ha hL hx hB =>
    Lib.hid ((words_step w' B v xs A l c hr hn ha (fun x _ w'' _ => ofStep_any x w'') hL hx hB).mono fun e w'' ⟨v', e1, e2, e3, _⟩ => ⟨v', e1, e2, e3⟩)
  have cP : ∀ (w' : World) (B : Nat) (v : Value) (xs : List Int) (A : Option Addr) (l : List St) (c : Nat), BRow w' B v xs → StsAt w' A l w'.heap.size → (0 < l.length → ∀ b o, A = some ⟨b, o, none⟩ → v.ownBlock ≠ some b) → l.length ≤ 70000 → xs.length ≤ 10000000 → B ≤ w'.heap.size → Hid (Calls Tryz.prog 30 #[v, .slice A l.length c, .func (.func 31) #[] #[]] w' fun e w'' => ∃ v', e = .returned v' ∧ BRow w'' B v' (xs ++ stsL l) ∧ w'.grownBy w'' v.ownBlock) := fun w' B v xs A l c hr hn ha hL hx hB =>
    Lib.hid ((words_pc w' B v xs A l c hr hn ha (fun x _ w'' _ => ofPieces_any x w'') hL hx hB).mono fun e w'' ⟨v', e1, e2, e3, _⟩ => ⟨v', e1, e2, e3⟩)
  have cM : ∀ (w' : World) (B : Nat) (v : Value) (xs : List Int) (A : Option Addr) (c : Nat) (v0 v1 v2 v3 : Value), Tabs4 w' v0 v1 v2 v3 (tW F) (tH F) (tD F) (tI F) B → BRow w' B v xs → MetsAt w' A F.chars w'.heap.size → (0 < F.chars.length → ∀ b o, A = some ⟨b, o, none⟩ → v.ownBlock ≠ some b) → xs.length ≤ 10000000 → B ≤ w'.heap.size → Hid (Calls Tryz.prog 26 #[v, .slice A F.chars.length c, .func (.func 27) #[.agg #[v0, v1, v2, v3]] #[]] w' fun e w'' => ∃ v', e = .returned v' ∧ BRow w'' B v' (xs ++ metsL F) ∧ w'.grownBy w'' v.ownBlock) := fun w' B v xs A c v0 v1 v2 v3 hT hr hn ha hx hB =>
    Lib.hid ((words_met w' B v xs A F.chars c (.agg #[v0, v1, v2, v3]) (metS (tW F) (tH F) (tD F) (tI F)) hr hn ha (fun x hx w'' hb => ofMetric_any v0 v1 v2 v3 _ _ _ _ x w'' ((hT.kept hb).more hb.size hB) (htag x hx)) (by omega) hx hB).mono fun e w'' ⟨v', e1, e2, e3, _⟩ => ⟨v', e1, e2, e3⟩)
  have HT4 : Hid ((tW F).length ≤ 255 ∧ (tH F).length ≤ 15 ∧ (tD F).length ≤ 15 ∧ (tI F).length ≤ 63) := by
    unfold Hid
    simp only [List.length_cons] at hL0 hL1 hL2 hL3
    omega
  have Hsrt := Lib.hid hsrt
  have HI := Lib.hid (And.intro i64W (And.intro i64H (And.intro i64D i64I)))
  have HFF := Lib.hid hF
  have HC2 := Lib.hid (And.intro hchk (And.intro hw.design (And.intro hw.kerns hw.params)))
  have HZ := Lib.hid (And.intro z1 (And.intro z2 (And.intro z3 (And.intro z4 (And.intro z5 (And.intro z6 (And.intro z7 (And.intro z8 z9))))))))
  have HBd := Lib.hid hbd
  have HSz := Lib.hid hsz
  have HX0 := Lib.hid hx0
  generalize wCnt F = C at *
  obtain ⟨c0, c1, c2, c3, c4, c5, c6, c7, c8, c9, c10, c11⟩ := C
  dsimp only at *
  have t0 : decide (256 < c4) = false := decide_eq_false g0
  have t1 : decide (16 < c5) = false := decide_eq_false g1
  have t2 : decide (16 < c6) = false := decide_eq_false g2
  have t3 : decide (64 < c7) = false := decide_eq_false g3
  have t4 : decide (32767 < c0) = false := decide_eq_false g4
  have HL0 := Lib.hid hL0
  clear hL0
  have HL1 := Lib.hid hL1
  clear hL1
  have HL2 := Lib.hid hL2
  clear hL2
  have HL3 := Lib.hid hL3
  clear hL3
  clear h hF' hF hw hbd hlen hsrt i64W i64H i64D i64I hsz htag hchk z1 z2 z3 z4 z5 z6 z7 z8 z9 hx0 g0 g1 g2 g3 g4
  go_enter Tryz.func6, Tryz.ntmps6
  go_wp2_with (fail)
  rw [← HW.out]
  refine (hs _ hk0).out.mono ?_
  rintro e w1 ⟨rfl, k1⟩
  have kw1 : Kept w w1 := hk0.trans k1
  obtain ⟨b10, b11, b12, b13, b14, b15, b16, b17, b1l⟩ := hB.kept k1
  go_wp2_with (fail)
  refine (hdim _ kw1).out.mono ?_
  rintro e w2 ⟨u0, u1, u2, u3, rfl, hrows, k2⟩
  have kW2 : Kept W w2 := k1.trans k2
  have kw2 : Kept w w2 := hk0.trans kW2
  obtain ⟨A0, q0, rfl, N0, p0⟩ := irow_nums hrows.r0 HL0.out
  obtain ⟨A1, q1, rfl, N1, p1⟩ := irow_nums hrows.r1 HL1.out
  obtain ⟨A2, q2, rfl, N2, p2⟩ := irow_nums hrows.r2 HL2.out
  obtain ⟨A3, q3, rfl, N3, p3⟩ := irow_nums hrows.r3 HL3.out
  obtain ⟨b20, b21, b22, b23, b24, b25, b26, b27, b2l⟩ := hB.kept kW2
  obtain ⟨D2, hD2⟩ : ∃ D2, D2 = w2.alloc (.cells #[.slice A0 L0 q0, .slice A1 L1 q1, .slice A2 L2 q2, .slice A3 L3 q3] 58) := ⟨_, rfl⟩
  have kD : Kept w2 D2 := by rw [hD2]; exact walloc _ _
  have hDo : DObj D2 w2.heap.size (.slice A0 L0 q0) (.slice A1 L1 q1) (.slice A2 L2 q2) (.slice A3 L3 q3) := by rw [hD2]; exact mkobj _ _
  have HD2 := Lib.hid hD2
  clear hD2 hrows
  go_wp2_with (fail)
  rw [← HD2.out]
  refine (hcnt _ _ _ _ _ _ _ _ _).out.mono ?_
  rintro e w3 ⟨rfl, k3⟩
  have kW3 : Kept W w3 := kW2.trans (kD.trans k3)
  have kw3 : Kept w w3 := hk0.trans kW3
  obtain ⟨b30, b31, b32, b33, b34, b35, b36, b37, b3l⟩ := hB.kept kW3
  have hDo3 := hDo.grown (row := none) (grown_kept k3) (by simp)
  obtain ⟨d30, d31, d32, d33, d3f, d3l⟩ := hDo3.cells
  obtain ⟨W3, hW3⟩ : ∃ W3, W3 = w3.alloc (.cells #[.int .i64 c0, .int .i64 c1, .int .i64 c2, .int .i64 c3, .int .i64 c4, .int .i64 c5, .int .i64 c6, .int .i64 c7, .int .i64 c8, .int .i64 c9, .int .i64 c10, .int .i64 c11] 61) := ⟨_, rfl⟩
  have kW : Kept w3 W3 := by rw [hW3]; exact walloc _ _
  have HW3 := Lib.hid hW3
  clear hW3
  go_wp2_with (fail)
  rw [← HW3.out]
  refine (hby _).out.mono ?_
  rintro e w4 ⟨v4, rfl, hr4, k4⟩
  obtain ⟨B1, hB1⟩ : ∃ B1, B1 = W3.heap.size := ⟨_, rfl⟩
  rw [← hB1] at hr4
  have kw34 : Kept w3 w4 := kW.trans k4
  have hlow : w3.heap.size ≤ B1 := by rw [hB1]; exact kW.size
  have hB4 : B1 ≤ w4.heap.size := by rw [hB1]; exact k4.size
  have HB1 := Lib.hid hB1
  clear hB1
  have hbox : ∀ w', Below B1 w4 w' → FBox w' w.heap.size F a ∧ DObj w' w2.heap.size (.slice A0 L0 q0) (.slice A1 L1 q1) (.slice A2 L2 q2) (.slice A3 L3 q3) ∧ FontAt w' F a w3.heap.size ∧ NumsAt w' A0 (0 :: tW F) B1 ∧ NumsAt w' A1 (0 :: tH F) B1 ∧ NumsAt w' A2 (0 :: tD F) B1 ∧ NumsAt w' A3 (0 :: tI F) B1 := fun w' hb => by
    have kk : Kept w3 w' := Below.trans kw34 (hb.mono hlow)
    have h2 : Kept w2 w' := (kD.trans k3).trans kk
    exact ⟨(hB.kept kW3).kept kk, hDo3.grown (row := none) (grown_kept kk) (by simp), ((HFF.out.kept (kw3.trans kk)).more kw3.size), (N0.kept h2).more (Nat.le_trans (kD.trans k3).size hlow), (N1.kept h2).more (Nat.le_trans (kD.trans k3).size hlow), (N2.kept h2).more (Nat.le_trans (kD.trans k3).size hlow), (N3.kept h2).more (Nat.le_trans (kD.trans k3).size hlow)⟩
  have s4 : Below B1 w4 w4 := Below.refl _ _
  obtain ⟨hbx4, hdo4, hff4, n40, n41, n42, n43⟩ := hbox w4 s4
  obtain ⟨x40, x41, x42, x43, x44, x45, x46, x47, x4l⟩ := hbx4
  obtain ⟨y40, y41, y42, y43, y4f, y4l⟩ := hdo4.cells
  go_wp2_with (fail)
  have kn : Kept w4 (w4.alloc (.cells #[.int .i64 F.check, .int .i64 F.design] 3)) := walloc _ _
  refine (cI _ B1 v4 X0 _ [F.check, F.design] _ 2 rfl (brow_kept hr4 kn) (nums2 (mkobj _ _) (by simp)) (fun _ b o e k => by cases e; have := (World.ownsRow.lt hr4 _ k).2; omega) (fun x hx => by simp at hx; rcases hx with rfl | rfl <;> first | exact HC2.out.1 | exact HC2.out.2.1) (by omega) (by have := HX0.out; omega) (Nat.le_trans hB4 kn.size)).out.mono ?_
  rintro e w5 ⟨v5, rfl, hr5, g5⟩
  have s5 : Below B1 w4 w5 := below_words (kn.mono hB4) (brow_kept hr4 kn) (Nat.le_trans hB4 kn.size) g5
  obtain ⟨hbx5, hdo5, hff5, n50, n51, n52, n53⟩ := hbox w5 s5
  obtain ⟨x50, x51, x52, x53, x54, x55, x56, x57, x5l⟩ := hbx5
  obtain ⟨y50, y51, y52, y53, y5f, y5l⟩ := hdo5.cells
  go_wp2_with (fail)
  refine (cM _ B1 v5 _ _ _ _ _ _ _ ⟨⟨A0, q0, by rw [HL0.out], n50, p0⟩, ⟨A1, q1, by rw [HL1.out], n51, p1⟩, ⟨A2, q2, by rw [HL2.out], n52, p2⟩, ⟨A3, q3, by rw [HL3.out], n53, p3⟩, HT4.out.1, HT4.out.2.1, HT4.out.2.2.1, HT4.out.2.2.2, Hsrt.out.1, Hsrt.out.2.1, Hsrt.out.2.2.1, Hsrt.out.2.2.2⟩ hr5 (hff5.m.more (Nat.le_trans (Nat.le_trans hlow hB4) s5.size)) (fun hn => apart_low hr5 (fun b o e => Nat.lt_of_lt_of_le (MetsAt.low hff5.m hn b o e) hlow)) (by have := HX0.out; obtain ⟨z1, z2, z3, z4, z5, z6, z7, z8, z9⟩ := HZ.out; have := HBd.out; have := HSz.out; simp only [List.length_append]; omega) (Nat.le_trans hB4 s5.size)).out.mono ?_
  rintro e w6 ⟨v6, rfl, hr6, g6⟩
  have s6 : Below B1 w4 w6 := below_words s5 hr5 (Nat.le_trans hB4 s5.size) g6
  obtain ⟨hbx6, hdo6, hff6, n60, n61, n62, n63⟩ := hbox w6 s6
  obtain ⟨x60, x61, x62, x63, x64, x65, x66, x67, x6l⟩ := hbx6
  obtain ⟨y60, y61, y62, y63, y6f, y6l⟩ := hdo6.cells
  go_wp2_with (fail)
  refine wp_loop_rounds 5 ?_
  rw [rounds_succ]
  go_wp2_with (fail)
  refine (cI _ B1 v6 _ _ (0 :: tW F) _ L0 HL0.out hr6 (n60.more (Nat.le_trans hB4 s6.size)) (fun hn => apart_low hr6 (NumsAt.low n60 hn)) HI.out.1 (by have := HSz.out; omega) (by have := HX0.out; obtain ⟨z1, z2, z3, z4, z5, z6, z7, z8, z9⟩ := HZ.out; have := HBd.out; have := HSz.out; simp only [List.length_append]; omega) (Nat.le_trans hB4 s6.size)).out.mono ?_
  rintro e w7 ⟨v7, rfl, hr7, g7⟩
  have s7 : Below B1 w4 w7 := below_words s6 hr6 (Nat.le_trans hB4 s6.size) g7
  obtain ⟨hbx7, hdo7, hff7, n70, n71, n72, n73⟩ := hbox w7 s7
  obtain ⟨x70, x71, x72, x73, x74, x75, x76, x77, x7l⟩ := hbx7
  obtain ⟨y70, y71, y72, y73, y7f, y7l⟩ := hdo7.cells
  go_wp2_with (fail)
  rw [rounds_succ]
  go_wp2_with (fail)
  refine (cI _ B1 v7 _ _ (0 :: tH F) _ L1 HL1.out hr7 (n71.more (Nat.le_trans hB4 s7.size)) (fun hn => apart_low hr7 (NumsAt.low n71 hn)) HI.out.2.1 (by have := HSz.out; omega) (by have := HX0.out; obtain ⟨z1, z2, z3, z4, z5, z6, z7, z8, z9⟩ := HZ.out; have := HBd.out; have := HSz.out; simp only [List.length_append]; omega) (Nat.le_trans hB4 s7.size)).out.mono ?_
  rintro e w8 ⟨v8, rfl, hr8, g8⟩
  have s8 : Below B1 w4 w8 := below_words s7 hr7 (Nat.le_trans hB4 s7.size) g8
  obtain ⟨hbx8, hdo8, hff8, n80, n81, n82, n83⟩ := hbox w8 s8
  obtain ⟨x80, x81, x82, x83, x84, x85, x86, x87, x8l⟩ := hbx8
  obtain ⟨y80, y81, y82, y83, y8f, y8l⟩ := hdo8.cells
  go_wp2_with (fail)
  rw [rounds_succ]
  go_wp2_with (fail)
  refine (cI _ B1 v8 _ _ (0 :: tD F) _ L2 HL2.out hr8 (n82.more (Nat.le_trans hB4 s8.size)) (fun hn => apart_low hr8 (NumsAt.low n82 hn)) HI.out.2.2.1 (by have := HSz.out; omega) (by have := HX0.out; obtain ⟨z1, z2, z3, z4, z5, z6, z7, z8, z9⟩ := HZ.out; have := HBd.out; have := HSz.out; simp only [List.length_append]; omega) (Nat.le_trans hB4 s8.size)).out.mono ?_
  rintro e w9 ⟨v9, rfl, hr9, g9⟩
  have s9 : Below B1 w4 w9 := below_words s8 hr8 (Nat.le_trans hB4 s8.size) g9
  obtain ⟨hbx9, hdo9, hff9, n90, n91, n92, n93⟩ := hbox w9 s9
  obtain ⟨x90, x91, x92, x93, x94, x95, x96, x97, x9l⟩ := hbx9
  obtain ⟨y90, y91, y92, y93, y9f, y9l⟩ := hdo9.cells
  go_wp2_with (fail)
  rw [rounds_succ]
  go_wp2_with (fail)
  refine (cI _ B1 v9 _ _ (0 :: tI F) _ L3 HL3.out hr9 (n93.more (Nat.le_trans hB4 s9.size)) (fun hn => apart_low hr9 (NumsAt.low n93 hn)) HI.out.2.2.2 (by have := HSz.out; omega) (by have := HX0.out; obtain ⟨z1, z2, z3, z4, z5, z6, z7, z8, z9⟩ := HZ.out; have := HBd.out; have := HSz.out; simp only [List.length_append]; omega) (Nat.le_trans hB4 s9.size)).out.mono ?_
  rintro e w10 ⟨v10, rfl, hr10, g10⟩
  have s10 : Below B1 w4 w10 := below_words s9 hr9 (Nat.le_trans hB4 s9.size) g10
  obtain ⟨hbx10, hdo10, hff10, n100, n101, n102, n103⟩ := hbox w10 s10
  obtain ⟨x100, x101, x102, x103, x104, x105, x106, x107, x10l⟩ := hbx10
  obtain ⟨y100, y101, y102, y103, y10f, y10l⟩ := hdo10.cells
  go_wp2_with (fail)
  rw [rounds_succ]
  go_wp2_with (fail)
  refine (cS _ B1 v10 _ _ F.steps _ hr10 (hff10.s.more (Nat.le_trans (Nat.le_trans hlow hB4) s10.size)) (fun hn => apart_low hr10 (fun b o e => Nat.lt_of_lt_of_le (StsAt.low hff10.s hn b o e) hlow)) (by have := HBd.out; omega) (by have := HX0.out; obtain ⟨z1, z2, z3, z4, z5, z6, z7, z8, z9⟩ := HZ.out; have := HBd.out; have := HSz.out; simp only [List.length_append]; omega) (Nat.le_trans hB4 s10.size)).out.mono ?_
  rintro e w11 ⟨v11, rfl, hr11, g11⟩
  have s11 : Below B1 w4 w11 := below_words s10 hr10 (Nat.le_trans hB4 s10.size) g11
  obtain ⟨hbx11, hdo11, hff11, n110, n111, n112, n113⟩ := hbox w11 s11
  obtain ⟨x110, x111, x112, x113, x114, x115, x116, x117, x11l⟩ := hbx11
  obtain ⟨y110, y111, y112, y113, y11f, y11l⟩ := hdo11.cells
  go_wp2_with (fail)
  refine (cI _ B1 v11 _ _ F.kerns _ _ rfl hr11 (hff11.k.more (Nat.le_trans (Nat.le_trans hlow hB4) s11.size)) (fun hn => apart_low hr11 (fun b o e => Nat.lt_of_lt_of_le (NumsAt.low hff11.k hn b o e) hlow)) HC2.out.2.2.1 (by have := HBd.out; omega) (by have := HX0.out; obtain ⟨z1, z2, z3, z4, z5, z6, z7, z8, z9⟩ := HZ.out; have := HBd.out; have := HSz.out; simp only [List.length_append]; omega) (Nat.le_trans hB4 s11.size)).out.mono ?_
  rintro e w12 ⟨v12, rfl, hr12, g12⟩
  have s12 : Below B1 w4 w12 := below_words s11 hr11 (Nat.le_trans hB4 s11.size) g12
  obtain ⟨hbx12, hdo12, hff12, n120, n121, n122, n123⟩ := hbox w12 s12
  obtain ⟨x120, x121, x122, x123, x124, x125, x126, x127, x12l⟩ := hbx12
  obtain ⟨y120, y121, y122, y123, y12f, y12l⟩ := hdo12.cells
  go_wp2_with (fail)
  refine (cP _ B1 v12 _ _ F.pieces _ hr12 (hff12.p.more (Nat.le_trans (Nat.le_trans hlow hB4) s12.size)) (fun hn => apart_low hr12 (fun b o e => Nat.lt_of_lt_of_le (StsAt.low hff12.p hn b o e) hlow)) (by have := HBd.out; omega) (by have := HX0.out; obtain ⟨z1, z2, z3, z4, z5, z6, z7, z8, z9⟩ := HZ.out; have := HBd.out; have := HSz.out; simp only [List.length_append]; omega) (Nat.le_trans hB4 s12.size)).out.mono ?_
  rintro e w13 ⟨v13, rfl, hr13, g13⟩
  have s13 : Below B1 w4 w13 := below_words s12 hr12 (Nat.le_trans hB4 s12.size) g13
  obtain ⟨hbx13, hdo13, hff13, n130, n131, n132, n133⟩ := hbox w13 s13
  obtain ⟨x130, x131, x132, x133, x134, x135, x136, x137, x13l⟩ := hbx13
  obtain ⟨y130, y131, y132, y133, y13f, y13l⟩ := hdo13.cells
  go_wp2_with (fail)
  refine (cI _ B1 v13 _ _ F.params _ _ rfl hr13 (hff13.q.more (Nat.le_trans (Nat.le_trans hlow hB4) s13.size)) (fun hn => apart_low hr13 (fun b o e => Nat.lt_of_lt_of_le (NumsAt.low hff13.q hn b o e) hlow)) HC2.out.2.2.2 (by have := HBd.out; omega) (by have := HX0.out; obtain ⟨z1, z2, z3, z4, z5, z6, z7, z8, z9⟩ := HZ.out; have := HBd.out; have := HSz.out; simp only [List.length_append]; omega) (Nat.le_trans hB4 s13.size)).out.mono ?_
  rintro e w14 ⟨v14, rfl, hr14, g14⟩
  have s14 : Below B1 w4 w14 := below_words s13 hr13 (Nat.le_trans hB4 s13.size) g14
  go_wp2_with (fail)
  go_ret2
  exact ⟨_, rfl, ⟨hr14.1, hr14.2.imp id fun ⟨g, cap, cur, e, hb, q⟩ => ⟨g, cap, cur, e, Nat.le_trans (Nat.le_trans kw3.size hlow) hb, q⟩⟩, Below.trans (kw3.trans kw34) (s14.mono (Nat.le_trans kw3.size hlow))⟩

theorem write_any (F : Fnt) (a : FAddr) (w : World) (hF : FontAt w F a w.heap.size) (hw : F.wf) :
    Calls Tryz.prog 6 #[fontV F a] w fun e w' => ∃ v, e = .returned (.tuple #[v, .int .i64 (writeE F)]) ∧ BRow w' w.heap.size v (writeB F) ∧ Kept w w' := by
  unfold writeB writeE
  by_cases h : fontE F = 0
  · rw [if_pos h]
    have e0 : (wCnt F).nw = ((0 :: tW F).length : Nat) := rfl
    have e1 : (wCnt F).nh = ((0 :: tH F).length : Nat) := rfl
    have e2 : (wCnt F).nd = ((0 :: tD F).length : Nat) := rfl
    have e3 : (wCnt F).ni = ((0 :: tI F).length : Nat) := rfl
    have no : ∀ (_ : ¬ ((0 :: tW F).length ≤ 256 ∧ (0 :: tH F).length ≤ 16 ∧ (0 :: tD F).length ≤ 16 ∧ (0 :: tI F).length ≤ 64 ∧ (wCnt F).lf ≤ 32767)), sizesB F = false := fun h => decide_eq_false h
    by_cases g0 : 256 < (wCnt F).nw
    case pos =>
      rw [no (by omega)]; exact write_s0 F a w hF hw h g0
    by_cases g1 : 16 < (wCnt F).nh
    case pos =>
      rw [no (by omega)]; exact write_s1 F a w hF hw h g0 g1
    by_cases g2 : 16 < (wCnt F).nd
    case pos =>
      rw [no (by omega)]; exact write_s2 F a w hF hw h g0 g1 g2
    by_cases g3 : 64 < (wCnt F).ni
    case pos =>
      rw [no (by omega)]; exact write_s3 F a w hF hw h g0 g1 g2 g3
    by_cases g4 : 32767 < (wCnt F).lf
    case pos =>
      rw [no (by omega)]; exact write_s4 F a w hF hw h g0 g1 g2 g3 g4
    rw [show sizesB F = true from decide_eq_true (by omega)]
    exact write_ok F a w hF hw h g0 g1 g2 g3 g4
  · have h40 : fontE F = 40 := by unfold fontE at h ⊢; split at h; exact absurd rfl h; rw [if_neg (by assumption)]
    rw [if_neg h]
    exact write_bad F a w hF hw h40
end Go.Proofs.YtdhidpbenhmfgaaGreat
