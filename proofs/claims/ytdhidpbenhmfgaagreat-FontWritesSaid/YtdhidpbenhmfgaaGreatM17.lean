/- CMet CCof0. -/
import Derived.Test.YtdhidpbenhmfgaaGreatCWords
import Derived.Laws.BitsLemmas
import Derived.Laws.Bits128
import Derived.Deep.MidRow
namespace Go.Proofs.YtdhidpbenhmfgaaGreat
open Go.RowKit

/-- four tables: each begins with 0; the rests rise -/
structure Tabs4 (w : World) (v0 v1 v2 v3 : Value) (x0 x1 x2 x3 : List Int) (B : Nat) : Prop where
  t0 : ∃ A c, v0 = .slice A (0 :: x0).length c ∧ NumsAt w A (0 :: x0) B ∧ x0.length + 1 ≤ c
  t1 : ∃ A c, v1 = .slice A (0 :: x1).length c ∧ NumsAt w A (0 :: x1) B ∧ x1.length + 1 ≤ c
  t2 : ∃ A c, v2 = .slice A (0 :: x2).length c ∧ NumsAt w A (0 :: x2) B ∧ x2.length + 1 ≤ c
  t3 : ∃ A c, v3 = .slice A (0 :: x3).length c ∧ NumsAt w A (0 :: x3) B ∧ x3.length + 1 ≤ c
  l0 : x0.length ≤ 255
  l1 : x1.length ≤ 15
  l2 : x2.length ≤ 15
  l3 : x3.length ≤ 63
  s0 : x0.Pairwise (· ≤ ·)
  s1 : x1.Pairwise (· ≤ ·)
  s2 : x2.Pairwise (· ≤ ·)
  s3 : x3.Pairwise (· ≤ ·)
theorem Tabs4.kept {w w' : World} {v0 v1 v2 v3 : Value} {x0 x1 x2 x3 : List Int} {B : Nat} (h : Tabs4 w v0 v1 v2 v3 x0 x1 x2 x3 B) (k : Below B w w') : Tabs4 w' v0 v1 v2 v3 x0 x1 x2 x3 B := by
  obtain ⟨⟨A0, c0, e0, n0, q0⟩, ⟨A1, c1, e1, n1, q1⟩, ⟨A2, c2, e2, n2, q2⟩, ⟨A3, c3, e3, n3, q3⟩, l0, l1, l2, l3, s0, s1, s2, s3⟩ := h
  exact ⟨⟨A0, c0, e0, n0.kept k, q0⟩, ⟨A1, c1, e1, n1.kept k, q1⟩, ⟨A2, c2, e2, n2.kept k, q2⟩, ⟨A3, c3, e3, n3.kept k, q3⟩, l0, l1, l2, l3, s0, s1, s2, s3⟩
theorem cell_set4 {z : World} {R B o : Nat} {a b c d v : Value} (h : z.cell? ⟨B, o, none⟩ = some v) (hne : B ≠ R) : ((((z.setCell ⟨R, 0, none⟩ a).setCell ⟨R, 1, none⟩ b).setCell ⟨R, 2, none⟩ c).setCell ⟨R, 3, none⟩ d).cell? ⟨B, o, none⟩ = some v := by
  have g : ∀ (z : World) (j : Nat) (u : Value), (z.setCell ⟨R, j, none⟩ u).cell? ⟨B, o, none⟩ = z.cell? ⟨B, o, none⟩ := fun z j u => World.cell?_setCell_other _ _ _ _ (by intro e; cases e; exact hne rfl)
  rw [g, g, g, g]; exact h
theorem place_lt {l : List Int} {n : Int} {m : Nat} (h : l.length ≤ m) : 0 ≤ placeL l n ∧ placeL l n ≤ m := by
  unfold placeL
  cases hc : l.contains n with
  | false => simp
  | true =>
    have := count_lt hc
    simp only [if_true]
    omega
/-- a character's word -/
def metS (x0 x1 x2 x3 : List Int) (m : Met) : St :=
  if m.tag = -1 then ⟨0, 0, 0, 0⟩ else ⟨placeL x0 m.w, placeL x1 m.h * 16 + placeL x2 m.d, placeL x3 m.it * 4 + m.tag, m.rest⟩

set_option maxHeartbeats 2000000 in
theorem ofMetric_neg (v0 v1 v2 v3 : Value) (m : Met) (w : World) (ht : m.tag = -1) :
    Calls Tryz.prog 27 #[.agg #[v0, v1, v2, v3], metA m] w fun e w' => e = .returned (stA ⟨0, 0, 0, 0⟩) ∧ Kept w w' := by
  obtain ⟨mw, mh, md, mi, mt, mr⟩ := m
  dsimp only at *
  have z : (mt == -1) = true := by simpa using ht
  clear ht
  go_enter Tryz.func27, Tryz.ntmps27
  go_wp2_with (fail)
  exact bodyPost_ret (v := stA ⟨0, 0, 0, 0⟩) (by simp [results, Tryz.results27, go_sem]) rfl ⟨rfl, (by repeat (first | exact Kept.refl _ | assumption | refine kalloc ?_ _ | refine Below.setCell ?_ (by simp; try omega) _ | refine below_drewN ?_ _ | refine Below.drew ?_))⟩

set_option maxRecDepth 100000 in
set_option maxHeartbeats 8000000 in
theorem ofMetric_pos (v0 v1 v2 v3 : Value) (x0 x1 x2 x3 : List Int) (m : Met) (w : World) (hT : Tabs4 w v0 v1 v2 v3 x0 x1 x2 x3 w.heap.size) (h0 : 0 ≤ m.tag ∧ m.tag ≤ 3) (h1 : 0 ≤ m.rest ∧ m.rest ≤ 255) :
    Calls Tryz.prog 27 #[.agg #[v0, v1, v2, v3], metA m] w fun e w' => e = .returned (stA ⟨placeL x0 m.w, placeL x1 m.h * 16 + placeL x2 m.d, placeL x3 m.it * 4 + m.tag, m.rest⟩) ∧ Kept w w' := by
  obtain ⟨A0, c0, e0, n0, q0⟩ := hT.t0
  obtain ⟨A1, c1, e1, n1, q1⟩ := hT.t1
  obtain ⟨A2, c2, e2, n2, q2⟩ := hT.t2
  obtain ⟨A3, c3, e3, n3, q3⟩ := hT.t3
  have hp0 := fun w' (hk : Kept w w') => Lib.hid (place_any A0 0 x0 c0 m.w w' w.heap.size (n0.kept hk) q0 (Nat.le_trans hT.l0 (by omega)) hT.s0)
  obtain ⟨b0, u0⟩ := place_lt (n := m.w) hT.l0
  have hp1 := fun w' (hk : Kept w w') => Lib.hid (place_any A1 0 x1 c1 m.h w' w.heap.size (n1.kept hk) q1 (Nat.le_trans hT.l1 (by omega)) hT.s1)
  obtain ⟨b1, u1⟩ := place_lt (n := m.h) hT.l1
  have hp2 := fun w' (hk : Kept w w') => Lib.hid (place_any A2 0 x2 c2 m.d w' w.heap.size (n2.kept hk) q2 (Nat.le_trans hT.l2 (by omega)) hT.s2)
  obtain ⟨b2, u2⟩ := place_lt (n := m.d) hT.l2
  have hp3 := fun w' (hk : Kept w w') => Lib.hid (place_any A3 0 x3 c3 m.it w' w.heap.size (n3.kept hk) q3 (Nat.le_trans hT.l3 (by omega)) hT.s3)
  obtain ⟨b3, u3⟩ := place_lt (n := m.it) hT.l3
  generalize placeL x0 m.w = p0 at *
  generalize placeL x1 m.h = p1 at *
  generalize placeL x2 m.d = p2 at *
  generalize placeL x3 m.it = p3 at *
  clear hT
  generalize (0 :: x0).length = L0 at *
  generalize (0 :: x1).length = L1 at *
  generalize (0 :: x2).length = L2 at *
  generalize (0 :: x3).length = L3 at *
  subst e0 e1 e2 e3
  obtain ⟨W, hW⟩ : ∃ W, W = ((w.alloc (.cells #[.slice A0 L0 c0, .slice A1 L1 c1, .slice A2 L2 c2, .slice A3 L3 c3] 58)).alloc (.cells #[.int .i64 m.w, .int .i64 m.h, .int .i64 m.d, .int .i64 m.it, .int .i64 m.tag, .int .i64 m.rest] 43)).alloc (.cells #[.int .u8 0, .int .u8 0, .int .u8 0, .int .u8 0] 94) := ⟨_, rfl⟩
  have hk0 : Kept w W := by rw [hW]; exact ((walloc _ _).trans (walloc _ _)).trans (walloc _ _)
  obtain ⟨mw, mh, md, mi, mt, mr⟩ := m
  dsimp only at *
  have hS : ∀ w', Kept W w' → Hid (w'.cell? ⟨w.heap.size, 0, none⟩ = some (.slice A0 L0 c0) ∧ w'.cell? ⟨w.heap.size, 1, none⟩ = some (.slice A1 L1 c1) ∧ w'.cell? ⟨w.heap.size, 2, none⟩ = some (.slice A2 L2 c2) ∧ w'.cell? ⟨w.heap.size, 3, none⟩ = some (.slice A3 L3 c3) ∧ w'.cell? ⟨w.heap.size + 1, 0, none⟩ = some (.int .i64 mw) ∧ w'.cell? ⟨w.heap.size + 1, 1, none⟩ = some (.int .i64 mh) ∧ w'.cell? ⟨w.heap.size + 1, 2, none⟩ = some (.int .i64 md) ∧ w'.cell? ⟨w.heap.size + 1, 3, none⟩ = some (.int .i64 mi) ∧ w'.cell? ⟨w.heap.size + 1, 4, none⟩ = some (.int .i64 mt) ∧ w'.cell? ⟨w.heap.size + 1, 5, none⟩ = some (.int .i64 mr)) := fun w' hk => by
    have g : ∀ (B o : Nat) (v : Value), B < W.heap.size → W.cell? ⟨B, o, none⟩ = some v → w'.cell? ⟨B, o, none⟩ = some v := fun B o v hB h => (hk.cell (p := ⟨B, o, none⟩) hB).trans h
    have hs : W.heap.size = w.heap.size + 3 := by rw [hW]; simp
    refine Lib.hid ⟨g _ _ _ (by omega) (by rw [hW]; go_simp), g _ _ _ (by omega) (by rw [hW]; go_simp), g _ _ _ (by omega) (by rw [hW]; go_simp), g _ _ _ (by omega) (by rw [hW]; go_simp), g _ _ _ (by omega) (by rw [hW]; go_simp), g _ _ _ (by omega) (by rw [hW]; go_simp), g _ _ _ (by omega) (by rw [hW]; go_simp), g _ _ _ (by omega) (by rw [hW]; go_simp), g _ _ _ (by omega) (by rw [hW]; go_simp), g _ _ _ (by omega) (by rw [hW]; go_simp)⟩
  have hR : ∀ w', Kept W w' → Hid (w'.cell? ⟨w.heap.size + 2, 0, none⟩ = some (.int .u8 0) ∧ w'.frozen? ⟨w.heap.size + 2, 0, none⟩ = false ∧ w'.cell? ⟨w.heap.size + 2, 1, none⟩ = some (.int .u8 0) ∧ w'.frozen? ⟨w.heap.size + 2, 1, none⟩ = false ∧ w'.cell? ⟨w.heap.size + 2, 2, none⟩ = some (.int .u8 0) ∧ w'.frozen? ⟨w.heap.size + 2, 2, none⟩ = false ∧ w'.cell? ⟨w.heap.size + 2, 3, none⟩ = some (.int .u8 0) ∧ w'.frozen? ⟨w.heap.size + 2, 3, none⟩ = false) := fun w' hk => by
    have g : ∀ (B o : Nat) (v : Value), B < W.heap.size → W.cell? ⟨B, o, none⟩ = some v → w'.cell? ⟨B, o, none⟩ = some v := fun B o v hB h => (hk.cell (p := ⟨B, o, none⟩) hB).trans h
    have g' : ∀ (B o : Nat), B < W.heap.size → W.frozen? ⟨B, o, none⟩ = false → w'.frozen? ⟨B, o, none⟩ = false := fun B o hB h => (hk.frozen (p := ⟨B, o, none⟩) hB).trans h
    have hs : W.heap.size = w.heap.size + 3 := by rw [hW]; simp
    refine Lib.hid ⟨g _ _ _ (by omega) (by rw [hW]; go_simp), g' _ _ (by omega) (by rw [hW]; go_simp), g _ _ _ (by omega) (by rw [hW]; go_simp), g' _ _ (by omega) (by rw [hW]; go_simp), g _ _ _ (by omega) (by rw [hW]; go_simp), g' _ _ (by omega) (by rw [hW]; go_simp), g _ _ _ (by omega) (by rw [hW]; go_simp), g' _ _ (by omega) (by rw [hW]; go_simp)⟩
  have HW := Lib.hid hW
  have kb : Kept W W.drew := (Kept.refl W).drew
  have z : (mt == -1) = false := by simp; omega
  have y1 : IntKind.u8.wrap (p1 * 16) = p1 * 16 := wrap_u8_id (by omega) (by omega)
  have y2 : bits .or .u8 (p1 * 16) p2 = p1 * 16 + p2 := bits_join .u8 8 (by decide) wraps_u8 4 _ _ (by omega) (by omega) (by omega) (by omega) (by omega) (by omega)
  have y3 : IntKind.u8.wrap (p3 * 4) = p3 * 4 := wrap_u8_id (by omega) (by omega)
  have y4 : IntKind.u8.wrap mt = mt := wrap_u8_id (by omega) (by omega)
  have y5 : bits .or .u8 (p3 * 4) mt = p3 * 4 + mt := bits_join .u8 8 (by decide) wraps_u8 2 _ _ (by omega) (by omega) (by omega) (by omega) (by omega) (by omega)
  have y6 : IntKind.u8.wrap mr = mr := wrap_u8_id (by omega) (by omega)
  have tk0 : True := trivial
  clear hW n0 n1 n2 n3 q0 q1 q2 q3
  go_enter Tryz.func27, Tryz.ntmps27
  go_wp2_with (fail)
  rw [← HW.out]
  go_region_held3 (fun w' => w'.cell? ⟨w.heap.size, 0, none⟩ = some (.slice A0 L0 c0) ∧ w'.cell? ⟨w.heap.size, 1, none⟩ = some (.slice A1 L1 c1) ∧ w'.cell? ⟨w.heap.size, 2, none⟩ = some (.slice A2 L2 c2) ∧ w'.cell? ⟨w.heap.size, 3, none⟩ = some (.slice A3 L3 c3) ∧ w'.cell? ⟨w.heap.size + 1, 0, none⟩ = some (.int .i64 mw) ∧ w'.cell? ⟨w.heap.size + 1, 1, none⟩ = some (.int .i64 mh) ∧ w'.cell? ⟨w.heap.size + 1, 2, none⟩ = some (.int .i64 md) ∧ w'.cell? ⟨w.heap.size + 1, 3, none⟩ = some (.int .i64 mi) ∧ w'.cell? ⟨w.heap.size + 1, 4, none⟩ = some (.int .i64 mt) ∧ w'.cell? ⟨w.heap.size + 1, 5, none⟩ = some (.int .i64 mr)) (first | exact (hS _ (by assumption)).out | exact ⟨cell_set4 d0 (by omega), cell_set4 d1 (by omega), cell_set4 d2 (by omega), cell_set4 d3 (by omega), cell_set4 d4 (by omega), cell_set4 d5 (by omega), cell_set4 d6 (by omega), cell_set4 d7 (by omega), cell_set4 d8 (by omega), cell_set4 d9 (by omega)⟩) (first
    | (have _t := tk0; go_at_call 57; refine (hp0 _ (hk0.trans kb)).out.mono ?_; rintro e z0 ⟨rfl, k1⟩; have kc := kb.trans k1; clear kb k1 tk0 _t; have kb := kc; clear kc; have tk1 : True := trivial)
    | (have _t := tk1; go_at_call 57; refine (hp1 _ (hk0.trans kb)).out.mono ?_; rintro e z1 ⟨rfl, k1⟩; have kc := kb.trans k1; clear kb k1 tk1 _t; have kb := kc; clear kc; have tk2 : True := trivial)
    | (have _t := tk2; go_at_call 57; refine (hp2 _ (hk0.trans kb)).out.mono ?_; rintro e z2 ⟨rfl, k1⟩; have kc := kb.trans k1; clear kb k1 tk2 _t; have kb := kc; clear kc; have tk3 : True := trivial)
    | (have _t := tk3; go_at_call 57; refine (hp3 _ (hk0.trans kb)).out.mono ?_; rintro e z3 ⟨rfl, k1⟩; have kc := kb.trans k1; clear kb k1 tk3 _t; have kb := kc; clear kc; have tk4 : True := trivial; obtain ⟨r0, f0, r1, f1, r2, f2, r3, f3⟩ := (hR _ kb).out; obtain ⟨d0, d1, d2, d3, d4, d5, d6, d7, d8, d9⟩ := (hS _ kb).out))
  all_goals go_wp2_with (fail)
  all_goals exact bodyPost_ret (v := stA ⟨p0, p1 * 16 + p2, p3 * 4 + mt, mr⟩) (by simp [results, Tryz.results27, go_sem, r0, r1, r2, r3]) rfl ⟨rfl, ((((Below.setCell (p := ⟨w.heap.size + 2, 0, none⟩) (hk0.trans kb) (by simp; try omega) _).setCell (p := ⟨w.heap.size + 2, 1, none⟩) (by simp; try omega) _).setCell (p := ⟨w.heap.size + 2, 2, none⟩) (by simp; try omega) _).setCell (p := ⟨w.heap.size + 2, 3, none⟩) (by simp; try omega) _)⟩

theorem ofMetric_any (v0 v1 v2 v3 : Value) (x0 x1 x2 x3 : List Int) (m : Met) (w : World) (hT : Tabs4 w v0 v1 v2 v3 x0 x1 x2 x3 w.heap.size) (h : m.tag = -1 ∨ 0 ≤ m.tag ∧ m.tag ≤ 3 ∧ 0 ≤ m.rest ∧ m.rest ≤ 255) :
    Calls Tryz.prog 27 #[.agg #[v0, v1, v2, v3], metA m] w fun e w' => e = .returned (stA (metS x0 x1 x2 x3 m)) ∧ Kept w w' := by
  unfold metS
  by_cases ht : m.tag = -1
  · rw [if_pos ht]; exact ofMetric_neg v0 v1 v2 v3 m w ht
  · rw [if_neg ht]; exact ofMetric_pos v0 v1 v2 v3 x0 x1 x2 x3 m w hT (by omega) (by omega)
end Go.Proofs.YtdhidpbenhmfgaaGreat
namespace Go.Proofs.YtdhidpbenhmfgaaGreat
open Go.RowKit

theorem below_setCells {B b : Nat} {w : World} (l : List Value) : ∀ (o : Nat) (w' : World), Below B w w' → B ≤ b → Below B w (w'.setCells b o l) := by
  induction l with
  | nil => exact fun _ _ h _ => h
  | cons v l ih => exact fun o w' h hb => ih (o + 1) _ (h.setCell (p := ⟨b, o, none⟩) hb v) hb
/-- the counts but for how many words they come to -/
def cnt0 (F : Fnt) (n0 n1 n2 n3 : Int) : Cnt := ⟨0, 2, if F.chars.length = 0 then 1 else F.first, if F.chars.length = 0 then 0 else F.first + F.chars.length - 1, n0, n1, n2, n3, F.steps.length, F.kerns.length, F.pieces.length, F.params.length⟩
def cntOf (F : Fnt) (n0 n1 n2 n3 : Int) : Cnt := { cnt0 F n0 n1 n2 n3 with lf := wordsC (cnt0 F n0 n1 n2 n3) }
theorem cells12 {w : World} {B : Nat} {T : TypeId} {v0 v1 v2 v3 v4 v5 v6 v7 v8 v9 v10 v11 : Value} (h : w.heap[B]? = some (.cells #[v0, v1, v2, v3, v4, v5, v6, v7, v8, v9, v10, v11] T (0, 0))) :
    w.cell? ⟨B, 0, none⟩ = some v0 ∧ w.cell? ⟨B, 1, none⟩ = some v1 ∧ w.cell? ⟨B, 2, none⟩ = some v2 ∧ w.cell? ⟨B, 3, none⟩ = some v3 ∧ w.cell? ⟨B, 4, none⟩ = some v4 ∧ w.cell? ⟨B, 5, none⟩ = some v5 ∧ w.cell? ⟨B, 6, none⟩ = some v6 ∧ w.cell? ⟨B, 7, none⟩ = some v7 ∧ w.cell? ⟨B, 8, none⟩ = some v8 ∧ w.cell? ⟨B, 9, none⟩ = some v9 ∧ w.cell? ⟨B, 10, none⟩ = some v10 ∧ w.cell? ⟨B, 11, none⟩ = some v11 ∧ (∀ o, w.frozen? ⟨B, o, none⟩ = false) ∧ B < w.heap.size := by
  refine ⟨?_, ?_, ?_, ?_, ?_, ?_, ?_, ?_, ?_, ?_, ?_, ?_, fun o => ?_, ?_⟩
  case refine_14 =>
    rcases Nat.lt_or_ge B w.heap.size with h' | h'
    · exact h'
    · simp [Array.getElem?_eq_none h'] at h
  all_goals first | simp [World.cell?, h] | simp [World.frozen?, h]

end Go.Proofs.YtdhidpbenhmfgaaGreat
