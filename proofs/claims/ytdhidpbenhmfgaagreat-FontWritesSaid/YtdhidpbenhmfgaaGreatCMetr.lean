/- font's reader: a character's word. -/
import Derived.Test.YtdhidpbenhmfgaaGreatCTable
import Derived.Test.YtdhidpbenhmfgaaGreatCRead2
import Derived.Test.YtdhidpbenhmfgaaGreatCNext
import Derived.Laws.BitsAllLaws
import Derived.Deep.RegionHeld3
namespace Go.Proofs.YtdhidpbenhmfgaaGreat
open Go.RowKit

theorem numberI (A : Option Addr) (l : List Int) (L c : Nat) (n : Int) (w : World) (hL : l.length = L) (h : NumsAt w A l w.heap.size) (h0 : 0 ≤ n) (hn : n ≤ 255) (hl : L ≤ 1000000) :
    Calls Tryz.prog 96 #[.slice A L c, .int .u8 n] w fun e w' => (n < L ∧ e = .returned (.int .i64 (l[n.toNat]?.getD 0)) ∧ w' = w) ∨ (¬ n < L ∧ e = .panicked giveUp ∧ w' = w) := by
  subst hL
  obtain ⟨m, rfl⟩ : ∃ m : Nat, n = m := ⟨n.toNat, by omega⟩
  by_cases hlt : m < l.length
  · obtain ⟨b, o, rfl, hb, hc⟩ := h (by omega)
    have c0 := hc m hlt
    have e0 : l[(m : Int).toNat]?.getD 0 = l[m] := by rw [show ((m : Int)).toNat = m from rfl, List.getElem?_eq_getElem hlt]; rfl
    rw [e0]
    have d0 : decide (m < l.length) = true := decide_eq_true hlt
    refine Calls.mono (?_ : Calls _ _ _ _ fun e w' => e = .returned (.int .i64 l[m]) ∧ w' = w) fun e w' q => .inl ⟨by omega, q.1, q.2⟩
    clear h hc e0
    generalize l[m] = x at *
    go_enter Tryz.func96, Tryz.ntmps96
    go_wp2_with (fail)
    refine (need_yes _).mono ?_
    rintro e w1 ⟨rfl, rfl⟩
    go_wp2_with (fail)
    go_ret
    exact ⟨rfl, rfl⟩
  · refine Calls.mono (?_ : Calls _ _ _ _ fun e w' => e = .panicked giveUp ∧ w' = w) fun e w' q => .inr ⟨by omega, q.1, q.2⟩
    have d0 : decide (m < l.length) = false := decide_eq_false hlt
    clear h
    go_enter Tryz.func96, Tryz.ntmps96
    go_wp2_with (fail)
    refine (need_no _).mono ?_
    rintro e w1 ⟨rfl, rfl⟩
    exact ⟨rfl, rfl, rfl⟩

def metOk (L0 L1 L2 L3 : Nat) (s : St) : Bool := s.skip == 0 || decide (s.skip < L0 ∧ s.next / 16 < L1 ∧ s.next % 16 < L2 ∧ s.op / 4 < L3)
def metR (x0 x1 x2 x3 : List Int) (s : St) : Met := if s.skip = 0 then ⟨0, 0, 0, 0, -1, 0⟩ else ⟨x0[s.skip.toNat]?.getD 0, x1[(s.next / 16).toNat]?.getD 0, x2[(s.next % 16).toNat]?.getD 0, x3[(s.op / 4).toNat]?.getD 0, s.op % 4, if s.op % 4 = 0 then 0 else s.rest⟩

set_option maxHeartbeats 2000000 in
theorem rmetric_0 (v0 v1 v2 v3 : Value) (s : St) (w : World) (h : s.skip = 0) :
    Calls Tryz.prog 97 #[.agg #[v0, v1, v2, v3], stA s] w fun e w' => e = .returned (metA ⟨0, 0, 0, 0, -1, 0⟩) ∧ Kept w w' := by
  obtain ⟨s0, s1, s2, s3⟩ := s
  dsimp only at *
  have z : (s0 == 0) = true := by simpa using h
  clear h
  go_enter Tryz.func97, Tryz.ntmps97
  go_wp2_with (fail)
  exact bodyPost_ret (v := metA ⟨0, 0, 0, 0, -1, 0⟩) (by simp [results, Tryz.results97, go_sem]) rfl ⟨rfl, (by repeat (first | exact Kept.refl _ | assumption | refine kalloc ?_ _ | refine Below.setCell ?_ (by simp; try omega) _ | refine below_drewN ?_ _ | refine Below.drew ?_))⟩

set_option maxRecDepth 100000 in
set_option maxHeartbeats 16000000 in
theorem rmetric_1 (A0 A1 A2 A3 : Option Addr) (L0 L1 L2 L3 c0 c1 c2 c3 : Nat) (x0 x1 x2 x3 : List Int) (s : St) (w : World) (hok : s.ok)
    (n0 : NumsAt w A0 x0 w.heap.size) (n1 : NumsAt w A1 x1 w.heap.size) (n2 : NumsAt w A2 x2 w.heap.size) (n3 : NumsAt w A3 x3 w.heap.size) (e0 : x0.length = L0) (e1 : x1.length = L1) (e2 : x2.length = L2) (e3 : x3.length = L3)
    (b0 : L0 ≤ 40000) (b1 : L1 ≤ 40000) (b2 : L2 ≤ 40000) (b3 : L3 ≤ 40000) (h : ¬ s.skip = 0) :
    Calls Tryz.prog 97 #[.agg #[.slice A0 L0 c0, .slice A1 L1 c1, .slice A2 L2 c2, .slice A3 L3 c3], stA s] w fun e w' => (metOk L0 L1 L2 L3 s = true ∧ e = .returned (metA (metR x0 x1 x2 x3 s)) ∧ Kept w w') ∨ (metOk L0 L1 L2 L3 s = false ∧ e = .panicked giveUp ∧ Kept w w') := by
  obtain ⟨⟨a0, a0'⟩, ⟨a1, a1'⟩, ⟨a2, a2'⟩, ⟨a3, a3'⟩⟩ := hok
  have hno : ∀ (_ : ¬ (s.skip < L0 ∧ s.next / 16 < L1 ∧ s.next % 16 < L2 ∧ s.op / 4 < L3)), metOk L0 L1 L2 L3 s = false := fun q => by unfold metOk; rw [decide_eq_false q]; simpa using h
  have hyes : (s.skip < L0 ∧ s.next / 16 < L1 ∧ s.next % 16 < L2 ∧ s.op / 4 < L3) → metOk L0 L1 L2 L3 s = true := fun q => by unfold metOk; rw [decide_eq_true q]; simp
  have HNO := Lib.hid hno
  have HYES := Lib.hid hyes
  have hmr : metR x0 x1 x2 x3 s = ⟨x0[s.skip.toNat]?.getD 0, x1[(s.next / 16).toNat]?.getD 0, x2[(s.next % 16).toNat]?.getD 0, x3[(s.op / 4).toNat]?.getD 0, s.op % 4, if s.op % 4 = 0 then 0 else s.rest⟩ := by unfold metR; rw [if_neg h]
  rw [hmr]
  have z : (s.skip == 0) = false := by simpa using h
  obtain ⟨s0, s1, s2, s3⟩ := s
  dsimp only at *
  have p0 := fun w' (hk : Kept w w') => Lib.hid (numberI A0 x0 L0 c0 s0 w' e0 ((n0.kept hk).more hk.size) a0 a0' (by omega))
  have p1 := fun w' (hk : Kept w w') => Lib.hid (numberI A1 x1 L1 c1 (s1 / 16) w' e1 ((n1.kept hk).more hk.size) (by omega) (by omega) (by omega))
  have p2 := fun w' (hk : Kept w w') => Lib.hid (numberI A2 x2 L2 c2 (s1 % 16) w' e2 ((n2.kept hk).more hk.size) (by omega) (by omega) (by omega))
  have p3 := fun w' (hk : Kept w w') => Lib.hid (numberI A3 x3 L3 c3 (s2 / 4) w' e3 ((n3.kept hk).more hk.size) (by omega) (by omega) (by omega))
  have q2 : bits .and .u8 s1 15 = s1 % 16 := by
    rw [u8_and s1 15 a1 (by omega) (by omega) (by omega)]
    have : s1.toNat &&& (15 : Int).toNat = s1.toNat % 16 := Nat.and_two_pow_sub_one_eq_mod s1.toNat 4
    rw [this]; omega
  have q3 : bits .and .u8 s2 3 = s2 % 4 := by
    rw [u8_and s2 3 a2 (by omega) (by omega) (by omega)]
    have : s2.toNat &&& (3 : Int).toNat = s2.toNat % 4 := Nat.and_two_pow_sub_one_eq_mod s2.toNat 2
    rw [this]; omega
  generalize x0[s0.toNat]?.getD 0 = r0 at *
  generalize x1[(s1 / 16).toNat]?.getD 0 = r1 at *
  generalize x2[(s1 % 16).toNat]?.getD 0 = r2 at *
  generalize x3[(s2 / 4).toNat]?.getD 0 = r3 at *
  have t0 : 0 ≤ s2 % 4 ∧ s2 % 4 ≤ 3 := by omega
  obtain ⟨W, hW⟩ : ∃ W, W = ((w.alloc (.cells #[.slice A0 L0 c0, .slice A1 L1 c1, .slice A2 L2 c2, .slice A3 L3 c3] 58)).alloc (.cells #[.int .u8 s0, .int .u8 s1, .int .u8 s2, .int .u8 s3] 94)).alloc (.cells #[.int .i64 0, .int .i64 0, .int .i64 0, .int .i64 0, .int .i64 0, .int .i64 0] 43) := ⟨_, rfl⟩
  have hk0 : Kept w W := by rw [hW]; exact ((walloc _ _).trans (walloc _ _)).trans (walloc _ _)
  have hWs : W.heap.size = w.heap.size + 3 := by rw [hW]; simp
  have hS : ∀ w', Kept W w' → Hid (w'.cell? ⟨w.heap.size, 0, none⟩ = some (.slice A0 L0 c0) ∧ w'.cell? ⟨w.heap.size, 1, none⟩ = some (.slice A1 L1 c1) ∧ w'.cell? ⟨w.heap.size, 2, none⟩ = some (.slice A2 L2 c2) ∧ w'.cell? ⟨w.heap.size, 3, none⟩ = some (.slice A3 L3 c3) ∧ w'.cell? ⟨w.heap.size + 1, 0, none⟩ = some (.int .u8 s0) ∧ w'.cell? ⟨w.heap.size + 1, 1, none⟩ = some (.int .u8 s1) ∧ w'.cell? ⟨w.heap.size + 1, 2, none⟩ = some (.int .u8 s2) ∧ w'.cell? ⟨w.heap.size + 1, 3, none⟩ = some (.int .u8 s3)) := fun w' hk => by
    have g : ∀ (B o : Nat) (v : Value), B < W.heap.size → W.cell? ⟨B, o, none⟩ = some v → w'.cell? ⟨B, o, none⟩ = some v := fun B o v hB h => (hk.cell (p := ⟨B, o, none⟩) hB).trans h
    refine Lib.hid ⟨g _ _ _ (by omega) (by rw [hW]; go_simp), g _ _ _ (by omega) (by rw [hW]; go_simp), g _ _ _ (by omega) (by rw [hW]; go_simp), g _ _ _ (by omega) (by rw [hW]; go_simp), g _ _ _ (by omega) (by rw [hW]; go_simp), g _ _ _ (by omega) (by rw [hW]; go_simp), g _ _ _ (by omega) (by rw [hW]; go_simp), g _ _ _ (by omega) (by rw [hW]; go_simp)⟩
  have hMo : MObj W (w.heap.size + 2) ⟨0, 0, 0, 0, 0, 0⟩ := by
    rw [hW]
    have q := mkobj ((w.alloc (.cells #[.slice A0 L0 c0, .slice A1 L1 c1, .slice A2 L2 c2, .slice A3 L3 c3] 58)).alloc (.cells #[.int .u8 s0, .int .u8 s1, .int .u8 s2, .int .u8 s3] 94)) (.cells #[.int .i64 0, .int .i64 0, .int .i64 0, .int .i64 0, .int .i64 0, .int .i64 0] 43)
    unfold MObj
    simpa using q
  have HW := Lib.hid hW
  have kb : Kept W W.drew := (Kept.refl W).drew
  have tk0 : True := trivial
  clear hW n0 n1 n2 n3 e0 e1 e2 e3 h hno hyes hmr
  go_enter Tryz.func97, Tryz.ntmps97
  go_wp2_with (fail)
  rw [← HW.out]
  go_region_held2 (fun w' => w'.cell? ⟨w.heap.size, 0, none⟩ = some (.slice A0 L0 c0) ∧ w'.cell? ⟨w.heap.size, 1, none⟩ = some (.slice A1 L1 c1) ∧ w'.cell? ⟨w.heap.size, 2, none⟩ = some (.slice A2 L2 c2) ∧ w'.cell? ⟨w.heap.size, 3, none⟩ = some (.slice A3 L3 c3) ∧ w'.cell? ⟨w.heap.size + 1, 0, none⟩ = some (.int .u8 s0) ∧ w'.cell? ⟨w.heap.size + 1, 1, none⟩ = some (.int .u8 s1) ∧ w'.cell? ⟨w.heap.size + 1, 2, none⟩ = some (.int .u8 s2) ∧ w'.cell? ⟨w.heap.size + 1, 3, none⟩ = some (.int .u8 s3)) (first | exact (hS _ (by assumption)).out | exact (hS _ (kalloc kb _)).out) (first
    | (have _t := tk0; go_at_call 96; refine (p0 _ (by first | exact hk0.trans kb | exact hk0.trans (kalloc kb _))).out.mono ?_; rintro e z9 (⟨hq, rfl, rfl⟩ | ⟨hq, rfl, rfl⟩); rotate_left; exact ⟨rfl, .inr ⟨HNO.out (fun hh => Int.not_lt.mpr hq hh.1), rfl, by first | exact hk0.trans kb | exact hk0.trans (kalloc kb _)⟩⟩; have g0 := hq; clear hq tk0 _t; have tk1 : True := trivial)
    | (have _t := tk1; go_at_call 96; refine (p1 _ (by first | exact hk0.trans kb | exact hk0.trans (kalloc kb _))).out.mono ?_; rintro e z9 (⟨hq, rfl, rfl⟩ | ⟨hq, rfl, rfl⟩); rotate_left; exact ⟨rfl, .inr ⟨HNO.out (fun hh => Int.not_lt.mpr hq hh.2.1), rfl, by first | exact hk0.trans kb | exact hk0.trans (kalloc kb _)⟩⟩; have g1 := hq; clear hq tk1 _t; have tk2 : True := trivial)
    | (have _t := tk2; go_at_call 96; refine (p2 _ (by first | exact hk0.trans kb | exact hk0.trans (kalloc kb _))).out.mono ?_; rintro e z9 (⟨hq, rfl, rfl⟩ | ⟨hq, rfl, rfl⟩); rotate_left; exact ⟨rfl, .inr ⟨HNO.out (fun hh => Int.not_lt.mpr hq hh.2.2.1), rfl, by first | exact hk0.trans kb | exact hk0.trans (kalloc kb _)⟩⟩; have g2 := hq; clear hq tk2 _t; have tk3 : True := trivial)
    | (have _t := tk3; go_at_call 96; refine (p3 _ (by first | exact hk0.trans kb | exact hk0.trans (kalloc kb _))).out.mono ?_; rintro e z9 (⟨hq, rfl, rfl⟩ | ⟨hq, rfl, rfl⟩); rotate_left; exact ⟨rfl, .inr ⟨HNO.out (fun hh => Int.not_lt.mpr hq hh.2.2.2), rfl, by first | exact hk0.trans kb | exact hk0.trans (kalloc kb _)⟩⟩; have g3 := hq; clear hq tk3 _t; have tk4 : True := trivial))
  all_goals (
    rw [IntWalk.i64_in (s2 % 4) (by omega), IntWalk.i64_in s3 (by omega)]
    obtain ⟨w9, hw9⟩ : ∃ w9, w9 = (W.alloc (.cells #[.int .i64 r0, .int .i64 r1, .int .i64 r2, .int .i64 r3, .int .i64 (s2 % 4), .int .i64 s3] 43)).drew := ⟨_, rfl⟩
    rw [← hw9]
    have hN : MObj w9 (w.heap.size + 3) ⟨r0, r1, r2, r3, s2 % 4, s3⟩ := by
      rw [hw9, ← hWs]; exact mkobj W _
    have kk : Kept w w9 := by rw [hw9]; exact hk0.trans (walloc _ _).drew
    have hR : MObj w9 (w.heap.size + 2) ⟨0, 0, 0, 0, 0, 0⟩ := by
      have k9 : Kept W w9 := by rw [hw9]; exact (walloc _ _).drew
      exact (k9.block (w.heap.size + 2) (by omega)).trans hMo
    have oy := HYES.out ⟨g0, g1, g2, g3⟩
    clear hw9 HW HNO HYES hMo hS kb hk0
    obtain ⟨n0, n1, n2, n3, n4, n5, nf, nl⟩ := hN.cells
    obtain ⟨m0, m1, m2, m3, m4, m5, mf, ml⟩ := hR.cells
    by_cases ht : s2 % 4 = 0
    · have d4 : (s2 % 4 == 0) = true := by simpa using ht
      clear b0 b1 b2 b3 a0 a0' a1 a1' a2 a2' a3 a3' t0 g0 g1 g2 g3 hWs
      go_wp2_with (fail)
      have hR5 : MObj (w9.setCell ⟨w.heap.size + 3, 5, none⟩ (.int .i64 0)) (w.heap.size + 1 + 1) ⟨0, 0, 0, 0, 0, 0⟩ := by
        have q : ((w9.setCell ⟨w.heap.size + 3, 5, none⟩ (.int .i64 0)).heap)[w.heap.size + 2]? = w9.heap[w.heap.size + 2]? := by simp [World.setCell, Array.getElem?_modify]
        exact q.trans hR
      have hF : MObj (((((((w9.setCell ⟨w.heap.size + 3, 5, none⟩ (.int .i64 0)).setCell ⟨w.heap.size + 1 + 1, 0, none⟩ (.int .i64 r0)).setCell ⟨w.heap.size + 1 + 1, 1, none⟩ (.int .i64 r1)).setCell ⟨w.heap.size + 1 + 1, 2, none⟩ (.int .i64 r2)).setCell ⟨w.heap.size + 1 + 1, 3, none⟩ (.int .i64 r3)).setCell ⟨w.heap.size + 1 + 1, 4, none⟩ (.int .i64 0)).setCell ⟨w.heap.size + 1 + 1, 5, none⟩ (.int .i64 0)) (w.heap.size + 1 + 1) ⟨r0, r1, r2, r3, 0, 0⟩ := MObj.set (n := ⟨r0, r1, r2, r3, 0, 0⟩) hR5
      have kF : Kept w (((((((w9.setCell ⟨w.heap.size + 3, 5, none⟩ (.int .i64 0)).setCell ⟨w.heap.size + 1 + 1, 0, none⟩ (.int .i64 r0)).setCell ⟨w.heap.size + 1 + 1, 1, none⟩ (.int .i64 r1)).setCell ⟨w.heap.size + 1 + 1, 2, none⟩ (.int .i64 r2)).setCell ⟨w.heap.size + 1 + 1, 3, none⟩ (.int .i64 r3)).setCell ⟨w.heap.size + 1 + 1, 4, none⟩ (.int .i64 0)).setCell ⟨w.heap.size + 1 + 1, 5, none⟩ (.int .i64 0)) := by
        iterate 6 refine Below.setCell ?_ (by simp; try omega) _
        first | exact kk | (refine Below.setCell ?_ (by simp) _; exact kk)
      generalize ((((((w9.setCell ⟨w.heap.size + 3, 5, none⟩ (.int .i64 0)).setCell ⟨w.heap.size + 1 + 1, 0, none⟩ (.int .i64 r0)).setCell ⟨w.heap.size + 1 + 1, 1, none⟩ (.int .i64 r1)).setCell ⟨w.heap.size + 1 + 1, 2, none⟩ (.int .i64 r2)).setCell ⟨w.heap.size + 1 + 1, 3, none⟩ (.int .i64 r3)).setCell ⟨w.heap.size + 1 + 1, 4, none⟩ (.int .i64 0)).setCell ⟨w.heap.size + 1 + 1, 5, none⟩ (.int .i64 0) = w10 at hF kF ⊢
      generalize w.heap.size + 1 + 1 = B at hF ⊢
      obtain ⟨f0, f1, f2, f3, f4, f5, ff, fl⟩ := hF.cells
      clear hF n0 n1 n2 n3 n4 n5 nf nl m0 m1 m2 m3 m4 m5 mf ml
      exact bodyPost_ret (v := metA ⟨r0, r1, r2, r3, 0, 0⟩) (by simp [results, Tryz.results97, go_sem, f0, f1, f2, f3, f4, f5]) rfl ⟨rfl, kF⟩
    · have d4 : (s2 % 4 == 0) = false := by simpa using ht
      clear b0 b1 b2 b3 a0 a0' a1 a1' a2 a2' a3 a3' t0 g0 g1 g2 g3 hWs
      go_wp2_with (fail)
      have hF : MObj (((((((w9).setCell ⟨w.heap.size + 1 + 1, 0, none⟩ (.int .i64 r0)).setCell ⟨w.heap.size + 1 + 1, 1, none⟩ (.int .i64 r1)).setCell ⟨w.heap.size + 1 + 1, 2, none⟩ (.int .i64 r2)).setCell ⟨w.heap.size + 1 + 1, 3, none⟩ (.int .i64 r3)).setCell ⟨w.heap.size + 1 + 1, 4, none⟩ (.int .i64 (s2 % 4))).setCell ⟨w.heap.size + 1 + 1, 5, none⟩ (.int .i64 s3)) (w.heap.size + 1 + 1) ⟨r0, r1, r2, r3, (s2 % 4), s3⟩ := MObj.set (n := ⟨r0, r1, r2, r3, (s2 % 4), s3⟩) hR
      have kF : Kept w (((((((w9).setCell ⟨w.heap.size + 1 + 1, 0, none⟩ (.int .i64 r0)).setCell ⟨w.heap.size + 1 + 1, 1, none⟩ (.int .i64 r1)).setCell ⟨w.heap.size + 1 + 1, 2, none⟩ (.int .i64 r2)).setCell ⟨w.heap.size + 1 + 1, 3, none⟩ (.int .i64 r3)).setCell ⟨w.heap.size + 1 + 1, 4, none⟩ (.int .i64 (s2 % 4))).setCell ⟨w.heap.size + 1 + 1, 5, none⟩ (.int .i64 s3)) := by
        iterate 6 refine Below.setCell ?_ (by simp; try omega) _
        first | exact kk | (refine Below.setCell ?_ (by simp) _; exact kk)
      generalize ((((((w9).setCell ⟨w.heap.size + 1 + 1, 0, none⟩ (.int .i64 r0)).setCell ⟨w.heap.size + 1 + 1, 1, none⟩ (.int .i64 r1)).setCell ⟨w.heap.size + 1 + 1, 2, none⟩ (.int .i64 r2)).setCell ⟨w.heap.size + 1 + 1, 3, none⟩ (.int .i64 r3)).setCell ⟨w.heap.size + 1 + 1, 4, none⟩ (.int .i64 (s2 % 4))).setCell ⟨w.heap.size + 1 + 1, 5, none⟩ (.int .i64 s3) = w10 at hF kF ⊢
      generalize w.heap.size + 1 + 1 = B at hF ⊢
      obtain ⟨f0, f1, f2, f3, f4, f5, ff, fl⟩ := hF.cells
      clear hF n0 n1 n2 n3 n4 n5 nf nl m0 m1 m2 m3 m4 m5 mf ml
      exact bodyPost_ret (v := metA ⟨r0, r1, r2, r3, (s2 % 4), s3⟩) (by simp [results, Tryz.results97, go_sem, f0, f1, f2, f3, f4, f5]) rfl ⟨rfl, kF⟩
  )
/-- The metric of a character's word, of four tables. -/
theorem rmetric_any (A0 A1 A2 A3 : Option Addr) (L0 L1 L2 L3 c0 c1 c2 c3 : Nat) (x0 x1 x2 x3 : List Int) (s : St) (w : World) (hok : s.ok)
    (n0 : NumsAt w A0 x0 w.heap.size) (n1 : NumsAt w A1 x1 w.heap.size) (n2 : NumsAt w A2 x2 w.heap.size) (n3 : NumsAt w A3 x3 w.heap.size) (e0 : x0.length = L0) (e1 : x1.length = L1) (e2 : x2.length = L2) (e3 : x3.length = L3)
    (b0 : L0 ≤ 40000) (b1 : L1 ≤ 40000) (b2 : L2 ≤ 40000) (b3 : L3 ≤ 40000) :
    Calls Tryz.prog 97 #[.agg #[.slice A0 L0 c0, .slice A1 L1 c1, .slice A2 L2 c2, .slice A3 L3 c3], stA s] w fun e w' => (metOk L0 L1 L2 L3 s = true ∧ e = .returned (metA (metR x0 x1 x2 x3 s)) ∧ Kept w w') ∨ (metOk L0 L1 L2 L3 s = false ∧ e = .panicked giveUp ∧ Kept w w') := by
  by_cases h : s.skip = 0
  · refine (rmetric_0 _ _ _ _ s w h).mono ?_
    rintro e w' ⟨rfl, hk⟩
    refine .inl ⟨by unfold metOk; rw [h]; rfl, by unfold metR; rw [if_pos h], hk⟩
  · exact rmetric_1 A0 A1 A2 A3 L0 L1 L2 L3 c0 c1 c2 c3 x0 x1 x2 x3 s w hok n0 n1 n2 n3 e0 e1 e2 e3 b0 b1 b2 b3 h
end Go.Proofs.YtdhidpbenhmfgaaGreat
