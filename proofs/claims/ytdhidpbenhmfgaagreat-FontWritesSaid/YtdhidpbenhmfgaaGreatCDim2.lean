/- font.number; the reader's dimens. -/
import Derived.Test.YtdhidpbenhmfgaaGreatRMath
import Derived.Deep.RegionHeld3
import Derived.Deep.DeepCutAuto
import Derived.LoopN
namespace Go.Proofs.YtdhidpbenhmfgaaGreat
open Go.RowKit

theorem number_any (A : Option Addr) (l : List Int) (c n : Nat) (w : World) (h : NumsAt w A l w.heap.size) (hn : n ≤ 255) (hl : l.length ≤ 1000000) :
    Calls Tryz.prog 96 #[.slice A l.length c, .int .u8 n] w fun e w' => (n < l.length ∧ e = .returned (.int .i64 (l[n]?.getD 0)) ∧ w' = w) ∨ (¬ n < l.length ∧ e = .panicked giveUp ∧ w' = w) := by
  by_cases hlt : n < l.length
  · obtain ⟨b, o, rfl, hb, hc⟩ := h (by omega)
    have c0 := hc n hlt
    have e0 : l[n]?.getD 0 = l[n] := by rw [List.getElem?_eq_getElem hlt]; rfl
    rw [e0]
    have d0 : decide ((n : Int) < l.length) = true := decide_eq_true (by omega)
    refine Calls.mono (?_ : Calls _ _ _ _ fun e w' => e = .returned (.int .i64 l[n]) ∧ w' = w) fun e w' q => .inl ⟨hlt, q.1, q.2⟩
    clear h hc e0
    generalize l[n] = x at *
    go_enter Tryz.func96, Tryz.ntmps96
    go_wp2_with (fail)
    refine (need_yes _).mono ?_
    rintro e w1 ⟨rfl, rfl⟩
    go_wp2_with (fail)
    go_ret
    exact ⟨rfl, rfl⟩
  · refine Calls.mono (?_ : Calls _ _ _ _ fun e w' => e = .panicked giveUp ∧ w' = w) fun e w' q => .inr ⟨hlt, q.1, q.2⟩
    have d0 : decide (n < l.length) = false := decide_eq_false hlt
    clear h
    go_enter Tryz.func96, Tryz.ntmps96
    go_wp2_with (fail)
    refine (need_no _).mono ?_
    rintro e w1 ⟨rfl, rfl⟩
    exact ⟨rfl, rfl, rfl⟩

theorem sigs_len (bs : List Int) (k n : Nat) : (sigs bs k n).length = n := by unfold sigs; rw [List.length_map, wordsAt_len]
theorem irow_sigs {w : World} {B n : Nat} {v : Value} {bs : List Int} {k : Nat} (h : w.ownsRow B 3 1 v n ((wordsAt bs k n).flatMap fun s => [Value.int .i64 (sigV s)])) : IRow w B v (sigs bs k n) := by
  have e : (wordsAt bs k n).flatMap (fun s => [Value.int .i64 (sigV s)]) = (sigs bs k n).map (Value.int .i64) := by
    unfold sigs
    rw [List.map_map]
    induction wordsAt bs k n with
    | nil => rfl
    | cons s l ih => rw [List.flatMap_cons, ih]; rfl
  unfold IRow
  rw [sigs_len, ← e]
  exact h
theorem zf_yes {l : List Int} (h : 0 < l.length) (h0 : l[0]?.getD 0 = 0) : zeroFirst l = true := by
  cases l with
  | nil => simp at h
  | cons z l => simp at h0; simp [zeroFirst, h0]
theorem zf_no {l : List Int} (h : ¬ 0 < l.length ∨ ¬ l[0]?.getD 0 = 0) : zeroFirst l = false := by
  cases l with
  | nil => rfl
  | cons z l => simp at h; simp [zeroFirst, h]
structure Four (w : World) (B : Nat) (v0 v1 v2 v3 : Value) (x0 x1 x2 x3 : List Int) : Prop where
  r0 : IRow w B v0 x0
  r1 : IRow w B v1 x1
  r2 : IRow w B v2 x2
  r3 : IRow w B v3 x3
abbrev nilS : Value := .slice none 0 0
theorem rd_alloc {z : World} {R b o c k : Nat} {bs : List Int} (h : Rd z R b o c k bs) (ob : Obj) : Rd (z.alloc ob) R b o c k bs := h.grown (row := none) (grown_kept (walloc _ _)) (by simp) (by simp)
theorem grown_alloc {a z : World} {row : Option Nat} (h : a.grownBy z row) (ob : Obj) : a.grownBy (z.alloc ob) row := grown_trans h (grown_kept (walloc _ _))
/-- the box of the four tables, as it was made -/
theorem box_new {z z' : World} {R : Nat} (g : (z.alloc (.cells #[nilS, nilS, nilS, nilS] 58)).grownBy z' (some R)) (hR : R < z.heap.size) : DObj z' z.heap.size nilS nilS nilS nilS :=
  DObj.grown (w := z.alloc (.cells #[nilS, nilS, nilS, nilS] 58)) (by unfold DObj; exact mkobj _ _) g (by intro e; cases e; omega)
theorem box_newD {z z' : World} {R : Nat} (g : ((z.alloc (.cells #[nilS, nilS, nilS, nilS] 58)).drew).grownBy z' (some R)) (hR : R < z.heap.size) : DObj z' z.heap.size nilS nilS nilS nilS :=
  DObj.grown (w := (z.alloc (.cells #[nilS, nilS, nilS, nilS] 58)).drew) (by unfold DObj; exact mkobj _ _) g (by intro e; cases e; omega)
theorem row_keep {z z' : World} {B R : Nat} {v : Value} {xs : List Int} (h : IRow z B v xs) (g : z.grownBy z' (some R)) (hR : R < B) : IRow z' B v xs :=
  irow_grown h g fun j e k => by cases e; have := (World.ownsRow.lt h R k).1; omega
theorem ne_some {R D : Nat} (h : R < D) : some R ≠ some D := by intro e; injection e with e; omega
/-- behind the four tables -/
def DimT (W : World) (N R b o d k D0 : Nat) (bs x0 x1 x2 x3 : List Int) (s5 : Value) (wx : World) : Prop := ∃ D u0 u1 u2 u3, s5 = .pointer (some ⟨D, 0, none⟩) ∧ D0 < D ∧ DObj wx D u0 u1 u2 u3 ∧ Four wx N u0 u1 u2 u3 x0 x1 x2 x3 ∧ Rd wx R b o d k bs ∧ W.grownBy wx (some R)
theorem grown_set1 (w : World) (b j : Nat) (v : Value) : w.grownBy (w.setCell ⟨b, j, none⟩ v) (some b) :=
  ⟨rfl, rfl, rfl, by simp [World.setCell], fun k hk hne => by
    have : b ≠ k := fun e => hne (by rw [e])
    simp [World.setCell, Array.getElem?_modify, this]⟩
abbrev set4 (z : World) (D : Nat) (v0 v1 v2 v3 : Value) : World := (((z.setCell ⟨D, 0, none⟩ v0).setCell ⟨D, 1, none⟩ v1).setCell ⟨D, 2, none⟩ v2).setCell ⟨D, 3, none⟩ v3
theorem grown_set4 (z : World) (D : Nat) (v0 v1 v2 v3 : Value) : z.grownBy (set4 z D v0 v1 v2 v3) (some D) :=
  grown_trans (grown_trans (grown_trans (grown_set1 z D 0 v0) (grown_set1 _ D 1 v1)) (grown_set1 _ D 2 v2)) (grown_set1 _ D 3 v3)
theorem irow_ne {z : World} {N D : Nat} {v a b c d : Value} {xs : List Int} (h : IRow z N v xs) (hD : DObj z D a b c d) : v.ownBlock ≠ some D := by
  intro e
  rcases h.2 with ⟨rfl, _⟩ | ⟨g, cap, cur, rfl, _, hg, _⟩
  · simp [Value.ownBlock] at e
  · simp [Value.ownBlock] at e
    subst e
    unfold DObj at hD
    have q := Option.some.inj (hg.symm.trans hD)
    injection q with _ q2 _
    exact absurd q2 (by decide)
theorem irow_set4 {z : World} {N D : Nat} {v a b c d v0 v1 v2 v3 : Value} {xs : List Int} (h : IRow z N v xs) (hD : DObj z D a b c d) : IRow (set4 z D v0 v1 v2 v3) N v xs :=
  irow_grown h (grown_set4 z D v0 v1 v2 v3) fun g e => by cases e; exact irow_ne h hD
theorem four_set4 {z : World} {N D : Nat} {u0 u1 u2 u3 a b c d v0 v1 v2 v3 : Value} {x0 x1 x2 x3 : List Int} (h : Four z N u0 u1 u2 u3 x0 x1 x2 x3) (hD : DObj z D a b c d) : Four (set4 z D v0 v1 v2 v3) N u0 u1 u2 u3 x0 x1 x2 x3 :=
  ⟨irow_set4 h.r0 hD, irow_set4 h.r1 hD, irow_set4 h.r2 hD, irow_set4 h.r3 hD⟩
theorem dobj_set4 {z : World} {D : Nat} {a b c d v0 v1 v2 v3 : Value} (hD : DObj z D a b c d) : DObj (set4 z D v0 v1 v2 v3) D v0 v1 v2 v3 := hD.set0.set1.set2.set3
theorem rd_set4 {z : World} {R b o c k D : Nat} {bs : List Int} {v0 v1 v2 v3 : Value} (h : Rd z R b o c k bs) (hR : R < D) (hb : b < D) : Rd (set4 z D v0 v1 v2 v3) R b o c k bs :=
  h.grown (grown_set4 z D v0 v1 v2 v3) (by intro e; cases e; omega) (by intro e; cases e; omega)
theorem four_alloc {z : World} {N : Nat} {u0 u1 u2 u3 : Value} {x0 x1 x2 x3 : List Int} (h : Four z N u0 u1 u2 u3 x0 x1 x2 x3) (ob : Obj) : Four (z.alloc ob) N u0 u1 u2 u3 x0 x1 x2 x3 :=
  ⟨irow_kept h.r0 (walloc _ _), irow_kept h.r1 (walloc _ _), irow_kept h.r2 (walloc _ _), irow_kept h.r3 (walloc _ _)⟩
theorem dim_end {W z : World} {N R b o d k D0 D : Nat} {bs x0 x1 x2 x3 : List Int} {v0 v1 v2 v3 : Value} (hD : DObj z D nilS nilS nilS nilS) (q0 : IRow z N v0 x0) (q1 : IRow z N v1 x1) (q2 : IRow z N v2 x2) (q3 : IRow z N v3 x3) (hr : Rd z R b o d k bs) (hg : W.grownBy z (some R)) (hD0 : D0 < D) (hWD : W.heap.size ≤ D) (hR : R < D) (hb : b < D) :
    DimT W N R b o d k D0 bs x0 x1 x2 x3 (.pointer (some ⟨D, 0, none⟩)) ((((z.setCell ⟨D, 0, none⟩ v0).setCell ⟨D, 1, none⟩ v1).setCell ⟨D, 2, none⟩ v2).setCell ⟨D, 3, none⟩ v3) :=
  ⟨D, v0, v1, v2, v3, rfl, hD0, dobj_set4 hD, four_set4 ⟨q0, q1, q2, q3⟩ hD, rd_set4 hr hR hb, grown_new hg (grown_set4 z D v0 v1 v2 v3) hWD⟩
theorem dim_end0 {W z : World} {N R b o d k D0 : Nat} {bs x0 x1 x2 x3 : List Int} {v0 v1 v2 v3 : Value} (q0 : IRow z N v0 x0) (q1 : IRow z N v1 x1) (q2 : IRow z N v2 x2) (q3 : IRow z N v3 x3) (hr : Rd z R b o d k bs) (hg : W.grownBy z (some R)) (hD0 : D0 < z.heap.size) :
    DimT W N R b o d k D0 bs x0 x1 x2 x3 (.pointer (some ⟨z.heap.size, 0, none⟩)) (z.alloc (.cells #[v0, v1, v2, v3] 58)) :=
  ⟨z.heap.size, v0, v1, v2, v3, rfl, hD0, mkobj _ _, four_alloc ⟨q0, q1, q2, q3⟩ _, rd_alloc hr _, grown_alloc hg _⟩
theorem irow_numsD {w : World} {B L : Nat} {v : Value} {xs : List Int} (h : IRow w B v xs) (hL : xs.length = L) : ∃ A c, v = .slice A L c ∧ NumsAt w A xs w.heap.size ∧ xs.length ≤ c := by
  rcases h.2 with ⟨rfl, h0⟩ | ⟨g, cap, cur, rfl, hb, hg, hn, hc, hs, ht⟩
  · exact ⟨none, 0, by rw [← hL, h0], fun hn => by omega, by omega⟩
  · refine ⟨_, _, by rw [hL], fun _ => ⟨g, 0, rfl, (Array.getElem?_eq_some_iff.1 hg).1, fun k hk => ?_⟩, hn⟩
    have hcell := World.ownsRow.cells h (g := g) rfl k (.int .i64 xs[k]) (by simp [hk])
    rw [Go.Addr.add_mid] at hcell
    exact hcell
theorem zeros_no {a b c d : Bool} (h : a = false ∨ b = false ∨ c = false ∨ d = false) : (a && b && c && d) = false := by
  rcases h with rfl | rfl | rfl | rfl <;> simp
/-- a pair of calls: the number at place 0, and whether it is 0 -/
theorem zf_at {x : List Int} {L : Nat} (hL : x.length = L) : (((0 : Int) < L ∧ (x[(0 : Int).toNat]?.getD 0 == 0) = true) → zeroFirst x = true) ∧ (¬ (0 : Int) < L → zeroFirst x = false) ∧ ((x[(0 : Int).toNat]?.getD 0 == 0) = false → zeroFirst x = false) := by
  refine ⟨fun ⟨h1, h2⟩ => zf_yes (by omega) (by simpa using h2), fun h => zf_no (.inl (by omega)), fun h => zf_no (.inr (by simpa using h))⟩

set_option maxRecDepth 100000 in
set_option maxHeartbeats 16000000 in
theorem rdimens_any (w : World) (R b o d k n0 n1 n2 n3 : Nat) (c : Cnt) (bs : List Int) (h : Rd w R b o d k bs) (hb : BytesOk bs) (h0 : c.nw = n0) (h1 : c.nh = n1) (h2 : c.nd = n2) (h3 : c.ni = n3) (hn : k + 4 * n0 + 4 * n1 + 4 * n2 + 4 * n3 ≤ bs.length) (hlen : bs.length ≤ 1048576) :
    Calls Tryz.prog 79 #[.pointer (some ⟨R, 0, none⟩), cntA c] w fun e w' => ((zeroFirst (sigs bs (k) n0) && zeroFirst (sigs bs (k + 4 * n0) n1) && zeroFirst (sigs bs (k + 4 * n0 + 4 * n1) n2) && zeroFirst (sigs bs (k + 4 * n0 + 4 * n1 + 4 * n2) n3)) = true ∧ ∃ u0 u1 u2 u3, e = .returned (.agg #[u0, u1, u2, u3]) ∧ Four w' w.heap.size u0 u1 u2 u3 (sigs bs (k) n0) (sigs bs (k + 4 * n0) n1) (sigs bs (k + 4 * n0 + 4 * n1) n2) (sigs bs (k + 4 * n0 + 4 * n1 + 4 * n2) n3) ∧ Rd w' R b o d (k + 4 * n0 + 4 * n1 + 4 * n2 + 4 * n3) bs ∧ w.grownBy w' (some R)) ∨ ((zeroFirst (sigs bs (k) n0) && zeroFirst (sigs bs (k + 4 * n0) n1) && zeroFirst (sigs bs (k + 4 * n0 + 4 * n1) n2) && zeroFirst (sigs bs (k + 4 * n0 + 4 * n1 + 4 * n2) n3)) = false ∧ e = .panicked giveUp ∧ w.grownBy w' (some R)) := by
  obtain ⟨W, hW⟩ : ∃ W, W = (w.alloc (.cells #[.int .i64 c.lf, .int .i64 c.lh, .int .i64 c.bc, .int .i64 c.ec, .int .i64 c.nw, .int .i64 c.nh, .int .i64 c.nd, .int .i64 c.ni, .int .i64 c.nl, .int .i64 c.nk, .int .i64 c.ne, .int .i64 c.np] 61)).alloc (.cells #[.slice none 0 0, .slice none 0 0, .slice none 0 0, .slice none 0 0] 58) := ⟨_, rfl⟩
  have hRl : R < w.heap.size := by obtain ⟨p, q, _⟩ := h.box; exact (Array.getElem?_eq_some_iff.1 q).1
  have hblt := h.blt
  have kW : Kept w W := by rw [hW]; exact (walloc _ _).trans (walloc _ _)
  have rW : Rd W R b o d k bs := h.grown (row := none) (grown_kept kW) (by simp) (by simp)
  have hWs : W.heap.size = w.heap.size + 2 := by rw [hW]; simp
  have hbox : CBox W w.heap.size c := by
    have q := CBox.of_obj (T := 61) (mkobj w (.cells #[.int .i64 c.lf, .int .i64 c.lh, .int .i64 c.bc, .int .i64 c.ec, .int .i64 c.nw, .int .i64 c.nh, .int .i64 c.nd, .int .i64 c.ni, .int .i64 c.nl, .int .i64 c.nk, .int .i64 c.ne, .int .i64 c.np] 61))
    rw [hW]; exact q.kept (walloc _ _)
  have hres : DObj W (w.heap.size + 1) (.slice none 0 0) (.slice none 0 0) (.slice none 0 0) (.slice none 0 0) := by
    rw [hW]
    have q := mkobj (w.alloc (.cells #[.int .i64 c.lf, .int .i64 c.lh, .int .i64 c.bc, .int .i64 c.ec, .int .i64 c.nw, .int .i64 c.nh, .int .i64 c.nd, .int .i64 c.ni, .int .i64 c.nl, .int .i64 c.nk, .int .i64 c.ne, .int .i64 c.np] 61)) (.cells #[.slice none 0 0, .slice none 0 0, .slice none 0 0, .slice none 0 0] 58)
    unfold DObj
    simpa using q
  have hS : ∀ w', W.grownBy w' (some R) → Hid (w'.cell? ⟨w.heap.size, 4, none⟩ = some (.int .i64 n0) ∧ w'.cell? ⟨w.heap.size, 5, none⟩ = some (.int .i64 n1) ∧ w'.cell? ⟨w.heap.size, 6, none⟩ = some (.int .i64 n2) ∧ w'.cell? ⟨w.heap.size, 7, none⟩ = some (.int .i64 n3)) := fun w' hg => by
    have q : ∀ j, w'.cell? ⟨w.heap.size, j, none⟩ = W.cell? ⟨w.heap.size, j, none⟩ := fun j => World.cell?_of_block (a := ⟨w.heap.size, j, none⟩) (hg.block w.heap.size (by omega) (by intro e; cases e; omega))
    exact Lib.hid ⟨by rw [q, hbox.c4, h0], by rw [q, hbox.c5, h1], by rw [q, hbox.c6, h2], by rw [q, hbox.c7, h3]⟩
  have HW := Lib.hid hW
  have gW : w.grownBy W (some R) := grown_kept kW
  have htab := fun (k' n : Nat) w' (hr : Rd w' R b o d k' bs) (hn' : k' + 4 * n ≤ bs.length) => Lib.hid (table_int w' R b o d k' n bs hr hb hn' hlen)
  have tk0 : True := trivial
  have hg0 : W.grownBy W.drew (some R) := ⟨rfl, rfl, rfl, Nat.le_refl _, fun _ _ _ => rfl⟩
  have gWd := hg0
  have hr0 : Rd W.drew R b o d k bs := rW.grown (row := none) (grown_kept (Kept.refl W).drew) (by simp) (by simp)
  have hgA := (grown_alloc gWd (.cells #[.slice none 0 0, .slice none 0 0, .slice none 0 0, .slice none 0 0] 58) : W.grownBy _ _)
  have hrA := rd_alloc hr0 (.cells #[.slice none 0 0, .slice none 0 0, .slice none 0 0, .slice none 0 0] 58)
  have hgB : W.grownBy (W.alloc (.cells #[.slice none 0 0, .slice none 0 0, .slice none 0 0, .slice none 0 0] 58)).drew (some R) := hgA
  have hrB : Rd (W.alloc (.cells #[.slice none 0 0, .slice none 0 0, .slice none 0 0, .slice none 0 0] 58)).drew R b o d k bs := hrA
  have hWd : W.drew.heap.size = W.heap.size := rfl
  have HWD := Lib.hid hWd
  clear hWd gWd
  obtain ⟨c0, c1, c2, c3, c4, c5, c6, c7, c8, c9, c10, c11⟩ := c
  dsimp only at h0 h1 h2 h3 HW
  subst h0 h1 h2 h3
  clear hW h hbox
  go_enter Tryz.func79, Tryz.ntmps79
  go_wp2_with (fail)
  rw [← HW.out]
  go_upto_region 1 with (fail)
  go_cut [5] (fun s5 wx => DimT W w.heap.size R b o d (k + 4 * n0 + 4 * n1 + 4 * n2 + 4 * n3) (w.heap.size + 1) bs (sigs bs (k) n0) (sigs bs (k + 4 * n0) n1) (sigs bs (k + 4 * n0 + 4 * n1) n2) (sigs bs (k + 4 * n0 + 4 * n1 + 4 * n2) n3) s5 wx)
  case first =>
    go_region_held3 (fun w' => w'.cell? ⟨w.heap.size, 4, none⟩ = some (.int .i64 n0) ∧ w'.cell? ⟨w.heap.size, 5, none⟩ = some (.int .i64 n1) ∧ w'.cell? ⟨w.heap.size, 6, none⟩ = some (.int .i64 n2) ∧ w'.cell? ⟨w.heap.size, 7, none⟩ = some (.int .i64 n3)) (first | with_reducible exact (hS _ (by with_reducible assumption)).out | with_reducible exact (hS _ (grown_alloc (by with_reducible assumption) _)).out | exact ⟨cell_set4 s0 (by omega), cell_set4 s1 (by omega), cell_set4 s2 (by omega), cell_set4 s3 (by omega)⟩) (first
      | (have _t := tk0; go_at_call 83; (with_reducible refine (htab (k) n0 _ (by first | with_reducible assumption | with_reducible exact rd_alloc (by with_reducible assumption) _) (by omega)).out.mono ?_); rintro e z1 ⟨v1, rfl, hrow, hr1, gg⟩; obtain ⟨_, _, _, rfl⟩ := own_slice hrow; have hg1 := grown_trans (by first | with_reducible assumption | with_reducible exact grown_alloc (by with_reducible assumption) _) gg; have q0 := irow_base (irow_sigs hrow) (Nat.le_trans kW.size (by first | with_reducible exact hg0.size | with_reducible exact (grown_alloc hg0 _).size | with_reducible exact hgB.size)); (first | with_reducible have hbx := box_new gg (Nat.lt_of_lt_of_le hRl (Nat.le_trans kW.size hg0.size)) | with_reducible have hbx := box_newD gg (Nat.lt_of_lt_of_le hRl kW.size) | with_reducible have hbx := hbx.grown gg (ne_some (by omega)) | skip); have m1 : w.heap.size + 1 < z1.heap.size := (by have := hg1.size; omega); have tk1 : True := trivial; clear tk0 _t hrow)
      | (have _t := tk1; go_at_call 83; (with_reducible refine (htab (k + 4 * n0) n1 _ (by first | with_reducible assumption | with_reducible exact rd_alloc (by with_reducible assumption) _) (by omega)).out.mono ?_); rintro e z2 ⟨v2, rfl, hrow, hr2, gg⟩; obtain ⟨_, _, _, rfl⟩ := own_slice hrow; have hg2 := grown_trans (by first | with_reducible assumption | with_reducible exact grown_alloc (by with_reducible assumption) _) gg; have q0 := row_keep (by first | with_reducible exact q0 | with_reducible exact irow_kept q0 (walloc _ _)) gg hRl; have q1 := irow_base (irow_sigs hrow) (Nat.le_trans kW.size (by first | with_reducible exact hg1.size | with_reducible exact (grown_alloc hg1 _).size | with_reducible exact hgB.size)); (first | with_reducible have hbx := box_new gg (Nat.lt_of_lt_of_le hRl (Nat.le_trans kW.size hg1.size)) | with_reducible have hbx := box_newD gg (Nat.lt_of_lt_of_le hRl kW.size) | with_reducible have hbx := hbx.grown gg (ne_some (by omega)) | skip); have m2 : w.heap.size + 1 < z2.heap.size := (by have := hg2.size; omega); have tk2 : True := trivial; clear tk1 _t hrow)
      | (have _t := tk2; go_at_call 83; (with_reducible refine (htab (k + 4 * n0 + 4 * n1) n2 _ (by first | with_reducible assumption | with_reducible exact rd_alloc (by with_reducible assumption) _) (by omega)).out.mono ?_); rintro e z3 ⟨v3, rfl, hrow, hr3, gg⟩; obtain ⟨_, _, _, rfl⟩ := own_slice hrow; have hg3 := grown_trans (by first | with_reducible assumption | with_reducible exact grown_alloc (by with_reducible assumption) _) gg; have q0 := row_keep (by first | with_reducible exact q0 | with_reducible exact irow_kept q0 (walloc _ _)) gg hRl; have q1 := row_keep (by first | with_reducible exact q1 | with_reducible exact irow_kept q1 (walloc _ _)) gg hRl; have q2 := irow_base (irow_sigs hrow) (Nat.le_trans kW.size (by first | with_reducible exact hg2.size | with_reducible exact (grown_alloc hg2 _).size | with_reducible exact hgB.size)); (first | with_reducible have hbx := box_new gg (Nat.lt_of_lt_of_le hRl (Nat.le_trans kW.size hg2.size)) | with_reducible have hbx := box_newD gg (Nat.lt_of_lt_of_le hRl kW.size) | with_reducible have hbx := hbx.grown gg (ne_some (by omega)) | skip); have m3 : w.heap.size + 1 < z3.heap.size := (by have := hg3.size; omega); have tk3 : True := trivial; clear tk2 _t hrow)
      | (have _t := tk3; go_at_call 83; (with_reducible refine (htab (k + 4 * n0 + 4 * n1 + 4 * n2) n3 _ (by first | with_reducible assumption | with_reducible exact rd_alloc (by with_reducible assumption) _) (by omega)).out.mono ?_); rintro e z4 ⟨v4, rfl, hrow, hr4, gg⟩; obtain ⟨_, _, _, rfl⟩ := own_slice hrow; have hg4 := grown_trans (by first | with_reducible assumption | with_reducible exact grown_alloc (by with_reducible assumption) _) gg; have q0 := row_keep (by first | with_reducible exact q0 | with_reducible exact irow_kept q0 (walloc _ _)) gg hRl; have q1 := row_keep (by first | with_reducible exact q1 | with_reducible exact irow_kept q1 (walloc _ _)) gg hRl; have q2 := row_keep (by first | with_reducible exact q2 | with_reducible exact irow_kept q2 (walloc _ _)) gg hRl; have q3 := irow_base (irow_sigs hrow) (Nat.le_trans kW.size (by first | with_reducible exact hg3.size | with_reducible exact (grown_alloc hg3 _).size | with_reducible exact hgB.size)); (first | with_reducible have hbx := box_new gg (Nat.lt_of_lt_of_le hRl (Nat.le_trans kW.size hg3.size)) | with_reducible have hbx := box_newD gg (Nat.lt_of_lt_of_le hRl kW.size) | with_reducible have hbx := hbx.grown gg (ne_some (by omega)) | skip); have m4 : w.heap.size + 1 < z4.heap.size := (by have := hg4.size; omega); obtain ⟨s0, s1, s2, s3⟩ := (hS _ hg4).out; (first | (obtain ⟨x0, x1, x2, x3, xf, xl⟩ := hbx.cells; (try rw [hWs] at x0 x1 x2 x3 xf)) | skip); have tk4 : True := trivial; clear tk3 _t hrow))
    all_goals first | (dsimp only [Exit.then]; go_meet) | (go_wp2_with (fail); go_meet)
    all_goals first
      | with_reducible exact dim_end0 q0 q1 q2 q3 hr4 hg4 m4
      | with_reducible exact dim_end hbx q0 q1 q2 q3 hr4 hg4 (by omega) (by omega) (by omega) (by omega)
      | exact dim_end (D := w.heap.size + 2) (by rw [← hWs]; exact hbx) q0 q1 q2 q3 hr4 hg4 (by omega) (by omega) (by omega) (by omega)
  case rest =>
    obtain ⟨D, v0, v1, v2, v3, rfl, hD0, hDo, hFour, hRd, hGr⟩ := hcut
    rename World => wx
    have hres' : DObj wx (w.heap.size + 1) (.slice none 0 0) (.slice none 0 0) (.slice none 0 0) (.slice none 0 0) := hres.grown hGr (by intro e; cases e; omega)
    obtain ⟨A0, e0, rfl, y0, _⟩ := irow_numsD hFour.r0 (sigs_len _ _ _)
    obtain ⟨A1, e1, rfl, y1, _⟩ := irow_numsD hFour.r1 (sigs_len _ _ _)
    obtain ⟨A2, e2, rfl, y2, _⟩ := irow_numsD hFour.r2 (sigs_len _ _ _)
    obtain ⟨A3, e3, rfl, y3, _⟩ := irow_numsD hFour.r3 (sigs_len _ _ _)
    have gww : w.grownBy wx (some R) := grown_trans gW hGr
    have Z0 := Lib.hid (zf_at (x := sigs bs (k) n0) (sigs_len _ _ _))
    have N0 := Lib.hid (numberI A0 (sigs bs (k) n0) n0 e0 0 wx (sigs_len _ _ _) y0 (by omega) (by omega) (by omega))
    generalize (sigs bs (k) n0)[(0 : Int).toNat]?.getD 0 = r0 at Z0 N0
    have Z1 := Lib.hid (zf_at (x := sigs bs (k + 4 * n0) n1) (sigs_len _ _ _))
    have N1 := Lib.hid (numberI A1 (sigs bs (k + 4 * n0) n1) n1 e1 0 wx (sigs_len _ _ _) y1 (by omega) (by omega) (by omega))
    generalize (sigs bs (k + 4 * n0) n1)[(0 : Int).toNat]?.getD 0 = r1 at Z1 N1
    have Z2 := Lib.hid (zf_at (x := sigs bs (k + 4 * n0 + 4 * n1) n2) (sigs_len _ _ _))
    have N2 := Lib.hid (numberI A2 (sigs bs (k + 4 * n0 + 4 * n1) n2) n2 e2 0 wx (sigs_len _ _ _) y2 (by omega) (by omega) (by omega))
    generalize (sigs bs (k + 4 * n0 + 4 * n1) n2)[(0 : Int).toNat]?.getD 0 = r2 at Z2 N2
    have Z3 := Lib.hid (zf_at (x := sigs bs (k + 4 * n0 + 4 * n1 + 4 * n2) n3) (sigs_len _ _ _))
    have N3 := Lib.hid (numberI A3 (sigs bs (k + 4 * n0 + 4 * n1 + 4 * n2) n3) n3 e3 0 wx (sigs_len _ _ _) y3 (by omega) (by omega) (by omega))
    generalize (sigs bs (k + 4 * n0 + 4 * n1 + 4 * n2) n3)[(0 : Int).toNat]?.getD 0 = r3 at Z3 N3
    have HF := Lib.hid hFour
    have HRd := Lib.hid hRd
    have HG := Lib.hid gww
    have HD := Lib.hid hDo
    have HR := Lib.hid hres'
    obtain ⟨x0, x1, x2, x3, xf, xl⟩ := hDo.cells
    obtain ⟨t0, t1, t2, t3, tf, tl⟩ := hres'.cells
    clear hFour hRd gww hGr hDo hres' hres hS htab y0 y1 y2 y3 HWD hgA hrA hgB hrB hr0 hg0 rW
    have i0 : ∀ w, (Instr.index 68 (.agg #[.slice A0 n0 e0, .slice A1 n1 e1, .slice A2 n2 e2, .slice A3 n3 e3]) (.int .i64 0)).run Tryz.prog w = .ok (.slice A0 n0 e0) w := fun _ => by first | rfl | kernel_rfl
    have i1 : ∀ w, (Instr.index 68 (.agg #[.slice A0 n0 e0, .slice A1 n1 e1, .slice A2 n2 e2, .slice A3 n3 e3]) (.int .i64 1)).run Tryz.prog w = .ok (.slice A1 n1 e1) w := fun _ => by first | rfl | kernel_rfl
    have i2 : ∀ w, (Instr.index 68 (.agg #[.slice A0 n0 e0, .slice A1 n1 e1, .slice A2 n2 e2, .slice A3 n3 e3]) (.int .i64 2)).run Tryz.prog w = .ok (.slice A2 n2 e2) w := fun _ => by first | rfl | kernel_rfl
    have i3 : ∀ w, (Instr.index 68 (.agg #[.slice A0 n0 e0, .slice A1 n1 e1, .slice A2 n2 e2, .slice A3 n3 e3]) (.int .i64 3)).run Tryz.prog w = .ok (.slice A3 n3 e3) w := fun _ => by first | rfl | kernel_rfl
    go_wp2_with (fail)
    refine wp_loop_rounds 5 ?_
    rw [rounds_succ]
    go_wp2_with (fail)
    refine N0.out.mono ?_
    rintro e z9 (⟨g0, rfl, rfl⟩ | ⟨g0, rfl, rfl⟩)
    case inr => exact ⟨rfl, .inr ⟨zeros_no (.inl (Z0.out.2.1 g0)), rfl, HG.out⟩⟩
    go_wp2_with (fail)
    refine (need_any _ _).mono ?_
    rintro e z9 (⟨d0, rfl, rfl⟩ | ⟨d0, rfl, rfl⟩)
    case inr => exact ⟨rfl, .inr ⟨zeros_no (.inl (Z0.out.2.2 d0)), rfl, HG.out⟩⟩
    have O0 := Lib.hid (Z0.out.1 ⟨g0, d0⟩)
    clear g0 d0 Z0 N0
    go_wp2_with (fail)
    rw [rounds_succ]
    go_wp2_with (fail)
    refine N1.out.mono ?_
    rintro e z9 (⟨g1, rfl, rfl⟩ | ⟨g1, rfl, rfl⟩)
    case inr => exact ⟨rfl, .inr ⟨zeros_no (.inr (.inl (Z1.out.2.1 g1))), rfl, HG.out⟩⟩
    go_wp2_with (fail)
    refine (need_any _ _).mono ?_
    rintro e z9 (⟨d1, rfl, rfl⟩ | ⟨d1, rfl, rfl⟩)
    case inr => exact ⟨rfl, .inr ⟨zeros_no (.inr (.inl (Z1.out.2.2 d1))), rfl, HG.out⟩⟩
    have O1 := Lib.hid (Z1.out.1 ⟨g1, d1⟩)
    clear g1 d1 Z1 N1
    go_wp2_with (fail)
    rw [rounds_succ]
    go_wp2_with (fail)
    refine N2.out.mono ?_
    rintro e z9 (⟨g2, rfl, rfl⟩ | ⟨g2, rfl, rfl⟩)
    case inr => exact ⟨rfl, .inr ⟨zeros_no (.inr (.inr (.inl (Z2.out.2.1 g2)))), rfl, HG.out⟩⟩
    go_wp2_with (fail)
    refine (need_any _ _).mono ?_
    rintro e z9 (⟨d2, rfl, rfl⟩ | ⟨d2, rfl, rfl⟩)
    case inr => exact ⟨rfl, .inr ⟨zeros_no (.inr (.inr (.inl (Z2.out.2.2 d2)))), rfl, HG.out⟩⟩
    have O2 := Lib.hid (Z2.out.1 ⟨g2, d2⟩)
    clear g2 d2 Z2 N2
    go_wp2_with (fail)
    rw [rounds_succ]
    go_wp2_with (fail)
    refine N3.out.mono ?_
    rintro e z9 (⟨g3, rfl, rfl⟩ | ⟨g3, rfl, rfl⟩)
    case inr => exact ⟨rfl, .inr ⟨zeros_no (.inr (.inr (.inr (Z3.out.2.1 g3)))), rfl, HG.out⟩⟩
    go_wp2_with (fail)
    refine (need_any _ _).mono ?_
    rintro e z9 (⟨d3, rfl, rfl⟩ | ⟨d3, rfl, rfl⟩)
    case inr => exact ⟨rfl, .inr ⟨zeros_no (.inr (.inr (.inr (Z3.out.2.2 d3)))), rfl, HG.out⟩⟩
    have O3 := Lib.hid (Z3.out.1 ⟨g3, d3⟩)
    clear g3 d3 Z3 N3
    go_wp2_with (fail)
    rw [rounds_succ]
    go_wp2_with (fail)
    obtain ⟨f0, f1, f2, f3, _, _⟩ := (dobj_set4 (v0 := .slice A0 n0 e0) (v1 := .slice A1 n1 e1) (v2 := .slice A2 n2 e2) (v3 := .slice A3 n3 e3) HR.out).cells
    exact bodyPost_ret (v := .agg #[.slice A0 n0 e0, .slice A1 n1 e1, .slice A2 n2 e2, .slice A3 n3 e3]) (by simp [results, Tryz.results79, go_sem, f0, f1, f2, f3]) rfl (.inl ⟨by rw [O0.out, O1.out, O2.out, O3.out]; rfl, _, _, _, _, rfl, four_set4 HF.out HR.out, rd_set4 HRd.out (by omega) (by omega), grown_new HG.out (grown_set4 _ _ _ _ _ _) (by omega)⟩)
end Go.Proofs.YtdhidpbenhmfgaaGreat
