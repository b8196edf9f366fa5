/- glue.Sum. -/
import Derived.Test.YtcikgaflnhpklaaSizesMath
import Derived.Test.YtcikgaflnhpklaaFitMath
import Derived.RegionTactic
import Derived.ChangeAlike
import Derived.Outline
namespace Go.Proofs.Ytcikgaflnhpklaa
open Go.RowKit

def natSum : List Gl → Int
  | [] => 0
  | g :: r => g.nat + natSum r

theorem natSum_append (a b : List Gl) : natSum (a ++ b) = natSum a + natSum b := by
  induction a with
  | nil => simp [natSum]
  | cons g r ih => simp only [List.cons_append, natSum, ih]; omega
theorem natSum_succ {gs : List Gl} {k : Nat} (hk : k < gs.length) : natSum (gs.take (k + 1)) = natSum (gs.take k) + gs[k].nat := by
  rw [List.take_succ_eq_append_getElem hk, natSum_append]
  simp [natSum]
theorem natSum_bd {gs : List Gl} (h : gs.all Gl.okB = true) : -(gs.length * 1073741823 : Int) ≤ natSum gs ∧ natSum gs ≤ gs.length * 1073741823 := by
  induction gs with
  | nil => simp [natSum]
  | cons g r ih =>
    simp only [List.all_cons, Bool.and_eq_true] at h
    have := ih h.2
    have := (ok_parts h.1).1
    simp only [natSum, List.length_cons]
    omega
theorem nat_bd {gs : List Gl} (h : rowE gs = 0) (k : Nat) : -2147483646000 ≤ natSum (gs.take k) ∧ natSum (gs.take k) ≤ 2147483646000 := by
  obtain ⟨h1, h2⟩ := row_ok h
  have hb := natSum_bd (take_ok h2 k)
  have hl : (gs.take k).length ≤ 2000 := by rw [List.length_take]; omega
  omega

/-- the totals of a row -/
def totOf (gs : List Gl) : Tot := ⟨natSum gs, sumF 1 0 gs, sumF 1 1 gs, sumF 1 2 gs, sumF 1 3 gs, sumF 2 0 gs, sumF 2 1 gs, sumF 2 2 gs, sumF 2 3 gs⟩

/-- after k rounds: the sums by orders, at blocks N and N + 1 -/
def SumAt (gs : List Gl) (w1 : World) (N : Nat) (nat i : Value) (wr : World) : Prop :=
  ∃ k : Nat, k ≤ gs.length ∧ i = .int .i64 k ∧ nat = .int .i64 (natSum (gs.take k)) ∧ wr.rowIs N 22 4 (fun j => .int .i64 (sumF 1 j (gs.take k))) ∧
    wr.rowIs (N + 1) 22 4 (fun j => .int .i64 (sumF 2 j (gs.take k))) ∧ Below N w1 wr

/-- the result's block, nine cells, as a later world has it -/
theorem box_nine {w w1 : World} {B : Nat} {T : TypeId} {z0 z1 z2 z3 z4 z5 z6 z7 z8 : Value} (h : w.heap[B]? = some (.cells #[z0, z1, z2, z3, z4, z5, z6, z7, z8] T (0, 0))) (hk : w1.heap[B]? = w.heap[B]?) :
    w1.cell? ⟨B, 0, none⟩ = some z0 ∧ w1.cell? ⟨B, 1, none⟩ = some z1 ∧ w1.cell? ⟨B, 2, none⟩ = some z2 ∧ w1.cell? ⟨B, 3, none⟩ = some z3 ∧ w1.cell? ⟨B, 4, none⟩ = some z4 ∧ w1.cell? ⟨B, 5, none⟩ = some z5 ∧
    w1.cell? ⟨B, 6, none⟩ = some z6 ∧ w1.cell? ⟨B, 7, none⟩ = some z7 ∧ w1.cell? ⟨B, 8, none⟩ = some z8 ∧ ∀ o, w1.frozen? ⟨B, o, none⟩ = false := by
  rw [h] at hk
  refine ⟨?_, ?_, ?_, ?_, ?_, ?_, ?_, ?_, ?_, fun o => ?_⟩
  all_goals first | simp [World.cell?, hk] | simp [World.frozen?, hk]

theorem made1 (w : World) (o0 : Obj) : (w.alloc o0).heap[w.heap.size]? = some o0 := by
  have e : (w.alloc o0).heap = w.heap.push o0 := rfl
  rw [e]
  simp

set_option maxRecDepth 100000 in
set_option maxHeartbeats 2000000 in
theorem sum_bad (A : Option Addr) (gs : List Gl) (c : Nat) (w : World) (hlen : gs.length ≤ 9223372036854775807) (h : GAt w A gs w.heap.size) (hr : rowE gs ≠ 0) :
    Calls Try.prog 15 #[.slice A gs.length c] w fun e w' => e = .returned (.tuple #[.agg #[.int .i64 0, .int .i64 0, .int .i64 0, .int .i64 0, .int .i64 0, .int .i64 0, .int .i64 0, .int .i64 0, .int .i64 0], .int .i64 (rowE gs)]) ∧ Kept w w' := by
  have hck := fun w h => Lib.hid (checkRow_any A gs c w hlen h)
  have H := Lib.hid h
  clear h
  generalize rowE gs = E at *
  have hE : (E != 0) = true := by simpa using hr
  clear hr
  go_enter Try.func15, Try.ntmps15
  go_wp2_with (fail)
  refine (hck _ ?_).out.mono ?_
  · have := H.out.below ((Kept.refl w).alloc (Nat.le_refl _) (.cells #[.int .i64 0, .int .i64 0, .int .i64 0, .int .i64 0, .int .i64 0, .int .i64 0, .int .i64 0, .int .i64 0, .int .i64 0] 24))
    intro hn
    obtain ⟨b, o, e1, hb, hc⟩ := this hn
    exact ⟨b, o, e1, by simp; omega, hc⟩
  rintro e w1 ⟨rfl, k1⟩
  have hz : w.heap.size + 1 ≤ w1.heap.size := by have := k1.size; simpa using this
  obtain ⟨x0, x1, x2, x3, x4, x5, x6, x7, x8, xf⟩ := box_nine (made1 w _) (k1.block w.heap.size (by simp))
  have kb : Kept w w1 := Kept.trans ((Kept.refl w).alloc (Nat.le_refl _) _) k1
  clear k1
  go_wp2_with (fail)
  exact bodyPost_ret (v := .tuple #[.agg #[.int .i64 0, .int .i64 0, .int .i64 0, .int .i64 0, .int .i64 0, .int .i64 0, .int .i64 0, .int .i64 0, .int .i64 0], .int .i64 E]) (by simp [results, Try.results15, go_sem, x0, x1, x2, x3, x4, x5, x6, x7, x8]) rfl ⟨rfl, (Below.setCell (Below.setCell (Below.setCell (Below.setCell (Below.setCell (Below.setCell (Below.setCell (Below.setCell (Below.setCell kb (Nat.le_refl _) _) (Nat.le_refl _) _) (Nat.le_refl _) _) (Nat.le_refl _) _) (Nat.le_refl _) _) (Nat.le_refl _) _) (Nat.le_refl _) _) (Nat.le_refl _) _) (Nat.le_refl _) _)⟩

theorem sum_store {gs : List Gl} {k : Nat} {s : Int} {f : Int} {h : Int} {wr : World} {b : Nat} (hk : k < gs.length) (hr : wr.rowIs b 22 4 (fun j => .int .i64 (sumF s j (gs.take k)))) (o : Nat) (ho : o < 4)
    (hf : ∀ j : Nat, j < 4 → fsz s j gs[k] = if j = o then f else 0) (he : h = sumF s o (gs.take k) + f) :
    (wr.setCell ⟨b, o, none⟩ (.int .i64 h)).rowIs b 22 4 (fun j => .int .i64 (sumF s j (gs.take (k + 1)))) := by
  refine (hr.set o _).congr fun j hj => ?_
  rw [sumF_succ hk, hf j hj]
  by_cases hjo : j = o
  · subst hjo
    rw [if_pos rfl, if_pos rfl, he]
  · rw [if_neg hjo, if_neg hjo, Int.add_zero]

set_option maxRecDepth 100000 in
set_option maxHeartbeats 4000000 in
theorem sum_good (A : Option Addr) (gs : List Gl) (c : Nat) (w : World) (h : GAt w A gs w.heap.size) (hr : rowE gs = 0) :
    Calls Try.prog 15 #[.slice A gs.length c] w fun e w' => e = .returned (.tuple #[.agg #[.int .i64 (natSum gs), .int .i64 (sumF 1 0 gs), .int .i64 (sumF 1 1 gs), .int .i64 (sumF 1 2 gs), .int .i64 (sumF 1 3 gs), .int .i64 (sumF 2 0 gs), .int .i64 (sumF 2 1 gs), .int .i64 (sumF 2 2 gs), .int .i64 (sumF 2 3 gs)], .int .i64 0]) ∧ Kept w w' := by
  obtain ⟨hl, hall⟩ := row_ok hr
  have hck := fun w h => Lib.hid (checkRow_any A gs c w (by omega) h)
  rw [hr] at hck
  have Hr := Lib.hid hr; clear hr
  have Hall := Lib.hid hall; clear hall
  have H := Lib.hid h
  clear h
  go_enter Try.func15, Try.ntmps15
  go_wp2_with (fail)
  refine (hck _ ?_).out.mono ?_
  · have := H.out.below ((Kept.refl w).alloc (Nat.le_refl _) (.cells #[.int .i64 0, .int .i64 0, .int .i64 0, .int .i64 0, .int .i64 0, .int .i64 0, .int .i64 0, .int .i64 0, .int .i64 0] 24))
    intro hn
    obtain ⟨b, o, e1, hb, hc⟩ := this hn
    exact ⟨b, o, e1, by simp; omega, hc⟩
  rintro e w1 ⟨rfl, k1⟩
  have hz : w.heap.size + 1 ≤ w1.heap.size := by have := k1.size; simpa using this
  have hbox := Lib.hid (made1 w (.cells #[.int .i64 0, .int .i64 0, .int .i64 0, .int .i64 0, .int .i64 0, .int .i64 0, .int .i64 0, .int .i64 0, .int .i64 0] 24))
  have hw1 := Lib.hid (k1.block w.heap.size (by simp))
  have kb : Kept w w1 := Kept.trans ((Kept.refl w).alloc (Nat.le_refl _) _) k1
  clear k1
  go_wp2_with (fail)
  go_loopw [5, 18] (fun nat i wr => SumAt gs w1 w1.heap.size nat i wr) (fun _ i _ => gs.length - (intOf i).toNat)
  case atStart =>
    refine ⟨0, Nat.zero_le _, rfl, by simp [natSum], ?_, ?_, ((Kept.refl w1).alloc (Nat.le_refl _) _).alloc (by simp) _⟩
    · have h1 := World.rowIs_alloc w1 #[.int .i64 0, .int .i64 0, .int .i64 0, .int .i64 0] 22 (fun j => .int .i64 (sumF 1 j (gs.take 0))) (by
        intro i hi
        have hi' : i < 4 := hi
        obtain rfl | rfl | rfl | rfl : i = 0 ∨ i = 1 ∨ i = 2 ∨ i = 3 := by omega
        all_goals simp [sumF])
      exact h1.alloc _
    · have h1 := World.rowIs_alloc (w1.alloc (.cells #[.int .i64 0, .int .i64 0, .int .i64 0, .int .i64 0] 22)) #[.int .i64 0, .int .i64 0, .int .i64 0, .int .i64 0] 22 (fun j => .int .i64 (sumF 2 j (gs.take 0))) (by
        intro i hi
        have hi' : i < 4 := hi
        obtain rfl | rfl | rfl | rfl : i = 0 ∨ i = 1 ∨ i = 2 ∨ i = 3 := by omega
        all_goals simp [sumF])
      simpa using h1
  case round =>
    obtain ⟨k, hk, rfl, rfl, hra, hrb, hbel⟩ := hrel
    by_cases hlt : k < gs.length
    · obtain ⟨b, o, rfl, hb, hc⟩ := (GAt.below H.out (kb.trans (hbel.mono (by omega)))) (by omega)
      obtain ⟨c0, c1, c2, c3, c4⟩ := hc k hlt
      clear hc
      have hg := (List.all_eq_true.1 Hall.out) gs[k] (List.getElem_mem hlt)
      obtain ⟨n0, s0, h0, ⟨o0, o1⟩, ⟨p0, p1⟩⟩ := ok_parts hg
      obtain ⟨q0, q1⟩ := nat_bd Hr.out k
      have hns := Lib.hid (natSum_succ hlt)
      obtain ⟨so, eso⟩ : ∃ so : Nat, gs[k].so = (so : Int) := ⟨gs[k].so.toNat, by omega⟩
      obtain ⟨ho, eho⟩ : ∃ ho : Nat, gs[k].ho = (ho : Int) := ⟨gs[k].ho.toNat, by omega⟩
      have hso : so < 4 := by omega
      have hho : ho < 4 := by omega
      have fs : Hid (∀ j : Nat, j < 4 → fsz 1 j gs[k] = if j = so then gs[k].st else 0) := by
        intro j _
        have e : ((so : Int) = (j : Int)) ↔ (j = so) := by omega
        simp [fsz, ofOrder, eso, e]
      have fh : Hid (∀ j : Nat, j < 4 → fsz 2 j gs[k] = if j = ho then gs[k].sh else 0) := by
        intro j _
        have e : ((ho : Int) = (j : Int)) ↔ (j = ho) := by omega
        simp [fsz, ofOrder, eho, e]
      obtain ⟨u0, u1⟩ := sum_bd (sg := 1) (od := so) Hr.out k
      obtain ⟨v0, v1⟩ := sum_bd (sg := 2) (od := ho) Hr.out k
      rw [eso] at c3
      rw [eho] at c4
      clear eso eho o0 o1 p0 p1 hg
      have ha := hra.cell (i := so) hso
      have haf := hra.frozen so
      have hb2 := hrb.cell (i := ho) hho
      have hbf := hrb.frozen ho
      have hla := hra.lt
      have hlb := hrb.lt
      have Hra := Lib.hid hra
      have Hrb := Lib.hid hrb
      clear hra hrb
      generalize gs[k].st = st at *
      generalize gs[k].sh = sh at *
      generalize gs[k].nat = gn at *
      go_wp2_with (fail)
      go_region
      all_goals go_wp2_with (fail)
      all_goals go_region
      all_goals go_wp2_with (fail)
      all_goals
        refine ⟨⟨k + 1, hlt, by go_num, by rw [hns.out], ?_, ?_, ?_⟩, by simp [intOf]; omega⟩
        · exact (((sum_store hlt Hra.out so hso fs.out rfl).setOther (by simp) _).alloc _)
        · exact ((sum_store hlt (Hrb.out.setOther (by simp) _) ho hho fh.out rfl).alloc _)
        · exact (((hbel.setCell (Nat.le_refl _) _).setCell (by simp) _).alloc (by have := hbel.size; simp [World.setCell]; omega) _).drew.drew
    · obtain rfl : k = gs.length := by omega
      rw [List.take_length] at *
      have ra0 := hra.cell (i := 0) (by omega)
      have ra1 := hra.cell (i := 1) (by omega)
      have ra2 := hra.cell (i := 2) (by omega)
      have ra3 := hra.cell (i := 3) (by omega)
      have rb0 := hrb.cell (i := 0) (by omega)
      have rb1 := hrb.cell (i := 1) (by omega)
      have rb2 := hrb.cell (i := 2) (by omega)
      have rb3 := hrb.cell (i := 3) (by omega)
      have hbox2 := box_nine hbox.out ((hbel.block w.heap.size (by omega)).trans hw1.out)
      obtain ⟨x0, x1, x2, x3, x4, x5, x6, x7, x8, xf⟩ := hbox2
      have hl2 : w.heap.size < wr.heap.size := by have := hbel.size; omega
      have kb' : Kept w wr := kb.trans (hbel.mono (by omega))
      clear hbel
      go_wp2_with (fail)
      exact bodyPost_ret (v := .tuple #[.agg #[.int .i64 (natSum gs), .int .i64 (sumF 1 0 gs), .int .i64 (sumF 1 1 gs), .int .i64 (sumF 1 2 gs), .int .i64 (sumF 1 3 gs), .int .i64 (sumF 2 0 gs), .int .i64 (sumF 2 1 gs), .int .i64 (sumF 2 2 gs), .int .i64 (sumF 2 3 gs)], .int .i64 0]) (by simp [results, Try.results15, go_sem, x0, x1, x2, x3, x4, x5, x6, x7, x8]) rfl ⟨rfl, (Below.setCell (Below.setCell (Below.setCell (Below.setCell (Below.setCell (Below.setCell (Below.setCell (Below.setCell (Below.setCell kb' (Nat.le_refl _) _) (Nat.le_refl _) _) (Nat.le_refl _) _) (Nat.le_refl _) _) (Nat.le_refl _) _) (Nat.le_refl _) _) (Nat.le_refl _) _) (Nat.le_refl _) _) (Nat.le_refl _) _)⟩
end Go.Proofs.Ytcikgaflnhpklaa
