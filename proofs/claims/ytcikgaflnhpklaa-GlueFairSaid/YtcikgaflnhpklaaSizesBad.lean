/- glue.Sizes where it refuses. -/
import Derived.Test.YtcikgaflnhpklaaSizes
namespace Go.Proofs.Ytcikgaflnhpklaa
open Go.RowKit

def SizesNo (w : World) (e : Ending) (w' : World) : Prop := ∃ c : Int, c ≠ 0 ∧ e = .returned (.tuple #[.slice none 0 0, .int .i64 c]) ∧ Kept w w'

/-- the sizes so far, no share having failed -/
def SizesAll (gs : List Gl) (sg od nu de : Int) (w0 : World) (B N b : Nat) (i : Value) (wr : World) : Prop :=
  ∃ k : Nat, k ≤ gs.length ∧ i = .int .i64 k ∧ ChAt wr N sg od nu de (sumF sg od (gs.take k)) (shareV (sumF sg od (gs.take k)) nu de) ∧
    wr.rowIs b 3 gs.length (fun j => if j < k then .int .i64 (szAt sg od nu de gs j) else .int .i64 0) ∧ Below B w0 wr ∧ ∀ j, j ≤ k → shareE (sumF sg od (gs.take j)) nu de = 0

set_option maxRecDepth 100000 in
set_option maxHeartbeats 4000000 in
theorem sizes_far (A : Option Addr) (gs : List Gl) (c : Nat) (sg od nu de : Int) (w : World) (h : GAt w A gs w.heap.size) (hpre : preOk gs sg od nu de) (hs0 : sg ≠ 0) (hbad : ∃ j, j ≤ gs.length ∧ shareE (sumF sg od (gs.take j)) nu de ≠ 0) :
    Calls Try.prog 16 #[.slice A gs.length c, .int .i64 sg, .int .i64 od, .int .i64 nu, .int .i64 de] w (SizesNo w) := by
  have Hst0 := Lib.hid ((start_ok hpre).resolve_left hs0)
  have HB := Lib.hid hbad; clear hbad
  obtain ⟨hr, hsg, ⟨o0, o1⟩, hnu, hde, hd1⟩ := hpre
  obtain ⟨hl, hall⟩ := row_ok hr
  have Hr := Lib.hid hr
  have hck := fun w h => Lib.hid (checkRow_any A gs c w (by omega) h)
  rw [hr] at hck
  have hft := fun w => Lib.hid (gfit_two (a := nu) (c := de) (w := w) (r := true) (by rw [hnu, hde]; rfl))
  have hmk := run_make_row' (P := Try.prog) 41 3 (.int .i64 0) 8 Try.underlying41 Try.infoInt rfl .i64 .i64 gs.length (by omega) (by omega)
  have Hall := Lib.hid hall; clear hall
  have H := Lib.hid h; clear h
  clear hr hnu hde
  have Hd1 := Lib.hid hd1; clear hd1
  have Hsg := Lib.hid hsg
  have g0 : ¬ sg < 0 := by omega
  have g1 : ¬ (2:Int) < sg := by omega
  have g2 : ¬ od < 0 := by omega
  have g3 : od < 4 := by omega
  clear hsg
  have hd : ¬ de < 1 := by have := Hd1.out hs0; omega
  have hsn : (sg != 0) = true := by simpa using hs0
  go_enter Try.func16, Try.ntmps16
  go_wp2_with (fail)
  refine (hck _ H.out).out.mono ?_
  rintro e w1 ⟨rfl, k1⟩
  go_wp2_with (fail)
  refine (hft _).out.mono ?_
  rintro e w2 ⟨rfl, rfl⟩
  go_wp2_with (fail)
  refine (changes_any sg od nu de _).mono ?_
  rintro e w2 ⟨rfl, hch, k2, z2⟩
  have k3 : Kept w1 w2 := Kept.trans ((Kept.refl w1).alloc (Nat.le_refl _) _) k2
  obtain ⟨N, hN⟩ : ∃ N, (w1.alloc (Obj.cells #[Value.int IntKind.i64 nu, Value.int IntKind.i64 de] 3)).heap.size = N := ⟨_, rfl⟩
  rw [hN] at hch z2 ⊢
  have hN1 : w.heap.size ≤ N := by
    have := k1.size
    rw [← hN]; simp; omega
  clear hN
  have k4 : Kept w w2 := Kept.trans k1 k3
  clear k1 k2 k3
  unfold changeV
  go_wp2_with (fail)
  go_loopw [60] (fun i wr => SizesAll gs sg od nu de w w.heap.size N (N + 7) i wr) (fun i _ => gs.length - (intOf i).toNat)
  case atStart =>
    refine ⟨0, Nat.zero_le _, rfl, ?_, ?_, ?_, fun j hj => by obtain rfl : j = 0 := by omega
                                                              exact Hst0.out⟩
    · have e : sumF sg od (gs.take 0) = 0 := by simp [sumF]
      rw [e, shareV_zero]
      exact hch.kept ((Kept.refl w2).alloc (Nat.le_refl _) _)
    · have := (World.rowIs_made w2 (.int .i64 0) gs.length 3)
      rw [z2] at this
      exact this.congr fun i hi => by rw [if_neg (by omega)]
    · exact k4.alloc k4.size _
  case round =>
    obtain ⟨k, hk, rfl, hca, hrow, hbel, hsa⟩ := hrel
    have hse : sg = 0 ∨ shareE (sumF sg od (gs.take k)) nu de = 0 := .inr (hsa k (Nat.le_refl _))
    have Hsa := Lib.hid hsa; clear hsa
    by_cases hlt : k < gs.length
    · obtain ⟨b, o, rfl, hb, hc⟩ := (GAt.below H.out hbel) (by omega)
      have hc0 := Lib.hid hc
      obtain ⟨c0, c1, c2, c3, c4⟩ := hc k hlt
      clear hc
      obtain ⟨b0, b1, b2, _, _⟩ := ok_parts ((List.all_eq_true.1 Hall.out) gs[k] (List.getElem_mem hlt))
      obtain ⟨q0, q1⟩ := sum_bd (sg := sg) (od := od) Hr.out k
      have hcl := fun w h => Lib.hid (change_any gs[k] sg od nu de (sumF sg od (gs.take k)) N w h Hsg.out hse (by omega) (by omega) (by omega) (by omega))
      have Hes := Lib.hid (sumF_succ (sg := sg) (od := od) hlt)
      go_wp2_with (fail)
      refine (hcl _ hca).out.mono ?_
      rintro e w3 ⟨x, y, rfl, x0, x1, hm⟩
      rcases hm with ⟨h1, h2, h3, h4⟩ | ⟨h1, h2, h3, h4, h5⟩
      · have hy : (y != 0) = true := by simpa using h2
        have Hy := Lib.hid h2
        have hb4 : Below w.heap.size w w3 := hbel.trans (h4.mono (by have := hrow.lt; omega))
        clear h1 h2 h3 h4
        go_wp2_with (fail)
        go_ret2
        exact ⟨y, Hy.out, rfl, hb4⟩
      · rw [← Hes.out] at h1 h2 h4
        subst h3
        have hbel2 : Below w.heap.size w w3 := hbel.trans (h5.below (by omega) (by have := hrow.lt; omega))
        obtain ⟨b', o', e', hb', hc'⟩ := (GAt.below H.out hbel2) (by omega)
        obtain ⟨rfl, rfl⟩ : b' = b ∧ o' = o := by
          injection e' with e'
          injection e' with e1 e2
          exact ⟨e1.symm, e2.symm⟩
        obtain ⟨d0, _⟩ := hc' k hlt
        clear hc'
        have hrow2 := rowIs_others hrow h5 (by omega) (by omega)
        have hz1 := hrow2.cell (i := k) hlt
        have hz2 := hrow2.frozen k
        have H1 := Lib.hid h1; clear h1
        have H2 := Lib.hid h2; clear h2
        go_wp2_with (fail)
        refine ⟨⟨k + 1, hlt, by go_num, h4.others _ (by omega) rfl, ?_, hbel2.setCell (by simp; omega) _, fun j hj => ?_⟩, by simp [intOf]; omega⟩
        rotate_left
        · rcases Nat.lt_or_ge j (k + 1) with h | h
          · exact Hsa.out j (by omega)
          · obtain rfl : j = k + 1 := by omega
            exact H1.out.resolve_left hs0
        refine (hrow2.set k _).congr fun j hj => ?_
        by_cases hjk : j = k
        · subst hjk
          rw [if_pos rfl, if_pos (by omega), szAt_eq hlt, ← H2.out]
        · rw [if_neg hjk]
          by_cases hj2 : j < k
          · rw [if_pos hj2, if_pos (by omega)]
          · rw [if_neg hj2, if_neg (by omega)]
    · obtain rfl : k = gs.length := by omega
      obtain ⟨j, hj, hb⟩ := HB.out
      exact absurd (Hsa.out j hj) hb

set_option maxRecDepth 100000 in
set_option maxHeartbeats 2000000 in
theorem sizes_row (A : Option Addr) (gs : List Gl) (c : Nat) (sg od nu de : Int) (w : World) (hlen : gs.length ≤ 9223372036854775807) (h : GAt w A gs w.heap.size) (hr : rowE gs ≠ 0) :
    Calls Try.prog 16 #[.slice A gs.length c, .int .i64 sg, .int .i64 od, .int .i64 nu, .int .i64 de] w (SizesNo w) := by
  have hck := Lib.hid (checkRow_any A gs c w hlen h)
  clear h
  generalize rowE gs = E at *
  have hE : (E != 0) = true := by simpa using hr
  have Hr := Lib.hid hr; clear hr
  go_enter Try.func16, Try.ntmps16
  go_wp2_with (fail)
  refine hck.out.mono ?_
  rintro e w1 ⟨rfl, k1⟩
  go_wp2_with (fail)
  go_ret2
  exact ⟨E, Hr.out, rfl, k1⟩

set_option maxRecDepth 100000 in
set_option maxHeartbeats 2000000 in
theorem sizes_arg (A : Option Addr) (gs : List Gl) (c : Nat) (sg od nu de : Int) (w : World) (h : GAt w A gs w.heap.size) (hr : rowE gs = 0) (hb : ¬ ((0 ≤ sg ∧ sg ≤ 2) ∧ (0 ≤ od ∧ od < 4))) :
    Calls Try.prog 16 #[.slice A gs.length c, .int .i64 sg, .int .i64 od, .int .i64 nu, .int .i64 de] w (SizesNo w) := by
  have hl := (row_ok hr).1
  have hck := Lib.hid (checkRow_any A gs c w (by omega) h)
  rw [hr] at hck
  clear h hr
  have hcase : sg < 0 ∨ (¬ sg < 0 ∧ 2 < sg) ∨ (¬ sg < 0 ∧ ¬ 2 < sg ∧ od < 0) ∨ (¬ sg < 0 ∧ ¬ 2 < sg ∧ ¬ od < 0 ∧ 4 ≤ od) := by omega
  clear hb
  rcases hcase with h1 | ⟨h1, h2⟩ | ⟨h1, h2, h3⟩ | ⟨h1, h2, h3, h4⟩
  all_goals
    go_enter Try.func16, Try.ntmps16
    go_wp2_with (fail)
    refine hck.out.mono ?_
    rintro e w1 ⟨rfl, k1⟩
    go_wp2_with (fail)
    go_ret2
    exact ⟨1, by decide, rfl, k1⟩

set_option maxRecDepth 100000 in
set_option maxHeartbeats 2000000 in
theorem sizes_range (A : Option Addr) (gs : List Gl) (c : Nat) (sg od nu de : Int) (w : World) (h : GAt w A gs w.heap.size) (hr : rowE gs = 0) (hsg : 0 ≤ sg ∧ sg ≤ 2) (hod : 0 ≤ od ∧ od < 4)
    (hb : (inB nu && inB de) = false ∨ ((inB nu && inB de) = true ∧ sg ≠ 0 ∧ de < 1)) :
    Calls Try.prog 16 #[.slice A gs.length c, .int .i64 sg, .int .i64 od, .int .i64 nu, .int .i64 de] w (SizesNo w) := by
  have hl := (row_ok hr).1
  have hck := Lib.hid (checkRow_any A gs c w (by omega) h)
  rw [hr] at hck
  clear h hr
  have g0 : ¬ sg < 0 := by omega
  have g1 : ¬ (2:Int) < sg := by omega
  have g2 : ¬ od < 0 := by omega
  have g3 : od < 4 := by omega
  clear hsg hod
  rcases hb with hb | ⟨hb, hs, hd⟩
  · have hft := fun w => Lib.hid (gfit_two (a := nu) (c := de) (w := w) hb)
    clear hb
    go_enter Try.func16, Try.ntmps16
    go_wp2_with (fail)
    refine hck.out.mono ?_
    rintro e w1 ⟨rfl, k1⟩
    go_wp2_with (fail)
    refine (hft _).out.mono ?_
    rintro e w2 ⟨rfl, rfl⟩
    go_wp2_with (fail)
    go_ret2
    exact ⟨11, by decide, rfl, Kept.trans k1 ((Kept.refl w1).alloc (Nat.le_refl _) _)⟩
  · have hft := fun w => Lib.hid (gfit_two (a := nu) (c := de) (w := w) hb)
    have hsn : (sg != 0) = true := by simpa using hs
    clear hb hs
    go_enter Try.func16, Try.ntmps16
    go_wp2_with (fail)
    refine hck.out.mono ?_
    rintro e w1 ⟨rfl, k1⟩
    go_wp2_with (fail)
    refine (hft _).out.mono ?_
    rintro e w2 ⟨rfl, rfl⟩
    go_wp2_with (fail)
    go_ret2
    exact ⟨11, by decide, rfl, Kept.trans k1 ((Kept.refl w1).alloc (Nat.le_refl _) _)⟩

theorem sizes_bad (A : Option Addr) (gs : List Gl) (c : Nat) (sg od nu de : Int) (w : World) (hlen : gs.length ≤ 9223372036854775807) (h : GAt w A gs w.heap.size) (hb : ¬ szOk gs sg od nu de) :
    Calls Try.prog 16 #[.slice A gs.length c, .int .i64 sg, .int .i64 od, .int .i64 nu, .int .i64 de] w (SizesNo w) := by
  by_cases hr : rowE gs = 0
  · by_cases ha : (0 ≤ sg ∧ sg ≤ 2) ∧ (0 ≤ od ∧ od < 4)
    · cases hf : (inB nu && inB de)
      · exact sizes_range A gs c sg od nu de w h hr ha.1 ha.2 (.inl hf)
      · by_cases hd : sg ≠ 0 ∧ de < 1
        · exact sizes_range A gs c sg od nu de w h hr ha.1 ha.2 (.inr ⟨hf, hd⟩)
        · obtain ⟨hf1, hf2⟩ := Bool.and_eq_true_iff.1 hf
          have hpre : preOk gs sg od nu de := ⟨hr, by omega, ha.2, hf1, hf2, fun h0 => by omega⟩
          have hs0 : sg ≠ 0 := by
            intro h0
            exact hb ⟨hpre, fun h1 => absurd h0 h1⟩
          refine sizes_far A gs c sg od nu de w h hpre hs0 ?_
          refine Classical.byContradiction fun hn => hb ⟨hpre, fun _ k hk => ?_⟩
          exact Classical.byContradiction fun hk2 => hn ⟨k, hk, hk2⟩
    · exact sizes_arg A gs c sg od nu de w h hr ha
  · exact sizes_row A gs c sg od nu de w hlen h hr
end Go.Proofs.Ytcikgaflnhpklaa
