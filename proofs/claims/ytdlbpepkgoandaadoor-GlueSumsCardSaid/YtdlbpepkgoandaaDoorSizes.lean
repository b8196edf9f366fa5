/- glue.Sizes. -/
import Derived.Test.YtdlbpepkgoandaaDoorSizesMath
import Derived.Test.YtdlbpepkgoandaaDoorGFit
namespace Go.Proofs.YtdlbpepkgoandaaDoor
open Go.RowKit

theorem Tryd.infoInt : (Tryd.prog.info? 3).map (fun i => (i.zero, i.size, i.bytes)) = some (some (.int .i64 0), 1, 8) := by kernel_rfl

/-- the sizes so far -/
def SizesAt (gs : List Gl) (sg od nu de : Int) (w0 : World) (B N b : Nat) (i : Value) (wr : World) : Prop :=
  ∃ k : Nat, k ≤ gs.length ∧ i = .int .i64 k ∧ ChAt wr N sg od nu de (sumF sg od (gs.take k)) (shareV (sumF sg od (gs.take k)) nu de) ∧
    wr.rowIs b 3 gs.length (fun j => if j < k then .int .i64 (szAt sg od nu de gs j) else .int .i64 0) ∧ Below B w0 wr ∧ (sg = 0 ∨ shareE (sumF sg od (gs.take k)) nu de = 0)

theorem rowIs_others {w w' : World} {N b t n : Nat} {f : Nat → Value} (h : w.rowIs b t n f) (ho : Others N w w') (hb : b ≠ N + 4) (hb' : b ≠ N + 5) : w'.rowIs b t n f :=
  h.of_block (ho.block b h.lt hb hb')
theorem ChAt.others {w w' : World} {N : Nat} {sg od nu de S R : Int} (h : ChAt w N sg od nu de S R) {b i : Nat} (v : Value) (hb : N + 6 < b) (hw : w' = w.setCell ⟨b, i, none⟩ v) : ChAt w' N sg od nu de S R := by
  subst hw
  have hs : ∀ k, k ≤ N + 6 → (w.setCell ⟨b, i, none⟩ v).heap[k]? = w.heap[k]? := fun k hk => Below.heap_setCell _ _ _ _ (by simp; omega)
  exact ⟨(hs _ (by omega)).trans h.sg, (hs _ (by omega)).trans h.od, (hs _ (by omega)).trans h.nu, (hs _ (by omega)).trans h.de, (hs _ (by omega)).trans h.su, (hs _ (by omega)).trans h.sh, (hs _ (by omega)).trans h.fu⟩

set_option maxRecDepth 100000 in
set_option maxHeartbeats 4000000 in
theorem sizes_good (A : Option Addr) (gs : List Gl) (c : Nat) (sg od nu de : Int) (w : World) (h : GAt w A gs w.heap.size) (hok : szOk gs sg od nu de) :
    Calls Tryd.prog 49 #[.slice A gs.length c, .int .i64 sg, .int .i64 od, .int .i64 nu, .int .i64 de] w fun e w' =>
      ∃ b, e = .returned (.tuple #[.slice (some ⟨b, 0, none⟩) gs.length gs.length, .int .i64 0]) ∧ w.heap.size ≤ b ∧ w'.rowIs b 3 gs.length (fun j => .int .i64 (szAt sg od nu de gs j)) ∧ Kept w w' := by
  obtain ⟨hpre, hE⟩ := hok
  have Hst := Lib.hid (start_ok hpre)
  obtain ⟨hr, hsg, ⟨o0, o1⟩, hnu, hde, hd1⟩ := hpre
  obtain ⟨hl, hall⟩ := row_ok hr
  have Hr := Lib.hid hr
  have hck := fun w h => Lib.hid (checkRow_any A gs c w (by omega) h)
  rw [hr] at hck
  have hft := fun w => Lib.hid (gfit_two (a := nu) (c := de) (w := w) (r := true) (by rw [hnu, hde]; rfl))
  have hmk := run_make_row' (P := Tryd.prog) 64 3 (.int .i64 0) 8 Tryd.underlying64 Tryd.infoInt rfl .i64 .i64 gs.length (by omega) (by omega)
  have HE := Lib.hid hE; clear hE
  have Hall := Lib.hid hall; clear hall
  have H := Lib.hid h; clear h
  clear hr hnu hde
  have hsgE : sg ≠ 0 → 1 ≤ de := hd1
  have Hd1 := Lib.hid hd1; clear hd1 hsgE
  have Hsg := Lib.hid hsg
  have g0 : ¬ sg < 0 := by omega
  have g1 : ¬ (2:Int) < sg := by omega
  have g2 : ¬ od < 0 := by omega
  have g3 : od < 4 := by omega
  clear hsg
  by_cases hs0 : sg = 0
  · subst hs0
    have hsn : ((0 : Int) != 0) = false := by decide
    go_enter Tryd.func49, Tryd.ntmps49
    go_wp2_with (fail)
    refine (hck _ H.out).out.mono ?_
    rintro e w1 ⟨rfl, k1⟩
    go_wp2_with (fail)
    refine (hft _).out.mono ?_
    rintro e w2 ⟨rfl, rfl⟩
    go_wp2_with (fail)
    refine (changes_any 0 od nu de _).mono ?_
    rintro e w2 ⟨rfl, hch, k2, z2⟩
    have k3 : Kept w1 w2 := Kept.trans ((Kept.refl w1).alloc (Nat.le_refl _) _) k2
    obtain ⟨N, hN⟩ : ∃ N, (w1.alloc (Obj.cells #[Value.int IntKind.i64 nu, Value.int IntKind.i64 de] 3)).heap.size = N := ⟨_, rfl⟩
    rw [hN] at hch z2 ⊢
    have hN1 : w.heap.size ≤ N := by
      have := k1.size
      rw [← hN]; simp; omega
    clear hN
    have k4 : Kept w w2 := Kept.trans k1 k3
    clear k1 k2 k3
    unfold changeV
    go_wp2_with (fail)
    go_loopw [60] (fun i wr => SizesAt gs 0 od nu de w w.heap.size N (N + 7) i wr) (fun i _ => gs.length - (intOf i).toNat)
    case atStart =>
      refine ⟨0, Nat.zero_le _, rfl, ?_, ?_, ?_, .inl rfl⟩
      · have e : sumF 0 od (gs.take 0) = 0 := by simp [sumF]
        rw [e, shareV_zero]
        exact hch.kept ((Kept.refl w2).alloc (Nat.le_refl _) _)
      · have := (World.rowIs_made w2 (.int .i64 0) gs.length 3)
        rw [z2] at this
        exact this.congr fun i hi => by rw [if_neg (by omega)]
      · exact k4.alloc k4.size _
    case round =>
      obtain ⟨k, hk, rfl, hca, hrow, hbel, hse⟩ := hrel
      by_cases hlt : k < gs.length
      · obtain ⟨b, o, rfl, hb, hc⟩ := (GAt.below H.out hbel) (by omega)
        have hc0 := Lib.hid hc
        obtain ⟨c0, c1, c2, c3, c4⟩ := hc k hlt
        clear hc
        obtain ⟨b0, b1, b2, _, _⟩ := ok_parts ((List.all_eq_true.1 Hall.out) gs[k] (List.getElem_mem hlt))
        obtain ⟨q0, q1⟩ := sum_bd (sg := 0) (od := od) Hr.out k
        have hcl := fun w h => Lib.hid (change_any gs[k] 0 od nu de (sumF 0 od (gs.take k)) N w h (.inl rfl) hse (by omega) (by omega) (by omega) (by omega))
        have Hes := Lib.hid (sumF_succ (sg := 0) (od := od) hlt)
        go_wp2_with (fail)
        refine (hcl _ hca).out.mono ?_
        rintro e w3 ⟨x, y, rfl, x0, x1, hm⟩
        rcases hm with ⟨h1, h2, h3, h4⟩ | ⟨h1, h2, h3, h4, h5⟩
        · exact absurd rfl h1
        · rw [← Hes.out] at h1 h2 h4
          subst h3
          have hbel2 : Below w.heap.size w w3 := hbel.trans (h5.below (by omega) (by have := hrow.lt; omega))
          obtain ⟨b', o', e', hb', hc'⟩ := (GAt.below H.out hbel2) (by omega)
          obtain ⟨rfl, rfl⟩ : b' = b ∧ o' = o := by
            injection e' with e'
            injection e' with e1 e2
            exact ⟨e1.symm, e2.symm⟩
          obtain ⟨d0, _⟩ := hc' k hlt
          clear hc'
          have hrow2 := rowIs_others hrow h5 (by omega) (by omega)
          have hz1 := hrow2.cell (i := k) hlt
          have hz2 := hrow2.frozen k
          have H1 := Lib.hid h1; clear h1
          have H2 := Lib.hid h2; clear h2
          go_wp2_with (fail)
          refine ⟨⟨k + 1, hlt, by go_num, h4.others _ (by omega) rfl, ?_, hbel2.setCell (by simp; omega) _, .inl rfl⟩, by simp [intOf]; omega⟩
          refine (hrow2.set k _).congr fun j hj => ?_
          by_cases hjk : j = k
          · subst hjk
            rw [if_pos rfl, if_pos (by omega), szAt_eq hlt, ← H2.out]
          · rw [if_neg hjk]
            by_cases hj2 : j < k
            · rw [if_pos hj2, if_pos (by omega)]
            · rw [if_neg hj2, if_neg (by omega)]
      · obtain rfl : k = gs.length := by omega
        go_wp2
        go_ret2
        exact ⟨N + 7, rfl, by omega, hrow.congr fun i hi => by rw [if_pos hi], hbel⟩
  · have hd : ¬ de < 1 := by have := Hd1.out hs0; omega
    have hsn : (sg != 0) = true := by simpa using hs0
    go_enter Tryd.func49, Tryd.ntmps49
    go_wp2_with (fail)
    refine (hck _ H.out).out.mono ?_
    rintro e w1 ⟨rfl, k1⟩
    go_wp2_with (fail)
    refine (hft _).out.mono ?_
    rintro e w2 ⟨rfl, rfl⟩
    go_wp2_with (fail)
    refine (changes_any sg od nu de _).mono ?_
    rintro e w2 ⟨rfl, hch, k2, z2⟩
    have k3 : Kept w1 w2 := Kept.trans ((Kept.refl w1).alloc (Nat.le_refl _) _) k2
    obtain ⟨N, hN⟩ : ∃ N, (w1.alloc (Obj.cells #[Value.int IntKind.i64 nu, Value.int IntKind.i64 de] 3)).heap.size = N := ⟨_, rfl⟩
    rw [hN] at hch z2 ⊢
    have hN1 : w.heap.size ≤ N := by
      have := k1.size
      rw [← hN]; simp; omega
    clear hN
    have k4 : Kept w w2 := Kept.trans k1 k3
    clear k1 k2 k3
    unfold changeV
    go_wp2_with (fail)
    go_loopw [60] (fun i wr => SizesAt gs sg od nu de w w.heap.size N (N + 7) i wr) (fun i _ => gs.length - (intOf i).toNat)
    case atStart =>
      refine ⟨0, Nat.zero_le _, rfl, ?_, ?_, ?_, Hst.out⟩
      · have e : sumF sg od (gs.take 0) = 0 := by simp [sumF]
        rw [e, shareV_zero]
        exact hch.kept ((Kept.refl w2).alloc (Nat.le_refl _) _)
      · have := (World.rowIs_made w2 (.int .i64 0) gs.length 3)
        rw [z2] at this
        exact this.congr fun i hi => by rw [if_neg (by omega)]
      · exact k4.alloc k4.size _
    case round =>
      obtain ⟨k, hk, rfl, hca, hrow, hbel, hse⟩ := hrel
      by_cases hlt : k < gs.length
      · obtain ⟨b, o, rfl, hb, hc⟩ := (GAt.below H.out hbel) (by omega)
        have hc0 := Lib.hid hc
        obtain ⟨c0, c1, c2, c3, c4⟩ := hc k hlt
        clear hc
        obtain ⟨b0, b1, b2, _, _⟩ := ok_parts ((List.all_eq_true.1 Hall.out) gs[k] (List.getElem_mem hlt))
        obtain ⟨q0, q1⟩ := sum_bd (sg := sg) (od := od) Hr.out k
        have hcl := fun w h => Lib.hid (change_any gs[k] sg od nu de (sumF sg od (gs.take k)) N w h Hsg.out hse (by omega) (by omega) (by omega) (by omega))
        have Hes := Lib.hid (sumF_succ (sg := sg) (od := od) hlt)
        go_wp2_with (fail)
        refine (hcl _ hca).out.mono ?_
        rintro e w3 ⟨x, y, rfl, x0, x1, hm⟩
        rcases hm with ⟨h1, h2, h3, h4⟩ | ⟨h1, h2, h3, h4, h5⟩
        · rw [← Hes.out] at h3
          exact absurd (HE.out hs0 (k + 1) hlt) h3
        · rw [← Hes.out] at h1 h2 h4
          subst h3
          have hbel2 : Below w.heap.size w w3 := hbel.trans (h5.below (by omega) (by have := hrow.lt; omega))
          obtain ⟨b', o', e', hb', hc'⟩ := (GAt.below H.out hbel2) (by omega)
          obtain ⟨rfl, rfl⟩ : b' = b ∧ o' = o := by
            injection e' with e'
            injection e' with e1 e2
            exact ⟨e1.symm, e2.symm⟩
          obtain ⟨d0, _⟩ := hc' k hlt
          clear hc'
          have hrow2 := rowIs_others hrow h5 (by omega) (by omega)
          have hz1 := hrow2.cell (i := k) hlt
          have hz2 := hrow2.frozen k
          have H1 := Lib.hid h1; clear h1
          have H2 := Lib.hid h2; clear h2
          go_wp2_with (fail)
          refine ⟨⟨k + 1, hlt, by go_num, h4.others _ (by omega) rfl, ?_, hbel2.setCell (by simp; omega) _, H1.out⟩, by simp [intOf]; omega⟩
          refine (hrow2.set k _).congr fun j hj => ?_
          by_cases hjk : j = k
          · subst hjk
            rw [if_pos rfl, if_pos (by omega), szAt_eq hlt, ← H2.out]
          · rw [if_neg hjk]
            by_cases hj2 : j < k
            · rw [if_pos hj2, if_pos (by omega)]
            · rw [if_neg hj2, if_neg (by omega)]
      · obtain rfl : k = gs.length := by omega
        go_wp2
        go_ret2
        exact ⟨N + 7, rfl, by omega, hrow.congr fun i hi => by rw [if_pos hi], hbel⟩
end Go.Proofs.YtdlbpepkgoandaaDoor
