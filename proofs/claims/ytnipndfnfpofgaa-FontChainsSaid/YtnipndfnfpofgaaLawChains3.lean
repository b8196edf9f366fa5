/- FontChains' walk. -/
import Derived.Test.YtnipndfnfpofgaaChainFacts
import Derived.Test.YtnipndfnfpofgaaKnow3
import Derived.Deep.QuietTactic
import Derived.BigQuiet
import Derived.Deep.RegionHeld2
namespace Go.Proofs.Ytnipndfnfpofgaa
open Go.RowKit

abbrev fboxC (F : Fnt) (a : FAddr) : Obj := .cells #[.int .u32 F.check, .int .i64 F.design, .int .i64 F.first, .slice a.A0 F.chars.length a.c0, .slice a.A1 F.steps.length a.c1, .slice a.A2 F.kerns.length a.c2, .slice a.A3 F.pieces.length a.c3, .slice a.A4 F.params.length a.c4] 28
def FIc (w : World) (B : Nat) (F : Fnt) (a : FAddr) : Prop := FObj w B (.int .u32 F.check) (.int .i64 F.design) (.int .i64 F.first) (.slice a.A0 F.chars.length a.c0) (.slice a.A1 F.steps.length a.c1) (.slice a.A2 F.kerns.length a.c2) (.slice a.A3 F.pieces.length a.c3) (.slice a.A4 F.params.length a.c4)
theorem fic_new (w : World) (F : Fnt) (a : FAddr) : FIc (w.alloc (fboxC F a)) w.heap.size F a := mkobj _ _
theorem FIc.kept {w w' : World} {B : Nat} {F : Fnt} {a : FAddr} (h : FIc w B F a) (k : Kept w w') : FIc w' B F a := FObj.grown (row := none) h (grown_kept k) (by simp)
theorem FIc.low {w w' : World} {B M : Nat} {F : Fnt} {a : FAddr} (h : FIc w B F a) (k : Below M w w') (hB : B < M) : FIc w' B F a := by
  unfold FIc FObj at *
  rw [k.block B hB]; exact h
/-- which characters were met -/
structure BlAt (w : World) (M : Nat) (l : List Int) : Prop where
  cell : ∀ j : Nat, j < 256 → w.cell? ⟨M, j, none⟩ = some (.bool (decide ((j : Int) ∈ l)))
  free : ∀ j : Nat, j < 256 → w.frozen? ⟨M, j, none⟩ = false
  lt : M < w.heap.size
theorem BlAt.kept {w w' : World} {M : Nat} {l : List Int} (h : BlAt w M l) (hk : Kept w w') : BlAt w' M l :=
  ⟨fun j hj => (hk.cell (p := ⟨M, j, none⟩) h.lt).trans (h.cell j hj), fun j hj => (hk.frozen (p := ⟨M, j, none⟩) h.lt).trans (h.free j hj), Nat.lt_of_lt_of_le h.lt hk.size⟩
theorem BlAt.set {w : World} {M x : Nat} {l l' : List Int} (h : BlAt w M l) (hx : x < 256) (he : l' = l ++ [(x : Int)]) : BlAt (w.setCell ⟨M, x, none⟩ (.bool true)) M l' := by
  subst he
  refine ⟨fun j hj => ?_, fun j hj => ?_, by simpa [World.setCell] using h.lt⟩
  · by_cases e : j = x
    · subst e
      have q : decide ((j : Int) ∈ l ++ [(j : Int)]) = true := decide_eq_true (by simp)
      rw [q]
      exact World.cell?_setCell_same _ _ _ (h.cell j hj)
    · rw [World.cell?_setCell_other _ _ _ _ (by simp; try omega), h.cell j hj]
      have q : ((j : Int) ∈ l ++ [(x : Int)]) ↔ ((j : Int) ∈ l) := by
        rw [List.mem_append, List.mem_singleton]
        constructor
        · rintro (h | h)
          · exact h
          · omega
        · exact .inl
      simp only [q]
  · have := h.free j hj
    simpa using this
def falseB (v : Option Value) : Bool := match v with | some (.bool false) => true | _ => false
theorem chnFalse_of {v : Option Value} (h : falseB v = true) : v = some (.bool false) := by
  unfold falseB at h
  split at h
  · rfl
  · cases h
theorem falses256 : (List.range 256).all (fun j => falseB (Try.zeroCells45[j]?)) = true := by kernel_rfl
theorem BlAt.made (w : World) : BlAt (w.alloc (.cells Try.zeroCells45 45)) w.heap.size [] := by
  have h := mkobj w (.cells Try.zeroCells45 45)
  have hz := List.all_eq_true.1 falses256
  refine ⟨fun j hj => ?_, fun j _ => ?_, by simp⟩
  · have := chnFalse_of (hz j (List.mem_range.2 hj))
    simp only [World.cell?, h]
    simpa using this
  · simp only [World.frozen?, h]
    simp
abbrev metZ : Obj := .cells #[.int .i64 0, .int .i64 0, .int .i64 0, .int .i64 0, .int .i64 0, .int .i64 0] 47
theorem mz_newD {z z' : World} (k : Kept ((z.alloc metZ).drew) z') : MObj z' z.heap.size ⟨0, 0, 0, 0, 0, 0⟩ := by
  have q : MObj (z.alloc metZ).drew z.heap.size ⟨0, 0, 0, 0, 0, 0⟩ := mkobj z metZ
  have hl : z.heap.size < (z.alloc metZ).drew.heap.size := by simp
  unfold MObj at *
  rw [k.block z.heap.size hl]; exact q
structure ChnAt (F : Fnt) (c : Int) (l : List Int) (m i : Nat) : Prop where
  byte : 0 ≤ l[i]?.getD 0 ∧ l[i]?.getD 0 ≤ 255
  th : thB F (l[i]?.getD 0) = true
  once : l[i]?.getD 0 ∉ l.take i
  tag : (metV F (l[i]?.getD 0)).tag = 2 ↔ i < m - 1
  rest : i + 1 < m → (metV F (l[i]?.getD 0)).rest = l[i + 1]?.getD 0
  next : l.take (i + 1) = l.take i ++ [l[i]?.getD 0]
theorem chn_at {F : Fnt} {c : Int} {l : List Int} {m : Nat} (h : ChainIs F c l) (hm : l.length = m) (i : Nat) (hi : i < m) : ChnAt F c l m i := by
  subst hm
  have e : l[i]?.getD 0 = l[i] := by rw [List.getElem?_eq_getElem hi]; rfl
  refine ⟨by rw [e]; exact h.byte i hi, by rw [e]; exact h.th i hi, by rw [e]; exact h.once i hi, by rw [e]; exact h.tag i hi, fun h1 => ?_, by rw [e]; exact List.take_succ_eq_append_getElem hi⟩
  rw [e, List.getElem?_eq_getElem h1]
  exact h.rest i h1
def ChnLoop (W : World) (M : Nat) (l : List Int) (s8 : Value) (wr : World) : Prop := ∃ k : Nat, k ≤ l.length ∧ s8 = .int .i64 k ∧ BlAt wr M (l.take k) ∧ Below M W wr
def ChnMid (wr : World) (m : Met) (th : Bool) (s9 s10 : Value) (wx : World) : Prop := ∃ D, s9 = .pointer (some ⟨D, 0, none⟩) ∧ s10 = .bool th ∧ wr.heap.size ≤ D ∧ MObj wx D m ∧ Kept wr wx

set_option maxRecDepth 100000 in
set_option maxHeartbeats 4000000 in
theorem chn_no (w : World) (F : Fnt) (a : FAddr) (hF : FontAt w F a w.heap.size) (hw : F.wf) (c : Int) (hc : 0 ≤ c ∧ c ≤ 255) (h : ¬ nextE F c = 0) :
    Calls Try.prog 5 #[fontV F a, .int .u8 c] w fun e w' => e = .returned (.bool true) ∧ Kept w w' := by
  have hk := fun w => Lib.hid (know3_any w)
  have Hn := Lib.hid (next_any F a c (w.alloc (fboxC F a)) ((hF.kept (walloc _ _)).more (walloc _ _).size) hw hc)
  rw [next_none h] at Hn
  have z0 : (nextE F c != 0) = true := bne_iff_ne.2 h
  have KB := Lib.hid (walloc w (fboxC F a))
  clear hF hw h
  generalize nextE F c = E at *
  go_enter Try.func5, Try.ntmps5
  go_wp2_with (fail)
  refine Hn.out.mono ?_
  rintro e w2 ⟨v, rfl, hrow, k2⟩
  obtain ⟨A, cc, rfl, _⟩ := brow_read hrow
  dsimp only [List.length_nil]
  clear hrow
  go_wp2_with (first | (go_at_call 14; refine (num3_any _ _).mono ?_; rintro e w' ⟨rfl, rfl⟩) | (go_at_call 17; refine (hk _).out.mono ?_; rintro e w3 ⟨rfl, k3⟩))
  go_ret
  exact ⟨ret_bool (by first | rfl | decide), (KB.out.trans k2).trans k3⟩
set_option maxRecDepth 100000 in
set_option maxHeartbeats 8000000 in
theorem chn_yes (w : World) (F : Fnt) (a : FAddr) (hF : FontAt w F a w.heap.size) (hw : F.wf) (c : Int) (hc : 0 ≤ c ∧ c ≤ 255) (h : nextE F c = 0) :
    Calls Try.prog 5 #[fontV F a, .int .u8 c] w fun e w' => e = .returned (.bool true) ∧ Kept w w' := by
  have hk := fun w => Lib.hid (know3_any w)
  have Hn := Lib.hid (next_any F a c (w.alloc (fboxC F a)) ((hF.kept (walloc _ _)).more (walloc _ _).size) hw hc)
  have CI := chain_is hc h
  rw [h] at Hn
  have HMe := fun (c : Int) (hc : 0 ≤ c ∧ c ≤ 255) w' (hk : Kept w w') => Lib.hid (cmetric_any F a c w' ((hF.kept hk).more hk.size) hw hc)
  have FB := Lib.hid (fic_new w F a)
  have KB := Lib.hid (walloc w (fboxC F a))
  clear hF hw h
  generalize nextL F c = l at *
  obtain ⟨m, hm⟩ : ∃ m, l.length = m := ⟨_, rfl⟩
  have HCI := Lib.hid CI
  have m0 : 0 < m := by have := CI.pos; omega
  have m1 : m ≤ 256 := by have := CI.few; omega
  clear CI
  go_enter Try.func5, Try.ntmps5
  go_wp2_with (fail)
  refine Hn.out.mono ?_
  rintro e w2 ⟨v, rfl, hrow, k2⟩
  obtain ⟨A, cc, rfl, hA, _⟩ := brow_read hrow
  obtain ⟨g, o, rfl, hgl, hcell⟩ := hA (by omega)
  have HL := Lib.hid hm
  have K2 := Lib.hid (KB.out.trans k2)
  have FB2 := Lib.hid (FB.out.kept k2)
  have HCell : ∀ w', Kept w2 w' → ∀ i, i < m → Hid (w'.cell? ⟨g, o + i, none⟩ = some (.int .u8 (l[i]?.getD 0))) := fun w' hk i hi => Lib.hid ((hk.cell (p := ⟨g, o + i, none⟩) hgl).trans (by rw [List.getElem?_eq_getElem (show i < l.length by omega)]; exact hcell i (by omega)))
  have HAt := fun (i : Nat) (hi : i < m) => Lib.hid (chn_at HCI.out hm i hi)
  rw [hm]
  clear hm hrow hA hcell k2
  have z0 : ((m : Int) == 0) = false := beq_eq_false_iff_ne.2 (by omega)
  have z1 : (c != c) = false := bne_self_eq_false c
  have d1 : decide (0 < m) = true := decide_eq_true m0
  go_wp2_with (first | (go_at_call 14; refine (num3_any _ _).mono ?_; rintro e w' ⟨rfl, rfl⟩) | (go_at_call 17; refine (hk _).out.mono ?_; rintro e w3 ⟨rfl, k3⟩; have y0 := (HCell _ k3 0 m0).out; rw [HCI.out.fst, Nat.add_zero] at y0))
  have K3 := Lib.hid (K2.out.trans k3)
  have K23 := Lib.hid k3
  have FB3 := Lib.hid (FB2.out.kept k3)
  have sN : w.heap.size < w3.heap.size := (FObj.cells FB3.out).2.2.2.2.2.2.2.2.2
  have sg : g < w3.heap.size := Nat.lt_of_lt_of_le hgl k3.size
  clear k3 y0 z0 z1 d1 hgl
  go_loopw [8] (fun s8 wr => ChnLoop w3 w3.heap.size l s8 wr) (fun s8 _ => m - (intOf s8).toNat)
  case atStart => exact ⟨0, Nat.zero_le _, rfl, BlAt.made w3, walloc _ _⟩
  case round =>
    obtain ⟨k, hk', rfl, hbl, hkr⟩ := hrel
    replace hkr : Kept w3 wr := hkr
    rw [HL.out] at hk'
    by_cases hlt : k < m
    · have d0 : decide (k < m) = true := decide_eq_true hlt
      obtain ⟨x, hx⟩ : ∃ x : Nat, l[k]?.getD 0 = (x : Int) := ⟨(l[k]?.getD 0).toNat, by have := (HAt k hlt).out.byte; omega⟩
      have AT := (HAt k hlt).out
      have x256 : x < 256 := by have := AT.byte; omega
      have hM := fun w' (h : Kept wr w') => HMe x (by omega) w' ((K3.out.trans hkr).trans h)
      have hth := AT.th
      rw [hx] at hth
      rw [hth] at hM
      have hon := AT.once
      have htg := AT.tag
      have hrs := AT.rest
      have hnx := AT.next
      rw [hx] at hon htg hrs hnx
      have hS : ∀ w', Kept wr w' → Hid (w'.cell? ⟨w.heap.size, 0, none⟩ = some (.int .u32 F.check) ∧ w'.cell? ⟨w.heap.size, 1, none⟩ = some (.int .i64 F.design) ∧ w'.cell? ⟨w.heap.size, 2, none⟩ = some (.int .i64 F.first) ∧ w'.cell? ⟨w.heap.size, 3, none⟩ = some (.slice a.A0 F.chars.length a.c0) ∧ w'.cell? ⟨w.heap.size, 4, none⟩ = some (.slice a.A1 F.steps.length a.c1) ∧ w'.cell? ⟨w.heap.size, 5, none⟩ = some (.slice a.A2 F.kerns.length a.c2) ∧ w'.cell? ⟨w.heap.size, 6, none⟩ = some (.slice a.A3 F.pieces.length a.c3) ∧ w'.cell? ⟨w.heap.size, 7, none⟩ = some (.slice a.A4 F.params.length a.c4) ∧ w'.cell? ⟨g, o + k, none⟩ = some (.int .u8 x)) := fun w' h => by
        obtain ⟨x0, x1, x2, x3, x4, x5, x6, x7, _, _⟩ := FObj.cells (FB3.out.kept (hkr.trans h))
        have y := (HCell w' (K23.out.trans (hkr.trans h)) k hlt).out
        rw [hx] at y
        exact Lib.hid ⟨x0, x1, x2, x3, x4, x5, x6, x7, y⟩
      have HY := fun w' (h : Kept wr w') (h1 : k + 1 < m) => HCell w' (K23.out.trans (hkr.trans h)) (k + 1) h1
      have hbm := fun w' (h : Kept wr w') => Lib.hid (hbl.kept h)
      have hmet : decide ((x : Int) ∈ l.take k) = false := decide_eq_false hon
      generalize metV F x = mt at *
      have hd0 : Kept wr wr.drew := (Kept.refl _).drew
      have hdB : Kept wr (wr.alloc metZ).drew := (walloc _ _).drew
      have i0 : (0 : Int) ≤ k := by omega
      have i1 : (k : Int) < m := by omega
      have HNX := Lib.hid hnx
      have HTG := Lib.hid htg
      have HRS := Lib.hid hrs
      have HKR := Lib.hid hkr
      clear hnx htg hrs hkr AT hth hon hx hbl
      go_upto_region 10 with (fail)
      go_cut [9, 10] (fun s9 s10 wx => ChnMid wr mt true s9 s10 wx)
      case first =>
        go_region_held2 (fun w' => w'.cell? ⟨w.heap.size, 0, none⟩ = some (.int .u32 F.check) ∧ w'.cell? ⟨w.heap.size, 1, none⟩ = some (.int .i64 F.design) ∧ w'.cell? ⟨w.heap.size, 2, none⟩ = some (.int .i64 F.first) ∧ w'.cell? ⟨w.heap.size, 3, none⟩ = some (.slice a.A0 F.chars.length a.c0) ∧ w'.cell? ⟨w.heap.size, 4, none⟩ = some (.slice a.A1 F.steps.length a.c1) ∧ w'.cell? ⟨w.heap.size, 5, none⟩ = some (.slice a.A2 F.kerns.length a.c2) ∧ w'.cell? ⟨w.heap.size, 6, none⟩ = some (.slice a.A3 F.pieces.length a.c3) ∧ w'.cell? ⟨w.heap.size, 7, none⟩ = some (.slice a.A4 F.params.length a.c4) ∧ w'.cell? ⟨g, o + k, none⟩ = some (.int .u8 x)) (first | with_reducible exact (hS _ hd0).out | with_reducible exact (hS _ hdB).out | with_reducible exact (hS _ h1).out | with_reducible exact (hS _ (kalloc h1 _)).out | with_reducible exact (hS _ (Below.grown h1 (grown_set6 _ _ _ _ _ _ _ _) h1.size (fun g e => by cases e; exact Nat.le_refl _))).out | exact (hS _ (Below.grown h1 (grown_set6 _ _ _ _ _ _ _ _) h1.size (fun g e => by cases e; exact Nat.le_refl _))).out) (first
          | (rw [if_pos (by rfl)]; refine oper_enter (f := 21) (args := #[fontV F a, .int .u8 x]) (by kernel_rfl) ?_; (with_reducible refine (hM _ (by first | with_reducible exact hd0 | with_reducible exact hdB)).out.mono ?_); rintro e z1 ⟨rfl, kz⟩; have h1 := Kept.trans (by first | with_reducible exact hd0 | with_reducible exact hdB) kz; (first | with_reducible have hbx := mz_newD kz | skip); (first | obtain ⟨x0, x1, x2, x3, x4, x5, xf, xl⟩ := hbx.cells | skip); clear kz; dsimp only))
        all_goals first | (dsimp only [Exit.then]; go_meet) | (go_wp2_with (fail); go_meet)
        all_goals first
          | exact ⟨_, rfl, rfl, h1.size, mkobj _ _, kalloc h1 _⟩
          | exact ⟨_, rfl, rfl, Nat.le_refl _, hbx.set, Below.grown h1 (grown_set6 _ _ _ _ _ _ _ _) h1.size (fun g e => by cases e; exact Nat.le_refl _)⟩
      case rest =>
        obtain ⟨D, rfl, rfl, hD, hMO, hkx⟩ := hcut
        rename World => wx
        have hg := (hS wx hkx).out.2.2.2.2.2.2.2.2
        have hBx := hbm wx hkx
        have hc := hBx.out.cell x x256
        rw [hmet] at hc
        have hf := hBx.out.free x x256
        obtain ⟨n0, n1, n2, n3, n4, n5, nf, nl⟩ := hMO.cells
        have hcap := K3.out
        clear hS hbm hMO hM hd0 hdB hcap HMe n0 n1 n2 n3
        have xi0 : (0 : Int) ≤ x := by omega
        have xi1 : (x : Int) < 256 := by omega
        have tn : ((x : Int)).toNat = x := by omega
        have tk : ((k : Int)).toNat = k := by omega
        by_cases ht : mt.tag = 2
        · have hk1 := HTG.out.1 ht
          obtain ⟨y, hy⟩ : ∃ y : Nat, l[k + 1]?.getD 0 = (y : Int) := ⟨(l[k + 1]?.getD 0).toNat, by have := (HAt (k + 1) (by omega)).out.byte; omega⟩
          have y255 : (y : Int) ≤ 255 := by have := (HAt (k + 1) (by omega)).out.byte; omega
          have hyc := (HY wx hkx (by omega)).out
          have hr := HRS.out (by omega)
          rw [hy] at hyc hr
          rw [ht] at n4
          rw [hr] at n5
          have z2 : ((2 : Int) == 2) = true := rfl
          have dk : decide ((k : Int) < (m : Int) - 1) = true := decide_eq_true (by omega)
          have yy : ((y : Int) != y) = false := bne_self_eq_false _
          have wy : IntKind.i64.wrap (y : Int) = y := IntWalk.i64_in _ (by omega)
          have wm : IntKind.i64.wrap ((m : Int) - 1) = m - 1 := IntWalk.i64_in _ (by omega)
          have wk : IntKind.i64.wrap ((k : Int) + 1) = k + 1 := IntWalk.i64_in _ (by omega)
          have k0 : (0 : Int) ≤ (k : Int) + 1 := by omega
          have k1 : (k : Int) + 1 < m := by omega
          have tk1 : ((k : Int) + 1).toNat = k + 1 := by omega
          clear ht hk1 hr hy
          go_wp2_with (fail)
          go_quiet (fail)
          clear wm wk tk1 k0 k1 wy yy
          go_wp2_with (fail)
          go_roundw
          case rel => exact ⟨k + 1, by rw [HL.out]; omega, by go_num, BlAt.set (hBx.out.kept (below_drewN (Kept.refl _) _)) x256 HNX.out, Below.setCell (below_drewN (Kept.trans HKR.out hkx) _) (Nat.le_refl _) _⟩
          case measure => simp [intOf]; omega
        · have hk1 : ¬ k < m - 1 := fun h => ht (HTG.out.2 h)
          have z2 : (mt.tag == 2) = false := by simpa using ht
          have dk : decide ((k : Int) < (m : Int) - 1) = false := decide_eq_false (by omega)
          have wm : IntKind.i64.wrap ((m : Int) - 1) = m - 1 := IntWalk.i64_in _ (by omega)
          clear ht hk1
          go_wp2_with (fail)
          go_quiet (fail)
          clear wm
          go_wp2_with (fail)
          go_roundw
          case rel => exact ⟨k + 1, by rw [HL.out]; omega, by go_num, BlAt.set (hBx.out.kept (below_drewN (Kept.refl _) _)) x256 HNX.out, Below.setCell (below_drewN (Kept.trans HKR.out hkx) _) (Nat.le_refl _) _⟩
          case measure => simp [intOf]; omega
    · obtain rfl : k = m := by omega
      go_wp2_with (fail)
      go_ret
      exact ⟨rfl, K3.out.trans hkr⟩
theorem fontChains_walk (w : World) (F : Fnt) (a : FAddr) (hF : FontAt w F a w.heap.size) (hw : F.wf) (c : Int) (wc : (Lit.int .u8 c).wf = true) :
    Calls Try.prog 5 #[fontV F a, .int .u8 c] w fun e w' => e = .returned (.bool true) ∧ Kept w w' := by
  have hc : 0 ≤ c ∧ c ≤ 255 := bounds_u8 wc
  by_cases h : nextE F c = 0
  · exact chn_yes w F a hF hw c hc h
  · exact chn_no w F a hF hw c hc h
end Go.Proofs.Ytnipndfnfpofgaa
