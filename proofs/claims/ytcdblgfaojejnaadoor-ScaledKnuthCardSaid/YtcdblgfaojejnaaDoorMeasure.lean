/- scaled.measure: the units' table. -/
import Derived.Test.YtcdblgfaojejnaaDoorParse
import Derived.Laws.Rows
import Derived.Stop.LaidErr
namespace Go.Proofs.YtcdblgfaojejnaaDoor
open Go.RowKit

/-- a unit: its name, its numbers -/
structure Un where
  name : List UInt8
  n : Int
  d : Int
def unitL : List Un := [⟨[112, 116], 1, 1⟩, ⟨[105, 110], 7227, 100⟩, ⟨[112, 99], 12, 1⟩, ⟨[99, 109], 7227, 254⟩, ⟨[109, 109], 7227, 2540⟩, ⟨[98, 112], 7227, 7200⟩, ⟨[100, 100], 1238, 1157⟩, ⟨[99, 99], 14856, 1157⟩, ⟨[115, 112], 0, 0⟩]
def unitAt (k : Nat) : Un := unitL.getD k ⟨[], 0, 0⟩
def Un.cells (u : Un) : List Value := [.string (bmk u.name), .int .i64 u.n, .int .i64 u.d]
def unitCells : Array Value := #[.string ⟨#[112, 116]⟩, .int .i64 1, .int .i64 1, .string ⟨#[105, 110]⟩, .int .i64 7227, .int .i64 100, .string ⟨#[112, 99]⟩, .int .i64 12, .int .i64 1, .string ⟨#[99, 109]⟩, .int .i64 7227, .int .i64 254, .string ⟨#[109, 109]⟩, .int .i64 7227, .int .i64 2540, .string ⟨#[98, 112]⟩, .int .i64 7227, .int .i64 7200, .string ⟨#[100, 100]⟩, .int .i64 1238, .int .i64 1157, .string ⟨#[99, 99]⟩, .int .i64 14856, .int .i64 1157, .string ⟨#[115, 112]⟩, .int .i64 0, .int .i64 0]
/-- the table as the row lists it -/
def UnitsIs (w : World) : Prop := ∃ t fr, w.heap[1]? = some (.cells unitCells t fr)
theorem Kept.alloc (w : World) (o : Obj) : Kept w (w.alloc o) := (Below.refl _ _).alloc (Nat.le_refl _) _
theorem UnitsIs.kept {w w' : World} (h : UnitsIs w) (k : Kept w w') : UnitsIs w' := by
  obtain ⟨t, fr, h⟩ := h
  exact ⟨t, fr, by rw [k.block _ (Array.getElem?_eq_some_iff.1 h).1]; exact h⟩

theorem unit_index (k : Nat) (hk : k < 9) (w : World) : (Instr.index 90 (.agg unitCells) (.int .i64 k)).run Tryd.prog w = .ok (.agg #[.string (bmk (unitAt k).name), .int .i64 (unitAt k).n, .int .i64 (unitAt k).d]) w := by
  have h : k = 0 ∨ k = 1 ∨ k = 2 ∨ k = 3 ∨ k = 4 ∨ k = 5 ∨ k = 6 ∨ k = 7 ∨ k = 8 := by omega
  rcases h with rfl | rfl | rfl | rfl | rfl | rfl | rfl | rfl | rfl
  all_goals (refine Eq.trans (b := Result.ok _ w) ?_ rfl; kernel_rfl)

theorem unitAt_get (k : Nat) (hk : k < 9) : unitL[k]? = some (unitAt k) := by
  unfold unitAt
  rw [List.getD_eq_getElem?_getD, List.getElem?_eq_getElem (show k < unitL.length from hk)]; rfl

def unitOf (l : List UInt8) : Option Un := unitL.find? fun u => Lib.hasPrefix l u.name

/-- what 'measure' leaves -/
def MeasPost (b : Nat) (left nm : ByteArray) (minus : Bool) (wh pt n d : Int) (w : World) (e : Ending) (w' : World) : Prop :=
  Only b w w' ∧
      match unitOf left.data.toList with
      | some u => e = .returned (.bool true) ∧ RD w' b (bmk (left.data.toList.drop 2)) minus wh pt (bmk u.name) u.n u.d
      | none => e = .returned (.bool false) ∧ RD w' b left minus wh pt nm n d

section
variable {w : World} {b : Nat} {left : ByteArray} {minus : Bool} {wh pt : Int} {nm : ByteArray} {n d : Int} (h : RD w b left minus wh pt nm n d)
include h
theorem RD.s4 (v : ByteArray) : RD (w.setCell ⟨b, 4, none⟩ (.string v)) b left minus wh pt v n d := by
  unfold RD at *; simp [World.setCell, Array.getElem?_modify, h]
theorem RD.s5 (v : Int) : RD (w.setCell ⟨b, 5, none⟩ (.int .i64 v)) b left minus wh pt nm v d := by
  unfold RD at *; simp [World.setCell, Array.getElem?_modify, h]
theorem RD.s6 (v : Int) : RD (w.setCell ⟨b, 6, none⟩ (.int .i64 v)) b left minus wh pt nm n v := by
  unfold RD at *; simp [World.setCell, Array.getElem?_modify, h]
end

theorem RD.drewN {w : World} {b : Nat} {left : ByteArray} {minus : Bool} {wh pt : Int} {nm : ByteArray} {n d : Int} (h : RD w b left minus wh pt nm n d) (k : Nat) : RD (w.drewN k) b left minus wh pt nm n d := h
theorem find_take_some {l : List Un} {p : Un → Bool} {k : Nat} {u : Un} (hn : (l.take k).find? p = none) (hk : l[k]? = some u) (hp : p u = true) : l.find? p = some u := by
  have hlt := (List.getElem?_eq_some_iff.1 hk)
  have e : l = l.take k ++ (u :: l.drop (k + 1)) := by
    rw [← hlt.2, ← List.drop_eq_getElem_cons hlt.1, List.take_append_drop]
  rw [e, List.find?_append, hn]
  simp [hp]
theorem find_take_none {l : List Un} {p : Un → Bool} {k : Nat} {u : Un} (hn : (l.take k).find? p = none) (hk : l[k]? = some u) (hp : p u = false) : (l.take (k + 1)).find? p = none := by
  rw [List.take_add_one, hk, List.find?_append, hn]
  simp [hp]
theorem unit_two : ∀ u ∈ unitL, u.name.length = 2 := by decide

theorem meas_yes {b : Nat} {left nm : ByteArray} {minus : Bool} {wh pt n d : Int} {w W : World} {u : Un} {e : Ending} (hu : unitOf left.data.toList = some u) (he : e = .returned (.bool true)) (h : RD W b left minus wh pt nm n d) (ho : Only b w W) :
    MeasPost b left nm minus wh pt n d w e ((((W.setCell ⟨b, 0, none⟩ (.string ⟨(Lib.trimPrefix left.data.toList (bmk u.name).data.toList).toArray⟩)).setCell ⟨b, 4, none⟩ (.string (bmk u.name))).setCell ⟨b, 5, none⟩ (.int .i64 u.n)).setCell ⟨b, 6, none⟩ (.int .i64 u.d)) := by
  have hp : Lib.hasPrefix left.data.toList u.name = true := by
    have := List.find?_some hu
    simpa using this
  have hl := unit_two u (List.mem_of_find?_eq_some hu)
  have ht : Lib.trimPrefix left.data.toList (bmk u.name).data.toList = left.data.toList.drop 2 := by
    rw [bmk_list]; unfold Lib.trimPrefix; rw [if_pos hp, hl]
  rw [ht]
  refine ⟨(((ho.set 0 _).set 4 _).set 5 _).set 6 _, ?_⟩
  rw [hu]
  exact ⟨he, (((h.s0 (bmk (left.data.toList.drop 2))).s4 (bmk u.name)).s5 u.n).s6 u.d⟩

set_option maxHeartbeats 2000000 in
theorem measure_any (b : Nat) (left nm : ByteArray) (minus : Bool) (wh pt n d : Int) (w : World) (h : RD w b left minus wh pt nm n d) (hu : UnitsIs w) :
    Calls Tryd.prog 55 #[.pointer (some ⟨b, 0, none⟩)] w (MeasPost b left nm minus wh pt n d w) := by
  obtain ⟨tt, fr, hg⟩ := hu
  go_enter Tryd.func55, Tryd.ntmps55
  go_wp2_with (refine wpList_load_row rfl 90 _ rfl 1 rfl tt _ fr _ hg Tryd.underlying90 rfl (by kernel_rfl) ?_)
  go_loopw [8] (fun i wr => ∃ k : Nat, k ≤ 9 ∧ i = .int .i64 k ∧ (unitL.take k).find? (fun u => Lib.hasPrefix left.data.toList u.name) = none ∧ Kept w wr) (fun i _ => 9 - (intOf i).toNat)
  case atStart => exact ⟨0, by omega, rfl, rfl, Kept.refl _⟩
  case round =>
    obtain ⟨k, hk, rfl, hnone, hkw⟩ := hrel
    have Hnone := Lib.hid hnone
    clear hnone
    by_cases hlt : k < 9
    · have hix : ∀ w, (Instr.index 90 (.agg unitCells) (.int .i64 k)).run Tryd.prog w = _ := fun w => unit_index k hlt w
      have hget := unitAt_get k hlt
      generalize unitAt k = u at hix hget
      have Hget := Lib.hid hget
      have hr := h.kept hkw
      have c0 := hr.c0
      have c4 := hr.c4
      have c5 := hr.c5
      have c6 := hr.c6
      have f0 := hr.fz 0
      have f4 := hr.fz 4
      have f5 := hr.fz 5
      have f6 := hr.fz 6
      have hbl := hr.lt
      have Hr := Lib.hid hr
      clear hget hr h
      go_wp2
      go_quiet ((go_at_call 69; exact Calls.quiet_of_same (Tryd.strings_CutPrefix _ _ _)))
      go_wp2
      · have hp : Lib.hasPrefix left.data.toList (bmk u.name).data.toList = true := by assumption
        have Huo : Hid (unitOf left.data.toList = some u) := Lib.hid (find_take_some Hnone.out Hget.out hp)
        go_region
        all_goals
          go_wp2
          go_ret
          exact meas_yes Huo.out rfl ((Hr.out.kept (Kept.alloc _ _)).drewN _) (Only.kept (Only.refl b w) (below_drewN (hkw.trans (Kept.alloc _ _)) _))
      · have hp : Lib.hasPrefix left.data.toList (bmk u.name).data.toList = false := by assumption
        go_roundw
        case rel => exact ⟨k + 1, by omega, by go_num, find_take_none Hnone.out Hget.out hp, below_drewN (hkw.trans (Kept.alloc _ _)) _⟩
        case measure => simp [intOf]; omega
    · obtain rfl : k = 9 := by omega
      have Hno : Hid (unitOf left.data.toList = none) := Hnone
      have Hr := Lib.hid (h.kept hkw)
      clear h
      go_wp2
      go_ret
      refine ⟨Only.kept (Only.refl b w) hkw, ?_⟩
      rw [Hno.out]
      exact ⟨rfl, Hr.out⟩

theorem UnitsIs.only {w w' : World} {b : Nat} (h : UnitsIs w) (k : Only b w w') (hb : b ≠ 1) : UnitsIs w' := by
  obtain ⟨t, fr, h⟩ := h
  exact ⟨t, fr, by rw [k.block _ (Array.getElem?_eq_some_iff.1 h).1 (fun e => hb (by injection e with e; exact e.symm))]; exact h⟩

/-- what three steps cut off and leave: Dimen's -/
def leftOf (l : List UInt8) : List UInt8 := numLeft (afterSign l)
def dimenOk (l : List UInt8) : Bool := numOk (afterSign l) && (match unitOf (leftOf l) with | some _ => ((leftOf l).drop 2).isEmpty | none => false)

/-- what three steps leave, where they go through -/
def Fol3 (b : Nat) (l : List UInt8) (w : World) (e : Ending) (w' : World) : Prop :=
  Only b w w' ∧ e = .returned (.bool (dimenOk l)) ∧ (dimenOk l = true → ∃ u, unitOf (leftOf l) = some u ∧ RD w' b (bmk ((leftOf l).drop 2)) (minusOf l) (wholeN (digs (afterSign l))) (fracN (numBehind (afterSign l))) (bmk u.name) u.n u.d)

set_option maxHeartbeats 4000000 in
/-- follow, of the steps sign, number and measure -/
theorem follow3_any (b g : Nat) (left : ByteArray) (w : World) (hgb : g ≠ b) (h : RD w b left false 0 0 ⟨#[]⟩ 0 0) (hs : left.size ≤ 9223372036854775807) (hg : g < w.heap.size) (hu : UnitsIs w) (hb : b ≠ 1)
    (g0 : w.cell? ⟨g, 0, none⟩ = some (.func (.func 52) #[.pointer (some ⟨b, 0, none⟩)] #[]))
    (g1 : w.cell? ⟨g, 1, none⟩ = some (.func (.func 53) #[.pointer (some ⟨b, 0, none⟩)] #[]))
    (g2 : w.cell? ⟨g, 2, none⟩ = some (.func (.func 55) #[.pointer (some ⟨b, 0, none⟩)] #[])) :
    Calls Tryd.prog 51 #[.pointer (some ⟨b, 0, none⟩), .slice (some ⟨g, 0, none⟩) 3 3] w (Fol3 b left.data.toList w) := by
  have Hs := Lib.hid (sign_any b left ⟨#[]⟩ false 0 0 0 0 w h)
  have Hg1 := Lib.hid g1
  have Hg2 := Lib.hid g2
  have Hu := Lib.hid hu
  have hz := trim_len left.data.toList [45]
  have hzs : left.data.toList.length ≤ 9223372036854775807 := by rw [← Lib.size_eq]; exact hs
  clear h hu g1 g2
  go_enter Tryd.func51, Tryd.ntmps51
  go_wp2
  refine wp_loop_rounds 4 ?_
  rw [rounds_succ]
  go_wp2_with (fail)
  refine Hs.out.mono ?_
  rintro e w1 ⟨rfl, h1, o1⟩
  have Hn := Lib.hid (number_any b _ ⟨#[]⟩ _ 0 0 0 0 w1 h1 (by rw [bmk_size]; omega))
  have g1' : w1.cell? ⟨g, 1, none⟩ = some (.func (.func 53) #[.pointer (some ⟨b, 0, none⟩)] #[]) := by rw [o1.cell hg hgb]; exact Hg1.out
  have O1 := Lib.hid o1
  clear h1 o1 g0
  go_wp2_with (fail)
  rw [rounds_succ]
  go_wp2_with (fail)
  refine Hn.out.mono ?_
  rintro e w2 ⟨rfl, h2, o2⟩
  rw [bmk_list] at h2
  rw [bmk_list]
  have O2 := Lib.hid (O1.out.trans o2)
  have H2 := Lib.hid h2
  have g2' : w2.cell? ⟨g, 2, none⟩ = some (.func (.func 55) #[.pointer (some ⟨b, 0, none⟩)] #[]) := by rw [O2.out.cell hg hgb]; exact Hg2.out
  have hok : ∃ r, numOk (Lib.trimPrefix left.data.toList [45]) = r := ⟨_, rfl⟩
  obtain ⟨r, hok⟩ := hok
  rw [hok]
  have Hok := Lib.hid hok
  clear h2 o2 g1' hok
  cases r
  · go_wp2
    go_ret
    have e1 : dimenOk left.data.toList = false := by
      unfold dimenOk; rw [show numOk (afterSign left.data.toList) = false from Hok.out]; rfl
    refine ⟨O2.out, by rw [e1]; rfl, fun hh => ?_⟩
    rw [e1] at hh; cases hh
  · go_wp2_with (fail)
    rw [rounds_succ]
    go_wp2_with (fail)
    refine (measure_any b _ _ _ _ _ _ _ w2 H2.out (Hu.out.only O2.out hb)).mono ?_
    intro e w3 hm
    obtain ⟨o3, hm⟩ := hm
    have O3 := Lib.hid (O2.out.trans o3)
    rw [bmk_list] at hm
    cases hun : unitOf (leftOf left.data.toList) with
    | none =>
      rw [show unitOf (numLeft (Lib.trimPrefix left.data.toList [45])) = none from hun] at hm
      obtain ⟨rfl, hm⟩ := hm
      have e1 : Hid (dimenOk left.data.toList = false) := Lib.hid (by
        unfold dimenOk; rw [hun]; exact Bool.and_false _)
      clear hm hun o3 g2'
      go_wp2
      go_ret
      refine ⟨O3.out, by rw [e1.out]; rfl, fun hh => ?_⟩
      rw [e1.out] at hh; cases hh
    | some u =>
      rw [show unitOf (numLeft (Lib.trimPrefix left.data.toList [45])) = some u from hun] at hm
      obtain ⟨rfl, hm⟩ := hm
      have e1 : Hid (dimenOk left.data.toList = ((leftOf left.data.toList).drop 2).isEmpty) := Lib.hid (by
        unfold dimenOk; rw [hun, show numOk (afterSign left.data.toList) = true from Hok.out]; exact Bool.true_and _)
      have hm' : RD w3 b (bmk ((leftOf left.data.toList).drop 2)) (minusOf left.data.toList) (wholeN (digs (afterSign left.data.toList))) (fracN (numBehind (afterSign left.data.toList))) (bmk u.name) u.n u.d := hm
      have d0 := hm'.c0
      have Hm := Lib.hid hm'
      have Hun := Lib.hid hun
      clear hm hm' hun o3 g2'
      go_wp2_with (fail)
      rw [rounds_succ]
      go_wp2
      go_ret
      refine ⟨O3.out, ret_bool ?_, fun _ => ⟨u, Hun.out, Hm.out⟩⟩
      rw [e1.out]
      rw [Lib.toList_data]
      rfl
end Go.Proofs.YtcdblgfaojejnaaDoor
