/- scaled.Dimen. -/
import Derived.Test.YtcdblgfaojejnaaDoorMeasure
namespace Go.Proofs.YtcdblgfaojejnaaDoor
open Go.RowKit

/-- the size of a text with a unit: without its minus -/
def dimSize (l : List UInt8) : Int := match unitOf (leftOf l) with
  | some u => if u.d = 0 then wholeN (digs (afterSign l)) else u.n * sizeOfText l / u.d
  | none => 0
def dimenV (l : List UInt8) : Int := if dimenOk l then dimV (if minusOf l then -dimSize l else dimSize l) else 0
def dimenE (l : List UInt8) : Int := if dimenOk l then dimE (dimSize l) else 21

theorem unit_nums : ∀ u ∈ unitL, 0 ≤ u.n ∧ u.n ≤ 14856 ∧ 0 ≤ u.d ∧ u.d ≤ 7200 := by decide
theorem unitOf_mem {l : List UInt8} {u : Un} (h : unitOf l = some u) : u ∈ unitL := List.mem_of_find?_eq_some h

theorem run_makeFunc (fn : Fn) (first cap : Array Value) (w : World) : (Instr.makeFunc fn first cap).run Tryd.prog w = .ok (.func fn first cap) w := rfl

set_option maxHeartbeats 4000000 in
theorem dimen_text_any (text : ByteArray) (w : World) (hs : text.size ≤ 9223372036854775807) (hu : UnitsIs w) :
    Calls Tryd.prog 28 #[.string text] w fun e w' => e = .returned (.tuple #[.int .i64 (dimenV text.data.toList), .int .i64 (dimenE text.data.toList)]) ∧ Kept w w' := by
  have hmf := run_makeFunc
  have hrd : ∀ (o : Array Value) (tt : TypeId), RD ((w.alloc (.cells #[.string text, .bool false, .int .i64 0, .int .i64 0, .string ⟨#[]⟩, .int .i64 0, .int .i64 0] 59)).alloc (.cells o tt)) w.heap.size text false 0 0 ⟨#[]⟩ 0 0 := by
    intro o tt
    unfold RD
    rw [Below.heap_alloc _ _ _ (by simp)]
    simp only [World.alloc, Array.getElem?_push_size]
  have k1 : ∀ (o : Array Value) (tt : TypeId), Kept w ((w.alloc (.cells #[.string text, .bool false, .int .i64 0, .int .i64 0, .string ⟨#[]⟩, .int .i64 0, .int .i64 0] 59)).alloc (.cells o tt)) := fun o tt => ((Below.refl _ w).alloc (Nat.le_refl _) _).alloc (by simp) _
  have hw1 : w.heap.size ≠ 1 := by
    obtain ⟨t, fr, h⟩ := hu
    have := (Array.getElem?_eq_some_iff.1 h).1
    omega
  have Hu := Lib.hid hu
  clear hu
  go_enter Tryd.func28, Tryd.ntmps28
  go_wp2_with (fail)
  refine (follow3_any w.heap.size (w.heap.size + 1) text _ (by omega) (hrd _ _) hs (by simp) (Hu.out.kept (k1 _ _)) hw1 (by go_simp) (by go_simp) (by go_simp)).mono ?_
  intro e w2 hf
  obtain ⟨o2, rfl, hf⟩ := hf
  have k2 : Kept w w2 := Below.trans (k1 _ _) (o2.below (B := w.heap.size) (Nat.le_refl _) (by simp; omega))
  have K2 := Lib.hid k2
  clear o2 hrd k1 k2
  cases hok : dimenOk text.data.toList
  · have e1 : Hid (dimenV text.data.toList = 0) := Lib.hid (by simp [dimenV, hok])
    have e2 : Hid (dimenE text.data.toList = 21) := Lib.hid (by simp [dimenE, hok])
    clear hok hf
    go_wp2
    go_ret2
    exact ⟨ret_ii e1.out.symm e2.out.symm, K2.out⟩
  · obtain ⟨u, hun, h2⟩ := hf hok
    obtain ⟨n0, n1, d0, d1⟩ := unit_nums u (unitOf_mem hun)
    obtain ⟨a0, a1⟩ := wholeN_bd (digs (afterSign text.data.toList)) (digs_all_dig _)
    obtain ⟨b0, b1⟩ := fracN_bd (numBehind (afterSign text.data.toList)) (numBehind_dig _)
    have hsz : sizeOfText text.data.toList = 65536 * wholeN (digs (afterSign text.data.toList)) + fracN (numBehind (afterSign text.data.toList)) := rfl
    have eV : Hid (dimenV text.data.toList = dimV (if minusOf text.data.toList then -dimSize text.data.toList else dimSize text.data.toList)) := Lib.hid (by simp [dimenV, hok])
    have eE : Hid (dimenE text.data.toList = dimE (dimSize text.data.toList)) := Lib.hid (by simp [dimenE, hok])
    by_cases hd : u.d = 0
    · have eS : Hid (dimSize text.data.toList = wholeN (digs (afterSign text.data.toList))) := Lib.hid (by unfold dimSize; rw [hun]; exact if_pos hd)
      rw [hd] at h2
      have c2 := h2.c2
      have c6 := h2.c6
      have Hs := Lib.hid (signed_any _ _ _ _ _ _ _ _ _ _ h2 a0 (by omega))
      clear hok hf hun hsz h2 hd
      generalize hwh : wholeN (digs (afterSign text.data.toList)) = wh at *
      cases hmin : minusOf text.data.toList
      all_goals
        rw [hmin] at Hs
        go_wp2_with (go_at_call 54; refine Hs.out.mono ?_; rintro e w2 ⟨rfl, rfl⟩)
        go_ret2
        refine ⟨?_, K2.out⟩
        rw [eV.out, eE.out, eS.out, hmin]
        rfl
    · have eS : Hid (dimSize text.data.toList = u.n * sizeOfText text.data.toList / u.d) := Lib.hid (by unfold dimSize; rw [hun]; exact if_neg hd)
      have c2 := h2.c2
      have c3 := h2.c3
      have c5 := h2.c5
      have c6 := h2.c6
      have hp : 0 ≤ u.n * sizeOfText text.data.toList ∧ u.n * sizeOfText text.data.toList ≤ 14856 * 140737488420864 := by
        have hz := sizeOfText_bd text.data.toList
        exact ⟨Int.mul_nonneg n0 hz.1, Int.mul_le_mul n1 hz.2 hz.1 (by omega)⟩
      have hq : 0 ≤ u.n * sizeOfText text.data.toList / u.d ∧ u.n * sizeOfText text.data.toList / u.d ≤ 14856 * 140737488420864 := by
        refine ⟨Int.ediv_nonneg hp.1 d0, Int.le_trans (Int.ediv_le_self _ hp.1) hp.2⟩
      have Hs := Lib.hid (fun m : Nat => signed_any w.heap.size _ _ _ _ _ _ _ (u.n * sizeOfText text.data.toList / u.d) (w2.drewN m) (h2.drewN m) hq.1 (by omega))
      have hud : 1 ≤ u.d := by omega
      rw [hsz] at hp hq eS Hs
      have hz : 65536 * wholeN (digs (afterSign text.data.toList)) + fracN (numBehind (afterSign text.data.toList)) ≤ 140737488420864 := by omega
      clear hok hf hun hsz h2 hd
      generalize hwh : wholeN (digs (afterSign text.data.toList)) = wh at *
      generalize hfr : fracN (numBehind (afterSign text.data.toList)) = fr at *
      generalize u.n = un at *
      generalize u.d = ud at *
      obtain ⟨p0, p1⟩ := hp
      obtain ⟨q0, q1⟩ := hq
      have Hwh := Lib.hid hwh
      have Hfr := Lib.hid hfr
      clear hwh hfr
      cases hmin : minusOf text.data.toList
      all_goals
        rw [hmin] at Hs
        go_wp2_with (fail)
        go_quiet ((go_at_call 54; exact Hs.out _ |>.mono fun _ _ hh => ⟨hh.1, _, hh.2⟩))
        go_wp2
        go_ret2
        refine ⟨?_, below_drewN K2.out _⟩
        rw [eV.out, eE.out, eS.out, hmin]
        rfl
end Go.Proofs.YtcdblgfaojejnaaDoor
