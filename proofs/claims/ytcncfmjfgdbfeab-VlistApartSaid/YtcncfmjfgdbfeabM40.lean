/- VCc VSz. -/
import Derived.Test.YtcncfmjfgdbfeabVGr
import Derived.Test.YtcncfmjfgdbfeabNodCnt
import Derived.Test.YtcncfmjfgdbfeabNodU
import Derived.Test.YtcncfmjfgdbfeabM15
namespace Go.Proofs.Ytcncfmjfgdbfeab
open Go.RowKit

set_option maxRecDepth 100000 in
set_option maxHeartbeats 4000000 in
theorem grow3 (w : World) : Calls Try.prog 69 #[.slice none 0 0, .int .i64 3] w fun e w' => ∃ x : GrewX w 3 19, e = .returned (.slice (some ⟨x.b, 0, none⟩) 0 x.cap) ∧ Sat w [] [.obj true x.b x.cs 55] w' := by
  refine g_enter (args := [.slice none 0 0, .int .i64 3]) [] [] Try.func69 rfl Try.ntmps69 (Nat.le_of_ble_eq_true (by kernel_rfl)) (sat0 w) ?_
  refine g_run 22 [] 2 (by kernel_rfl) ?_
  refine g_anyW (X := GrewX w 3 19) (apzSem 22 3 22 (.slice none 0 0) (.int .i64 ((3 : Nat) : Int))) (fun x => .slice (some ⟨x.b, 0, none⟩) 3 x.cap) (fun x => [.obj true x.b x.cs 55]) (by kernel_rfl) (fun w hs => apz_ok (P := Try.prog) (t := 22) (tn := 3) (ty := 22) (E := 55) (sz := 19) (by_ := 160) (k := 3) (kq := .i64) (kn := .i64) hs (by kernel_rfl) (by kernel_rfl) (info_of (by kernel_rfl)) (by omega) (by omega) (by omega) (by omega) (fun x => by kernel_rfl)) (fun x => ?_)
  refine g_run 25 [] 0 (by kernel_rfl) ?_
  refine g_val _ _ ?_ (fun w _hs => front_run (P := Try.prog) (T := 22) (E := 55) (b := x.b) (o := 0) (n := 3) (c := x.cap) (m := 0) (sz := 19) (kk := .i64) w (by kernel_rfl) (by kernel_rfl) (Nat.zero_le _)) ?_
  · kernel_rfl
  refine g_run 9999 [] 0 (by kernel_rfl) ?_
  refine g_ret [] (Value.slice (some (Addr.mk x.b 0 none)) 0 x.cap) (by kernel_rfl) (by kernel_rfl) (by kernel_rfl) fun w' hs => ?_
  exact ⟨x, rfl, hs.pick [0] (by decide) (by kernel_rfl)⟩
theorem cat_row {c0 c1 c2 : List Value} {n1 n2 n3 : Nod} (h1 : c1.take ((0 + 1) * 19) = c0.take (0 * 19) ++ nodC n1) (h2 : c2.take ((0 + 1 + 2) * 19) = c1.take ((0 + 1) * 19) ++ (nodC n2 ++ nodC n3)) : c2.take 57 = nodC n1 ++ (nodC n2 ++ nodC n3) := by
  rw [h1, Nat.zero_mul, List.take_zero, List.nil_append] at h2
  exact h2
theorem nodC_ones (n : Nod) : ∀ u ∈ nodC n, u.oneCell' = true := by
  intro u hu
  simp only [nodC, List.mem_cons, List.not_mem_nil, or_false] at hu
  rcases hu with rfl | rfl | rfl | rfl | rfl | rfl | rfl | rfl | rfl | rfl | rfl | rfl | rfl | rfl | rfl | rfl | rfl | rfl | rfl <;> rfl
theorem two_ones (n m : Nod) : ∀ u ∈ nodC n ++ nodC m, u.oneCell' = true := fun u hu => (List.mem_append.1 hu).elim (nodC_ones n u) (nodC_ones m u)
/-- three nodes in a row of their own -/
structure CatX (w0 : World) (n1 n2 n3 : Nod) where
  b : Nat
  cap : Nat
  cs : List Value
  new : w0.heap.size ≤ b
  le : 3 ≤ cap
  len : cs.length = cap * 19
  row : cs.take 57 = nodC n1 ++ (nodC n2 ++ nodC n3)
set_option maxRecDepth 100000 in
set_option maxHeartbeats 4000000 in
theorem concat12 (n1 n2 n3 : Nod) (bs b1 b2 : Nat) (w : World) (hq : Sat w [] [.obj false bs [.slice (some ⟨b1, 0, none⟩) 1 1, .slice (some ⟨b2, 0, none⟩) 2 2] 22, .obj false b1 (nodC n1) 55, .obj false b2 (nodC n2 ++ nodC n3) 55] w) :
    Calls Try.prog 43 #[.slice (some ⟨bs, 0, none⟩) 2 2] w fun e w' => ∃ x : CatX w n1 n2 n3, e = .returned (.slice (some ⟨x.b, 0, none⟩) 3 x.cap) ∧ Sat w [] [.obj true x.b x.cs 55] w' := by
  refine g_enter (args := [.slice (some ⟨bs, 0, none⟩) 2 2]) [] [.obj false bs [.slice (some ⟨b1, 0, none⟩) 1 1, .slice (some ⟨b2, 0, none⟩) 2 2] 22, .obj false b1 (nodC n1) 55, .obj false b2 (nodC n2 ++ nodC n3) 55] Try.func43 rfl Try.ntmps43 (Nat.le_of_ble_eq_true (by kernel_rfl)) hq ?_
  refine g_run 9999 [] 0 (by kernel_rfl) ?_
  refine g_unroll 4 (by kernel_rfl) ?_
  refine g_run 9999 ([0, 0]) 5 (by kernel_rfl) ?_
  refine g_call (X := GrewX w 3 19) _ _ ?_ (fun x => .slice (some ⟨x.b, 0, none⟩) 0 x.cap) (fun x => [.obj false bs [.slice (some ⟨b1, 0, none⟩) 1 1, .slice (some ⟨b2, 0, none⟩) 2 2] 22, .obj false b1 (nodC n1) 55, .obj false b2 (nodC n2 ++ nodC n3) 55] ++ [.obj true x.b x.cs 55])
    (fun w1 hs => (grow3 w1).mono fun e w2 ⟨x, h1, h2⟩ => ⟨⟨x.b, x.cap, x.cs, Nat.le_trans hs.kept.size x.new, x.le, x.len⟩, h1, (Sat.at hs (by kernel_rfl)).more h2 (by simp [HE.own])⟩) (fun x => ?_)
  · kernel_rfl
  refine g_run 9999 [] 0 (by kernel_rfl) ?_
  refine g_unroll 4 (by kernel_rfl) ?_
  refine g_run 33 ([0]) 1 (by kernel_rfl) ?_
  refine g_append 3 1 22 55 55 (some ⟨x.b, 0, none⟩) 0 x.cap 19 1 1 b1 160 x.cs (nodC n1) false (by kernel_rfl) (by kernel_rfl) (by kernel_rfl) (info_of (by kernel_rfl)) (rowAt_own (by kernel_rfl) x.len (Nat.zero_le _)) (by kernel_rfl) rfl (nodC_ones n1) Nat.one_pos (by omega) (by omega) fun b4 cap4 cs4 hb4 hc4 hl4 ht4 => ?_
  refine g_run 33 ([0]) 1 (by kernel_rfl) ?_
  refine g_append 3 2 22 55 55 (some ⟨b4, 0, none⟩) (0 + 1) cap4 19 2 2 b2 160 cs4 (nodC n2 ++ nodC n3) false (by kernel_rfl) (by kernel_rfl) (by kernel_rfl) (info_of (by kernel_rfl)) (rowAt_own (by kernel_rfl) hl4 hc4) (by kernel_rfl) rfl (two_ones n2 n3) (by omega) (by omega) (by omega) fun b5 cap5 cs5 hb5 hc5 hl5 ht5 => ?_
  refine g_run 9999 [] 1 (by kernel_rfl) ?_
  refine g_ret [] (Value.slice (some (Addr.mk b5 0 none)) 3 cap5) (by kernel_rfl) (by kernel_rfl) (by kernel_rfl) fun w' hs => ?_
  exact ⟨⟨b5, cap5, cs5, hb5.resolve_right (by simp), hc5, hl5, cat_row ht4 ht5⟩, rfl, hs.pick [3] (by decide) (by kernel_rfl)⟩
end Go.Proofs.Ytcncfmjfgdbfeab
namespace Go.Proofs.Ytcncfmjfgdbfeab
open Go.RowKit

set_option maxRecDepth 100000 in
set_option maxHeartbeats 4000000 in
theorem szdims1 (b : Nat) (x : Int) (w : World) (h : w.heap[b]? = some (.cells #[.int .i64 x] 3 (0, 0))) :
    Calls Try.prog 34 #[.slice (some ⟨b, 0, none⟩) 1 1] w fun e w' => e = .returned (.bool (dimB x)) ∧ Kept w w' := by
  refine g_enter (args := [.slice (some ⟨b, 0, none⟩) 1 1]) [] [.obj false b [.int .i64 x] 3] Try.func34 rfl Try.ntmps34 (Nat.le_of_ble_eq_true (by kernel_rfl)) (sat1 h) ?_
  refine g_run 9999 [] 0 (by kernel_rfl) ?_
  refine g_unroll 3 (by kernel_rfl) ?_
  refine g_run 9999 ([0]) 1 (by kernel_rfl) ?_
  refine g_dec 13 (decide (x < -1073741823)) (by kernel_rfl) (fun h13 => ?_) (fun h13 => ?_)
  · refine g_run 9999 [] 3 (by kernel_rfl) ?_
    refine g_ret [] (Value.bool false) (by kernel_rfl) (by kernel_rfl) (by kernel_rfl) fun w' hs => ?_
    exact ⟨ret_bool (by clear hs; simp only [decide_eq_true_eq] at *; rw [Bool.eq_iff_iff]; simp [dimB]; omega), hs.kept.kept⟩
  · refine g_run 9999 [] 2 (by kernel_rfl) ?_
    refine g_dec 16 (decide (x > 1073741823)) (by kernel_rfl) (fun h16 => ?_) (fun h16 => ?_)
    · refine g_run 9999 [] 1 (by kernel_rfl) ?_
      refine g_ret [] (Value.bool false) (by kernel_rfl) (by kernel_rfl) (by kernel_rfl) fun w' hs => ?_
      exact ⟨ret_bool (by clear hs; simp only [decide_eq_true_eq, decide_eq_false_iff_not] at *; rw [Bool.eq_iff_iff]; simp [dimB]; omega), hs.kept.kept⟩
    · refine g_run 9999 [] 2 (by kernel_rfl) ?_
      refine g_ret [] (Value.bool true) (by kernel_rfl) (by kernel_rfl) (by kernel_rfl) fun w' hs => ?_
      exact ⟨ret_bool (by clear hs; simp only [decide_eq_false_iff_not] at *; rw [Bool.eq_iff_iff]; simp [dimB]; omega), hs.kept.kept⟩
set_option maxRecDepth 100000 in
set_option maxHeartbeats 4000000 in
theorem szdims2 (b : Nat) (x y : Int) (w : World) (h : w.heap[b]? = some (.cells #[.int .i64 x, .int .i64 y] 3 (0, 0))) :
    Calls Try.prog 34 #[.slice (some ⟨b, 0, none⟩) 2 2] w fun e w' => e = .returned (.bool (d2B x y)) ∧ Kept w w' := by
  refine g_enter (args := [.slice (some ⟨b, 0, none⟩) 2 2]) [] [.obj false b [.int .i64 x, .int .i64 y] 3] Try.func34 rfl Try.ntmps34 (Nat.le_of_ble_eq_true (by kernel_rfl)) (sat1 h) ?_
  refine g_run 9999 [] 0 (by kernel_rfl) ?_
  refine g_unroll 4 (by kernel_rfl) ?_
  refine g_run 9999 ([0]) 1 (by kernel_rfl) ?_
  refine g_dec 13 (decide (x < -1073741823)) (by kernel_rfl) (fun h13 => ?_) (fun h13 => ?_)
  · refine g_run 9999 [] 3 (by kernel_rfl) ?_
    refine g_ret [] (Value.bool false) (by kernel_rfl) (by kernel_rfl) (by kernel_rfl) fun w' hs => ?_
    exact ⟨ret_bool (by clear hs; simp only [decide_eq_true_eq] at *; rw [Bool.eq_iff_iff]; simp [d2B, dimB]; omega), hs.kept.kept⟩
  · refine g_run 9999 [] 2 (by kernel_rfl) ?_
    refine g_dec 16 (decide (x > 1073741823)) (by kernel_rfl) (fun h16 => ?_) (fun h16 => ?_)
    · refine g_run 9999 [] 1 (by kernel_rfl) ?_
      refine g_ret [] (Value.bool false) (by kernel_rfl) (by kernel_rfl) (by kernel_rfl) fun w' hs => ?_
      exact ⟨ret_bool (by clear hs; simp only [decide_eq_true_eq, decide_eq_false_iff_not] at *; rw [Bool.eq_iff_iff]; simp [d2B, dimB]; omega), hs.kept.kept⟩
    · refine g_run 9999 ([0]) 2 (by kernel_rfl) ?_
      refine g_dec 13 (decide (y < -1073741823)) (by kernel_rfl) (fun h13 => ?_) (fun h13 => ?_)
      · refine g_run 9999 [] 3 (by kernel_rfl) ?_
        refine g_ret [] (Value.bool false) (by kernel_rfl) (by kernel_rfl) (by kernel_rfl) fun w' hs => ?_
        exact ⟨ret_bool (by clear hs; simp only [decide_eq_true_eq, decide_eq_false_iff_not] at *; rw [Bool.eq_iff_iff]; simp [d2B, dimB]; omega), hs.kept.kept⟩
      · refine g_run 9999 [] 2 (by kernel_rfl) ?_
        refine g_dec 16 (decide (y > 1073741823)) (by kernel_rfl) (fun h16 => ?_) (fun h16 => ?_)
        · refine g_run 9999 [] 1 (by kernel_rfl) ?_
          refine g_ret [] (Value.bool false) (by kernel_rfl) (by kernel_rfl) (by kernel_rfl) fun w' hs => ?_
          exact ⟨ret_bool (by clear hs; simp only [decide_eq_true_eq, decide_eq_false_iff_not] at *; rw [Bool.eq_iff_iff]; simp [d2B, dimB]; omega), hs.kept.kept⟩
        · refine g_run 9999 [] 2 (by kernel_rfl) ?_
          refine g_ret [] (Value.bool true) (by kernel_rfl) (by kernel_rfl) (by kernel_rfl) fun w' hs => ?_
          exact ⟨ret_bool (by clear hs; simp only [decide_eq_false_iff_not] at *; rw [Bool.eq_iff_iff]; simp [d2B, dimB]; omega), hs.kept.kept⟩
end Go.Proofs.Ytcncfmjfgdbfeab
