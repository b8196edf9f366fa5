/- glue.Show, galleyref02.Show. -/
import Derived.Test.YtdlbpepkgoandaaDoorFlexShow
namespace Go.Proofs.YtdlbpepkgoandaaDoor
open Go.RowKit

def showS (g : Gl) : ByteArray := if g.okB then pS g.nat ++ flexS ⟨#[32, 112, 108, 117, 115, 32]⟩ g.st g.so ++ flexS ⟨#[32, 109, 105, 110, 117, 115, 32]⟩ g.sh g.ho else ⟨#[]⟩
theorem flexS_size {word : ByteArray} {a o : Int} (h : -1073741823 ≤ a ∧ a ≤ 1073741823) (hw : word.size ≤ 100) : (flexS word a o).size ≤ 3000000 := by
  unfold flexS
  split
  · decide
  · rw [ByteArray.size_append, ByteArray.size_append]
    have h1 := pS_size h
    have h2 : (gunitS o).size ≤ 5 := by
      unfold gunitS
      split
      · decide
      · split
        · decide
        · split <;> decide
    omega


set_option maxHeartbeats 1000000 in
theorem gshow_bad (g : Gl) (w : World) (hok : g.okB = false) :
    Calls Tryd.prog 20 #[.agg #[.int .i64 g.nat, .int .i64 g.st, .int .i64 g.sh, .int .i64 g.so, .int .i64 g.ho]] w fun e w' => e = .returned (.string ⟨#[]⟩) ∧ Kept w w' := by
  have c1 := fun w => Lib.hid (check_any g.nat g.st g.sh g.so g.ho w)
  have e1 : Gl.err ⟨g.nat, g.st, g.sh, g.so, g.ho⟩ = 30 := by show Gl.err g = 30; simp [Gl.err, hok]
  rw [e1] at c1
  clear e1 hok
  go_enter Tryd.func20, Tryd.ntmps20
  go_wp2_with (fail)
  refine (c1 _).out.mono ?_
  rintro e w1 ⟨rfl, k1⟩
  go_wp2_with (fail)
  go_ret
  exact ⟨rfl, Kept.trans ((Kept.refl w).alloc (Nat.le_refl _) _) k1⟩

set_option maxRecDepth 100000 in
set_option maxHeartbeats 4000000 in
theorem gshow_good (g : Gl) (w : World) (hok : g.okB = true) (ht : Tabs w) (hu : GUnitsIs w) :
    Calls Tryd.prog 20 #[.agg #[.int .i64 g.nat, .int .i64 g.st, .int .i64 g.sh, .int .i64 g.so, .int .i64 g.ho]] w fun e w' => e = .returned (.string (pS g.nat ++ flexS ⟨#[32, 112, 108, 117, 115, 32]⟩ g.st g.so ++ flexS ⟨#[32, 109, 105, 110, 117, 115, 32]⟩ g.sh g.ho)) ∧ Kept w w' := by
  have c1 := fun w => Lib.hid (check_any g.nat g.st g.sh g.so g.ho w)
  have e1 : Gl.err ⟨g.nat, g.st, g.sh, g.so, g.ho⟩ = 0 := by show Gl.err g = 0; simp [Gl.err, hok]
  rw [e1] at c1
  obtain ⟨a0, a1, a2, a3, a4⟩ := ok_cases hok
  clear e1 hok
  obtain ⟨W, hW⟩ : ∃ W, W = w.alloc (.cells #[.int .i64 g.nat, .int .i64 g.st, .int .i64 g.sh, .int .i64 g.so, .int .i64 g.ho] 33) := ⟨_, rfl⟩
  have hk0 : Kept w W := by rw [hW]; exact (Kept.refl w).alloc (Nat.le_refl _) _
  have m0 : W.heap[w.heap.size]? = some (.cells #[.int .i64 g.nat, .int .i64 g.st, .int .i64 g.sh, .int .i64 g.so, .int .i64 g.ho] 33 (0, 0)) := by rw [hW]; exact mk1 _ _
  have hp := fun w' (hk : Kept W w') => Lib.hid (print_ok a0 w' (ht.kept (hk0.trans hk)))
  have hs1 := fun w' (hk : Kept W w') => Lib.hid (show_any g.st g.so ⟨#[32, 112, 108, 117, 115, 32]⟩ w' a1 a3 (by decide) (ht.kept (hk0.trans hk)) (hu.kept (hk0.trans hk)))
  have hs2 := fun w' (hk : Kept W w') => Lib.hid (show_any g.sh g.ho ⟨#[32, 109, 105, 110, 117, 115, 32]⟩ w' a2 a4 (by decide) (ht.kept (hk0.trans hk)) (hu.kept (hk0.trans hk)))
  have ht1 := fun w' (_ : Kept W w') => Lib.hid (stretch_any g.nat g.st g.sh g.so g.ho w')
  have ht2 := fun w' (_ : Kept W w') => Lib.hid (shrink_any g.nat g.st g.sh g.so g.ho w')
  have hS : ∀ w', Kept W w' → Hid (w'.cell? ⟨w.heap.size, 0, none⟩ = some (.int .i64 g.nat) ∧ w'.cell? ⟨w.heap.size, 1, none⟩ = some (.int .i64 g.st) ∧ w'.cell? ⟨w.heap.size, 2, none⟩ = some (.int .i64 g.sh) ∧ w'.cell? ⟨w.heap.size, 3, none⟩ = some (.int .i64 g.so) ∧ w'.cell? ⟨w.heap.size, 4, none⟩ = some (.int .i64 g.ho) ∧ Kept W w') := fun w' k => by
    obtain ⟨x0, x1, x2, x3, x4, _, _⟩ := box_glue m0 k
    exact Lib.hid ⟨x0, x1, x2, x3, x4, k⟩
  have l0 := pS_size a0
  have l1 := flexS_size (word := ⟨#[32, 112, 108, 117, 115, 32]⟩) (o := g.so) a1 (by decide)
  have l2 := flexS_size (word := ⟨#[32, 109, 105, 110, 117, 115, 32]⟩) (o := g.ho) a2 (by decide)
  have HW := Lib.hid hW
  clear hW m0 a0 a1 a2 a3 a4 ht hu
  generalize pS g.nat = P at *
  generalize flexS ⟨#[32, 112, 108, 117, 115, 32]⟩ g.st g.so = F1 at *
  generalize flexS ⟨#[32, 109, 105, 110, 117, 115, 32]⟩ g.sh g.ho = F2 at *
  have s0 : ∀ w, (Op.stringOp .add P F1).run Tryd.prog w = .ok (.string (P ++ F1)) w := fun w => run_string_add_sum (w := w) P F1 (by omega)
  have s1 : ∀ w, (Op.stringOp .add (P ++ F1) F2).run Tryd.prog w = .ok (.string (P ++ F1 ++ F2)) w := fun w => run_string_add_sum (w := w) (P ++ F1) F2 (by rw [ByteArray.size_append]; omega)
  go_enter Tryd.func20, Tryd.ntmps20
  go_wp2_with (fail)
  rw [← HW.out]
  refine (c1 _).out.mono ?_
  rintro e w1 ⟨rfl, kb⟩
  go_wp2_with (fail)
  go_region_held3 (fun w' => w'.cell? ⟨w.heap.size, 0, none⟩ = some (.int .i64 g.nat) ∧ w'.cell? ⟨w.heap.size, 1, none⟩ = some (.int .i64 g.st) ∧ w'.cell? ⟨w.heap.size, 2, none⟩ = some (.int .i64 g.sh) ∧ w'.cell? ⟨w.heap.size, 3, none⟩ = some (.int .i64 g.so) ∧ w'.cell? ⟨w.heap.size, 4, none⟩ = some (.int .i64 g.ho) ∧ Kept W w') (first | exact (hS _ (by first | assumption | exact Below.drew (by assumption))).out) (first | (go_at_call 30; ((with_reducible refine (hp _ (by first | assumption | exact Below.drew (by assumption))).out.mono ?_); rintro e w4 ⟨rfl, k4⟩; have kb : Kept W w4 := Kept.trans (by first | assumption | exact Below.drew (by assumption)) k4; clear k4)) | (go_at_call 32; ((with_reducible refine (ht1 _ (by first | assumption | exact Below.drew (by assumption))).out.mono ?_); rintro e w4 ⟨rfl, k4⟩; have kb : Kept W w4 := Kept.trans (by first | assumption | exact Below.drew (by assumption)) k4; clear k4)) | (go_at_call 34; ((with_reducible refine (ht2 _ (by first | assumption | exact Below.drew (by assumption))).out.mono ?_); rintro e w4 ⟨rfl, k4⟩; have kb : Kept W w4 := Kept.trans (by first | assumption | exact Below.drew (by assumption)) k4; clear k4)) | (go_at_call 46; ((with_reducible refine (hs1 _ (by first | assumption | exact Below.drew (by assumption))).out.mono ?_); rintro e w4 ⟨rfl, k4⟩; have kb : Kept W w4 := Kept.trans (by first | assumption | exact Below.drew (by assumption)) k4; clear k4)) | (go_at_call 46; ((with_reducible refine (hs2 _ (by first | assumption | exact Below.drew (by assumption))).out.mono ?_); rintro e w4 ⟨rfl, k4⟩; have kb : Kept W w4 := Kept.trans (by first | assumption | exact Below.drew (by assumption)) k4; clear k4)))
  all_goals go_wp2_with (fail)
  all_goals go_ret
  all_goals exact ⟨rfl, Kept.trans hk0 kb⟩


set_option maxHeartbeats 1000000 in
theorem rshow_bad (g : Gl) (w : World) (hok : g.okB = false) :
    Calls Tryd.prog 21 #[.agg #[.int .i64 g.nat, .int .i64 g.st, .int .i64 g.sh, .int .i64 g.so, .int .i64 g.ho]] w fun e w' => e = .returned (.string ⟨#[]⟩) ∧ Kept w w' := by
  have c1 := fun w => Lib.hid (rcheck_any g.nat g.st g.sh g.so g.ho w)
  have e1 : Gl.err ⟨g.nat, g.st, g.sh, g.so, g.ho⟩ = 30 := by show Gl.err g = 30; simp [Gl.err, hok]
  rw [e1] at c1
  clear e1 hok
  go_enter Tryd.func21, Tryd.ntmps21
  go_wp2_with (fail)
  refine (c1 _).out.mono ?_
  rintro e w1 ⟨rfl, k1⟩
  go_wp2_with (fail)
  go_ret
  exact ⟨rfl, Kept.trans ((Kept.refl w).alloc (Nat.le_refl _) _) k1⟩

set_option maxRecDepth 100000 in
set_option maxHeartbeats 4000000 in
theorem rshow_good (g : Gl) (w : World) (hok : g.okB = true) :
    Calls Tryd.prog 21 #[.agg #[.int .i64 g.nat, .int .i64 g.st, .int .i64 g.sh, .int .i64 g.so, .int .i64 g.ho]] w fun e w' => e = .returned (.string (pS g.nat ++ flexS ⟨#[32, 112, 108, 117, 115, 32]⟩ g.st g.so ++ flexS ⟨#[32, 109, 105, 110, 117, 115, 32]⟩ g.sh g.ho)) ∧ Kept w w' := by
  have c1 := fun w => Lib.hid (rcheck_any g.nat g.st g.sh g.so g.ho w)
  have e1 : Gl.err ⟨g.nat, g.st, g.sh, g.so, g.ho⟩ = 0 := by show Gl.err g = 0; simp [Gl.err, hok]
  rw [e1] at c1
  obtain ⟨a0, a1, a2, a3, a4⟩ := ok_cases hok
  clear e1 hok
  obtain ⟨W, hW⟩ : ∃ W, W = w.alloc (.cells #[.int .i64 g.nat, .int .i64 g.st, .int .i64 g.sh, .int .i64 g.so, .int .i64 g.ho] 33) := ⟨_, rfl⟩
  have hk0 : Kept w W := by rw [hW]; exact (Kept.refl w).alloc (Nat.le_refl _) _
  have m0 : W.heap[w.heap.size]? = some (.cells #[.int .i64 g.nat, .int .i64 g.st, .int .i64 g.sh, .int .i64 g.so, .int .i64 g.ho] 33 (0, 0)) := by rw [hW]; exact mk1 _ _
  have hp := fun w' (_ : Kept W w') => Lib.hid (rprint_ok a0 w')
  have hs1 := fun w' (_ : Kept W w') => Lib.hid (rflex_any g.st g.so ⟨#[32, 112, 108, 117, 115, 32]⟩ w' a1 a3 (by decide))
  have hs2 := fun w' (_ : Kept W w') => Lib.hid (rflex_any g.sh g.ho ⟨#[32, 109, 105, 110, 117, 115, 32]⟩ w' a2 a4 (by decide))
  have hS : ∀ w', Kept W w' → Hid (w'.cell? ⟨w.heap.size, 0, none⟩ = some (.int .i64 g.nat) ∧ w'.cell? ⟨w.heap.size, 1, none⟩ = some (.int .i64 g.st) ∧ w'.cell? ⟨w.heap.size, 2, none⟩ = some (.int .i64 g.sh) ∧ w'.cell? ⟨w.heap.size, 3, none⟩ = some (.int .i64 g.so) ∧ w'.cell? ⟨w.heap.size, 4, none⟩ = some (.int .i64 g.ho) ∧ Kept W w') := fun w' k => by
    obtain ⟨x0, x1, x2, x3, x4, _, _⟩ := box_glue m0 k
    exact Lib.hid ⟨x0, x1, x2, x3, x4, k⟩
  have l0 := pS_size a0
  have l1 := flexS_size (word := ⟨#[32, 112, 108, 117, 115, 32]⟩) (o := g.so) a1 (by decide)
  have l2 := flexS_size (word := ⟨#[32, 109, 105, 110, 117, 115, 32]⟩) (o := g.ho) a2 (by decide)
  have HW := Lib.hid hW
  clear hW m0 a0 a1 a2 a3 a4
  generalize pS g.nat = P at *
  generalize flexS ⟨#[32, 112, 108, 117, 115, 32]⟩ g.st g.so = F1 at *
  generalize flexS ⟨#[32, 109, 105, 110, 117, 115, 32]⟩ g.sh g.ho = F2 at *
  have s0 : ∀ w, (Op.stringOp .add P F1).run Tryd.prog w = .ok (.string (P ++ F1)) w := fun w => run_string_add_sum (w := w) P F1 (by omega)
  have s1 : ∀ w, (Op.stringOp .add (P ++ F1) F2).run Tryd.prog w = .ok (.string (P ++ F1 ++ F2)) w := fun w => run_string_add_sum (w := w) (P ++ F1) F2 (by rw [ByteArray.size_append]; omega)
  go_enter Tryd.func21, Tryd.ntmps21
  go_wp2_with (fail)
  rw [← HW.out]
  refine (c1 _).out.mono ?_
  rintro e w1 ⟨rfl, kb⟩
  go_wp2_with (fail)
  go_region_held3 (fun w' => w'.cell? ⟨w.heap.size, 0, none⟩ = some (.int .i64 g.nat) ∧ w'.cell? ⟨w.heap.size, 1, none⟩ = some (.int .i64 g.st) ∧ w'.cell? ⟨w.heap.size, 2, none⟩ = some (.int .i64 g.sh) ∧ w'.cell? ⟨w.heap.size, 3, none⟩ = some (.int .i64 g.so) ∧ w'.cell? ⟨w.heap.size, 4, none⟩ = some (.int .i64 g.ho) ∧ Kept W w') (first | exact (hS _ (by first | assumption | exact Below.drew (by assumption))).out) (first | (go_at_call 47; ((with_reducible refine (hp _ (by first | assumption | exact Below.drew (by assumption))).out.mono ?_); rintro e w4 ⟨rfl, k4⟩; have kb : Kept W w4 := Kept.trans (by first | assumption | exact Below.drew (by assumption)) k4; clear k4)) | (go_at_call 48; ((with_reducible refine (hs1 _ (by first | assumption | exact Below.drew (by assumption))).out.mono ?_); rintro e w4 ⟨rfl, k4⟩; have kb : Kept W w4 := Kept.trans (by first | assumption | exact Below.drew (by assumption)) k4; clear k4)) | (go_at_call 48; ((with_reducible refine (hs2 _ (by first | assumption | exact Below.drew (by assumption))).out.mono ?_); rintro e w4 ⟨rfl, k4⟩; have kb : Kept W w4 := Kept.trans (by first | assumption | exact Below.drew (by assumption)) k4; clear k4)))
  all_goals go_wp2_with (fail)
  all_goals go_ret
  all_goals exact ⟨rfl, Kept.trans hk0 kb⟩

theorem gshow_any (g : Gl) (w : World) (ht : Tabs w) (hu : GUnitsIs w) :
    Calls Tryd.prog 20 #[.agg #[.int .i64 g.nat, .int .i64 g.st, .int .i64 g.sh, .int .i64 g.so, .int .i64 g.ho]] w fun e w' => e = .returned (.string (showS g)) ∧ Kept w w' := by
  unfold showS
  cases hok : g.okB
  · exact gshow_bad g w hok
  · exact gshow_good g w hok ht hu
theorem rshow_any (g : Gl) (w : World) :
    Calls Tryd.prog 21 #[.agg #[.int .i64 g.nat, .int .i64 g.st, .int .i64 g.sh, .int .i64 g.so, .int .i64 g.ho]] w fun e w' => e = .returned (.string (showS g)) ∧ Kept w w' := by
  unfold showS
  cases hok : g.okB
  · exact rshow_bad g w hok
  · exact rshow_good g w hok
end Go.Proofs.YtdlbpepkgoandaaDoor
