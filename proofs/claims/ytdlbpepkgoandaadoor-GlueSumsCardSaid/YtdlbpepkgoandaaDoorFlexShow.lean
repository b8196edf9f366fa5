/- flex.show, galleyref02.flex. -/
import Derived.Test.YtdlbpepkgoandaaDoorGRef3
import Derived.Test.YtdlbpepkgoandaaDoorPrint
import Derived.Test.YtdlbpepkgoandaaDoorRefPrint
import Derived.Deep.RegionHeld3
namespace Go.Proofs.YtdlbpepkgoandaaDoor
open Go.RowKit

def gunitCells : Array Value := #[.string ⟨#[]⟩, .string ⟨#[102, 105, 108]⟩, .string ⟨#[102, 105, 108, 108]⟩, .string ⟨#[102, 105, 108, 108, 108]⟩]
/-- the table as the row lists it -/
def GUnitsIs (w : World) : Prop := ∃ t fr, w.heap[0]? = some (.cells gunitCells t fr)
theorem GUnitsIs.kept {w w' : World} (h : GUnitsIs w) (k : Kept w w') : GUnitsIs w' := by
  obtain ⟨t, fr, h⟩ := h
  exact ⟨t, fr, by rw [k.block _ (Array.getElem?_eq_some_iff.1 h).1]; exact h⟩
def gunitS (o : Int) : ByteArray := if o = 1 then ⟨#[102, 105, 108]⟩ else if o = 2 then ⟨#[102, 105, 108, 108]⟩ else if o = 3 then ⟨#[102, 105, 108, 108, 108]⟩ else ⟨#[]⟩
theorem GUnitsIs.cell {w : World} (h : GUnitsIs w) : w.cell? ⟨0, 0, none⟩ = some (.string ⟨#[]⟩) ∧ w.cell? ⟨0, 1, none⟩ = some (.string ⟨#[102, 105, 108]⟩) ∧ w.cell? ⟨0, 2, none⟩ = some (.string ⟨#[102, 105, 108, 108]⟩) ∧ w.cell? ⟨0, 3, none⟩ = some (.string ⟨#[102, 105, 108, 108, 108]⟩) := by
  obtain ⟨t, fr, h⟩ := h
  refine ⟨?_, ?_, ?_, ?_⟩
  all_goals simp [World.cell?, h, gunitCells]

def pS (a : Int) : ByteArray := ⟨(printL a).toArray⟩
def flexS (word : ByteArray) (a o : Int) : ByteArray := if a = 0 then ⟨#[]⟩ else word ++ pS a ++ gunitS o

theorem pS_size {a : Int} (h : -1073741823 ≤ a ∧ a ≤ 1073741823) : (pS a).size ≤ 2000000 := by
  show (printL a).toArray.size ≤ _
  have h1 := dec_len (absI a / 65536).toNat
  have h2 := fracDigits_length 5 (10 * (absI a % 65536) + 5) 10
  have h3 : absI a ≤ 1073741823 := by unfold absI; split <;> omega
  have h4 : (if a < 0 then ([45] : List UInt8) else []).length ≤ 1 := by split <;> simp
  unfold printL
  simp only [List.size_toArray, List.length_append, List.length_cons, fracOf]
  omega

theorem print_ok {a : Int} (h : -1073741823 ≤ a ∧ a ≤ 1073741823) (w : World) (ht : Tabs w) :
    Calls Tryd.prog 30 #[.int .i64 a] w fun e w' => e = .returned (.string (pS a)) ∧ Kept w w' := by
  have := print_any a w ht
  rw [fit_dim h] at this
  exact this
theorem rprint_ok {a : Int} (h : -1073741823 ≤ a ∧ a ≤ 1073741823) (w : World) :
    Calls Tryd.prog 47 #[.int .i64 a] w fun e w' => e = .returned (.string (pS a)) ∧ Kept w w' := by
  have := refPrint_any a w
  rw [fit_dim h] at this
  exact this
theorem bempty (x : ByteArray) : x ++ (⟨#[]⟩ : ByteArray) = x := by
  apply WideShapes.bytes_inj
  simp


set_option maxHeartbeats 2000000 in
theorem show_0 (a : Int) (word : ByteArray) (w : World) (ha : ¬ a = 0) (hd : -1073741823 ≤ a ∧ a ≤ 1073741823) (hw : word.size ≤ 100) (ht : Tabs w) (hu : GUnitsIs w) :
    Calls Tryd.prog 46 #[.agg #[.int .i64 a, .int .i64 0], .string word] w fun e w' => e = .returned (.string (word ++ pS a ++ ⟨#[]⟩)) ∧ Kept w w' := by
  have hab : (a == 0) = false := by simpa using ha
  have hl := pS_size hd
  obtain ⟨W, hW⟩ : ∃ W, W = w.alloc (.cells #[.int .i64 a, .int .i64 0] 53) := ⟨_, rfl⟩
  have hk0 : Kept w W := by rw [hW]; exact (Kept.refl w).alloc (Nat.le_refl _) _
  have hp := fun w' (hk : Kept W w') => Lib.hid (print_ok hd w' (ht.kept (hk0.trans hk)))
  have m0 : W.heap[w.heap.size]? = some (.cells #[.int .i64 a, .int .i64 0] 53 (0, 0)) := by
    rw [hW]
    have e : (w.alloc (.cells #[.int .i64 a, .int .i64 0] 53)).heap = w.heap.push (.cells #[.int .i64 a, .int .i64 0] 53) := rfl
    rw [e]; simp
  have hb := fun w' (hk : Kept W w') => Lib.hid (box_two m0 hk)
  have hg := fun w' (hk : Kept W w') => Lib.hid ((hu.kept (hk0.trans hk)).cell)
  have HW := Lib.hid hW
  clear hW m0 ha ht hu
  generalize pS a = L at *
  clear hd
  have s0 : ∀ w, (Op.stringOp .add word L).run Tryd.prog w = .ok (.string (word ++ L)) w := fun w => run_string_add_sum (w := w) word L (by omega)
  have s1 : ∀ w, (Op.stringOp .add (word ++ L) ⟨#[]⟩).run Tryd.prog w = .ok (.string (word ++ L ++ ⟨#[]⟩)) w := fun w => run_string_add_sum (w := w) (word ++ L) ⟨#[]⟩ (by rw [ByteArray.size_append]; show _ + 0 ≤ _; omega)
  obtain ⟨p0, p1, p2, p3, p4⟩ := (hb _ (Kept.refl W)).out
  obtain ⟨u0, u1, u2, u3⟩ := (hg _ (Kept.refl W)).out
  go_enter Tryd.func46, Tryd.ntmps46
  go_wp2_with (fail)
  rw [← HW.out]
  go_region_held3 (fun w' => w'.cell? ⟨w.heap.size, 0, none⟩ = some (.int .i64 a) ∧ w'.cell? ⟨w.heap.size, 1, none⟩ = some (.int .i64 0) ∧ w'.cell? ⟨0, 0, none⟩ = some (.string ⟨#[]⟩)) (first | go_keep | exact ⟨x0, x1, y0⟩) (first | (go_at_call 30; refine (hp _ (Below.drew (Kept.refl W))).out.mono ?_; rintro e w1 ⟨rfl, k1⟩; have k2 : Kept W w1 := Kept.trans (Below.drew (Kept.refl W)) k1; obtain ⟨x0, x1, x2, x3, x4⟩ := (hb _ k2).out; obtain ⟨y0, y1, y2, y3⟩ := (hg _ k2).out; clear k1))
  all_goals go_wp2_with (fail)
  all_goals go_ret
  all_goals exact ⟨ret_str (by first | rfl | exact (bempty _).symm), Kept.trans hk0 k2⟩


set_option maxHeartbeats 2000000 in
theorem show_1 (a : Int) (word : ByteArray) (w : World) (ha : ¬ a = 0) (hd : -1073741823 ≤ a ∧ a ≤ 1073741823) (hw : word.size ≤ 100) (ht : Tabs w) (hu : GUnitsIs w) :
    Calls Tryd.prog 46 #[.agg #[.int .i64 a, .int .i64 1], .string word] w fun e w' => e = .returned (.string (word ++ pS a ++ ⟨#[102, 105, 108]⟩)) ∧ Kept w w' := by
  have hab : (a == 0) = false := by simpa using ha
  have hl := pS_size hd
  obtain ⟨W, hW⟩ : ∃ W, W = w.alloc (.cells #[.int .i64 a, .int .i64 1] 53) := ⟨_, rfl⟩
  have hk0 : Kept w W := by rw [hW]; exact (Kept.refl w).alloc (Nat.le_refl _) _
  have hp := fun w' (hk : Kept W w') => Lib.hid (print_ok hd w' (ht.kept (hk0.trans hk)))
  have m0 : W.heap[w.heap.size]? = some (.cells #[.int .i64 a, .int .i64 1] 53 (0, 0)) := by
    rw [hW]
    have e : (w.alloc (.cells #[.int .i64 a, .int .i64 1] 53)).heap = w.heap.push (.cells #[.int .i64 a, .int .i64 1] 53) := rfl
    rw [e]; simp
  have hb := fun w' (hk : Kept W w') => Lib.hid (box_two m0 hk)
  have hg := fun w' (hk : Kept W w') => Lib.hid ((hu.kept (hk0.trans hk)).cell)
  have HW := Lib.hid hW
  clear hW m0 ha ht hu
  generalize pS a = L at *
  clear hd
  have s0 : ∀ w, (Op.stringOp .add word L).run Tryd.prog w = .ok (.string (word ++ L)) w := fun w => run_string_add_sum (w := w) word L (by omega)
  have s1 : ∀ w, (Op.stringOp .add (word ++ L) ⟨#[102, 105, 108]⟩).run Tryd.prog w = .ok (.string (word ++ L ++ ⟨#[102, 105, 108]⟩)) w := fun w => run_string_add_sum (w := w) (word ++ L) ⟨#[102, 105, 108]⟩ (by rw [ByteArray.size_append]; show _ + 3 ≤ _; omega)
  obtain ⟨p0, p1, p2, p3, p4⟩ := (hb _ (Kept.refl W)).out
  obtain ⟨u0, u1, u2, u3⟩ := (hg _ (Kept.refl W)).out
  go_enter Tryd.func46, Tryd.ntmps46
  go_wp2_with (fail)
  rw [← HW.out]
  go_region_held3 (fun w' => w'.cell? ⟨w.heap.size, 0, none⟩ = some (.int .i64 a) ∧ w'.cell? ⟨w.heap.size, 1, none⟩ = some (.int .i64 1) ∧ w'.cell? ⟨0, 1, none⟩ = some (.string ⟨#[102, 105, 108]⟩)) (first | go_keep | exact ⟨x0, x1, y1⟩) (first | (go_at_call 30; refine (hp _ (Below.drew (Kept.refl W))).out.mono ?_; rintro e w1 ⟨rfl, k1⟩; have k2 : Kept W w1 := Kept.trans (Below.drew (Kept.refl W)) k1; obtain ⟨x0, x1, x2, x3, x4⟩ := (hb _ k2).out; obtain ⟨y0, y1, y2, y3⟩ := (hg _ k2).out; clear k1))
  all_goals go_wp2_with (fail)
  all_goals go_ret
  all_goals exact ⟨ret_str (by first | rfl | exact (bempty _).symm), Kept.trans hk0 k2⟩


set_option maxHeartbeats 2000000 in
theorem show_2 (a : Int) (word : ByteArray) (w : World) (ha : ¬ a = 0) (hd : -1073741823 ≤ a ∧ a ≤ 1073741823) (hw : word.size ≤ 100) (ht : Tabs w) (hu : GUnitsIs w) :
    Calls Tryd.prog 46 #[.agg #[.int .i64 a, .int .i64 2], .string word] w fun e w' => e = .returned (.string (word ++ pS a ++ ⟨#[102, 105, 108, 108]⟩)) ∧ Kept w w' := by
  have hab : (a == 0) = false := by simpa using ha
  have hl := pS_size hd
  obtain ⟨W, hW⟩ : ∃ W, W = w.alloc (.cells #[.int .i64 a, .int .i64 2] 53) := ⟨_, rfl⟩
  have hk0 : Kept w W := by rw [hW]; exact (Kept.refl w).alloc (Nat.le_refl _) _
  have hp := fun w' (hk : Kept W w') => Lib.hid (print_ok hd w' (ht.kept (hk0.trans hk)))
  have m0 : W.heap[w.heap.size]? = some (.cells #[.int .i64 a, .int .i64 2] 53 (0, 0)) := by
    rw [hW]
    have e : (w.alloc (.cells #[.int .i64 a, .int .i64 2] 53)).heap = w.heap.push (.cells #[.int .i64 a, .int .i64 2] 53) := rfl
    rw [e]; simp
  have hb := fun w' (hk : Kept W w') => Lib.hid (box_two m0 hk)
  have hg := fun w' (hk : Kept W w') => Lib.hid ((hu.kept (hk0.trans hk)).cell)
  have HW := Lib.hid hW
  clear hW m0 ha ht hu
  generalize pS a = L at *
  clear hd
  have s0 : ∀ w, (Op.stringOp .add word L).run Tryd.prog w = .ok (.string (word ++ L)) w := fun w => run_string_add_sum (w := w) word L (by omega)
  have s1 : ∀ w, (Op.stringOp .add (word ++ L) ⟨#[102, 105, 108, 108]⟩).run Tryd.prog w = .ok (.string (word ++ L ++ ⟨#[102, 105, 108, 108]⟩)) w := fun w => run_string_add_sum (w := w) (word ++ L) ⟨#[102, 105, 108, 108]⟩ (by rw [ByteArray.size_append]; show _ + 4 ≤ _; omega)
  obtain ⟨p0, p1, p2, p3, p4⟩ := (hb _ (Kept.refl W)).out
  obtain ⟨u0, u1, u2, u3⟩ := (hg _ (Kept.refl W)).out
  go_enter Tryd.func46, Tryd.ntmps46
  go_wp2_with (fail)
  rw [← HW.out]
  go_region_held3 (fun w' => w'.cell? ⟨w.heap.size, 0, none⟩ = some (.int .i64 a) ∧ w'.cell? ⟨w.heap.size, 1, none⟩ = some (.int .i64 2) ∧ w'.cell? ⟨0, 2, none⟩ = some (.string ⟨#[102, 105, 108, 108]⟩)) (first | go_keep | exact ⟨x0, x1, y2⟩) (first | (go_at_call 30; refine (hp _ (Below.drew (Kept.refl W))).out.mono ?_; rintro e w1 ⟨rfl, k1⟩; have k2 : Kept W w1 := Kept.trans (Below.drew (Kept.refl W)) k1; obtain ⟨x0, x1, x2, x3, x4⟩ := (hb _ k2).out; obtain ⟨y0, y1, y2, y3⟩ := (hg _ k2).out; clear k1))
  all_goals go_wp2_with (fail)
  all_goals go_ret
  all_goals exact ⟨ret_str (by first | rfl | exact (bempty _).symm), Kept.trans hk0 k2⟩


set_option maxHeartbeats 2000000 in
theorem show_3 (a : Int) (word : ByteArray) (w : World) (ha : ¬ a = 0) (hd : -1073741823 ≤ a ∧ a ≤ 1073741823) (hw : word.size ≤ 100) (ht : Tabs w) (hu : GUnitsIs w) :
    Calls Tryd.prog 46 #[.agg #[.int .i64 a, .int .i64 3], .string word] w fun e w' => e = .returned (.string (word ++ pS a ++ ⟨#[102, 105, 108, 108, 108]⟩)) ∧ Kept w w' := by
  have hab : (a == 0) = false := by simpa using ha
  have hl := pS_size hd
  obtain ⟨W, hW⟩ : ∃ W, W = w.alloc (.cells #[.int .i64 a, .int .i64 3] 53) := ⟨_, rfl⟩
  have hk0 : Kept w W := by rw [hW]; exact (Kept.refl w).alloc (Nat.le_refl _) _
  have hp := fun w' (hk : Kept W w') => Lib.hid (print_ok hd w' (ht.kept (hk0.trans hk)))
  have m0 : W.heap[w.heap.size]? = some (.cells #[.int .i64 a, .int .i64 3] 53 (0, 0)) := by
    rw [hW]
    have e : (w.alloc (.cells #[.int .i64 a, .int .i64 3] 53)).heap = w.heap.push (.cells #[.int .i64 a, .int .i64 3] 53) := rfl
    rw [e]; simp
  have hb := fun w' (hk : Kept W w') => Lib.hid (box_two m0 hk)
  have hg := fun w' (hk : Kept W w') => Lib.hid ((hu.kept (hk0.trans hk)).cell)
  have HW := Lib.hid hW
  clear hW m0 ha ht hu
  generalize pS a = L at *
  clear hd
  have s0 : ∀ w, (Op.stringOp .add word L).run Tryd.prog w = .ok (.string (word ++ L)) w := fun w => run_string_add_sum (w := w) word L (by omega)
  have s1 : ∀ w, (Op.stringOp .add (word ++ L) ⟨#[102, 105, 108, 108, 108]⟩).run Tryd.prog w = .ok (.string (word ++ L ++ ⟨#[102, 105, 108, 108, 108]⟩)) w := fun w => run_string_add_sum (w := w) (word ++ L) ⟨#[102, 105, 108, 108, 108]⟩ (by rw [ByteArray.size_append]; show _ + 5 ≤ _; omega)
  obtain ⟨p0, p1, p2, p3, p4⟩ := (hb _ (Kept.refl W)).out
  obtain ⟨u0, u1, u2, u3⟩ := (hg _ (Kept.refl W)).out
  go_enter Tryd.func46, Tryd.ntmps46
  go_wp2_with (fail)
  rw [← HW.out]
  go_region_held3 (fun w' => w'.cell? ⟨w.heap.size, 0, none⟩ = some (.int .i64 a) ∧ w'.cell? ⟨w.heap.size, 1, none⟩ = some (.int .i64 3) ∧ w'.cell? ⟨0, 3, none⟩ = some (.string ⟨#[102, 105, 108, 108, 108]⟩)) (first | go_keep | exact ⟨x0, x1, y3⟩) (first | (go_at_call 30; refine (hp _ (Below.drew (Kept.refl W))).out.mono ?_; rintro e w1 ⟨rfl, k1⟩; have k2 : Kept W w1 := Kept.trans (Below.drew (Kept.refl W)) k1; obtain ⟨x0, x1, x2, x3, x4⟩ := (hb _ k2).out; obtain ⟨y0, y1, y2, y3⟩ := (hg _ k2).out; clear k1))
  all_goals go_wp2_with (fail)
  all_goals go_ret
  all_goals exact ⟨ret_str (by first | rfl | exact (bempty _).symm), Kept.trans hk0 k2⟩


set_option maxHeartbeats 1000000 in
theorem show_zero (o : Int) (word : ByteArray) (w : World) :
    Calls Tryd.prog 46 #[.agg #[.int .i64 0, .int .i64 o], .string word] w fun e w' => e = .returned (.string ⟨#[]⟩) ∧ Kept w w' := by
  go_enter Tryd.func46, Tryd.ntmps46
  go_wp2
  go_ret
  exact ⟨rfl, (Kept.refl w).alloc (Nat.le_refl _) _⟩
theorem show_any (a o : Int) (word : ByteArray) (w : World) (hd : -1073741823 ≤ a ∧ a ≤ 1073741823) (ho : 0 ≤ o ∧ o < 4) (hw : word.size ≤ 100) (ht : Tabs w) (hu : GUnitsIs w) :
    Calls Tryd.prog 46 #[.agg #[.int .i64 a, .int .i64 o], .string word] w fun e w' => e = .returned (.string (flexS word a o)) ∧ Kept w w' := by
  unfold flexS
  by_cases ha : a = 0
  · subst ha
    exact show_zero o word w
  · rw [if_neg ha]
    obtain rfl | rfl | rfl | rfl : o = 0 ∨ o = 1 ∨ o = 2 ∨ o = 3 := by omega
    · exact show_0 a word w ha hd hw ht hu
    · exact show_1 a word w ha hd hw ht hu
    · exact show_2 a word w ha hd hw ht hu
    · exact show_3 a word w ha hd hw ht hu


set_option maxHeartbeats 2000000 in
theorem rflex_0 (a : Int) (word : ByteArray) (w : World) (ha : ¬ a = 0) (hd : -1073741823 ≤ a ∧ a ≤ 1073741823) (hw : word.size ≤ 100) :
    Calls Tryd.prog 48 #[.string word, .int .i64 a, .int .i64 0] w fun e w' => e = .returned (.string (word ++ pS a ++ ⟨#[]⟩)) ∧ Kept w w' := by
  have hab : (a == 0) = false := by simpa using ha
  have hl := pS_size hd
  have hp := fun w => Lib.hid (rprint_ok hd w)
  generalize pS a = L at *
  clear hd ha
  go_enter Tryd.func48, Tryd.ntmps48
  go_wp2_with (fail)
  refine (hp _).out.mono ?_
  rintro e w1 ⟨rfl, k1⟩
  go_wp2_with (fail)
  go_ret
  exact ⟨ret_str (by first | rfl | exact (bempty _).symm), k1⟩


set_option maxHeartbeats 2000000 in
theorem rflex_1 (a : Int) (word : ByteArray) (w : World) (ha : ¬ a = 0) (hd : -1073741823 ≤ a ∧ a ≤ 1073741823) (hw : word.size ≤ 100) :
    Calls Tryd.prog 48 #[.string word, .int .i64 a, .int .i64 1] w fun e w' => e = .returned (.string (word ++ pS a ++ ⟨#[102, 105, 108]⟩)) ∧ Kept w w' := by
  have hab : (a == 0) = false := by simpa using ha
  have hl := pS_size hd
  have hp := fun w => Lib.hid (rprint_ok hd w)
  generalize pS a = L at *
  clear hd ha
  go_enter Tryd.func48, Tryd.ntmps48
  go_wp2_with (fail)
  refine (hp _).out.mono ?_
  rintro e w1 ⟨rfl, k1⟩
  go_wp2_with (fail)
  go_ret
  exact ⟨ret_str (by first | rfl | exact (bempty _).symm), k1⟩


set_option maxHeartbeats 2000000 in
theorem rflex_2 (a : Int) (word : ByteArray) (w : World) (ha : ¬ a = 0) (hd : -1073741823 ≤ a ∧ a ≤ 1073741823) (hw : word.size ≤ 100) :
    Calls Tryd.prog 48 #[.string word, .int .i64 a, .int .i64 2] w fun e w' => e = .returned (.string (word ++ pS a ++ ⟨#[102, 105, 108, 108]⟩)) ∧ Kept w w' := by
  have hab : (a == 0) = false := by simpa using ha
  have hl := pS_size hd
  have hp := fun w => Lib.hid (rprint_ok hd w)
  generalize pS a = L at *
  clear hd ha
  go_enter Tryd.func48, Tryd.ntmps48
  go_wp2_with (fail)
  refine (hp _).out.mono ?_
  rintro e w1 ⟨rfl, k1⟩
  go_wp2_with (fail)
  go_ret
  exact ⟨ret_str (by first | rfl | exact (bempty _).symm), k1⟩


set_option maxHeartbeats 2000000 in
theorem rflex_3 (a : Int) (word : ByteArray) (w : World) (ha : ¬ a = 0) (hd : -1073741823 ≤ a ∧ a ≤ 1073741823) (hw : word.size ≤ 100) :
    Calls Tryd.prog 48 #[.string word, .int .i64 a, .int .i64 3] w fun e w' => e = .returned (.string (word ++ pS a ++ ⟨#[102, 105, 108, 108, 108]⟩)) ∧ Kept w w' := by
  have hab : (a == 0) = false := by simpa using ha
  have hl := pS_size hd
  have hp := fun w => Lib.hid (rprint_ok hd w)
  generalize pS a = L at *
  clear hd ha
  go_enter Tryd.func48, Tryd.ntmps48
  go_wp2_with (fail)
  refine (hp _).out.mono ?_
  rintro e w1 ⟨rfl, k1⟩
  go_wp2_with (fail)
  go_ret
  exact ⟨ret_str (by first | rfl | exact (bempty _).symm), k1⟩


set_option maxHeartbeats 1000000 in
theorem rflex_zero (o : Int) (word : ByteArray) (w : World) :
    Calls Tryd.prog 48 #[.string word, .int .i64 0, .int .i64 o] w fun e w' => e = .returned (.string ⟨#[]⟩) ∧ Kept w w' := by
  go_enter Tryd.func48, Tryd.ntmps48
  go_wp2
  go_ret
  exact ⟨rfl, Kept.refl w⟩
theorem rflex_any (a o : Int) (word : ByteArray) (w : World) (hd : -1073741823 ≤ a ∧ a ≤ 1073741823) (ho : 0 ≤ o ∧ o < 4) (hw : word.size ≤ 100) :
    Calls Tryd.prog 48 #[.string word, .int .i64 a, .int .i64 o] w fun e w' => e = .returned (.string (flexS word a o)) ∧ Kept w w' := by
  unfold flexS
  by_cases ha : a = 0
  · subst ha
    exact rflex_zero o word w
  · rw [if_neg ha]
    obtain rfl | rfl | rfl | rfl : o = 0 ∨ o = 1 ∨ o = 2 ∨ o = 3 := by omega
    · exact rflex_0 a word w ha hd hw
    · exact rflex_1 a word w ha hd hw
    · exact rflex_2 a word w ha hd hw
    · exact rflex_3 a word w ha hd hw
end Go.Proofs.YtdlbpepkgoandaaDoor
