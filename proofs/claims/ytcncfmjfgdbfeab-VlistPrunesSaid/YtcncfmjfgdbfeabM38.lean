/- VGr VCc VTs VCn Fast19 Fast17. -/
import Derived.Test.YtcncfmjfgdbfeabFast16
import Derived.Lib.AppendZerosOnto
import Derived.Test.YtcncfmjfgdbfeabM26
import Derived.Test.YtcncfmjfgdbfeabM12
import Derived.Test.YtcncfmjfgdbfeabM35
import Derived.Test.YtcncfmjfgdbfeabM33
import Derived.Laws.CopyRow
namespace Go.Proofs.Ytcncfmjfgdbfeab
open Go.RowKit
def apzSem (t tn ty : TypeId) (x y : Value) : Sem Next := do
 let v ← Builtin.append_ #[t, tn] ty #[x, y]
 pure (.value v)
structure GrewX (w0 : World) (k sz : Nat) where
 b : Nat
 cap : Nat
 cs : List Value
 new : w0.heap.size ≤ b
 le : k ≤ cap
 len : cs.length = cap * sz
theorem apz_ok {P : Program} {t tn ty E : TypeId} {sz by_ k : Nat} {kq kn : IntKind} {w0 w : World} {bs : List Nat} {hp : List HE} (hw : Sat w0 bs hp w) (ht : P.underlying t = some (.slice E)) (htn : P.underlying tn = some (.int kn))
  (hz : ∃ ti z, P.info? E = some ti ∧ ti.zero = some z ∧ ti.size = sz ∧ ti.bytes = by_ ∧ z.cells.size = sz) (h0 : 0 < k) (hs : 0 < sz) (hb : k * by_ ≤ 281474976710656) (hn : k ≤ 9223372036854775807) {hp' : GrewX w0 k sz → List HE} (e : ∀ x : GrewX w0 k sz, hp ++ [.obj true x.b x.cs E] = hp' x) :
  ∃ (x : GrewX w0 k sz) (w' : World), (apzSem t tn ty (.slice none 0 0) (.int kq (k : Int))).run P w = .ok (.value (.slice (some ⟨x.b, 0, none⟩) k x.cap)) w' ∧ Sat w0 bs (hp' x) w' := by
 obtain ⟨ti, z, hti, hzero, hsize, hby, hzs⟩ := hz
 subst hsize
 subst hby
 have hzc : ∀ k, (Builtin.zeroCells z.cells k).size = k * ti.size := fun k => by simp [Builtin.zeroCells, hzs]
 have hold : (Builtin.firstCells ti.size 0 (.slice none 0 0)).run P w.drew = .ok ([] : List Value).toArray w.drew := run_firstCells_none w.drew ti.size 0 0 0
 have hrun := Lib.run_append_grow_zeros (P := P) w t tn ty E ti z kq kn ht htn hti hzero none 0 0 [] hold k h0 hs (by omega) (by omega) hb (by rw [Nat.zero_add, nextslicecap_zero h0]; exact hb)
 rw [Nat.zero_add] at hrun
 have hge := grownCap_ge w k 0 E
 have h1 : Sat w0 bs hp w.drew := hw.draw _
 have h2 := h1.alloc ((Builtin.zeroCells z.cells k).toList ++ (Builtin.zeroCells z.cells (grownCap w k 0 E - k)).toList) E
 refine ⟨⟨w.heap.size, grownCap w k 0 E, _, hw.kept.size, hge, ?_⟩, _, ?_, (h2.at' (e ⟨w.heap.size, grownCap w k 0 E, _, hw.kept.size, hge, ?_⟩))⟩
 ·rw [List.length_append, Array.length_toList, Array.length_toList, hzc, hzc, ← Nat.add_mul]
  congr 1
  omega
 ·unfold apzSem
  simp only [Sem.run_bind, hrun, Result.andThen, Sem.run_pure]
  congr 2
  simp
 rw [List.length_append, Array.length_toList, Array.length_toList, hzc, hzc, ← Nat.add_mul]
 congr 1
 omega
end Go.Proofs.Ytcncfmjfgdbfeab
namespace Go.Proofs.Ytcncfmjfgdbfeab
set_option maxRecDepth 100000
set_option maxHeartbeats 4000000
open Go.RowKit
theorem grow3 (w : World) : Calls Try.prog 69 #[.slice none 0 0, .int .i64 3] w fun e w' => ∃ x : GrewX w 3 19, e = .returned (.slice (some ⟨x.b, 0, none⟩) 0 x.cap) ∧ Sat w [] [.obj true x.b x.cs 55] w' := by
 refine g_enter (args := [.slice none 0 0, .int .i64 3]) [] [] Try.func69 rfl Try.ntmps69 kL (sat0 w) ?_
 refine gU 22 [] 2 ?_
 refine g_anyW (X := GrewX w 3 19) (apzSem 22 3 22 (.slice none 0 0) (.int .i64 ((3 : Nat) : Int))) (fun x => .slice (some ⟨x.b, 0, none⟩) 3 x.cap) (fun x => [.obj true x.b x.cs 55]) kR (fun w hs => apz_ok (P := Try.prog) (t := 22) (tn := 3) (ty := 22) (E := 55) (sz := 19) (by_ := 160) (k := 3) (kq := .i64) (kn := .i64) hs kR kR (info_of kR) (by omega) (by omega) (by omega) (by omega) (fun x => by kernel_rfl)) (fun x => ?_)
 refine gU 25 [] 0 ?_
 refine g_val _ _ ?_ (fun w _hs => front_run (P := Try.prog) (T := 22) (E := 55) (b := x.b) (o := 0) (n := 3) (c := x.cap) (m := 0) (sz := 19) (kk := .i64) w kR kR (Nat.zero_le _)) ?_
 ·kernel_rfl
 refine g0 ?_
 refine gR (Value.slice (some (Addr.mk x.b 0 none)) 0 x.cap) fun w' hs => ?_
 exact ⟨x, rfl, hs.pick [0] (by decide) kR⟩
theorem cat_row {c0 c1 c2 : List Value} {n1 n2 n3 : Nod} (h1 : c1.take ((0 + 1) * 19) = c0.take (0 * 19) ++ nodC n1) (h2 : c2.take ((0 + 1 + 2) * 19) = c1.take ((0 + 1) * 19) ++ (nodC n2 ++ nodC n3)) : c2.take 57 = nodC n1 ++ (nodC n2 ++ nodC n3) := by
 rw [h1, Nat.zero_mul, List.take_zero, List.nil_append] at h2
 exact h2
theorem nodC_ones (n : Nod) : ∀ u ∈ nodC n, u.oneCell' = true := by
 intro u hu
 simp only [nodC, List.mem_cons, List.not_mem_nil, or_false] at hu
 rcases hu with rfl | rfl | rfl | rfl | rfl | rfl | rfl | rfl | rfl | rfl | rfl | rfl | rfl | rfl | rfl | rfl | rfl | rfl | rfl <;> rfl
theorem two_ones (n m : Nod) : ∀ u ∈ nodC n ++ nodC m, u.oneCell' = true := fun u hu => (List.mem_append.1 hu).elim (nodC_ones n u) (nodC_ones m u)
structure CatX (w0 : World) (n1 n2 n3 : Nod) where
 b : Nat
 cap : Nat
 cs : List Value
 new : w0.heap.size ≤ b
 le : 3 ≤ cap
 len : cs.length = cap * 19
 row : cs.take 57 = nodC n1 ++ (nodC n2 ++ nodC n3)
theorem concat12 (n1 n2 n3 : Nod) (bs b1 b2 : Nat) (w : World) (hq : Sat w [] [.obj false bs [.slice (some ⟨b1, 0, none⟩) 1 1, .slice (some ⟨b2, 0, none⟩) 2 2] 22, .obj false b1 (nodC n1) 55, .obj false b2 (nodC n2 ++ nodC n3) 55] w) :
  Calls Try.prog 43 #[.slice (some ⟨bs, 0, none⟩) 2 2] w fun e w' => ∃ x : CatX w n1 n2 n3, e = .returned (.slice (some ⟨x.b, 0, none⟩) 3 x.cap) ∧ Sat w [] [.obj true x.b x.cs 55] w' := by
 refine g_enter (args := [.slice (some ⟨bs, 0, none⟩) 2 2]) [] [.obj false bs [.slice (some ⟨b1, 0, none⟩) 1 1, .slice (some ⟨b2, 0, none⟩) 2 2] 22, .obj false b1 (nodC n1) 55, .obj false b2 (nodC n2 ++ nodC n3) 55] Try.func43 rfl Try.ntmps43 kL hq ?_
 refine g0 ?_
 refine g_unroll 4 kR ?_
 refine gA ([0, 0]) 5 ?_
 refine g_call (X := GrewX w 3 19) _ _ ?_ (fun x => .slice (some ⟨x.b, 0, none⟩) 0 x.cap) (fun x => [.obj false bs [.slice (some ⟨b1, 0, none⟩) 1 1, .slice (some ⟨b2, 0, none⟩) 2 2] 22, .obj false b1 (nodC n1) 55, .obj false b2 (nodC n2 ++ nodC n3) 55] ++ [.obj true x.b x.cs 55])
  (fun w1 hs => (grow3 w1).mono fun e w2 ⟨x, h1, h2⟩ => ⟨⟨x.b, x.cap, x.cs, Nat.le_trans hs.kept.size x.new, x.le, x.len⟩, h1, (Sat.at hs kR).more h2 (by simp [HE.own])⟩) (fun x => ?_)
 ·kernel_rfl
 refine g0 ?_
 refine g_unroll 4 kR ?_
 refine gU 33 ([0]) 1 ?_
 refine g_append 3 1 22 55 55 (some ⟨x.b, 0, none⟩) 0 x.cap 19 1 1 b1 160 x.cs (nodC n1) false kR kR kR (info_of kR) (rowAt_own kR x.len (Nat.zero_le _)) kR rfl (nodC_ones n1) Nat.one_pos (by omega) (by omega) fun b4 cap4 cs4 hb4 hc4 hl4 ht4 => ?_
 refine gU 33 ([0]) 1 ?_
 refine g_append 3 2 22 55 55 (some ⟨b4, 0, none⟩) (0 + 1) cap4 19 2 2 b2 160 cs4 (nodC n2 ++ nodC n3) false kR kR kR (info_of kR) (rowAt_own kR hl4 hc4) kR rfl (two_ones n2 n3) (by omega) (by omega) (by omega) fun b5 cap5 cs5 hb5 hc5 hl5 ht5 => ?_
 refine gA [] 1 ?_
 refine gR (Value.slice (some (Addr.mk b5 0 none)) 3 cap5) fun w' hs => ?_
 exact ⟨⟨b5, cap5, cs5, hb5.resolve_right (by simp), hc5, hl5, cat_row ht4 ht5⟩, rfl, hs.pick [3] (by decide) kR⟩
end Go.Proofs.Ytcncfmjfgdbfeab
namespace Go.Proofs.Ytcncfmjfgdbfeab
set_option maxRecDepth 100000
set_option maxHeartbeats 8000000
open Go.RowKit
def solidB (k : Int) : Bool := decide (k = 4) || decide (k = 5) || decide (k = 3)
def topNat (a h : Int) : Int := if 1073741823 < if 0 > IntKind.i64.wrap (a - h) then 0 else IntKind.i64.wrap (a - h) then 1073741823 else if 0 > IntKind.i64.wrap (a - h) then 0 else IntKind.i64.wrap (a - h)
def topN (a0 a1 a2 a3 a4 h : Int) : Nod := ⟨7, 0, 0, 0, 0, 0, 0, topNat a0 h, a1, a2, a3, a4, 0, 0, 0, 0, 0, 10, ⟨#[]⟩⟩
def fallsB (k : Int) : Bool := decide (k = 7) || decide (k = 8) || decide (k = 9)
theorem vsolid_any (k : Int) (w : World) : Calls Try.prog 47 #[.int .i64 k] w fun e w' => e = .returned (.bool (solidB k)) ∧ Kept w w' := by
 refine g_enter (args := [.int .i64 k]) [] [] Try.func47 rfl Try.ntmps47 kL (sat0 w) ?_
 refine g0 ?_
 refine g_dec 5 (k == 4) kR (fun h5 => ?_) (fun h5 => ?_)
 ·refine gA [] 4 ?_
  refine gR (Value.bool true) fun w' hs => ?_
  exact ⟨ret_bool (by clear hs; simp at *; first | (simp [solidB, *]; done) | (rw [Bool.eq_iff_iff]; simp [solidB, *]; done)), hs.kk⟩
 refine gA [] 2 ?_
 refine g_dec 9 (k == 5) kR (fun h9 => ?_) (fun h9 => ?_)
 ·refine gA [] 2 ?_
  refine gR (Value.bool true) fun w' hs => ?_
  exact ⟨ret_bool (by clear hs; simp at *; first | (simp [solidB, *]; done) | (rw [Bool.eq_iff_iff]; simp [solidB, *]; done)), hs.kk⟩
 refine gA [] 2 ?_
 refine gR (Value.bool (k == 3)) fun w' hs => ?_
 exact ⟨ret_bool (by clear hs; simp at *; first | (simp [solidB, *]; done) | (rw [Bool.eq_iff_iff]; simp [solidB, *]; done)), hs.kk⟩
theorem vfalls_any (k : Int) (w : World) : Calls Try.prog 49 #[.int .i64 k] w fun e w' => e = .returned (.bool (fallsB k)) ∧ Kept w w' := by
 refine g_enter (args := [.int .i64 k]) [] [] Try.func49 rfl Try.ntmps49 kL (sat0 w) ?_
 refine g0 ?_
 refine g_dec 5 (k == 7) kR (fun h5 => ?_) (fun h5 => ?_)
 ·refine gA [] 4 ?_
  refine gR (Value.bool true) fun w' hs => ?_
  exact ⟨ret_bool (by clear hs; simp at *; first | (simp [fallsB, *]; done) | (rw [Bool.eq_iff_iff]; simp [fallsB, *]; done)), hs.kk⟩
 refine gA [] 2 ?_
 refine g_dec 9 (k == 8) kR (fun h9 => ?_) (fun h9 => ?_)
 ·refine gA [] 2 ?_
  refine gR (Value.bool true) fun w' hs => ?_
  exact ⟨ret_bool (by clear hs; simp at *; first | (simp [fallsB, *]; done) | (rw [Bool.eq_iff_iff]; simp [fallsB, *]; done)), hs.kk⟩
 refine gA [] 2 ?_
 refine gR (Value.bool (k == 9)) fun w' hs => ?_
 exact ⟨ret_bool (by clear hs; simp at *; first | (simp [fallsB, *]; done) | (rw [Bool.eq_iff_iff]; simp [fallsB, *]; done)), hs.kk⟩
theorem topSkip_any (a0 a1 a2 a3 a4 h : Int) (w : World) : Calls Try.prog 48 #[.agg #[.int .i64 a0, .int .i64 a1, .int .i64 a2, .int .i64 a3, .int .i64 a4], .int .i64 h] w fun e w' => e = .returned (.agg (nodC (topN a0 a1 a2 a3 a4 h)).toArray) ∧ Kept w w' := by
 refine g_enter (args := [.agg #[.int .i64 a0, .int .i64 a1, .int .i64 a2, .int .i64 a3, .int .i64 a4], .int .i64 h]) [] [] Try.func48 rfl Try.ntmps48 kL (sat0 w) ?_
 refine g0 ?_
 refine gN fun b0 hb0 => ?_
 refine gN fun b1 hb1 => ?_
 refine gA (List.replicate 7 0 ++ List.replicate 19 1) 0 ?_
 refine g_ret (List.replicate 19 1) (Value.agg (Array.mk [Value.int IntKind.i64 7, Value.int IntKind.i64 0, Value.int IntKind.u8 0, Value.int IntKind.i64 0, Value.int IntKind.i64 0, Value.int IntKind.i64 0, Value.int IntKind.i64 0, Value.int IntKind.i64 (if 1073741823 < if 0 > IntKind.i64.wrap (a0 - h) then 0 else IntKind.i64.wrap (a0 - h) then 1073741823 else if 0 > IntKind.i64.wrap (a0 - h) then 0 else IntKind.i64.wrap (a0 - h)), Value.int IntKind.i64 a1, Value.int IntKind.i64 a2, Value.int IntKind.i64 a3, Value.int IntKind.i64 a4, Value.int IntKind.i64 0, Value.int IntKind.i64 0, Value.int IntKind.i64 0, Value.int IntKind.i64 0, Value.int IntKind.i64 0, Value.int IntKind.i64 10, Value.string (ByteArray.mk (Array.mk []))])) kR kR kR fun w' hs => ?_
 exact ⟨rfl, hs.kk⟩
end Go.Proofs.Ytcncfmjfgdbfeab
namespace Go.Proofs.Ytcncfmjfgdbfeab
set_option maxRecDepth 100000
set_option maxHeartbeats 8000000
open Go.RowKit
theorem nat_add {P : Program} {t : TypeId} {x y : Operand} {a b : Nat} {w : World} (h : runQ P (binSem .add t x y (.int .i64 (a : Int)) (.int .i64 (b : Int))) = some (.value (.int .i64 (IntKind.wrap .i64 ((a : Int) + (b : Int)))))) (hm : a + b < 9223372036854775807) :
  (binSem .add t x y (.int .i64 (a : Int)) (.int .i64 (b : Int))).run P w = .ok (.value (.int .i64 ((a + b : Nat) : Int))) w :=
 bin_run h (by rw [wrap_i64 (by omega) (by omega)]; rfl)
theorem nat_less {P : Program} {t : TypeId} {x y : Operand} {a : Nat} {w : World} (h : runQ P (binSem .sub t x y (.int .i64 (a : Int)) (.int .i64 0)) = some (.value (.int .i64 (IntKind.wrap .i64 ((a : Int) - 0))))) (hm : a < 9223372036854775807) :
  (binSem .sub t x y (.int .i64 (a : Int)) (.int .i64 0)).run P w = .ok (.value (.int .i64 ((a : Nat) : Int))) w :=
 bin_run h (by rw [wrap_i64 (by omega) (by omega)]; simp)
theorem growN (m : Nat) (hm : 0 < m) (hb : m ≤ 1000000) (w : World) : Calls Try.prog 69 #[.slice none 0 0, .int .i64 ((m : Nat) : Int)] w fun e w' => ∃ x : GrewX w m 19, e = .returned (.slice (some ⟨x.b, 0, none⟩) 0 x.cap) ∧ Sat w [] [.obj true x.b x.cs 55] w' := by
 refine g_enter (args := [.slice none 0 0, .int .i64 ((m : Nat) : Int)]) [] [] Try.func69 rfl Try.ntmps69 kL (sat0 w) ?_
 refine gU 14 [] 1 ?_
 refine g_val _ _ ?_ (fun w _hs => nat_less (P := Try.prog) (t := 3) (x := .tmp 8) (y := .tmp 13) (a := m) (w := w) kR (by omega)) ?_
 ·kernel_rfl
 refine g0 ?_
 refine g_dec 16 (decide ((↑m : Int) > 0)) kR (fun h16 => ?_) (fun h16 => ?_)
 ·refine gU 22 [] 1 ?_
  refine g_anyW (X := GrewX w m 19) (apzSem 22 3 22 (.slice none 0 0) (.int .i64 ((m : Nat) : Int))) (fun x => .slice (some ⟨x.b, 0, none⟩) m x.cap) (fun x => [.obj true x.b x.cs 55]) kR (fun w hs => apz_ok (P := Try.prog) (t := 22) (tn := 3) (ty := 22) (E := 55) (sz := 19) (by_ := 160) (k := m) (kq := .i64) (kn := .i64) hs kR kR (info_of kR) (by omega) (by omega) (by omega) (by omega) (fun x => by kernel_rfl)) (fun x => ?_)
  refine gU 25 [] 0 ?_
  refine g_val _ _ ?_ (fun w _hs => front_run (P := Try.prog) (T := 22) (E := 55) (b := x.b) (o := 0) (n := m) (c := x.cap) (m := 0) (sz := 19) (kk := .i64) w kR kR (Nat.zero_le _)) ?_
  ·kernel_rfl
  refine g0 ?_
  refine gR (Value.slice (some (Addr.mk x.b 0 none)) 0 x.cap) fun w' hs => ?_
  exact ⟨x, rfl, hs.pick [0] (by decide) kR⟩
 exact absurd h16 (by intro hx; simp at hx; omega)
structure CatL (w0 : World) (z : List Nod) where
 b : Nat
 cap : Nat
 cs : List Value
 new : w0.heap.size ≤ b
 le : z.length ≤ cap
 len : cs.length = cap * 19
 row : cs.take (z.length * 19) = rowsL (rowOf z) 0 z.length
theorem rows_sg {l : List Nod} {a b : Nat} : rowsL (rowOf l) a (b - a) = rowsL (rowOf (seg l a b)) 0 (b - a) := by
 have key : ∀ m, m ≤ b - a → rowsL (rowOf l) a m = rowsL (rowOf (seg l a b)) 0 m := by
  intro m
  induction m with
  | zero => intro _; simp [rowsL]
  | succ m ih =>
   intro hm
   rw [rowsL_succ, rowsL_succ, ih (by omega)]
   simp only [rowOf, Nat.zero_add]
   rw [seg_nth (by omega)]
 exact key _ (Nat.le_refl _)
theorem rows_lists (a b : List Nod) : rowsL (rowOf (a ++ b)) 0 (a.length + b.length) = rowsL (rowOf a) 0 a.length ++ rowsL (rowOf b) 0 b.length := by
 rw [rowsL_two]
 congr 1
 ·exact rowsL_eq fun q hq => by simp only [rowOf, Nat.zero_add]; rw [nth_left hq]
 exact rowsL_eq fun q _ => by simp only [rowOf, Nat.zero_add]; rw [Nat.add_comm a.length q, nth_right]
theorem rows_node (n : Nod) : rowsL (rowOf [n]) 0 1 = nodC n := by
 rw [rowsL_succ]
 simp [rowsL, rowOf, nth]
theorem cat_len {y : List Nod} {k : Nat} (hk : y.length = k) {n : Nod} {l : List Nod} {p r : Nat} (hp : p + r = l.length) {z : List Nod} (hz : y ++ (n :: seg l p l.length) = z) : z.length = k + 1 + r := by
 rw [← hz, List.length_append, List.length_cons, seg_len (Nat.le_refl _)]; omega
theorem cat_rows {y : List Nod} {k : Nat} (hk : y.length = k) {n : Nod} {l : List Nod} {p r : Nat} (hp : p + r = l.length) {z : List Nod} (hz : y ++ (n :: seg l p l.length) = z) {c0 c4 c5 c6 : List Value}
  (h4 : c4.take ((0 + k) * 19) = c0.take (0 * 19) ++ rowsL (rowOf y) 0 k) (h5 : c5.take ((0 + k + 1) * 19) = c4.take ((0 + k) * 19) ++ nodC n) (h6 : c6.take ((0 + k + 1 + r) * 19) = c5.take ((0 + k + 1) * 19) ++ rowsL (rowOf l) p r) : c6.take (z.length * 19) = rowsL (rowOf z) 0 z.length := by
 have hzl := cat_len hk hp hz
 have hsl : (seg l p l.length).length = r := by rw [seg_len (Nat.le_refl _)]; omega
 rw [hzl, show k + 1 + r = 0 + k + 1 + r by omega, h6, h5, h4, Nat.zero_mul, List.take_zero, List.nil_append]
 have e1 : z = (y ++ [n]) ++ seg l p l.length := by rw [← hz]; simp
 have e2 := rows_lists (y ++ [n]) (seg l p l.length)
 have e3 := rows_lists y [n]
 rw [List.length_append, List.length_singleton, hk, hsl] at e2
 rw [List.length_singleton, hk] at e3
 rw [e1, show 0 + k + 1 + r = k + 1 + r by omega, e2, e3, rows_node]
 congr 1
 have h2 := rows_sg (l := l) (a := p) (b := l.length)
 rw [show l.length - p = r by omega] at h2
 exact h2
theorem concat1 (y : List Nod) (k : Nat) (hk : y.length = k) (hk0 : 0 < k) (n : Nod) (l : List Nod) (p r : Nat) (hp : p + r = l.length) (hs0 : k + 1 + r ≤ 100000) (z : List Nod) (hz : y ++ (n :: seg l p l.length) = z) (kb ck bs b1 bl ol cr : Nat) (w : World) (hq : Sat w [] [.obj false bs [.slice (some ⟨kb, 0, none⟩) k ck, .slice (some ⟨b1, 0, none⟩) 1 1, .slice (some ⟨bl, ol + p * 19, none⟩) r cr] 22, .row kb 0 19 k (rowOf y), .obj false b1 (nodC n) 55, .row bl ol 19 l.length (rowOf l)] w) :
  Calls Try.prog 43 #[.slice (some ⟨bs, 0, none⟩) 3 3] w fun e w' => ∃ x : CatL w z, e = .returned (.slice (some ⟨x.b, 0, none⟩) z.length x.cap) ∧ Sat w [] [.obj true x.b x.cs 55] w' := by
 have hzl := cat_len hk hp hz
 refine g_enter (args := [.slice (some ⟨bs, 0, none⟩) 3 3]) [] [.obj false bs [.slice (some ⟨kb, 0, none⟩) k ck, .slice (some ⟨b1, 0, none⟩) 1 1, .slice (some ⟨bl, ol + p * 19, none⟩) r cr] 22, .row kb 0 19 k (rowOf y), .obj false b1 (nodC n) 55, .row bl ol 19 l.length (rowOf l)] Try.func43 rfl Try.ntmps43 kL hq ?_
 refine g0 ?_
 refine g_unroll 5 kR ?_
 refine gU 18 ([0]) 1 ?_
 refine g_val _ _ ?_ (fun w _hs => nat_add (P := Try.prog) (t := 3) (x := .tmp 15) (y := .tmp 17) (a := 0) (b := k) (w := w) kR (by omega)) ?_
 ·kernel_rfl
 refine gU 18 ([0]) 2 ?_
 refine g_val _ _ ?_ (fun w _hs => nat_add (P := Try.prog) (t := 3) (x := .tmp 15) (y := .tmp 17) (a := 0 + k) (b := 1) (w := w) kR (by omega)) ?_
 ·kernel_rfl
 refine gU 18 ([0]) 2 ?_
 refine g_val _ _ ?_ (fun w _hs => nat_add (P := Try.prog) (t := 3) (x := .tmp 15) (y := .tmp 17) (a := 0 + k + 1) (b := r) (w := w) kR (by omega)) ?_
 ·kernel_rfl
 refine gA [] 2 ?_
 refine g_call (X := GrewX w (0 + k + 1 + r) 19) _ _ ?_ (fun x => .slice (some ⟨x.b, 0, none⟩) 0 x.cap) (fun x => [.obj false bs [.slice (some ⟨kb, 0, none⟩) k ck, .slice (some ⟨b1, 0, none⟩) 1 1, .slice (some ⟨bl, ol + p * 19, none⟩) r cr] 22, .row kb 0 19 k (rowOf y), .obj false b1 (nodC n) 55, .row bl ol 19 l.length (rowOf l)] ++ [.obj true x.b x.cs 55])
  (fun w1 hs => (growN (0 + k + 1 + r) (by omega) (by omega) w1).mono fun e w2 ⟨x, h1, h2⟩ => ⟨⟨x.b, x.cap, x.cs, Nat.le_trans hs.kept.size x.new, x.le, x.len⟩, h1, (Sat.at hs kR).more h2 (by simp [HE.own])⟩) (fun x => ?_)
 ·kernel_rfl
 refine g0 ?_
 refine g_unroll 5 kR ?_
 refine gU 33 ([0]) 1 ?_
 refine g_appendR 4 1 22 55 x.b 0 x.cap 19 k ck 0 kb 0 k 160 (some ⟨kb, 0, none⟩) x.cs (rowOf y) kR kR (info_of kR) kR x.len (Nat.zero_le _) kR (fun _ => rfl) (rowOf_one y) (by omega) (.inr (by simp)) (by omega) (by omega) fun b4 cap4 cs4 hb4 hc4 hl4 ht4 => ?_
 refine gU 33 ([0]) 1 ?_
 refine g_append 4 2 22 55 55 (some ⟨b4, 0, none⟩) (0 + k) cap4 19 1 1 b1 160 cs4 (nodC n) false kR kR kR (info_of kR) (rowAt_own kR hl4 hc4) kR rfl (nodC_ones n) Nat.one_pos (by omega) (by omega) fun b5 cap5 cs5 hb5 hc5 hl5 ht5 => ?_
 refine gU 33 ([0]) 1 ?_
 refine g_appendR 4 3 22 55 b5 (0 + k + 1) cap5 19 r cr p bl ol l.length 160 (some ⟨bl, ol + p * 19, none⟩) cs5 (rowOf l) kR kR (info_of kR) kR hl5 hc5 kR (fun _ => rfl) (rowOf_one l) (by omega) (.inr rfl) (by omega) (by omega) fun b6 cap6 cs6 hb6 hc6 hl6 ht6 => ?_
 refine gA [] 1 ?_
 refine gR (Value.slice (some (Addr.mk b6 0 none)) (0 + k + 1 + r) cap6) fun w' hs => ?_
 exact ⟨⟨b6, cap6, cs6, hb6.resolve_right (by simp), by omega, hl6, cat_rows (c0 := x.cs) hk hp hz ht4 ht5 ht6⟩, by show Ending.returned (Value.slice (some ⟨b6, 0, none⟩) (0 + k + 1 + r) cap6) = .returned (.slice (some ⟨b6, 0, none⟩) z.length cap6); rw [hzl, Nat.zero_add], hs.pick [4] (by decide) kR⟩
theorem concat0 (y : List Nod) (hk : y.length = 0) (n : Nod) (l : List Nod) (p r : Nat) (hp : p + r = l.length) (hs0 : 0 + 1 + r ≤ 100000) (z : List Nod) (hz : y ++ (n :: seg l p l.length) = z) (bs b1 bl ol cr : Nat) (w : World) (hq : Sat w [] [.obj false bs [.slice none 0 0, .slice (some ⟨b1, 0, none⟩) 1 1, .slice (some ⟨bl, ol + p * 19, none⟩) r cr] 22, .obj false b1 (nodC n) 55, .row bl ol 19 l.length (rowOf l)] w) :
  Calls Try.prog 43 #[.slice (some ⟨bs, 0, none⟩) 3 3] w fun e w' => ∃ x : CatL w z, e = .returned (.slice (some ⟨x.b, 0, none⟩) z.length x.cap) ∧ Sat w [] [.obj true x.b x.cs 55] w' := by
 have hzl := cat_len hk hp hz
 refine g_enter (args := [.slice (some ⟨bs, 0, none⟩) 3 3]) [] [.obj false bs [.slice none 0 0, .slice (some ⟨b1, 0, none⟩) 1 1, .slice (some ⟨bl, ol + p * 19, none⟩) r cr] 22, .obj false b1 (nodC n) 55, .row bl ol 19 l.length (rowOf l)] Try.func43 rfl Try.ntmps43 kL hq ?_
 refine g0 ?_
 refine g_unroll 5 kR ?_
 refine gU 18 ([0]) 1 ?_
 refine g_val _ _ ?_ (fun w _hs => nat_add (P := Try.prog) (t := 3) (x := .tmp 15) (y := .tmp 17) (a := 0) (b := 0) (w := w) kR (by omega)) ?_
 ·kernel_rfl
 refine gU 18 ([0]) 2 ?_
 refine g_val _ _ ?_ (fun w _hs => nat_add (P := Try.prog) (t := 3) (x := .tmp 15) (y := .tmp 17) (a := 0 + 0) (b := 1) (w := w) kR (by omega)) ?_
 ·kernel_rfl
 refine gU 18 ([0]) 2 ?_
 refine g_val _ _ ?_ (fun w _hs => nat_add (P := Try.prog) (t := 3) (x := .tmp 15) (y := .tmp 17) (a := 0 + 0 + 1) (b := r) (w := w) kR (by omega)) ?_
 ·kernel_rfl
 refine gA [] 2 ?_
 refine g_call (X := GrewX w (0 + 0 + 1 + r) 19) _ _ ?_ (fun x => .slice (some ⟨x.b, 0, none⟩) 0 x.cap) (fun x => [.obj false bs [.slice none 0 0, .slice (some ⟨b1, 0, none⟩) 1 1, .slice (some ⟨bl, ol + p * 19, none⟩) r cr] 22, .obj false b1 (nodC n) 55, .row bl ol 19 l.length (rowOf l)] ++ [.obj true x.b x.cs 55])
  (fun w1 hs => (growN (0 + 0 + 1 + r) (by omega) (by omega) w1).mono fun e w2 ⟨x, h1, h2⟩ => ⟨⟨x.b, x.cap, x.cs, Nat.le_trans hs.kept.size x.new, x.le, x.len⟩, h1, (Sat.at hs kR).more h2 (by simp [HE.own])⟩) (fun x => ?_)
 ·kernel_rfl
 refine g0 ?_
 refine g_unroll 5 kR ?_
 refine gU 33 ([0]) 1 ?_
 refine g_appendR 3 2 22 55 x.b 0 x.cap 19 0 0 0 bl ol l.length 160 none x.cs (rowOf l) kR kR (info_of kR) kR x.len (Nat.zero_le _) kR (fun _ => rfl) (rowOf_one l) (by omega) (.inl rfl) (by omega) (by omega) fun b4 cap4 cs4 hb4 hc4 hl4 ht4 => ?_
 refine gU 33 ([0]) 1 ?_
 refine g_append 3 1 22 55 55 (some ⟨b4, 0, none⟩) (0 + 0) cap4 19 1 1 b1 160 cs4 (nodC n) false kR kR kR (info_of kR) (rowAt_own kR hl4 hc4) kR rfl (nodC_ones n) Nat.one_pos (by omega) (by omega) fun b5 cap5 cs5 hb5 hc5 hl5 ht5 => ?_
 refine gU 33 ([0]) 1 ?_
 refine g_appendR 3 2 22 55 b5 (0 + 0 + 1) cap5 19 r cr p bl ol l.length 160 (some ⟨bl, ol + p * 19, none⟩) cs5 (rowOf l) kR kR (info_of kR) kR hl5 hc5 kR (fun _ => rfl) (rowOf_one l) (by omega) (.inr rfl) (by omega) (by omega) fun b6 cap6 cs6 hb6 hc6 hl6 ht6 => ?_
 refine gA [] 1 ?_
 refine gR (Value.slice (some (Addr.mk b6 0 none)) (0 + 0 + 1 + r) cap6) fun w' hs => ?_
 exact ⟨⟨b6, cap6, cs6, hb6.resolve_right (by simp), by omega, hl6, cat_rows (c0 := x.cs) hk hp hz (ht4.trans (by simp [rowsL])) ht5 ht6⟩, by show Ending.returned (Value.slice (some ⟨b6, 0, none⟩) (0 + 0 + 1 + r) cap6) = .returned (.slice (some ⟨b6, 0, none⟩) z.length cap6); rw [hzl, Nat.zero_add], hs.pick [3] (by decide) kR⟩
end Go.Proofs.Ytcncfmjfgdbfeab
namespace Go.Proofs.Ytcncfmjfgdbfeab
open Go.RowKit
noncomputable section
section
variable {F : Fence} {mm : Nat} {P : Program} {fin : Fin} {w0 : World} {bs : List Nat} {st : St}
theorem g_storeN (i : Nat) (T T' : TypeId) (b k : Nat) (cs vs : List Value) (v : Value) (h : storeOf st = some (T, .pointer (some ⟨b, k, none⟩), v)) (hi : st.hp[i]? = some (.obj true b cs T')) (hv : v.cells = vs.toArray) (hk : k + vs.length ≤ cs.length) (h1 : ∀ u ∈ vs, u.oneCell' = true) (hT : cellsN P T = some vs.length)
  (g : Goal F mm P fin w0 bs (retSt st undef (st.hp.set i (.obj true b (cs.take k ++ vs ++ cs.drop (k + vs.length)) T')))) : Goal F mm P fin w0 bs st := by
 refine ⟨fun hF a w hr hw => ?_⟩
 have hg := g.out hF
 obtain ⟨n, ds, ops, l, kk, t, hp⟩ := st
 unfold storeOf at h
 unfold retSt at hg
 simp only at h hr hw hi hg ⊢
 cases l with
 | nil => cases h
 | cons o rest =>
  simp only at h
  split at h
  ·rename_i hwn
   cases hall : (o.op.operands.toList.all fun x => (t.ev? x).isSome) with
   | false => rw [hall] at h; cases h
   | true =>
    rw [hall, cond_true] at h
    split at h
    ·rename_i T2 x y hop
     simp only [Option.some.injEq, Prod.mk.injEq] at h
     obtain ⟨rfl, hx, hy⟩ := h
     have hsem : opSem t o = some (execOp t.ev o) := by
      unfold opSem
      rw [hall]
      simp [noSel, hop]
     have hobj := hw.obj hi
     have hst := run_storeCells_at (P := P) b k T' vs 0 cs.toArray w hobj (by simpa using hk) h1
     obtain ⟨ti, hti, hsz⟩ := Option.map_eq_some_iff.1 hT
     have hz : (sizeOf T2).run P w = .ok vs.length w := by simp [sizeOf, typeInfo, program, hti, hsz, Sem.run, Result.andThen]
     have hrun : (execOp t.ev o).run P w = .ok .skip (w.setRow b (cs.take k ++ vs ++ cs.drop (k + vs.length)).toArray) := by
      unfold execOp
      simp only [hop, hx, hy]
      rw [Nat.add_zero] at hst
      simp [Instr.storeAt, Instr.sureAddr, storeVar, hv, hz, hst, Result.andThen]
     unfold wpListIn
     rw [hr.wanted hwn, if_pos rfl]
     refine ⟨fun f _ => hF.fn f, ?_⟩
     rw [Oper.semAt_eq _ _ _ (noDefer (opSem_noSel hsem)), hr.opSem hsem, hrun]
     refine hg _ _ (hr.put _ _) (hw.setObj hi rfl rfl rfl (by simp [World.setRow]) (setRow_heap w b cs.toArray _ T' (0, 0) hobj) (fun k hk => ?_))
     simp only [World.setRow, Array.getElem?_modify]
     rw [if_neg (fun e => hk e.symm)]
    cases h
  cases h
end
theorem Sat.lend {w0 w w' : World} {bs : List Nat} {hp : List HE} {i b : Nat} {cs cs' : List Value} {T : TypeId} (h : Sat w0 bs hp w) (hi : hp[i]? = some (.obj true b cs T)) (k : Sat w [b] [.obj true b cs' T] w') : Sat w0 bs (hp.set i (.obj true b cs' T)) w' := by
 have hown := (h.holds _ (List.mem_of_getElem? hi)).2 rfl
 have hb := (k.holds _ (List.mem_singleton.2 rfl)).1
 have hblk : ∀ j, j < w.heap.size → j ≠ b → w'.heap[j]? = w.heap[j]? := fun j hj hn => k.kept.block j hj (by simpa using hn)
 refine ⟨⟨k.kept.os.trans h.kept.os, k.kept.tape.trans h.kept.tape, k.kept.output.trans h.kept.output, Nat.le_trans h.kept.size k.kept.size, fun j hj hn => ?_⟩, fun e he => ?_, fun j l e e' hjl hj hl hoe hle => ?_⟩
 ·rw [hblk j (Nat.lt_of_lt_of_le hj h.kept.size) (fun e => by rcases hown with q | q <;> first | omega | exact hn (e ▸ q)), h.kept.block j hj hn]
 ·obtain ⟨j, hj⟩ := List.mem_iff_getElem?.1 he
  rw [List.getElem?_set] at hj
  by_cases e1 : i = j
  ·rw [if_pos e1] at hj
   by_cases h2 : i < hp.length
   ·rw [if_pos h2] at hj
    obtain rfl := Option.some.inj hj
    exact ⟨hb, fun _ => hown⟩
   rw [if_neg h2] at hj; cases hj
  rw [if_neg e1] at hj
  have hh := h.holds e (List.mem_of_getElem? hj)
  exact HE.holds_of_block hh k.kept.size (fun hlv => hblk _ (HE.holds_lt hh hlv) (fun e2 => h.apart i j _ e e1 hi hj rfl hlv e2.symm))
 rw [List.getElem?_set] at hj hl
 by_cases e1 : i = j <;> by_cases e2 : i = l
 ·omega
 ·rw [if_pos e1] at hj; rw [if_neg e2] at hl
  by_cases h2 : i < hp.length
  ·rw [if_pos h2] at hj
   obtain rfl := Option.some.inj hj
   have := h.apart i l (.obj true b cs T) e' e2 hi hl rfl hle
   exact this
  rw [if_neg h2] at hj; cases hj
 ·rw [if_neg e1] at hj; rw [if_pos e2] at hl
  by_cases h2 : i < hp.length
  ·rw [if_pos h2] at hl
   obtain rfl := Option.some.inj hl
   have := h.apart j i e (.obj true b cs T) (fun e => e1 e.symm) hj hi hoe trivial
   exact this
  rw [if_neg h2] at hl; cases hl
 rw [if_neg e1] at hj; rw [if_neg e2] at hl
 exact h.apart j l e e' hjl hj hl hoe hle
end
end Go.Proofs.Ytcncfmjfgdbfeab
namespace Go.Proofs.Ytcncfmjfgdbfeab
open Go.RowKit
noncomputable section
variable {P : Program} {w0 : World} {bs : List Nat} {st : St}
def semAt (st : St) (i : Nat) (T : Tr) : Option (Sem Next) := match opAt st i with
 | some (ops, o) => match wanted? ops T o with
  | some true => opSem T o
  | _ => none
 | none => none
theorem aSem1 {h i : Nat} {W : VP} (d : Nat) (sl : List (Nat × Option Value)) (hdst : dstAt st i = some d) (hc : (outsA st h).contains d = true) (h1 : slotsOk st h i sl = true) (h2 : slotsEq st sl = slotsVal sl)
  (hk : ∀ w, Sat w0 bs st.hp w → AllL W w sl (fun T => ∃ s v, semAt st i T = some s ∧ s.run P w = .ok (.value v) w ∧ W d v w) .nil) : AAt P w0 bs st h W i := by
 refine ⟨fun ops o ho => ?_⟩
 simp only [slotsOk, Bool.and_eq_true, decide_eq_true_eq] at h1
 have hsl : slotsAt st i = slotsOf ops o := by unfold slotsAt; rw [ho]
 have hda : dstAt st i = o.dst := by unfold dstAt; rw [ho]; rfl
 refine AOp.of (sl.map Prod.fst) (hsl.symm.trans h1.1) fun w hC => ?_
 have hmono : ∀ (l : List (Nat × Option Value)) (T : Tr), AllL W w l (fun T => ∃ s v, semAt st i T = some s ∧ s.run P w = .ok (.value v) w ∧ W d v w) T → AllL W w l (ADo P ops (Sat w0 bs st.hp) (knownV st.t (outsA st h) W) o w) T := by
  intro l
  induction l with
  | nil =>
   rintro T ⟨s, v, he, hr, hv⟩
   unfold semAt at he
   rw [ho] at he
   simp only at he
   split at he
   ·rename_i hwn
    refine .inr ⟨hwn, s, he, .inl ⟨v, w, .inl hr, hC, Kept.refl w, fun d' hdd => ?_⟩⟩
    rw [← hda, hdst] at hdd
    obtain rfl := Option.some.inj hdd
    exact .inl ⟨hc, hv⟩
   cases he
  | cons p l ih =>
   obtain ⟨s, u⟩ := p
   cases u with
   | some u => exact fun T hl => ih _ hl
   | none => exact fun T hl v hv => ih _ (hl v hv)
 exact allL_allV h1.2 h2 (hmono sl .nil (hk w hC))
/-! ### an operation that makes a block -/
def newAt (P : Program) (st : St) (i : Nat) (T : Tr) (b : Nat) : Option (Value × List Value × TypeId) := match opAt st i with
 | some (ops, o) => match wanted? ops T o with
  | some true => match opSem T o with
   | some s => match toNew P s with
    | some (c, E, k) => match runQ P (k b) with
     | some (.value v) => some (v, c, E)
     | _ => none
    | none => none
   | none => none
  | _ => none
 | none => none
theorem aNew1 {h i : Nat} {W : VP} (d : Nat) (sl : List (Nat × Option Value)) (hdst : dstAt st i = some d) (hc : (outsA st h).contains d = true) (h1 : slotsOk st h i sl = true) (h2 : slotsEq st sl = slotsVal sl)
  (hk : ∀ w, Sat w0 bs st.hp w → AllL W w sl (fun T => ∃ v c E, newAt P st i T w.heap.size = some (v, c, E) ∧ ∀ w', Kept w w' → w'.heap[w.heap.size]? = some (.cells c.toArray E (0, 0)) → W d v w') .nil) : AAt P w0 bs st h W i := by
 refine ⟨fun ops o ho => ?_⟩
 simp only [slotsOk, Bool.and_eq_true, decide_eq_true_eq] at h1
 have hsl : slotsAt st i = slotsOf ops o := by unfold slotsAt; rw [ho]
 have hda : dstAt st i = o.dst := by unfold dstAt; rw [ho]; rfl
 refine AOp.of (sl.map Prod.fst) (hsl.symm.trans h1.1) fun w hC => ?_
 have hmono : ∀ (l : List (Nat × Option Value)) (T : Tr), AllL W w l (fun T => ∃ v c E, newAt P st i T w.heap.size = some (v, c, E) ∧ ∀ w', Kept w w' → w'.heap[w.heap.size]? = some (.cells c.toArray E (0, 0)) → W d v w') T → AllL W w l (ADo P ops (Sat w0 bs st.hp) (knownV st.t (outsA st h) W) o w) T := by
  intro l
  induction l with
  | nil =>
   rintro T ⟨v, c, E, he, hv⟩
   unfold newAt at he
   rw [ho] at he
   simp only at he
   split at he
   ·rename_i hwn
    split at he
    ·rename_i s hs1
     split at he
     ·rename_i c' E' k hn
      split at he
      ·rename_i v' hv'
       simp only [Option.some.injEq, Prod.mk.injEq] at he
       obtain ⟨rfl, rfl, rfl⟩ := he
       have hkk : Kept w { w with heap := w.heap.push (.cells c'.toArray E' (0, 0)) } := (Kept.refl w).alloc (Nat.le_refl _) (.cells c'.toArray E' (0, 0))
       refine .inr ⟨hwn, s, hs1, .inl ⟨v', { w with heap := w.heap.push (.cells c'.toArray E' (0, 0)) }, .inl ?_, hC.of_kept hkk, hkk, fun d' hdd => ?_⟩⟩
       ·rw [toNew_run hn, runQ_run hv']
       rw [← hda, hdst] at hdd
       obtain rfl := Option.some.inj hdd
       exact .inl ⟨hc, hv _ hkk (by simp)⟩
      cases he
     cases he
    cases he
   cases he
  | cons p l ih =>
   obtain ⟨s, u⟩ := p
   cases u with
   | some u => exact fun T hl => ih _ hl
   | none => exact fun T hl v hv => ih _ (hl v hv)
 exact allL_allV h1.2 h2 (hmono sl .nil (hk w hC))
end
end Go.Proofs.Ytcncfmjfgdbfeab
