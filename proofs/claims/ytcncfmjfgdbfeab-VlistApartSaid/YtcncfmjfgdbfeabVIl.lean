/- vlist: what comes between. -/
import Derived.Test.YtcncfmjfgdbfeabM40
namespace Go.Proofs.Ytcncfmjfgdbfeab
open Go.RowKit

theorem szdims1v (b : Nat) (x : Int) (v : Bool) (hv : dimB x = v) (w : World) (h : w.heap[b]? = some (.cells #[.int .i64 x] 3 (0, 0))) :
    Calls Try.prog 34 #[.slice (some ⟨b, 0, none⟩) 1 1] w fun e w' => e = .returned (.bool v) ∧ Kept w w' := hv ▸ szdims1 b x w h
theorem szdims2v (b : Nat) (x y : Int) (v : Bool) (hv : d2B x y = v) (w : World) (h : w.heap[b]? = some (.cells #[.int .i64 x, .int .i64 y] 3 (0, 0))) :
    Calls Try.prog 34 #[.slice (some ⟨b, 0, none⟩) 2 2] w fun e w' => e = .returned (.bool v) ∧ Kept w w' := hv ▸ szdims2 b x y w h
structure OneX (w0 : World) where
  b : Nat
  new : w0.heap.size ≤ b
set_option maxRecDepth 100000 in
set_option maxHeartbeats 4000000 in
theorem inter_line (bef h a0 a1 a2 a3 a4 c0 c1 c2 c3 c4 lim y x : Int) (hb : -65536000 < bef) (hy : IntKind.i64.wrap (a0 - bef) = y) (hx : IntKind.i64.wrap (y - h) = x) (hd : dimB x = true) (hl : x < lim) (w : World) :
    Calls Try.prog 42 #[.int .i64 bef, .int .i64 h, .agg #[.int .i64 a0, .int .i64 a1, .int .i64 a2, .int .i64 a3, .int .i64 a4], .agg #[.int .i64 c0, .int .i64 c1, .int .i64 c2, .int .i64 c3, .int .i64 c4], .int .i64 lim] w fun e w' => ∃ q : OneX w, e = .returned (.tuple #[.slice (some ⟨q.b, 0, none⟩) 1 1, .int .i64 0]) ∧ Sat w [] [.obj true q.b (nodC (⟨7, 0, 0, 0, 0, 0, 0, c0, c1, c2, c3, c4, 0, 0, 0, 0, 0, 1, ⟨#[]⟩⟩ : Nod)) 55] w' := by
  refine g_enter (args := [.int .i64 bef, .int .i64 h, .agg #[.int .i64 a0, .int .i64 a1, .int .i64 a2, .int .i64 a3, .int .i64 a4], .agg #[.int .i64 c0, .int .i64 c1, .int .i64 c2, .int .i64 c3, .int .i64 c4], .int .i64 lim]) [] [] Try.func42 rfl Try.ntmps42 (Nat.le_of_ble_eq_true (by kernel_rfl)) (sat0 w) ?_
  refine g_run 9999 [] 0 (by kernel_rfl) ?_
  refine g_new (fun b => by kernel_rfl) fun b0 hb0 => ?_
  refine g_new (fun b => by kernel_rfl) fun b1 hb1 => ?_
  refine g_run 9999 [] 0 (by kernel_rfl) ?_
  refine g_dec 14 (decide (bef ≤ -65536000)) (by kernel_rfl) (fun h14 => ?_) (fun h14 => ?_)
  · exact absurd h14 (by intro hx; simp at hx; omega)
  · refine g_run 18 ([0]) 1 (by kernel_rfl) ?_
    refine g_val _ _ ?_ (fun w _hs => bin_run (P := Try.prog) (op := .sub) (t := 3) (x := .tmp 16) (y := .tmp 17) (a := .int .i64 a0) (b := .int .i64 bef) (v := .int .i64 (IntKind.i64.wrap (a0 - bef))) (v' := .int .i64 y) (w := w) (by kernel_rfl) (by rw [hy])) ?_
    · kernel_rfl
    refine g_run 20 [] 0 (by kernel_rfl) ?_
    refine g_val _ _ ?_ (fun w _hs => bin_run (P := Try.prog) (op := .sub) (t := 3) (x := .tmp 18) (y := .tmp 19) (a := .int .i64 y) (b := .int .i64 h) (v := .int .i64 (IntKind.i64.wrap (y - h))) (v' := .int .i64 x) (w := w) (by kernel_rfl) (by rw [hx])) ?_
    · kernel_rfl
    refine g_run 9999 [] 0 (by kernel_rfl) ?_
    refine g_new (fun b => by kernel_rfl) fun b2 hb2 => ?_
    refine g_callq _ _ _ ?_ (fun w hs => szdims1v b2 x true hd w (hs.obj (o := true) (i := 2) (by kernel_rfl))) ?_
    · kernel_rfl
    refine g_run 9999 [] 1 (by kernel_rfl) ?_
    refine g_dec 27 (decide (x < lim)) (by kernel_rfl) (fun h27 => ?_) (fun h27 => ?_)
    · refine g_run 9999 (List.replicate 5 1) 1 (by kernel_rfl) ?_
      refine g_new (fun b => by kernel_rfl) fun b3 hb3 => ?_
      refine g_run 9999 [] 0 (by kernel_rfl) ?_
      refine g_ret [] (Value.tuple (Array.mk [Value.slice (some (Addr.mk b3 0 none)) 1 1, Value.int IntKind.i64 0])) (by kernel_rfl) (by kernel_rfl) (by kernel_rfl) fun w' hs => ?_
      exact ⟨⟨b3, hb3⟩, rfl, hs.pick [3] (by decide) (by kernel_rfl)⟩
    · exact absurd h27 (by intro hx; simp at hx; omega)
set_option maxRecDepth 100000 in
set_option maxHeartbeats 4000000 in
theorem inter_base (bef h a0 a1 a2 a3 a4 c0 c1 c2 c3 c4 lim y x : Int) (hb : -65536000 < bef) (hy : IntKind.i64.wrap (a0 - bef) = y) (hx : IntKind.i64.wrap (y - h) = x) (hd : dimB x = true) (hl : ¬ x < lim) (w : World) :
    Calls Try.prog 42 #[.int .i64 bef, .int .i64 h, .agg #[.int .i64 a0, .int .i64 a1, .int .i64 a2, .int .i64 a3, .int .i64 a4], .agg #[.int .i64 c0, .int .i64 c1, .int .i64 c2, .int .i64 c3, .int .i64 c4], .int .i64 lim] w fun e w' => ∃ q : OneX w, e = .returned (.tuple #[.slice (some ⟨q.b, 0, none⟩) 1 1, .int .i64 0]) ∧ Sat w [] [.obj true q.b (nodC (⟨7, 0, 0, 0, 0, 0, 0, x, a1, a2, a3, a4, 0, 0, 0, 0, 0, 2, ⟨#[]⟩⟩ : Nod)) 55] w' := by
  refine g_enter (args := [.int .i64 bef, .int .i64 h, .agg #[.int .i64 a0, .int .i64 a1, .int .i64 a2, .int .i64 a3, .int .i64 a4], .agg #[.int .i64 c0, .int .i64 c1, .int .i64 c2, .int .i64 c3, .int .i64 c4], .int .i64 lim]) [] [] Try.func42 rfl Try.ntmps42 (Nat.le_of_ble_eq_true (by kernel_rfl)) (sat0 w) ?_
  refine g_run 9999 [] 0 (by kernel_rfl) ?_
  refine g_new (fun b => by kernel_rfl) fun b0 hb0 => ?_
  refine g_new (fun b => by kernel_rfl) fun b1 hb1 => ?_
  refine g_run 9999 [] 0 (by kernel_rfl) ?_
  refine g_dec 14 (decide (bef ≤ -65536000)) (by kernel_rfl) (fun h14 => ?_) (fun h14 => ?_)
  · exact absurd h14 (by intro hx; simp at hx; omega)
  · refine g_run 18 ([0]) 1 (by kernel_rfl) ?_
    refine g_val _ _ ?_ (fun w _hs => bin_run (P := Try.prog) (op := .sub) (t := 3) (x := .tmp 16) (y := .tmp 17) (a := .int .i64 a0) (b := .int .i64 bef) (v := .int .i64 (IntKind.i64.wrap (a0 - bef))) (v' := .int .i64 y) (w := w) (by kernel_rfl) (by rw [hy])) ?_
    · kernel_rfl
    refine g_run 20 [] 0 (by kernel_rfl) ?_
    refine g_val _ _ ?_ (fun w _hs => bin_run (P := Try.prog) (op := .sub) (t := 3) (x := .tmp 18) (y := .tmp 19) (a := .int .i64 y) (b := .int .i64 h) (v := .int .i64 (IntKind.i64.wrap (y - h))) (v' := .int .i64 x) (w := w) (by kernel_rfl) (by rw [hx])) ?_
    · kernel_rfl
    refine g_run 9999 [] 0 (by kernel_rfl) ?_
    refine g_new (fun b => by kernel_rfl) fun b2 hb2 => ?_
    refine g_callq _ _ _ ?_ (fun w hs => szdims1v b2 x true hd w (hs.obj (o := true) (i := 2) (by kernel_rfl))) ?_
    · kernel_rfl
    refine g_run 9999 [] 1 (by kernel_rfl) ?_
    refine g_dec 27 (decide (x < lim)) (by kernel_rfl) (fun h27 => ?_) (fun h27 => ?_)
    · exact absurd h27 (by intro hx; simp at hx; omega)
    · refine g_run 9999 (List.replicate 6 0) 1 (by kernel_rfl) ?_
      refine g_new (fun b => by kernel_rfl) fun b3 hb3 => ?_
      refine g_run 9999 [] 0 (by kernel_rfl) ?_
      refine g_ret [] (Value.tuple (Array.mk [Value.slice (some (Addr.mk b3 0 none)) 1 1, Value.int IntKind.i64 0])) (by kernel_rfl) (by kernel_rfl) (by kernel_rfl) fun w' hs => ?_
      exact ⟨⟨b3, hb3⟩, rfl, hs.pick [3] (by decide) (by kernel_rfl)⟩
end Go.Proofs.Ytcncfmjfgdbfeab
