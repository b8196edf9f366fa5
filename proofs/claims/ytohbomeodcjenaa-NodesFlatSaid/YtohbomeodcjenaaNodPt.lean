/- nodes: the three lists of a Disc. -/
import Derived.Test.YtohbomeodcjenaaM32
namespace Go.Proofs.Ytohbomeodcjenaa
open Go.RowKit

/-- on the way from one Sep to the next -/
structure SX (beh : List Nat) (e : Nat) where
  at_ : Nat
  ch : Ch beh at_ e
theorem Ch.inv {beh : List Nat} {s e : Nat} (h : Ch beh s e) : s = e ∨ (s < beh.length ∧ s < beh.getD s 0 ∧ Ch beh (beh.getD s 0) e) := by
  cases h with
  | refl => exact .inl rfl
  | step h1 h2 h3 => exact .inr ⟨h1, h2, h3⟩
theorem SX.end_ {beh : List Nat} {e : Nat} (x : SX beh e) (h : beh.getD x.at_ 0 = 0) : x.at_ = e := by
  rcases x.ch.inv with h1 | ⟨_, h1, _⟩
  · exact h1
  · omega
def SX.next {beh : List Nat} {e : Nat} (x : SX beh e) (h0 : beh.getD e 0 = 0) (h : beh.getD x.at_ 0 ≠ 0) : SX beh e :=
  ⟨beh.getD x.at_ 0, by
    rcases x.ch.inv with h1 | ⟨_, _, h1⟩
    · rw [h1] at h; exact absurd h0 h
    · exact h1⟩
theorem SX.next_lt {beh : List Nat} {e : Nat} (x : SX beh e) (h0 : beh.getD e 0 = 0) (h : beh.getD x.at_ 0 ≠ 0) : e - (x.next h0 h).at_ < e - x.at_ := by
  have h3 := (x.next h0 h).ch.le
  have : x.at_ < beh.getD x.at_ 0 := by
    rcases x.ch.inv with h1 | ⟨_, h1, _⟩
    · rw [h1] at h; exact absurd h0 h
    · exact h1
  have e1 : (x.next h0 h).at_ = beh.getD x.at_ 0 := rfl
  omega
set_option maxRecDepth 100000 in
set_option maxHeartbeats 8000000 in
theorem parts_any (beh : List Nat) (bb at_ s1 s2 e : Nat) (nb : Option Addr) (nn nc : Nat) (h1 : Ch beh (at_ + 1) s1) (z1 : beh.getD s1 0 = 0) (h2 : Ch beh (s1 + 1) s2) (z2 : beh.getD s2 0 = 0) (h3 : Ch beh (s2 + 1) e) (z3 : beh.getD e 0 = 0) (he : e < beh.length) (hn : beh.length ≤ 2000) (w : World) (hb : w.heap[bb]? = some (.cells (behC beh).toArray 3 (0, 0))) :
    Calls Try.prog 70 #[.agg #[.slice nb nn nc, .slice (some ⟨bb, 0, none⟩) beh.length beh.length], .int .i64 (at_ : Int)] w fun e' w' =>
      e' = .returned (.agg #[.int .i64 ((at_ + 1 : Nat) : Int), .int .i64 (s1 : Int), .int .i64 ((s1 + 1 : Nat) : Int), .int .i64 (s2 : Int), .int .i64 ((s2 + 1 : Nat) : Int), .int .i64 (e : Int)]) ∧ Kept w w' := by
  have l1 := h1.le
  have l2 := h2.le
  have l3 := h3.le
  refine g_enter (args := [.agg #[.slice nb nn nc, .slice (some ⟨bb, 0, none⟩) beh.length beh.length], .int .i64 (at_ : Int)]) [] [.obj false bb (behC beh) 3] Try.func70 rfl Try.ntmps70 (Nat.le_of_ble_eq_true (by kernel_rfl)) (sat1 hb) ?_
  refine g_run 9999 [] 0 (by kernel_rfl) ?_
  refine g_new (fun b => by kernel_rfl) fun b1 hb1 => ?_
  refine g_new (fun b => by kernel_rfl) fun b2 hb2 => ?_
  refine g_run 9999 [] 0 (by kernel_rfl) ?_
  refine g_new (fun b => by kernel_rfl) fun b3 hb3 => ?_
  refine g_run 10 [] 0 (by kernel_rfl) ?_
  refine g_val _ _ ?_ (fun w _hs => nat_succ (P := Try.prog) (t := 3) (x := .tmp 9) (y := .const (.int .i64 1)) (m := at_) (w := w) (by kernel_rfl) (by omega)) ?_
  · kernel_rfl
  refine g_run 9999 [] 0 (by kernel_rfl) ?_
  refine g_unroll 4 (by kernel_rfl) ?_
  refine g_run 9999 [] 1 (by kernel_rfl) ?_
  refine g_loopN (X := SX beh s1) (fun x => [(8, .int .i64 (x.at_ : Int))]) (fun _ => [.obj false bb (behC beh) 3, .obj true b1 [.slice nb nn nc, .slice (some ⟨bb, 0, none⟩) beh.length beh.length] 141, .obj true b2 [.int .i64 0, .int .i64 0, .int .i64 0, .int .i64 0, .int .i64 0, .int .i64 0] 149, .obj true b3 [.int .i64 0, .int .i64 0, .int .i64 0, .int .i64 0, .int .i64 0, .int .i64 0] 149]) (fun x => s1 - x.at_) ⟨at_ + 1, h1⟩ (by kernel_rfl) (by unfold Known; kernel_rfl) (by kernel_rfl) fun x1 N1 hN1 => ?_
  have lx1 : x1.at_ < beh.length := by have := x1.ch.le; omega
  refine g_run 18 [1] 0 (by kernel_rfl) ?_
  refine g_val _ _ ?_ (fun w _hs => idx_run (P := Try.prog) (T := 25) (E := 3) (b := bb) (o := 0) (n := beh.length) (c := beh.length) (k := x1.at_) (sz := 1) (kk := .i64) w (by kernel_rfl) (by kernel_rfl) lx1) ?_
  · kernel_rfl
  refine g_val _ _ ?_ (fun w _hs => Sat.objload1 (T := 3) (T' := 3) (i := 0) (b := bb) (k := 0 + x1.at_ * 1) (own := false) (cs := behC beh) (v := .int .i64 ((beh.getD x1.at_ 0 : Nat) : Int)) _hs (by kernel_rfl) (behC_get lx1) (by kernel_rfl)) ?_
  · kernel_rfl
  refine g_run 9999 [] 0 (by kernel_rfl) ?_
  refine g_dec 20 ((↑(beh.getD x1.at_ 0) : Int) != 0) (by kernel_rfl) (fun h20 => ?_) (fun h20 => ?_)
  · have hne : beh.getD x1.at_ 0 ≠ 0 := by clear hN1; intro h; rw [h] at h20; cases h20
    refine g_run 24 [1] 1 (by kernel_rfl) ?_
    refine g_val _ _ ?_ (fun w _hs => idx_run (P := Try.prog) (T := 25) (E := 3) (b := bb) (o := 0) (n := beh.length) (c := beh.length) (k := x1.at_) (sz := 1) (kk := .i64) w (by kernel_rfl) (by kernel_rfl) lx1) ?_
    · kernel_rfl
    refine g_val _ _ ?_ (fun w _hs => Sat.objload1 (T := 3) (T' := 3) (i := 0) (b := bb) (k := 0 + x1.at_ * 1) (own := false) (cs := behC beh) (v := .int .i64 ((beh.getD x1.at_ 0 : Nat) : Int)) _hs (by kernel_rfl) (behC_get lx1) (by kernel_rfl)) ?_
    · kernel_rfl
    refine g_run 9999 [] 0 (by kernel_rfl) ?_
    exact g_hook (hN1 (x1.next z1 hne) (x1.next_lt z1 hne)) (by kernel_rfl) (by kernel_rfl) (by kernel_rfl) (by unfold Known; kernel_rfl) (by kernel_rfl) (by kernel_rfl)
  have hx1 : x1.at_ = s1 := x1.end_ (by clear hN1; have := h20; simp only [bne_eq_false_iff_eq] at this; omega)
  refine g_rw 8 (.int .i64 (x1.at_ : Int)) (.int .i64 (s1 : Int)) (by kernel_rfl) (by rw [hx1]) ?_
  refine g_run 32 [3, 3] 1 (by kernel_rfl) ?_
  refine g_val _ _ ?_ (fun w _hs => nat_succ (P := Try.prog) (t := 3) (x := .tmp 31) (y := .const (.int .i64 1)) (m := s1) (w := w) (by kernel_rfl) (by omega)) ?_
  · kernel_rfl
  refine g_run 9999 [] 1 (by kernel_rfl) ?_
  refine g_loopN (X := SX beh s2) (fun x => [(8, .int .i64 (x.at_ : Int))]) (fun _ => [.obj false bb (behC beh) 3, .obj true b1 [.slice nb nn nc, .slice (some ⟨bb, 0, none⟩) beh.length beh.length] 141, .obj true b2 [.int .i64 0, .int .i64 0, .int .i64 0, .int .i64 0, .int .i64 0, .int .i64 0] 149, .obj true b3 [.int .i64 ((at_ + 1 : Nat) : Int), .int .i64 (s1 : Int), .int .i64 0, .int .i64 0, .int .i64 0, .int .i64 0] 149]) (fun x => s2 - x.at_) ⟨s1 + 1, h2⟩ (by kernel_rfl) (by unfold Known; kernel_rfl) (by kernel_rfl) fun x2 N2 hN2 => ?_
  have lx2 : x2.at_ < beh.length := by have := x2.ch.le; omega
  refine g_run 18 [1] 0 (by kernel_rfl) ?_
  refine g_val _ _ ?_ (fun w _hs => idx_run (P := Try.prog) (T := 25) (E := 3) (b := bb) (o := 0) (n := beh.length) (c := beh.length) (k := x2.at_) (sz := 1) (kk := .i64) w (by kernel_rfl) (by kernel_rfl) lx2) ?_
  · kernel_rfl
  refine g_val _ _ ?_ (fun w _hs => Sat.objload1 (T := 3) (T' := 3) (i := 0) (b := bb) (k := 0 + x2.at_ * 1) (own := false) (cs := behC beh) (v := .int .i64 ((beh.getD x2.at_ 0 : Nat) : Int)) _hs (by kernel_rfl) (behC_get lx2) (by kernel_rfl)) ?_
  · kernel_rfl
  refine g_run 9999 [] 0 (by kernel_rfl) ?_
  refine g_dec 20 ((↑(beh.getD x2.at_ 0) : Int) != 0) (by kernel_rfl) (fun h20 => ?_) (fun h20 => ?_)
  · have hne : beh.getD x2.at_ 0 ≠ 0 := by clear hN2; intro h; rw [h] at h20; cases h20
    refine g_run 24 [1] 1 (by kernel_rfl) ?_
    refine g_val _ _ ?_ (fun w _hs => idx_run (P := Try.prog) (T := 25) (E := 3) (b := bb) (o := 0) (n := beh.length) (c := beh.length) (k := x2.at_) (sz := 1) (kk := .i64) w (by kernel_rfl) (by kernel_rfl) lx2) ?_
    · kernel_rfl
    refine g_val _ _ ?_ (fun w _hs => Sat.objload1 (T := 3) (T' := 3) (i := 0) (b := bb) (k := 0 + x2.at_ * 1) (own := false) (cs := behC beh) (v := .int .i64 ((beh.getD x2.at_ 0 : Nat) : Int)) _hs (by kernel_rfl) (behC_get lx2) (by kernel_rfl)) ?_
    · kernel_rfl
    refine g_run 9999 [] 0 (by kernel_rfl) ?_
    exact g_hook (hN2 (x2.next z2 hne) (x2.next_lt z2 hne)) (by kernel_rfl) (by kernel_rfl) (by kernel_rfl) (by unfold Known; kernel_rfl) (by kernel_rfl) (by kernel_rfl)
  have hx2 : x2.at_ = s2 := x2.end_ (by clear hN2; have := h20; simp only [bne_eq_false_iff_eq] at this; omega)
  refine g_rw 8 (.int .i64 (x2.at_ : Int)) (.int .i64 (s2 : Int)) (by kernel_rfl) (by rw [hx2]) ?_
  refine g_run 32 [3, 3] 1 (by kernel_rfl) ?_
  refine g_val _ _ ?_ (fun w _hs => nat_succ (P := Try.prog) (t := 3) (x := .tmp 31) (y := .const (.int .i64 1)) (m := s2) (w := w) (by kernel_rfl) (by omega)) ?_
  · kernel_rfl
  refine g_run 9999 [] 1 (by kernel_rfl) ?_
  refine g_loopN (X := SX beh e) (fun x => [(8, .int .i64 (x.at_ : Int))]) (fun _ => [.obj false bb (behC beh) 3, .obj true b1 [.slice nb nn nc, .slice (some ⟨bb, 0, none⟩) beh.length beh.length] 141, .obj true b2 [.int .i64 0, .int .i64 0, .int .i64 0, .int .i64 0, .int .i64 0, .int .i64 0] 149, .obj true b3 [.int .i64 ((at_ + 1 : Nat) : Int), .int .i64 (s1 : Int), .int .i64 ((s1 + 1 : Nat) : Int), .int .i64 (s2 : Int), .int .i64 0, .int .i64 0] 149]) (fun x => e - x.at_) ⟨s2 + 1, h3⟩ (by kernel_rfl) (by unfold Known; kernel_rfl) (by kernel_rfl) fun x3 N3 hN3 => ?_
  have lx3 : x3.at_ < beh.length := by have := x3.ch.le; omega
  refine g_run 18 [1] 0 (by kernel_rfl) ?_
  refine g_val _ _ ?_ (fun w _hs => idx_run (P := Try.prog) (T := 25) (E := 3) (b := bb) (o := 0) (n := beh.length) (c := beh.length) (k := x3.at_) (sz := 1) (kk := .i64) w (by kernel_rfl) (by kernel_rfl) lx3) ?_
  · kernel_rfl
  refine g_val _ _ ?_ (fun w _hs => Sat.objload1 (T := 3) (T' := 3) (i := 0) (b := bb) (k := 0 + x3.at_ * 1) (own := false) (cs := behC beh) (v := .int .i64 ((beh.getD x3.at_ 0 : Nat) : Int)) _hs (by kernel_rfl) (behC_get lx3) (by kernel_rfl)) ?_
  · kernel_rfl
  refine g_run 9999 [] 0 (by kernel_rfl) ?_
  refine g_dec 20 ((↑(beh.getD x3.at_ 0) : Int) != 0) (by kernel_rfl) (fun h20 => ?_) (fun h20 => ?_)
  · have hne : beh.getD x3.at_ 0 ≠ 0 := by clear hN3; intro h; rw [h] at h20; cases h20
    refine g_run 24 [1] 1 (by kernel_rfl) ?_
    refine g_val _ _ ?_ (fun w _hs => idx_run (P := Try.prog) (T := 25) (E := 3) (b := bb) (o := 0) (n := beh.length) (c := beh.length) (k := x3.at_) (sz := 1) (kk := .i64) w (by kernel_rfl) (by kernel_rfl) lx3) ?_
    · kernel_rfl
    refine g_val _ _ ?_ (fun w _hs => Sat.objload1 (T := 3) (T' := 3) (i := 0) (b := bb) (k := 0 + x3.at_ * 1) (own := false) (cs := behC beh) (v := .int .i64 ((beh.getD x3.at_ 0 : Nat) : Int)) _hs (by kernel_rfl) (behC_get lx3) (by kernel_rfl)) ?_
    · kernel_rfl
    refine g_run 9999 [] 0 (by kernel_rfl) ?_
    exact g_hook (hN3 (x3.next z3 hne) (x3.next_lt z3 hne)) (by kernel_rfl) (by kernel_rfl) (by kernel_rfl) (by unfold Known; kernel_rfl) (by kernel_rfl) (by kernel_rfl)
  have hx3 : x3.at_ = e := x3.end_ (by clear hN3; have := h20; simp only [bne_eq_false_iff_eq] at this; omega)
  refine g_rw 8 (.int .i64 (x3.at_ : Int)) (.int .i64 (e : Int)) (by kernel_rfl) (by rw [hx3]) ?_
  refine g_run 32 [3, 3] 1 (by kernel_rfl) ?_
  refine g_val _ _ ?_ (fun w _hs => nat_succ (P := Try.prog) (t := 3) (x := .tmp 31) (y := .const (.int .i64 1)) (m := e) (w := w) (by kernel_rfl) (by omega)) ?_
  · kernel_rfl
  refine g_run 9999 [] 1 (by kernel_rfl) ?_
  refine g_run 9999 (List.replicate 6 3 ++ List.replicate 6 2) 0 (by kernel_rfl) ?_
  refine g_ret (List.replicate 6 2) (Value.agg (Array.mk [Value.int IntKind.i64 (↑(at_ + 1) : Int), Value.int IntKind.i64 (↑s1 : Int), Value.int IntKind.i64 (↑(s1 + 1) : Int), Value.int IntKind.i64 (↑s2 : Int), Value.int IntKind.i64 (↑(s2 + 1) : Int), Value.int IntKind.i64 (↑e : Int)])) (by kernel_rfl) (by kernel_rfl) (by kernel_rfl) fun w' hs => ?_
  exact ⟨rfl, hs.kept.kept⟩
end Go.Proofs.Ytohbomeodcjenaa
