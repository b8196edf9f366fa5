/- font.Read. -/
import Derived.Test.YtnipndfnfpofgaaCRead0
import Derived.Defers
import Derived.Recover
import Derived.Laws.Pointers
namespace Go.Proofs.Ytnipndfnfpofgaa
open Go.RowKit

abbrev nilT : Value := .slice none 0 0
theorem cells8 {w : World} {B : Nat} {T : TypeId} {v0 v1 v2 v3 v4 v5 v6 v7 : Value} (h : w.heap[B]? = some (.cells #[v0, v1, v2, v3, v4, v5, v6, v7] T (0, 0))) :
    w.cell? ⟨B, 0, none⟩ = some v0 ∧ w.cell? ⟨B, 1, none⟩ = some v1 ∧ w.cell? ⟨B, 2, none⟩ = some v2 ∧ w.cell? ⟨B, 3, none⟩ = some v3 ∧ w.cell? ⟨B, 4, none⟩ = some v4 ∧ w.cell? ⟨B, 5, none⟩ = some v5 ∧ w.cell? ⟨B, 6, none⟩ = some v6 ∧ w.cell? ⟨B, 7, none⟩ = some v7 ∧ (∀ o, w.frozen? ⟨B, o, none⟩ = false) ∧ B < w.heap.size := by
  refine ⟨?_, ?_, ?_, ?_, ?_, ?_, ?_, ?_, fun o => ?_, ?_⟩
  case refine_10 =>
    rcases Nat.lt_or_ge B w.heap.size with h' | h'
    · exact h'
    · simp [Array.getElem?_eq_none h'] at h
  all_goals first | simp [World.cell?, h] | simp [World.frozen?, h]
theorem set_one {w : World} {N i : Nat} {T : TypeId} {c : Array Value} {u : Value} (h : w.heap[N]? = some (.cells c T (0, 0))) : (w.setCell ⟨N, i, none⟩ u).heap[N]? = some (.cells (c.setIfInBounds i u) T (0, 0)) := by
  simp only [World.setCell, Array.getElem?_modify, h, if_true, Option.map_some]
  rfl
theorem set8 {w : World} {N : Nat} {T : TypeId} {v0 v1 v2 v3 v4 v5 v6 v7 : Value} (u0 u1 u2 u3 u4 u5 u6 u7 : Value) (h : w.heap[N]? = some (.cells #[v0, v1, v2, v3, v4, v5, v6, v7] T (0, 0))) :
    ((((((((w.setCell ⟨N, 0, none⟩ u0).setCell ⟨N, 1, none⟩ u1).setCell ⟨N, 2, none⟩ u2).setCell ⟨N, 3, none⟩ u3).setCell ⟨N, 4, none⟩ u4).setCell ⟨N, 5, none⟩ u5).setCell ⟨N, 6, none⟩ u6).setCell ⟨N, 7, none⟩ u7).heap[N]? = some (.cells #[u0, u1, u2, u3, u4, u5, u6, u7] T (0, 0)) := by
  have h1 := set_one (i := 0) (u := u0) h
  rw [show (#[v0, v1, v2, v3, v4, v5, v6, v7] : Array Value).setIfInBounds 0 u0 = #[u0, v1, v2, v3, v4, v5, v6, v7] from rfl] at h1
  have h2 := set_one (i := 1) (u := u1) h1
  rw [show (#[u0, v1, v2, v3, v4, v5, v6, v7] : Array Value).setIfInBounds 1 u1 = #[u0, u1, v2, v3, v4, v5, v6, v7] from rfl] at h2
  have h3 := set_one (i := 2) (u := u2) h2
  rw [show (#[u0, u1, v2, v3, v4, v5, v6, v7] : Array Value).setIfInBounds 2 u2 = #[u0, u1, u2, v3, v4, v5, v6, v7] from rfl] at h3
  have h4 := set_one (i := 3) (u := u3) h3
  rw [show (#[u0, u1, u2, v3, v4, v5, v6, v7] : Array Value).setIfInBounds 3 u3 = #[u0, u1, u2, u3, v4, v5, v6, v7] from rfl] at h4
  have h5 := set_one (i := 4) (u := u4) h4
  rw [show (#[u0, u1, u2, u3, v4, v5, v6, v7] : Array Value).setIfInBounds 4 u4 = #[u0, u1, u2, u3, u4, v5, v6, v7] from rfl] at h5
  have h6 := set_one (i := 5) (u := u5) h5
  rw [show (#[u0, u1, u2, u3, u4, v5, v6, v7] : Array Value).setIfInBounds 5 u5 = #[u0, u1, u2, u3, u4, u5, v6, v7] from rfl] at h6
  have h7 := set_one (i := 6) (u := u6) h6
  rw [show (#[u0, u1, u2, u3, u4, u5, v6, v7] : Array Value).setIfInBounds 6 u6 = #[u0, u1, u2, u3, u4, u5, u6, v7] from rfl] at h7
  have h8 := set_one (i := 7) (u := u7) h7
  rw [show (#[u0, u1, u2, u3, u4, u5, u6, v7] : Array Value).setIfInBounds 7 u7 = #[u0, u1, u2, u3, u4, u5, u6, u7] from rfl] at h8
  exact h8
theorem set_far {w : World} {N M i : Nat} {u : Value} {o : Option Obj} (h : w.heap[M]? = o) (hne : N ≠ M) : (w.setCell ⟨N, i, none⟩ u).heap[M]? = o := by
  simp [World.setCell, Array.getElem?_modify, hne, h]
def emptyF : Fnt := ⟨0, 0, 0, [], [], [], [], []⟩
def nilA : FAddr := ⟨none, 0, none, 0, none, 0, none, 0, none, 0⟩

set_option maxRecDepth 100000 in
set_option maxHeartbeats 4000000 in
theorem catch_panics (N : Nat) (v0 v1 v2 v3 v4 v5 v6 v7 : Value) (x : Int) (u : TypeId) (pv : Value) (older : List PanicEntry) (w : World) (h : w.heap[N]? = some (.cells #[v0, v1, v2, v3, v4, v5, v6, v7] 28 (0, 0))) (h1 : w.heap[N + 1]? = some (.cells #[.int .i64 x] 30 (0, 0))) :
    CallsD Try.prog 48 #[.pointer (some ⟨N, 0, none⟩), .pointer (some ⟨N + 1, 0, none⟩)] (.panicking ({ v := .iface u pv, recovered := false } :: older)) w fun e u' w' =>
      e = .returned (.tuple #[]) ∧ u' = .panicking ({ v := .iface u pv, recovered := true } :: older) ∧ w'.heap[N]? = some (.cells #[.int .u32 0, .int .i64 0, .int .i64 0, .slice none 0 0, .slice none 0 0, .slice none 0 0, .slice none 0 0, .slice none 0 0] 28 (0, 0)) ∧ w'.heap[N + 1]? = some (.cells #[.int .i64 40] 30 (0, 0)) ∧ Below N w w' := by
  obtain ⟨c0, c1, c2, c3, c4, c5, c6, c7, cf, cl⟩ := cells8 h
  have d0 : w.cell? ⟨N + 1, 0, none⟩ = some (.int .i64 x) := by simp [World.cell?, h1]
  have df : w.frozen? ⟨N + 1, 0, none⟩ = false := by simp [World.frozen?, h1]
  refine callsD_of_wpS Try.func48 rfl fun c₀ cs hu => ?_
  apply wpS_seq
  apply wpS_region
  simp [wpOpsS, go_sem, recoverD, hu, Try.ntmps48, Exit.thenS]
  refine wpS_cond (t := true) (by simp [Act.eval, Array.replicate]) ?_
  simp only [if_true]
  refine wpS_of_wp ?_
  go_wp2_with (fail)
  have hN := set_far (N := N + 1) (i := 0) (u := .int .i64 40) (set8 (.int .u32 0) (.int .i64 0) (.int .i64 0) nilT nilT nilT nilT nilT h) (by omega)
  have hE := set_one (i := 0) (u := .int .i64 40) (set_far (i := 7) (u := nilT) (N := N) (set_far (i := 6) (u := nilT) (N := N) (set_far (i := 5) (u := nilT) (N := N) (set_far (i := 4) (u := nilT) (N := N) (set_far (i := 3) (u := nilT) (N := N) (set_far (i := 2) (u := .int .i64 0) (N := N) (set_far (i := 1) (u := .int .i64 0) (N := N) (set_far (i := 0) (u := .int .u32 0) (N := N) h1 (by omega)) (by omega)) (by omega)) (by omega)) (by omega)) (by omega)) (by omega)) (by omega))
  have hB : Below N w (((((((((w.setCell ⟨N, 0, none⟩ (.int .u32 0)).setCell ⟨N, 1, none⟩ (.int .i64 0)).setCell ⟨N, 2, none⟩ (.int .i64 0)).setCell ⟨N, 3, none⟩ nilT).setCell ⟨N, 4, none⟩ nilT).setCell ⟨N, 5, none⟩ nilT).setCell ⟨N, 6, none⟩ nilT).setCell ⟨N, 7, none⟩ nilT).setCell ⟨N + 1, 0, none⟩ (.int .i64 40)) := by
    iterate 9 refine Below.setCell ?_ (by simp) _
    exact Below.refl _ _
  generalize ((((((((w.setCell ⟨N, 0, none⟩ (.int .u32 0)).setCell ⟨N, 1, none⟩ (.int .i64 0)).setCell ⟨N, 2, none⟩ (.int .i64 0)).setCell ⟨N, 3, none⟩ nilT).setCell ⟨N, 4, none⟩ nilT).setCell ⟨N, 5, none⟩ nilT).setCell ⟨N, 6, none⟩ nilT).setCell ⟨N, 7, none⟩ nilT).setCell ⟨N + 1, 0, none⟩ (.int .i64 40) = w9 at hN hE hB ⊢
  simp [bodyPostS, results, Try.results48]
  exact ⟨hN, hE, hB⟩

theorem catch_quiet (N : Nat) (w : World) :
    CallsD Try.prog 48 #[.pointer (some ⟨N, 0, none⟩), .pointer (some ⟨N + 1, 0, none⟩)] .returning w fun e u' w' => e = .returned (.tuple #[]) ∧ u' = .returning ∧ w' = w := by
  refine callsD_of_wpS Try.func48 rfl fun c₀ cs hu => ?_
  apply wpS_seq
  apply wpS_region
  simp [wpOpsS, go_sem, recoverD, hu, Try.ntmps48, Exit.thenS]
  refine wpS_cond (t := false) (by simp [Act.eval, Array.replicate]) ?_
  simp only [Bool.false_eq_true, if_false]
  refine wpS_of_wp (wp_skip ?_)
  cases c₀
  simp_all [bodyPostS, results, Try.results48]
end Go.Proofs.Ytnipndfnfpofgaa
