/- nodes: Check, of the code. -/
import Derived.Test.YtcncfmjfgdbfeabNodU
namespace Go.Proofs.Ytcncfmjfgdbfeab
open Go.RowKit

/-- what Check answers -/
def checkB (l : List Nod) : Int :=
  bif decide (2000 < l.length) then 6 else match walkW l l.length 0 (walk0 l) with
    | none => 50
    | some W => bif decide (W.os.length = 0) then (bif decide (40 < W.d) then 51 else 0) else 50
set_option maxRecDepth 100000 in
set_option maxHeartbeats 4000000 in
theorem check_size (l : List Nod) (bl ol cl : Nat) (w : World) (hq : Sat w [] [.row bl ol 19 l.length (rowOf l)] w) (hl : 2000 < l.length) :
    Calls Try.prog 44 #[.slice (some ⟨bl, ol, none⟩) l.length cl] w fun e' w' => e' = .returned (.int .i64 6) ∧ Kept w w' := by
  refine g_enter (args := [.slice (some ⟨bl, ol, none⟩) l.length cl]) [] [.row bl ol 19 l.length (rowOf l)] Try.func44 rfl Try.ntmps44 (Nat.le_of_ble_eq_true (by kernel_rfl)) hq ?_
  refine g_run 9999 [] 0 (by kernel_rfl) ?_
  refine g_callq _ _ _ ?_ (fun w hs => outline_size l bl ol cl w (hs.read [0] [.row bl ol 19 l.length (rowOf l)] (by kernel_rfl)) hl) ?_
  · kernel_rfl
  refine g_run 9999 [] 0 (by kernel_rfl) ?_
  refine g_new (fun b => by kernel_rfl) fun b1 hb1 => ?_
  refine g_run 9999 ([1, 1]) 0 (by kernel_rfl) ?_
  refine g_ret [] (Value.int IntKind.i64 6) (by kernel_rfl) (by kernel_rfl) (by kernel_rfl) fun w' hs => ?_
  exact ⟨rfl, hs.kept.kept⟩
set_option maxRecDepth 100000 in
set_option maxHeartbeats 4000000 in
theorem check_list (l : List Nod) (bl ol cl : Nat) (w : World) (hq : Sat w [] [.row bl ol 19 l.length (rowOf l)] w) (hl : l.length ≤ 2000) (hw : wholeB l (walk0 l) = false) :
    Calls Try.prog 44 #[.slice (some ⟨bl, ol, none⟩) l.length cl] w fun e' w' => e' = .returned (.int .i64 50) ∧ Kept w w' := by
  refine g_enter (args := [.slice (some ⟨bl, ol, none⟩) l.length cl]) [] [.row bl ol 19 l.length (rowOf l)] Try.func44 rfl Try.ntmps44 (Nat.le_of_ble_eq_true (by kernel_rfl)) hq ?_
  refine g_run 9999 [] 0 (by kernel_rfl) ?_
  refine g_callq _ _ _ ?_ (fun w hs => outline_list l bl ol cl w (hs.read [0] [.row bl ol 19 l.length (rowOf l)] (by kernel_rfl)) hl hw) ?_
  · kernel_rfl
  refine g_run 9999 [] 0 (by kernel_rfl) ?_
  refine g_new (fun b => by kernel_rfl) fun b1 hb1 => ?_
  refine g_run 9999 ([1, 1]) 0 (by kernel_rfl) ?_
  refine g_ret [] (Value.int IntKind.i64 50) (by kernel_rfl) (by kernel_rfl) (by kernel_rfl) fun w' hs => ?_
  exact ⟨rfl, hs.kept.kept⟩
set_option maxRecDepth 100000 in
set_option maxHeartbeats 4000000 in
theorem check_deep (l : List Nod) (bl ol cl : Nat) (w : World) (hq : Sat w [] [.row bl ol 19 l.length (rowOf l)] w) (Wf : Wk) (hl : l.length ≤ 2000) (hw : wholeB l (walk0 l) = true) (hW : walkW l l.length 0 (walk0 l) = some Wf) (hd : 40 < Wf.d) :
    Calls Try.prog 44 #[.slice (some ⟨bl, ol, none⟩) l.length cl] w fun e' w' => e' = .returned (.int .i64 51) ∧ Kept w w' := by
  refine g_enter (args := [.slice (some ⟨bl, ol, none⟩) l.length cl]) [] [.row bl ol 19 l.length (rowOf l)] Try.func44 rfl Try.ntmps44 (Nat.le_of_ble_eq_true (by kernel_rfl)) hq ?_
  refine g_run 9999 [] 0 (by kernel_rfl) ?_
  refine g_callq _ _ _ ?_ (fun w hs => outline_deep l bl ol cl w (hs.read [0] [.row bl ol 19 l.length (rowOf l)] (by kernel_rfl)) Wf hl hw hW hd) ?_
  · kernel_rfl
  refine g_run 9999 [] 0 (by kernel_rfl) ?_
  refine g_new (fun b => by kernel_rfl) fun b1 hb1 => ?_
  refine g_run 9999 ([1, 1]) 0 (by kernel_rfl) ?_
  refine g_ret [] (Value.int IntKind.i64 51) (by kernel_rfl) (by kernel_rfl) (by kernel_rfl) fun w' hs => ?_
  exact ⟨rfl, hs.kept.kept⟩
set_option maxRecDepth 100000 in
set_option maxHeartbeats 4000000 in
theorem check_ok (l : List Nod) (bl ol cl : Nat) (w : World) (hq : Sat w [] [.row bl ol 19 l.length (rowOf l)] w) (Wf : Wk) (hl : l.length ≤ 2000) (hw : wholeB l (walk0 l) = true) (hW : walkW l l.length 0 (walk0 l) = some Wf) (hd : Wf.d ≤ 40) :
    Calls Try.prog 44 #[.slice (some ⟨bl, ol, none⟩) l.length cl] w fun e' w' => e' = .returned (.int .i64 0) ∧ Kept w w' := by
  refine g_enter (args := [.slice (some ⟨bl, ol, none⟩) l.length cl]) [] [.row bl ol 19 l.length (rowOf l)] Try.func44 rfl Try.ntmps44 (Nat.le_of_ble_eq_true (by kernel_rfl)) hq ?_
  refine g_run 9999 [] 0 (by kernel_rfl) ?_
  refine g_call (X := Nat) _ _ ?_ (fun bb => .tuple #[.agg #[.slice (some ⟨bl, ol, none⟩) l.length cl, .slice (some ⟨bb, 0, none⟩) l.length l.length], .int .i64 0]) (fun _ => [.row bl ol 19 l.length (rowOf l)]) (fun w hs => (outline_ok l bl ol cl w (hs.read [0] [.row bl ol 19 l.length (rowOf l)] (by kernel_rfl)) Wf hl hw hW hd).mono fun _ _ h => h.elim fun bb h => ⟨bb, h.1, (hs.at (by kernel_rfl)).of_kept h.2.2.2⟩) (fun bb => ?_)
  · kernel_rfl
  refine g_run 9999 [] 0 (by kernel_rfl) ?_
  refine g_new (fun b => by kernel_rfl) fun b1 hb1 => ?_
  refine g_run 9999 ([1, 1]) 0 (by kernel_rfl) ?_
  refine g_ret [] (Value.int IntKind.i64 0) (by kernel_rfl) (by kernel_rfl) (by kernel_rfl) fun w' hs => ?_
  exact ⟨rfl, hs.kept.kept⟩
theorem check_any (l : List Nod) (bl ol cl : Nat) (w : World) (hq : Sat w [] [.row bl ol 19 l.length (rowOf l)] w) :
    Calls Try.prog 44 #[.slice (some ⟨bl, ol, none⟩) l.length cl] w fun e' w' => e' = .returned (.int .i64 (checkB l)) ∧ Kept w w' := by
  by_cases hl : 2000 < l.length
  · rw [show checkB l = 6 by simp [checkB, hl]]
    exact check_size l bl ol cl w hq hl
  · have hl' : l.length ≤ 2000 := by omega
    cases hW : walkW l l.length 0 (walk0 l) with
    | none =>
      rw [show checkB l = 50 by simp [checkB, hl, hW]]
      exact check_list l bl ol cl w hq hl' (by simp [wholeB, hW])
    | some W =>
      by_cases ho : W.os.length = 0
      · have hw : wholeB l (walk0 l) = true := by simp only [wholeB, hW, ho, decide_true]
        by_cases hd : 40 < W.d
        · rw [show checkB l = 51 by simp only [checkB, hl, hW, ho, hd, decide_true, decide_false, cond_true, cond_false]]
          exact check_deep l bl ol cl w hq W hl' hw hW hd
        · rw [show checkB l = 0 by simp only [checkB, hl, hW, ho, hd, decide_true, decide_false, cond_true, cond_false]]
          exact check_ok l bl ol cl w hq W hl' hw hW (by omega)
      · have hw : wholeB l (walk0 l) = false := by simp only [wholeB, hW, ho, decide_false]
        rw [show checkB l = 50 by simp only [checkB, hl, hW, ho, decide_false, cond_false]]
        exact check_list l bl ol cl w hq hl' hw
end Go.Proofs.Ytcncfmjfgdbfeab
