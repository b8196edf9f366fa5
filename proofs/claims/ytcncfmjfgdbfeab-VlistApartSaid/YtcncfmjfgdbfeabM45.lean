/- NodCn2 NodJn2. -/
import Derived.Test.YtcncfmjfgdbfeabNodCh
import Derived.Test.YtcncfmjfgdbfeabNodJoin
namespace Go.Proofs.Ytcncfmjfgdbfeab
open Go.RowKit

theorem Sat.one {w w' : World} {bb : Nat} {cs : List Value} {T : TypeId} (k : Kept w w') (hb : w.heap.size ≤ bb) (h : w'.heap[bb]? = some (.cells cs.toArray T (0, 0))) : Sat w [] [.obj true bb cs T] w' :=
  ⟨.of_kept k, fun e he => by
    rw [List.mem_singleton.1 he]
    exact ⟨h, fun _ => .inl hb⟩, fun i j e e' hij hi hj => by
    have hi' := (List.getElem?_eq_some_iff.1 hi).1
    have hj' := (List.getElem?_eq_some_iff.1 hj).1
    simp at hi' hj'
    omega⟩
set_option maxRecDepth 100000 in
set_option maxHeartbeats 4000000 in
theorem nwhole_any (nb : Option Addr) (nn nc : Nat) (bb : Option Addr) (bn bc : Nat) (w : World) :
    Calls Try.prog 68 #[.agg #[.slice nb nn nc, .slice bb bn bc]] w fun e w' => e = .returned (.agg #[.int .i64 0, .int .i64 (nn : Int)]) ∧ Kept w w' := by
  refine g_enter (args := [.agg #[.slice nb nn nc, .slice bb bn bc]]) [] [] Try.func68 rfl Try.ntmps68 (Nat.le_of_ble_eq_true (by kernel_rfl)) (sat0 w) ?_
  refine g_run 9999 [] 0 (by kernel_rfl) ?_
  refine g_new (fun b => by kernel_rfl) fun b0 hb0 => ?_
  refine g_new (fun b => by kernel_rfl) fun b1 hb1 => ?_
  refine g_run 9999 ([0] ++ [1, 1]) 0 (by kernel_rfl) ?_
  refine g_ret ([1, 1]) (Value.agg (Array.mk [Value.int IntKind.i64 0, Value.int IntKind.i64 (↑nn : Int)])) (by kernel_rfl) (by kernel_rfl) (by kernel_rfl) fun w' hs => ?_
  exact ⟨rfl, hs.kept.kept⟩
theorem countv_any (beh : List Nat) (bb : Nat) (nb : Option Addr) (nn nc fr to f n : Nat) (hn : (itemsF beh to f fr).length = n) (hok : okF beh to f fr) (hlen : beh.length = to) (hn2 : n ≤ 1000000) (w : World) (hb : w.heap[bb]? = some (.cells (behC beh).toArray 3 (0, 0))) :
    Calls Try.prog 67 #[.agg #[.slice nb nn nc, .slice (some ⟨bb, 0, none⟩) to to], .agg #[.int .i64 (fr : Int), .int .i64 (to : Int)]] w fun e w' => e = .returned (.int .i64 (n : Int)) ∧ Kept w w' := by
  have h := count_any beh bb nb nn nc fr to f hok (by omega) w hb
  rw [hlen, hn] at h
  exact h
set_option maxRecDepth 100000 in
set_option maxHeartbeats 4000000 in
theorem countOk_any (l : List Nod) (bl ol cl : Nat) (w : World) (hq : Sat w [] [.row bl ol 19 l.length (rowOf l)] w) (Wf : Wk) (hl : l.length ≤ 2000) (hw : wholeB l (walk0 l) = true) (hW : walkW l l.length 0 (walk0 l) = some Wf) (hd : Wf.d ≤ 40) (n : Nat) (hn : (itemsF Wf.beh l.length l.length 0).length = n) (hok : okF Wf.beh l.length l.length 0) (hlen : Wf.beh.length = l.length) (hn2 : n ≤ 1000000) :
    Calls Try.prog 41 #[.slice (some ⟨bl, ol, none⟩) l.length cl] w fun e w' => e = .returned (.tuple #[.int .i64 (n : Int), .int .i64 0]) ∧ Kept w w' := by
  refine g_enter (args := [.slice (some ⟨bl, ol, none⟩) l.length cl]) [] [.row bl ol 19 l.length (rowOf l)] Try.func41 rfl Try.ntmps41 (Nat.le_of_ble_eq_true (by kernel_rfl)) hq ?_
  refine g_run 9999 [] 0 (by kernel_rfl) ?_
  refine g_call (X := Nat) _ _ ?_ (fun bb => .tuple #[.agg #[.slice (some ⟨bl, ol, none⟩) l.length cl, .slice (some ⟨bb, 0, none⟩) l.length l.length], .int .i64 0]) (fun bb => [.row bl ol 19 l.length (rowOf l)] ++ [.obj true bb (behC Wf.beh) 3])
    (fun w1 hs => (outline_ok l bl ol cl w1 (hs.read [0] [.row bl ol 19 l.length (rowOf l)] (by kernel_rfl)) Wf hl hw hW hd).mono fun e w2 ⟨bb, h1, h2, h3, h4⟩ => ⟨bb, h1, (Sat.at hs (by kernel_rfl)).more (Sat.one h4 h2 h3) (by simp [HE.own])⟩) (fun bb => ?_)
  · kernel_rfl
  refine g_run 9999 [] 0 (by kernel_rfl) ?_
  refine g_new (fun b => by kernel_rfl) fun b2 hb2 => ?_
  refine g_run 9999 ([2, 2]) 1 (by kernel_rfl) ?_
  refine g_draw 6 (by kernel_rfl) (by kernel_rfl) ?_
  refine l_run 9999 (List.replicate 4 2) 0 (by kernel_rfl) ?_
  refine l_callq _ _ _ ?_ (fun w hs => nwhole_any (some ⟨bl, ol, none⟩) l.length cl (some ⟨bb, 0, none⟩) l.length l.length w) ?_
  · kernel_rfl
  refine l_callq _ _ _ ?_ (fun w hs => countv_any Wf.beh bb (some ⟨bl, ol, none⟩) l.length cl 0 l.length l.length n hn hok hlen hn2 w (hs.obj (o := true) (i := 1) (by kernel_rfl))) ?_
  · kernel_rfl
  refine l_run 9999 [] 0 (by kernel_rfl) ?_
  refine l_end (by kernel_rfl) ?_
  refine g_ret [] (Value.tuple (Array.mk [Value.int IntKind.i64 (↑n : Int), Value.int IntKind.i64 0])) (by kernel_rfl) (by kernel_rfl) (by kernel_rfl) fun w' hs => ?_
  exact ⟨rfl, hs.kept.kept⟩
end Go.Proofs.Ytcncfmjfgdbfeab
namespace Go.Proofs.Ytcncfmjfgdbfeab
open Go.RowKit

theorem deep_nonneg {d : Int} {m : Nat} (h : 0 ≤ d) : 0 ≤ deep d m := by unfold deep; split <;> omega
theorem step_d {l : List Nod} {at_ : Nat} {W W' : Wk} (h : stepW l at_ W = some W') (hd : 0 ≤ W.d) : 0 ≤ W'.d := by
  unfold stepW at h
  by_cases h6 : (nth l at_).kind = 6
  · simp only [h6, decide_true, cond_true] at h
    unfold leaveW at h
    split at h
    · cases h
    · rename_i p hp
      cases hb : (inDiscB l W.os && !decide (p.2 = 2)) with
      | true => rw [hb] at h; cases h
      | false => rw [hb] at h; simp only [cond_false, Option.some.injEq] at h; subst h; exact hd
  · simp only [h6, decide_false, cond_false] at h
    by_cases h11 : (nth l at_).kind = 11
    · simp only [h11, decide_true, cond_true] at h
      unfold partW at h
      split at h
      · cases h
      · rename_i p hp
        cases hb : (inDiscB l W.os && decide (p.2 + 1 ≤ 2)) with
        | false => rw [hb] at h; cases h
        | true => rw [hb] at h; simp only [cond_true, Option.some.injEq] at h; subst h; exact hd
    · simp only [h11, decide_false, cond_false] at h
      cases hb : (!inDiscB l W.os || brokenB (nth l at_)) with
      | false => rw [hb] at h; cases h
      | true =>
        rw [hb, cond_true, Option.some.injEq] at h
        subst h
        cases enters (nth l at_).kind with
        | true => exact deep_nonneg hd
        | false => exact deep_nonneg hd
theorem walk_d {l : List Nod} : ∀ {n at_ : Nat} {W W' : Wk}, walkW l n at_ W = some W' → 0 ≤ W.d → 0 ≤ W'.d
  | 0, at_, W, W', h, hd => by
    simp only [walkW, Option.some.injEq] at h
    subst h; exact hd
  | n + 1, at_, W, W', h, hd => by
    unfold walkW at h
    cases hr : rightB (nth l at_) with
    | false => rw [hr] at h; cases h
    | true =>
      rw [hr, cond_true] at h
      split at h
      · rename_i W1 h1
        exact walk_d h (step_d h1 hd)
      · cases h
/-- a list that is one, and how its walk ends -/
structure Good (l : List Nod) (W : Wk) : Prop where
  le : l.length ≤ 2000
  walk : walkW l l.length 0 (walk0 l) = some W
  os : W.os.length = 0
  d : W.d ≤ 40
theorem good_of {l : List Nod} (h : checkB l = 0) : ∃ W, Good l W := by
  unfold checkB at h
  by_cases hl : 2000 < l.length
  · simp [hl] at h
  · simp only [hl, decide_false, cond_false] at h
    split at h
    · cases h
    · rename_i W hW
      by_cases ho : W.os.length = 0
      · simp only [ho, decide_true, cond_true] at h
        by_cases hd : 40 < W.d
        · simp [hd] at h
        · exact ⟨W, by omega, hW, ho, by omega⟩
      · simp [ho] at h
theorem Good.check {l : List Nod} {W : Wk} (h : Good l W) : checkB l = 0 := by
  unfold checkB
  have h1 := h.le
  have h2 := h.d
  have e : ¬ 2000 < l.length := by omega
  have e2 : ¬ 40 < W.d := by omega
  simp [e, h.walk, h.os, e2]
theorem Good.whole {l : List Nod} {W : Wk} (h : Good l W) : wholeB l (walk0 l) = true := by
  unfold wholeB
  simp [h.walk, h.os]
theorem Good.join {a b : List Nod} {A B : Wk} (ha : Good a A) (hb : Good b B) (hl : a.length + b.length ≤ 2000) : Good (a ++ b) (mvW A a.length B) := by
  refine ⟨by simpa using hl, walk_join ha.walk hb.walk ha.os (walk_d ha.walk (by simp [walk0])), ?_, ?_⟩
  · have := hb.os
    simp only [mvW, List.length_map]; exact this
  · have h1 := ha.d
    have h2 := hb.d
    simp only [mvW]
    split <;> omega
/-- how many items -/
def countN (l : List Nod) (W : Wk) : Nat := (itemsF W.beh l.length l.length 0).length
theorem Good.count {a b : List Nod} {A B : Wk} (ha : Good a A) (hb : Good b B) : countN (a ++ b) (mvW A a.length B) = countN a A + countN b B :=
  items_join ha.walk hb.walk ha.os hb.os
theorem items_le {beh : List Nat} {to : Nat} : ∀ {f at_ : Nat}, (itemsF beh to f at_).length ≤ f
  | 0, _ => by simp [itemsF]
  | f + 1, at_ => by
    simp only [itemsF]
    split
    · have := items_le (beh := beh) (to := to) (f := f) (at_ := beh.getD at_ 0)
      simp only [List.length_cons]; omega
    · simp
theorem goodCount_any (l : List Nod) (bl ol cl : Nat) (W : Wk) (hG : Good l W) (w : World) (hq : Sat w [] [.row bl ol 19 l.length (rowOf l)] w) :
    Calls Try.prog 41 #[.slice (some ⟨bl, ol, none⟩) l.length cl] w fun e w' => e = .returned (.tuple #[.int .i64 (countN l W : Int), .int .i64 0]) ∧ Kept w w' := by
  obtain ⟨h1, h2⟩ := good_ch hG.walk hG.os
  have h3 : countN l W ≤ l.length := items_le
  have h4 := hG.le
  exact countOk_any l bl ol cl w hq W hG.le hG.whole hG.walk hG.d (countN l W) rfl (h1.ok l.length (by omega)) h2 (by omega)
end Go.Proofs.Ytcncfmjfgdbfeab
