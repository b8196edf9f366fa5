/- NodTu NodW NodX. -/
import Derived.Test.YtnpccfcplgonkaaNodTr
import Derived.Test.YtnpccfcplgonkaaM33
namespace Go.Proofs.Ytnpccfcplgonkaa
open Go.RowKit

theorem rowTot_any (l : List Nod) (W : Wk) (hG : Good l W) (bl ol cl bb bo : Nat) (w : World) (hq : Sat w [] [.row bl ol 19 l.length (rowOf l), .obj false bb (behC W.beh) 3, .obj false bo [.slice (some ⟨bl, ol, none⟩) l.length cl, .slice (some ⟨bb, 0, none⟩) l.length l.length] 141] w) :
    Calls Try.prog 77 #[.func (.func 125) #[] #[.pointer (some ⟨bo, 0, none⟩)], .agg alongL.toArray] w fun e w' => e = .returned (sumR alongV (rowN l W)) ∧ Kept w w' :=
  totRow_any l W hG (natF alongV (rowN l W) 0) (skF (rowN l W)) rfl rfl (Nat.le_trans (skF_len (rowN l W)) (Nat.le_trans (rowN_len hG) hG.le)) (skF_glued (rowN_right hG)) (fun k hk => hG.right k hk) bl ol cl bb bo w hq
theorem rowTot2_any (l : List Nod) (W : Wk) (hG : Good l W) (bl ol cl bb bo : Nat) (w : World) (hq : Sat w [] [.row bl ol 19 l.length (rowOf l), .obj false bb (behC W.beh) 3, .obj false bo [.slice (some ⟨bl, ol, none⟩) l.length cl, .slice (some ⟨bb, 0, none⟩) l.length l.length] 141] w) :
    Calls Try.prog 77 #[.func (.func 125) #[] #[.pointer (some ⟨bo, 0, none⟩)], .agg alongL.toArray] w fun e w' => e = .returned (.tuple #[totV (sumA alongV (rowN l W)), .int .i64 (sumE alongV (rowN l W))]) ∧ Kept w w' := by
  rw [← sumR_eq]
  exact rowTot_any l W hG bl ol cl bb bo w hq
set_option maxRecDepth 100000 in
set_option maxHeartbeats 4000000 in
theorem totAcross_any (l : List Nod) (bl ol cl : Nat) (W : Wk) (hG : Good l W) (w : World) (hq : Sat w [] [.row bl ol 19 l.length (rowOf l)] w) :
    Calls Try.prog 41 #[.slice (some ⟨bl, ol, none⟩) l.length cl, .bool false] w fun e w' => e = .returned (.tuple #[totV (sumA alongV (rowN l W)), .int .i64 (sumE alongV (rowN l W))]) ∧ Kept w w' := by
  refine g_enter (args := [.slice (some ⟨bl, ol, none⟩) l.length cl, .bool false]) [] [.row bl ol 19 l.length (rowOf l)] Try.func41 rfl Try.ntmps41 (Nat.le_of_ble_eq_true (by kernel_rfl)) hq ?_
  refine g_run 9999 [] 0 (by kernel_rfl) ?_
  refine g_new (fun b => by kernel_rfl) fun b1 hb1 => ?_
  refine g_run 9999 [] 0 (by kernel_rfl) ?_
  refine g_call (X := Nat) _ _ ?_ (fun bb => .tuple #[.agg #[.slice (some ⟨bl, ol, none⟩) l.length cl, .slice (some ⟨bb, 0, none⟩) l.length l.length], .int .i64 0]) (fun bb => [.row bl ol 19 l.length (rowOf l), .obj true b1 [.int .i64 0, .int .i64 0, .int .i64 0, .int .i64 0, .int .i64 0, .int .i64 0, .int .i64 0, .int .i64 0, .int .i64 0] 81] ++ [.obj true bb (behC W.beh) 3])
    (fun w1 hs => (outline_ok l bl ol cl w1 (hs.read [0] [.row bl ol 19 l.length (rowOf l)] (by kernel_rfl)) W hG.le hG.whole hG.walk hG.d).mono fun e w2 ⟨bb, h1, h2, h3, h4⟩ => ⟨bb, h1, (Sat.at hs (by kernel_rfl)).more (Sat.one h4 h2 h3) (by simp [HE.own])⟩) (fun bb => ?_)
  · kernel_rfl
  refine g_run 9999 [] 0 (by kernel_rfl) ?_
  refine g_new (fun b => by kernel_rfl) fun b3 hb3 => ?_
  refine g_run 9999 (List.replicate 4 3) 2 (by kernel_rfl) ?_
  refine g_call (X := Nat) _ _ ?_ (fun x => .func (.func 125) #[] #[.pointer (some ⟨x, 0, none⟩)]) (fun x => [.row bl ol 19 l.length (rowOf l), .obj true b1 [.int .i64 0, .int .i64 0, .int .i64 0, .int .i64 0, .int .i64 0, .int .i64 0, .int .i64 0, .int .i64 0, .int .i64 0] 81, .obj true bb (behC W.beh) 3, .obj true b3 [.slice (some ⟨bl, ol, none⟩) l.length cl, .slice (some ⟨bb, 0, none⟩) l.length l.length] 141] ++ [.obj true x [.slice (some ⟨bl, ol, none⟩) l.length cl, .slice (some ⟨bb, 0, none⟩) l.length l.length] 141])
    (fun w1 hs => (row_any _ _ _ _ _ _ w1).mono fun e w' ⟨x, he, hx⟩ => ⟨x, he, (Sat.at hs (by kernel_rfl)).more hx (by simp [HE.own])⟩) (fun x => ?_)
  · kernel_rfl
  refine g_callq _ _ _ ?_ (fun w hs => along_run w) ?_
  · kernel_rfl
  refine g_run 9999 [] 0 (by kernel_rfl) ?_
  refine g_callq _ _ _ ?_ (fun w hs => rowTot2_any l W hG bl ol cl bb x w (hs.read [0, 2, 4] _ (by kernel_rfl))) ?_
  · kernel_rfl
  refine g_run 9999 (List.replicate 9 1) 0 (by kernel_rfl) ?_
  refine g_ret (List.replicate 9 1) (.tuple #[totV (sumA alongV (rowN l W)), .int .i64 (sumE alongV (rowN l W))]) (by kernel_rfl) (by kernel_rfl) (by kernel_rfl) fun w' hs => ?_
  exact ⟨rfl, hs.kept.kept⟩
end Go.Proofs.Ytnpccfcplgonkaa
namespace Go.Proofs.Ytnpccfcplgonkaa
open Go.RowKit

set_option maxRecDepth 100000 in
set_option maxHeartbeats 4000000 in
theorem rsmall_any (n : Nod) (w : World) :
    Calls Try.prog 92 #[nodV n] w fun e w' => e = .returned (.bool (brokenB n)) ∧ Kept w w' := by
  refine g_enter (args := [nodV n]) [] [] Try.func92 rfl Try.ntmps92 (Nat.le_of_ble_eq_true (by kernel_rfl)) (sat0 w) ?_
  refine g_run 9999 [] 0 (by kernel_rfl) ?_
  refine g_new (fun b => by kernel_rfl) fun b0 hb0 => ?_
  refine g_run 9999 ([0]) 0 (by kernel_rfl) ?_
  refine g_dec 5 (n.kind == 1) (by kernel_rfl) (fun h5 => ?_) (fun h5 => ?_)
  · refine g_run 9999 [] 2 (by kernel_rfl) ?_
    refine g_ret [] (Value.bool true) (by kernel_rfl) (by kernel_rfl) (by kernel_rfl) fun w' hs => ?_
    exact ⟨ret_bool (by clear hs; (try simp at *); first | (simp [brokenB, *]; done) | (simp_all [brokenB]; done)), hs.kept.kept⟩
  · refine g_run 9999 [] 1 (by kernel_rfl) ?_
    refine g_dec 5 (n.kind == 2) (by kernel_rfl) (fun h5 => ?_) (fun h5 => ?_)
    · refine g_run 9999 [] 2 (by kernel_rfl) ?_
      refine g_ret [] (Value.bool true) (by kernel_rfl) (by kernel_rfl) (by kernel_rfl) fun w' hs => ?_
      exact ⟨ret_bool (by clear hs; (try simp at *); first | (simp [brokenB, *]; done) | (simp_all [brokenB]; done)), hs.kept.kept⟩
    · refine g_run 9999 [] 1 (by kernel_rfl) ?_
      refine g_dec 5 (n.kind == 8) (by kernel_rfl) (fun h5 => ?_) (fun h5 => ?_)
      · refine g_run 9999 [] 2 (by kernel_rfl) ?_
        refine g_ret [] (Value.bool true) (by kernel_rfl) (by kernel_rfl) (by kernel_rfl) fun w' hs => ?_
        exact ⟨ret_bool (by clear hs; (try simp at *); first | (simp [brokenB, *]; done) | (simp_all [brokenB]; done)), hs.kept.kept⟩
      · refine g_run 9999 [] 1 (by kernel_rfl) ?_
        refine g_dec 5 (n.kind == 3) (by kernel_rfl) (fun h5 => ?_) (fun h5 => ?_)
        · refine g_run 9999 [] 2 (by kernel_rfl) ?_
          refine g_ret [] (Value.bool true) (by kernel_rfl) (by kernel_rfl) (by kernel_rfl) fun w' hs => ?_
          exact ⟨ret_bool (by clear hs; (try simp at *); first | (simp [brokenB, *]; done) | (simp_all [brokenB]; done)), hs.kept.kept⟩
        · refine g_run 9999 [] 1 (by kernel_rfl) ?_
          refine g_dec 5 (n.kind == 4) (by kernel_rfl) (fun h5 => ?_) (fun h5 => ?_)
          · refine g_run 9999 [] 2 (by kernel_rfl) ?_
            refine g_ret [] (Value.bool true) (by kernel_rfl) (by kernel_rfl) (by kernel_rfl) fun w' hs => ?_
            exact ⟨ret_bool (by clear hs; (try simp at *); first | (simp [brokenB, *]; done) | (simp_all [brokenB]; done)), hs.kept.kept⟩
          · refine g_run 9999 [] 1 (by kernel_rfl) ?_
            refine g_dec 5 (n.kind == 5) (by kernel_rfl) (fun h5 => ?_) (fun h5 => ?_)
            · refine g_run 9999 [] 1 (by kernel_rfl) ?_
              refine g_ret [] (Value.bool true) (by kernel_rfl) (by kernel_rfl) (by kernel_rfl) fun w' hs => ?_
              exact ⟨ret_bool (by clear hs; (try simp at *); first | (simp [brokenB, *]; done) | (simp_all [brokenB]; done)), hs.kept.kept⟩
            · refine g_run 9999 [] 1 (by kernel_rfl) ?_
              refine g_ret [] (Value.bool false) (by kernel_rfl) (by kernel_rfl) (by kernel_rfl) fun w' hs => ?_
              exact ⟨ret_bool (by clear hs; (try simp at *); first | (simp [brokenB, *]; done) | (simp_all [brokenB]; done)), hs.kept.kept⟩
set_option maxRecDepth 100000 in
set_option maxHeartbeats 4000000 in
theorem ropens_any (n : Nod) (w : World) :
    Calls Try.prog 49 #[nodV n] w fun e w' => e = .returned (.bool (enters n.kind)) ∧ Kept w w' := by
  refine g_enter (args := [nodV n]) [] [] Try.func49 rfl Try.ntmps49 (Nat.le_of_ble_eq_true (by kernel_rfl)) (sat0 w) ?_
  refine g_run 9999 [] 0 (by kernel_rfl) ?_
  refine g_new (fun b => by kernel_rfl) fun b0 hb0 => ?_
  refine g_run 9999 ([0]) 0 (by kernel_rfl) ?_
  refine g_dec 6 (n.kind == 4) (by kernel_rfl) (fun h6 => ?_) (fun h6 => ?_)
  · refine g_run 9999 [] 12 (by kernel_rfl) ?_
    refine g_ret [] (Value.bool true) (by kernel_rfl) (by kernel_rfl) (by kernel_rfl) fun w' hs => ?_
    exact ⟨ret_bool (by clear hs; (try simp at *); first | (simp [enters, *]; done) | (rw [Bool.eq_iff_iff]; simp [enters, *]; done) | omega), hs.kept.kept⟩
  · refine g_run 9999 ([0]) 3 (by kernel_rfl) ?_
    refine g_dec 11 (n.kind == 5) (by kernel_rfl) (fun h11 => ?_) (fun h11 => ?_)
    · refine g_run 9999 [] 9 (by kernel_rfl) ?_
      refine g_ret [] (Value.bool true) (by kernel_rfl) (by kernel_rfl) (by kernel_rfl) fun w' hs => ?_
      exact ⟨ret_bool (by clear hs; (try simp at *); first | (simp [enters, *]; done) | (rw [Bool.eq_iff_iff]; simp [enters, *]; done) | omega), hs.kept.kept⟩
    · refine g_run 9999 ([0]) 3 (by kernel_rfl) ?_
      refine g_dec 16 (n.kind == 10) (by kernel_rfl) (fun h16 => ?_) (fun h16 => ?_)
      · refine g_run 9999 [] 6 (by kernel_rfl) ?_
        refine g_ret [] (Value.bool true) (by kernel_rfl) (by kernel_rfl) (by kernel_rfl) fun w' hs => ?_
        exact ⟨ret_bool (by clear hs; (try simp at *); first | (simp [enters, *]; done) | (rw [Bool.eq_iff_iff]; simp [enters, *]; done) | omega), hs.kept.kept⟩
      · refine g_run 9999 ([0]) 3 (by kernel_rfl) ?_
        refine g_dec 21 (n.kind == 13) (by kernel_rfl) (fun h21 => ?_) (fun h21 => ?_)
        · refine g_run 9999 [] 3 (by kernel_rfl) ?_
          refine g_ret [] (Value.bool true) (by kernel_rfl) (by kernel_rfl) (by kernel_rfl) fun w' hs => ?_
          exact ⟨ret_bool (by clear hs; (try simp at *); first | (simp [enters, *]; done) | (rw [Bool.eq_iff_iff]; simp [enters, *]; done) | omega), hs.kept.kept⟩
        · refine g_run 9999 ([0]) 3 (by kernel_rfl) ?_
          refine g_ret [] (Value.bool (n.kind == 17)) (by kernel_rfl) (by kernel_rfl) (by kernel_rfl) fun w' hs => ?_
          exact ⟨ret_bool (by clear hs; (try simp at *); first | (simp [enters, *]; done) | (rw [Bool.eq_iff_iff]; simp [enters, *]; done) | omega), hs.kept.kept⟩
end Go.Proofs.Ytnpccfcplgonkaa
namespace Go.Proofs.Ytnpccfcplgonkaa
open Go.RowKit

/-- what is open, as cells -/
def rC (l : List Nod) (os : List (Nat × Nat)) : List Value := os.flatMap fun p => [.bool (decide ((nth l p.1).kind = 10)), .int .i64 (p.2 : Int)]
theorem rC_length {l : List Nod} : ∀ os : List (Nat × Nat), (rC l os).length = os.length * 2
  | [] => rfl
  | p :: r => by
    have := rC_length (l := l) r
    simp only [rC, List.flatMap_cons, List.length_append, List.length_cons, List.length_nil] at *
    omega
theorem rC_append {l : List Nod} (a b : List (Nat × Nat)) : rC l (a ++ b) = rC l a ++ rC l b := by simp [rC]
/-- the row of what is open: none yet, or a block of one's own -/
def ROpen (l : List Nod) (os : List (Nat × Nat)) (base : Option Addr) (cap : Nat) (e : HE) : Prop :=
  (base = none ∧ os = [] ∧ cap = 0) ∨ ∃ bo oc, base = some ⟨bo, 0, none⟩ ∧ e = .obj true bo oc 169 ∧ oc.length = cap * 2 ∧ os.length ≤ cap ∧ oc.take (os.length * 2) = rC l os
/-- the cells of the last one -/
theorem ROpen.last {l : List Nod} {os : List (Nat × Nat)} {p : Nat × Nat} {base : Option Addr} {cap : Nat} {e : HE} (h : ROpen l (os ++ [p]) base cap e) :
    ∃ bo oc, base = some ⟨bo, 0, none⟩ ∧ e = .obj true bo oc 169 ∧ oc.length = cap * 2 ∧ os.length + 1 ≤ cap ∧ oc.take ((os.length + 1) * 2) = rC l (os ++ [p]) ∧
      oc[0 + os.length * 2]? = some (.bool (decide ((nth l p.1).kind = 10))) ∧ oc[0 + os.length * 2 + 1]? = some (.int .i64 (p.2 : Int)) := by
  rcases h with ⟨_, h, _⟩ | ⟨bo, oc, h1, h2, h3, h4, h5⟩
  · simp at h
  · simp only [List.length_append, List.length_cons, List.length_nil, Nat.zero_add] at h4 h5
    have hl := rC_length (l := l) os
    refine ⟨bo, oc, h1, h2, h3, h4, h5, ?_, ?_⟩
    · have : (oc.take ((os.length + 1) * 2))[os.length * 2]? = some (.bool (decide ((nth l p.1).kind = 10))) := by
        rw [h5, rC_append, ← hl, List.getElem?_append_right (Nat.le_refl _), Nat.sub_self]; rfl
      rw [List.getElem?_take, if_pos (by omega)] at this
      rwa [Nat.zero_add]
    · have : (oc.take ((os.length + 1) * 2))[os.length * 2 + 1]? = some (.int .i64 (p.2 : Int)) := by
        rw [h5, rC_append, ← hl, List.getElem?_append_right (by omega), Nat.add_sub_cancel_left]; rfl
      rw [List.getElem?_take, if_pos (by omega)] at this
      rwa [Nat.zero_add]
theorem rC_set {l : List Nod} {os : List (Nat × Nat)} {p : Nat × Nat} {oc : List Value} {s : Nat} (h : oc.take ((os.length + 1) * 2) = rC l (os ++ [p])) (_hl : (os.length + 1) * 2 ≤ oc.length) :
    (oc.set (0 + os.length * 2 + 1) (.int .i64 (s : Int))).take ((os.length + 1) * 2) = rC l (os ++ [(p.1, s)]) := by
  have h1 := rC_length (l := l) os
  rw [List.take_set, h, rC_append, rC_append, List.set_append_right _ _ (by omega)]
  congr 1
  rw [show 0 + os.length * 2 + 1 - (rC l os).length = 1 by omega]
  rfl
theorem ROpen.less {l : List Nod} {os : List (Nat × Nat)} {p : Nat × Nat} {bo cap : Nat} {oc : List Value} (h : oc.take ((os.length + 1) * 2) = rC l (os ++ [p])) (h1 : oc.length = cap * 2) (h2 : os.length + 1 ≤ cap) :
    ROpen l os (some ⟨bo, 0, none⟩) cap (.obj true bo oc 169) :=
  .inr ⟨bo, oc, rfl, rfl, h1, by omega, by
    have hl := rC_length (l := l) os
    have := congrArg (List.take (os.length * 2)) h
    rw [List.take_take, Nat.min_eq_left (by omega), rC_append, List.take_append_of_le_length (by omega)] at this
    rw [this, List.take_of_length_le (by omega)]⟩
/-- as a row that is appended to -/
theorem ROpen.row {l : List Nod} {os : List (Nat × Nat)} {base : Option Addr} {cap : Nat} {e : HE} (h : ROpen l os base cap e) :
    ∃ oc : List Value, oc.take (os.length * 2) = rC l os ∧ ∀ hp : List HE, hp[1]? = some e → RowAt hp 1 base os.length cap 2 oc 169 := by
  rcases h with ⟨h1, h2, h3⟩ | ⟨bo, oc, h1, h2, h3, h4, h5⟩
  · subst h2
    exact ⟨[], rfl, fun hp hh => ⟨(List.getElem?_eq_some_iff.1 hh).1, .inl ⟨h1, rfl, h3⟩⟩⟩
  · exact ⟨oc, h5, fun hp hh => ⟨(List.getElem?_eq_some_iff.1 hh).1, .inr ⟨bo, h1, by rw [hh, h2], h3, h4⟩⟩⟩
theorem ROpen.grow {l : List Nod} {os : List (Nat × Nat)} {p : Nat × Nat} {b' cap' : Nat} {oc cs' : List Value} (h : oc.take (os.length * 2) = rC l os) (hc : os.length + 1 ≤ cap') (hl : cs'.length = cap' * 2)
    (ht : cs'.take ((os.length + 1) * 2) = oc.take (os.length * 2) ++ [.bool (decide ((nth l p.1).kind = 10)), .int .i64 (p.2 : Int)]) : ROpen l (os ++ [p]) (some ⟨b', 0, none⟩) cap' (.obj true b' cs' 169) :=
  .inr ⟨b', cs', rfl, rfl, hl, by simpa using hc, by
    rw [show (os ++ [p]).length = os.length + 1 by simp, ht, h, rC_append]; rfl⟩
end Go.Proofs.Ytnpccfcplgonkaa
