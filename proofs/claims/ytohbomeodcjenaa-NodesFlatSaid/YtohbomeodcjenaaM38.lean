/- NodAdd NodTd. -/
import Derived.Test.YtohbomeodcjenaaM37
namespace Go.Proofs.Ytohbomeodcjenaa
open Go.RowKit

theorem itemsL_right {A B : List Nat} {s e : Nat} (h : Ch B s e) : ∀ f, itemsF (A ++ B.map (sh A.length)) (e + A.length) f (s + A.length) = (itemsF B e f s).map (· + A.length) := by
  induction h with
  | refl s => intro f; cases f <;> simp [itemsF]
  | @step s e h1 h2 h3 ih =>
    intro f
    have := h3.le
    cases f with
    | zero => rfl
    | succ f =>
      simp only [itemsF]
      rw [if_pos (by omega), if_pos (by omega), getD_right h1, sh_pos h2]
      simp only [List.map_cons, ih f]
theorem itemsL_left {A B : List Nat} {s e : Nat} (h : Ch A s e) : ∀ (T f : Nat), e ≤ T → T - s ≤ f → Ch (A ++ B) e T → itemsF (A ++ B) T f s = itemsF A e f s ++ itemsF (A ++ B) T f e := by
  induction h with
  | refl s => intro T f _ _ _; cases f <;> simp [itemsF]
  | @step s e h1 h2 h3 ih =>
    intro T f hT hf h4
    have := h3.le
    cases f with
    | zero => omega
    | succ f =>
      have h5 := ih T f hT (by omega) h4
      have h6 := h4.fuel (f + 1) f (by omega) (by omega)
      rw [h6]
      simp only [itemsF]
      rw [if_pos (by omega), if_pos (by omega), getD_left h1]
      simp only [List.cons_append, h5]
/-- the items of both together -/
theorem itemsL_join {a b : List Nod} {A B : Wk} (ha : Good a A) (hb : Good b B) :
    itemsF (mvW A a.length B).beh (a ++ b).length (a ++ b).length 0 = itemsF A.beh a.length a.length 0 ++ (itemsF B.beh b.length b.length 0).map (· + a.length) := by
  obtain ⟨h1, h2⟩ := good_ch ha.walk ha.os
  obtain ⟨h3, h4⟩ := good_ch hb.walk hb.os
  have e : (mvW A a.length B).beh = A.beh ++ B.beh.map (sh A.beh.length) := by simp [mvW, h2]
  rw [e]
  have h5 := h3.right (A := A.beh)
  rw [Nat.zero_add, h2, Nat.add_comm b.length, ← List.length_append] at h5
  have h6 := itemsL_left (B := B.beh.map (sh A.beh.length)) h1 (a ++ b).length (a ++ b).length (by simp) (by omega) (by rw [h2]; exact h5)
  rw [h6, h1.fuel (a ++ b).length a.length (by simp) (by omega)]
  have h7 := itemsL_right (A := A.beh) h3 (a ++ b).length
  rw [Nat.zero_add, h2, Nat.add_comm b.length, ← List.length_append] at h7
  rw [h2, h7, h3.fuel (a ++ b).length b.length (by simp) (by omega)]
theorem items_lt {beh : List Nat} {to : Nat} : ∀ {f at_ k : Nat}, k ∈ itemsF beh to f at_ → k < to
  | 0, _, _, h => by cases h
  | f + 1, at_, k, h => by
    simp only [itemsF] at h
    split at h
    · rename_i hl
      rcases List.mem_cons.1 h with rfl | h
      · exact hl
      · exact items_lt h
    · cases h
/-- the nodes that stand as items, both together -/
theorem itemsN_join {a b : List Nod} {A B : Wk} (ha : Good a A) (hb : Good b B) :
    (itemsF (mvW A a.length B).beh (a ++ b).length (a ++ b).length 0).map (nth (a ++ b)) = (itemsF A.beh a.length a.length 0).map (nth a) ++ (itemsF B.beh b.length b.length 0).map (nth b) := by
  rw [itemsL_join ha hb, List.map_append, List.map_map]
  congr 1
  · exact List.map_congr_left fun k hk => nth_left (items_lt hk)
  · exact List.map_congr_left fun k _ => nth_right
theorem natF_app (v : Nod → Int) : ∀ (x y : List Nod) (a : Int), natF v (x ++ y) a = natF v y (natF v x a)
  | [], _, _ => rfl
  | n :: r, y, a => by simp only [List.cons_append, natF]; exact natF_app v r y _
theorem skF_app (x y : List Nod) : skF (x ++ y) = skF x ++ skF y := by simp [skF]
theorem nth_app_left {x y : List Nod} {k : Nat} (h : k < x.length) : nth (x ++ y) k = nth x k := nth_left h
theorem accN_left {x y : List Nod} : ∀ {k : Nat}, k ≤ x.length → accN (x ++ y) k = accN x k
  | 0, _ => rfl
  | k + 1, h => by simp only [accN]; rw [accN_left (by omega), nth_left (by omega)]
def In6 (a : Int) : Prop := -9223372036854775808 ≤ a ∧ a ≤ 9223372036854775807
theorem wr_eq (a b : Int) : wr a b = wrap64 (a + b) := by unfold wr wrap64; exact IntKind.wrap_i64 _
theorem wr_in (a b : Int) : In6 (wr a b) := by rw [wr_eq]; unfold In6 wrap64; omega
theorem wr_assoc (a b c : Int) : wr (wr a b) c = wr a (wr b c) := by simp only [wr_eq]; unfold wrap64; omega
theorem wr_comm (a b : Int) : wr a b = wr b a := by rw [wr_eq, wr_eq, Int.add_comm]
theorem wr_zero {a : Int} (h : In6 a) : wr a 0 = a := by rw [wr_eq]; unfold In6 at h; unfold wrap64; omega
theorem wr_four (a b c d : Int) : wr (wr a b) (wr c d) = wr (wr a c) (wr b d) := by simp only [wr_eq]; unfold wrap64; omega
theorem natF_shift (v : Nod → Int) : ∀ (y : List Nod) {a : Int}, In6 a → natF v y a = wr a (natF v y 0)
  | [], _, h => (wr_zero h).symm
  | n :: r, a, _ => by
    simp only [natF]
    rw [natF_shift v r (wr_in a (v n)), natF_shift v r (wr_in 0 (v n)), wr_assoc, wr_assoc]
    simp only [wr_eq]; unfold wrap64; omega
theorem natF_in (v : Nod → Int) : ∀ (y : List Nod) {a : Int}, In6 a → In6 (natF v y a)
  | [], _, h => h
  | n :: r, a, _ => by simp only [natF]; exact natF_in v r (wr_in _ _)
theorem natF_join (v : Nod → Int) (x y : List Nod) : natF v (x ++ y) 0 = wr (natF v x 0) (natF v y 0) := by
  rw [natF_app, natF_shift v y (natF_in v x ⟨by omega, by omega⟩)]
def addA (p q : Acc) : Acc := ⟨wr p.nat q.nat, wr p.m0 q.m0, wr p.m1 q.m1, wr p.m2 q.m2, wr p.m3 q.m3, wr p.l0 q.l0, wr p.l1 q.l1, wr p.l2 q.l2, wr p.l3 q.l3⟩
structure InA (p : Acc) : Prop where
  nat : In6 p.nat
  m0 : In6 p.m0
  m1 : In6 p.m1
  m2 : In6 p.m2
  m3 : In6 p.m3
  l0 : In6 p.l0
  l1 : In6 p.l1
  l2 : In6 p.l2
  l3 : In6 p.l3
theorem if_in {c : Prop} [Decidable c] {a b : Int} (h : In6 a) : In6 (if c then wr a b else a) := by
  split
  · exact wr_in _ _
  · exact h
theorem accS_in {p : Acc} (n : Nod) (h : InA p) : InA (accS p n) :=
  ⟨wr_in _ _, if_in h.m0, if_in h.m1, if_in h.m2, if_in h.m3, if_in h.l0, if_in h.l1, if_in h.l2, if_in h.l3⟩
theorem accN_in (ss : List Nod) : ∀ k, InA (accN ss k)
  | 0 => by have h : In6 0 := ⟨by decide, by decide⟩; exact ⟨h, h, h, h, h, h, h, h, h⟩
  | k + 1 => accS_in _ (accN_in ss k)
theorem if_wr {c : Prop} [Decidable c] (p q b : Int) : (if c then wr (wr p q) b else wr p q) = wr p (if c then wr q b else q) := by
  split
  · exact wr_assoc _ _ _
  · rfl
theorem accS_add (p q : Acc) (n : Nod) : accS (addA p q) n = addA p (accS q n) := by
  simp only [accS, addA, if_wr]
  rw [wr_assoc]
theorem addA_zero {p : Acc} (h : InA p) : addA p acc0 = p := by
  obtain ⟨a, b, c, d, e, f, g, i, j⟩ := p
  simp only [addA, acc0, wr_zero h.nat, wr_zero h.m0, wr_zero h.m1, wr_zero h.m2, wr_zero h.m3, wr_zero h.l0, wr_zero h.l1, wr_zero h.l2, wr_zero h.l3]
theorem accN_add (x y : List Nod) : ∀ k, k ≤ y.length → accN (x ++ y) (x.length + k) = addA (accN x x.length) (accN y k)
  | 0, _ => by simp only [Nat.add_zero, accN]; rw [accN_left (Nat.le_refl _), addA_zero (accN_in x _)]
  | k + 1, h => by
    show accS (accN (x ++ y) (x.length + k)) (nth (x ++ y) (x.length + k)) = addA _ (accS (accN y k) (nth y k))
    rw [accN_add x y k (by omega), accS_add, Nat.add_comm x.length k, nth_right]
theorem accN_join (x y : List Nod) : accN (x ++ y) (x ++ y).length = addA (accN x x.length) (accN y y.length) := by
  rw [List.length_append]; exact accN_add x y _ (Nat.le_refl _)
end Go.Proofs.Ytohbomeodcjenaa
namespace Go.Proofs.Ytohbomeodcjenaa
open Go.RowKit

theorem walk_each {l : List Nod} : ∀ {n at_ : Nat} {W W' : Wk}, walkW l n at_ W = some W' → ∀ k, at_ ≤ k → k < at_ + n → rightB (nth l k) = true
  | 0, _, _, _, _, k, h1, h2 => by omega
  | n + 1, at_, W, W', h, k, h1, h2 => by
    simp only [walkW] at h
    cases hr : rightB (nth l at_) with
    | false => rw [hr] at h; cases h
    | true =>
      rw [hr, cond_true] at h
      by_cases he : k = at_
      · rw [he]; exact hr
      · split at h
        · exact walk_each h k (by omega) (by omega)
        · cases h
/-- each node of a list that is one is right -/
theorem Good.right {l : List Nod} {W : Wk} (h : Good l W) (k : Nat) (hk : k < l.length) : rightB (nth l k) = true := walk_each h.walk k (Nat.zero_le _) (by omega)
/-- what a column is -/
def colN (l : List Nod) (W : Wk) : List Nod := (itemsF W.beh l.length l.length 0).map (nth l)
theorem colN_len (l : List Nod) (W : Wk) : (colN l W).length ≤ l.length := by simp only [colN, List.length_map]; exact items_le
theorem nth_mem {S : List Nod} {k : Nat} (h : k < S.length) : nth S k ∈ S := by simp [nth, List.getD, h]
theorem colN_right {l : List Nod} {W : Wk} (h : Good l W) : ∀ n ∈ colN l W, rightB n = true := fun n hn => by
  obtain ⟨k, hk, rfl⟩ := List.mem_map.1 hn
  exact h.right k (items_lt hk)
theorem skF_glued {ns : List Nod} (h : ∀ n ∈ ns, rightB n = true) : ∀ k, k < (skF ns).length → gluedB (nth (skF ns) k) = true := fun k hk => by
  have h1 := List.mem_filter.1 (nth_mem hk)
  exact skip_glued (h _ h1.1) (of_decide_eq_true h1.2)
theorem skF_len (ns : List Nod) : (skF ns).length ≤ ns.length := List.length_filter_le _ _
/-- the totals of what stands in a row or column -/
def sumR (v : Nod → Int) (ns : List Nod) : Value := totR (accN (skF ns) (skF ns).length) (natF v ns 0)
theorem colTot_any (l : List Nod) (W : Wk) (hG : Good l W) (bl ol cl bb bo : Nat) (w : World) (hq : Sat w [] [.row bl ol 19 l.length (rowOf l), .obj false bb (behC W.beh) 3, .obj false bo [.slice (some ⟨bl, ol, none⟩) l.length cl, .slice (some ⟨bb, 0, none⟩) l.length l.length] 141] w) :
    Calls Try.prog 77 #[.func (.func 121) #[] #[.pointer (some ⟨bo, 0, none⟩)], .agg uprightL.toArray] w fun e w' => e = .returned (sumR uprightV (colN l W)) ∧ Kept w w' :=
  totCol_any l W hG (natF uprightV (colN l W) 0) (skF (colN l W)) rfl rfl (by have := skF_len (colN l W); have := colN_len l W; have := hG.le; omega) (skF_glued (colN_right hG)) (fun k hk => hG.right k hk) bl ol cl bb bo w hq
def totA (a : Acc) (T : Int) : Acc := bif dimB (wr a.nat T) then { a with nat := wr a.nat T } else acc0
def totE (a : Acc) (T : Int) : Int := bif dimB (wr a.nat T) then 0 else 20
theorem totR_eq (a : Acc) (T : Int) : totR a T = .tuple #[totV (totA a T), .int .i64 (totE a T)] := by
  unfold totR totA totE
  cases dimB (wr a.nat T) <;> rfl
def sumA (v : Nod → Int) (ns : List Nod) : Acc := totA (accN (skF ns) (skF ns).length) (natF v ns 0)
def sumE (v : Nod → Int) (ns : List Nod) : Int := totE (accN (skF ns) (skF ns).length) (natF v ns 0)
theorem sumR_eq (v : Nod → Int) (ns : List Nod) : sumR v ns = .tuple #[totV (sumA v ns), .int .i64 (sumE v ns)] := totR_eq _ _
theorem colTot2_any (l : List Nod) (W : Wk) (hG : Good l W) (bl ol cl bb bo : Nat) (w : World) (hq : Sat w [] [.row bl ol 19 l.length (rowOf l), .obj false bb (behC W.beh) 3, .obj false bo [.slice (some ⟨bl, ol, none⟩) l.length cl, .slice (some ⟨bb, 0, none⟩) l.length l.length] 141] w) :
    Calls Try.prog 77 #[.func (.func 121) #[] #[.pointer (some ⟨bo, 0, none⟩)], .agg uprightL.toArray] w fun e w' => e = .returned (.tuple #[totV (sumA uprightV (colN l W)), .int .i64 (sumE uprightV (colN l W))]) ∧ Kept w w' := by
  rw [← sumR_eq]
  exact colTot_any l W hG bl ol cl bb bo w hq
set_option maxRecDepth 100000 in
set_option maxHeartbeats 4000000 in
theorem column_any (nb : Option Addr) (nn nc : Nat) (bb : Option Addr) (bn bc : Nat) (w : World) :
    Calls Try.prog 78 #[.agg #[.slice nb nn nc, .slice bb bn bc]] w fun e w' => ∃ x : Nat, e = .returned (.func (.func 121) #[] #[.pointer (some ⟨x, 0, none⟩)]) ∧ Sat w [] [.obj true x [.slice nb nn nc, .slice bb bn bc] 141] w' := by
  refine g_enter (args := [.agg #[.slice nb nn nc, .slice bb bn bc]]) [] [] Try.func78 rfl Try.ntmps78 (Nat.le_of_ble_eq_true (by kernel_rfl)) (sat0 w) ?_
  refine g_run 9999 [] 0 (by kernel_rfl) ?_
  refine g_new (fun b => by kernel_rfl) fun b0 hb0 => ?_
  refine g_run 9999 [] 0 (by kernel_rfl) ?_
  refine g_ret [] (.func (.func 121) #[] #[.pointer (some ⟨b0, 0, none⟩)]) (by kernel_rfl) (by kernel_rfl) (by kernel_rfl) fun w' hs => ?_
  exact ⟨b0, rfl, hs.at (by kernel_rfl)⟩
set_option maxRecDepth 100000 in
set_option maxHeartbeats 4000000 in
theorem row_any (nb : Option Addr) (nn nc : Nat) (bb : Option Addr) (bn bc : Nat) (w : World) :
    Calls Try.prog 80 #[.agg #[.slice nb nn nc, .slice bb bn bc]] w fun e w' => ∃ x : Nat, e = .returned (.func (.func 125) #[] #[.pointer (some ⟨x, 0, none⟩)]) ∧ Sat w [] [.obj true x [.slice nb nn nc, .slice bb bn bc] 141] w' := by
  refine g_enter (args := [.agg #[.slice nb nn nc, .slice bb bn bc]]) [] [] Try.func80 rfl Try.ntmps80 (Nat.le_of_ble_eq_true (by kernel_rfl)) (sat0 w) ?_
  refine g_run 9999 [] 0 (by kernel_rfl) ?_
  refine g_new (fun b => by kernel_rfl) fun b0 hb0 => ?_
  refine g_run 9999 [] 0 (by kernel_rfl) ?_
  refine g_ret [] (.func (.func 125) #[] #[.pointer (some ⟨b0, 0, none⟩)]) (by kernel_rfl) (by kernel_rfl) (by kernel_rfl) fun w' hs => ?_
  exact ⟨b0, rfl, hs.at (by kernel_rfl)⟩
set_option maxRecDepth 100000 in
theorem upright_run (w : World) : Calls Try.prog 79 #[] w fun e w' => e = .returned (.agg uprightL.toArray) ∧ Kept w w' := by
  refine g_enter (args := []) [] [] Try.func79 rfl Try.ntmps79 (Nat.le_of_ble_eq_true (by kernel_rfl)) (sat0 w) ?_
  refine g_run 9999 [] 0 (by kernel_rfl) ?_
  refine g_new (fun b => by kernel_rfl) fun b0 hb0 => ?_
  refine g_run 9999 (List.replicate 18 0) 0 (by kernel_rfl) ?_
  refine g_ret (List.replicate 18 0) (.agg uprightL.toArray) (by kernel_rfl) (by kernel_rfl) (by kernel_rfl) fun w' hs => ?_
  exact ⟨rfl, hs.kept.kept⟩
set_option maxRecDepth 100000 in
theorem along_run (w : World) : Calls Try.prog 81 #[] w fun e w' => e = .returned (.agg alongL.toArray) ∧ Kept w w' := by
  refine g_enter (args := []) [] [] Try.func81 rfl Try.ntmps81 (Nat.le_of_ble_eq_true (by kernel_rfl)) (sat0 w) ?_
  refine g_run 9999 [] 0 (by kernel_rfl) ?_
  refine g_new (fun b => by kernel_rfl) fun b0 hb0 => ?_
  refine g_run 9999 (List.replicate 18 0) 0 (by kernel_rfl) ?_
  refine g_ret (List.replicate 18 0) (.agg alongL.toArray) (by kernel_rfl) (by kernel_rfl) (by kernel_rfl) fun w' hs => ?_
  exact ⟨rfl, hs.kept.kept⟩
set_option maxRecDepth 100000 in
set_option maxHeartbeats 4000000 in
theorem totDown_any (l : List Nod) (bl ol cl : Nat) (W : Wk) (hG : Good l W) (w : World) (hq : Sat w [] [.row bl ol 19 l.length (rowOf l)] w) :
    Calls Try.prog 41 #[.slice (some ⟨bl, ol, none⟩) l.length cl, .bool true] w fun e w' => e = .returned (.tuple #[totV (sumA uprightV (colN l W)), .int .i64 (sumE uprightV (colN l W))]) ∧ Kept w w' := by
  refine g_enter (args := [.slice (some ⟨bl, ol, none⟩) l.length cl, .bool true]) [] [.row bl ol 19 l.length (rowOf l)] Try.func41 rfl Try.ntmps41 (Nat.le_of_ble_eq_true (by kernel_rfl)) hq ?_
  refine g_run 9999 [] 0 (by kernel_rfl) ?_
  refine g_new (fun b => by kernel_rfl) fun b1 hb1 => ?_
  refine g_run 9999 [] 0 (by kernel_rfl) ?_
  refine g_call (X := Nat) _ _ ?_ (fun bb => .tuple #[.agg #[.slice (some ⟨bl, ol, none⟩) l.length cl, .slice (some ⟨bb, 0, none⟩) l.length l.length], .int .i64 0]) (fun bb => [.row bl ol 19 l.length (rowOf l), .obj true b1 [.int .i64 0, .int .i64 0, .int .i64 0, .int .i64 0, .int .i64 0, .int .i64 0, .int .i64 0, .int .i64 0, .int .i64 0] 81] ++ [.obj true bb (behC W.beh) 3])
    (fun w1 hs => (outline_ok l bl ol cl w1 (hs.read [0] [.row bl ol 19 l.length (rowOf l)] (by kernel_rfl)) W hG.le hG.whole hG.walk hG.d).mono fun e w2 ⟨bb, h1, h2, h3, h4⟩ => ⟨bb, h1, (Sat.at hs (by kernel_rfl)).more (Sat.one h4 h2 h3) (by simp [HE.own])⟩) (fun bb => ?_)
  · kernel_rfl
  refine g_run 9999 [] 0 (by kernel_rfl) ?_
  refine g_new (fun b => by kernel_rfl) fun b3 hb3 => ?_
  refine g_run 9999 (List.replicate 4 3) 2 (by kernel_rfl) ?_
  refine g_call (X := Nat) _ _ ?_ (fun x => .func (.func 121) #[] #[.pointer (some ⟨x, 0, none⟩)]) (fun x => [.row bl ol 19 l.length (rowOf l), .obj true b1 [.int .i64 0, .int .i64 0, .int .i64 0, .int .i64 0, .int .i64 0, .int .i64 0, .int .i64 0, .int .i64 0, .int .i64 0] 81, .obj true bb (behC W.beh) 3, .obj true b3 [.slice (some ⟨bl, ol, none⟩) l.length cl, .slice (some ⟨bb, 0, none⟩) l.length l.length] 141] ++ [.obj true x [.slice (some ⟨bl, ol, none⟩) l.length cl, .slice (some ⟨bb, 0, none⟩) l.length l.length] 141])
    (fun w1 hs => (column_any _ _ _ _ _ _ w1).mono fun e w' ⟨x, he, hx⟩ => ⟨x, he, (Sat.at hs (by kernel_rfl)).more hx (by simp [HE.own])⟩) (fun x => ?_)
  · kernel_rfl
  refine g_callq _ _ _ ?_ (fun w hs => upright_run w) ?_
  · kernel_rfl
  refine g_run 9999 [] 0 (by kernel_rfl) ?_
  refine g_callq _ _ _ ?_ (fun w hs => colTot2_any l W hG bl ol cl bb x w (hs.read [0, 2, 4] _ (by kernel_rfl))) ?_
  · kernel_rfl
  refine g_run 9999 (List.replicate 9 1) 0 (by kernel_rfl) ?_
  refine g_ret (List.replicate 9 1) (.tuple #[totV (sumA uprightV (colN l W)), .int .i64 (sumE uprightV (colN l W))]) (by kernel_rfl) (by kernel_rfl) (by kernel_rfl) fun w' hs => ?_
  exact ⟨rfl, hs.kept.kept⟩
end Go.Proofs.Ytohbomeodcjenaa
