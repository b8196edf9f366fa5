/- NodAdd NodTd NodRw. -/
import Derived.Test.YtcncfmjfgdbfeaaM31
namespace Go.Proofs.Ytcncfmjfgdbfeaa
open Go.RowKit
theorem itemsL_left {A B : List Nat} {s e : Nat} (h : Ch A s e) : ∀ (T f : Nat), e ≤ T → T - s ≤ f → Ch (A ++ B) e T → itemsF (A ++ B) T f s = itemsF A e f s ++ itemsF (A ++ B) T f e := by
 induction h with
 | refl s => intro T f _ _ _; cases f <;> simp [itemsF]
 | @step s e h1 h2 h3 ih =>
  intro T f hT hf h4
  have := h3.le
  cases f with
  | zero => omega
  | succ f =>
   have h5 := ih T f hT (by omega) h4
   have h6 := h4.fuel (f + 1) f (by omega) (by omega)
   rw [h6]
   simp only [itemsF]
   rw [if_pos (by omega), if_pos (by omega), getD_left h1]
   simp only [List.cons_append, h5]
theorem items_lt {beh : List Nat} {to : Nat} : ∀ {f at_ k : Nat}, k ∈ itemsF beh to f at_ → k < to
 | 0, _, _, h => by cases h
 | f + 1, at_, k, h => by
  simp only [itemsF] at h
  split at h
  ·rename_i hl
   rcases List.mem_cons.1 h with rfl | h
   ·exact hl
   exact items_lt h
  cases h
theorem natF_app (v : Nod → Int) : ∀ (x y : List Nod) (a : Int), natF v (x ++ y) a = natF v y (natF v x a)
 | [], _, _ => rfl
 | n :: r, y, a => by simp only [List.cons_append, natF]; exact natF_app v r y _
theorem skF_app (x y : List Nod) : skF (x ++ y) = skF x ++ skF y := by simp [skF]
theorem accN_left {x y : List Nod} : ∀ {k : Nat}, k ≤ x.length → accN (x ++ y) k = accN x k
 | 0, _ => rfl
 | k + 1, h => by simp only [accN]; rw [accN_left (by omega), nth_left (by omega)]
def In6 (a : Int) : Prop := -9223372036854775808 ≤ a ∧ a ≤ 9223372036854775807
theorem wr_eq (a b : Int) : wr a b = wrap64 (a + b) := by unfold wr wrap64; exact IntKind.wrap_i64 _
theorem wr_in (a b : Int) : In6 (wr a b) := by rw [wr_eq]; unfold In6 wrap64; omega
theorem wr_assoc (a b c : Int) : wr (wr a b) c = wr a (wr b c) := by simp only [wr_eq]; unfold wrap64; omega
theorem wr_comm (a b : Int) : wr a b = wr b a := by rw [wr_eq, wr_eq, Int.add_comm]
theorem wr_zero {a : Int} (h : In6 a) : wr a 0 = a := by rw [wr_eq]; unfold In6 at h; unfold wrap64; omega
theorem wr_four (a b c d : Int) : wr (wr a b) (wr c d) = wr (wr a c) (wr b d) := by simp only [wr_eq]; unfold wrap64; omega
theorem natF_shift (v : Nod → Int) : ∀ (y : List Nod) {a : Int}, In6 a → natF v y a = wr a (natF v y 0)
 | [], _, h => (wr_zero h).symm
 | n :: r, a, _ => by
  simp only [natF]
  rw [natF_shift v r (wr_in a (v n)), natF_shift v r (wr_in 0 (v n)), wr_assoc, wr_assoc]
  simp only [wr_eq]; unfold wrap64; omega
theorem natF_in (v : Nod → Int) : ∀ (y : List Nod) {a : Int}, In6 a → In6 (natF v y a)
 | [], _, h => h
 | n :: r, a, _ => by simp only [natF]; exact natF_in v r (wr_in _ _)
theorem natF_join (v : Nod → Int) (x y : List Nod) : natF v (x ++ y) 0 = wr (natF v x 0) (natF v y 0) := by
 rw [natF_app, natF_shift v y (natF_in v x ⟨by omega, by omega⟩)]
def addA (p q : Acc) : Acc := ⟨wr p.nat q.nat, wr p.m0 q.m0, wr p.m1 q.m1, wr p.m2 q.m2, wr p.m3 q.m3, wr p.l0 q.l0, wr p.l1 q.l1, wr p.l2 q.l2, wr p.l3 q.l3⟩
structure InA (p : Acc) : Prop where
 nat : In6 p.nat
 m0 : In6 p.m0
 m1 : In6 p.m1
 m2 : In6 p.m2
 m3 : In6 p.m3
 l0 : In6 p.l0
 l1 : In6 p.l1
 l2 : In6 p.l2
 l3 : In6 p.l3
theorem if_in {c : Prop} [Decidable c] {a b : Int} (h : In6 a) : In6 (if c then wr a b else a) := by
 split
 ·exact wr_in _ _
 exact h
theorem accS_in {p : Acc} (n : Nod) (h : InA p) : InA (accS p n) :=
 ⟨wr_in _ _, if_in h.m0, if_in h.m1, if_in h.m2, if_in h.m3, if_in h.l0, if_in h.l1, if_in h.l2, if_in h.l3⟩
theorem accN_in (ss : List Nod) : ∀ k, InA (accN ss k)
 | 0 => by have h : In6 0 := ⟨by decide, by decide⟩; exact ⟨h, h, h, h, h, h, h, h, h⟩
 | k + 1 => accS_in _ (accN_in ss k)
theorem if_wr {c : Prop} [Decidable c] (p q b : Int) : (if c then wr (wr p q) b else wr p q) = wr p (if c then wr q b else q) := by
 split
 ·exact wr_assoc _ _ _
 rfl
theorem accS_add (p q : Acc) (n : Nod) : accS (addA p q) n = addA p (accS q n) := by
 simp only [accS, addA, if_wr]
 rw [wr_assoc]
theorem addA_zero {p : Acc} (h : InA p) : addA p acc0 = p := by
 obtain ⟨a, b, c, d, e, f, g, i, j⟩ := p
 simp only [addA, acc0, wr_zero h.nat, wr_zero h.m0, wr_zero h.m1, wr_zero h.m2, wr_zero h.m3, wr_zero h.l0, wr_zero h.l1, wr_zero h.l2, wr_zero h.l3]
theorem accN_add (x y : List Nod) : ∀ k, k ≤ y.length → accN (x ++ y) (x.length + k) = addA (accN x x.length) (accN y k)
 | 0, _ => by simp only [Nat.add_zero, accN]; rw [accN_left (Nat.le_refl _), addA_zero (accN_in x _)]
 | k + 1, h => by
  show accS (accN (x ++ y) (x.length + k)) (nth (x ++ y) (x.length + k)) = addA _ (accS (accN y k) (nth y k))
  rw [accN_add x y k (by omega), accS_add, Nat.add_comm x.length k, nth_right]
theorem accN_join (x y : List Nod) : accN (x ++ y) (x ++ y).length = addA (accN x x.length) (accN y y.length) := by
 rw [List.length_append]; exact accN_add x y _ (Nat.le_refl _)
end Go.Proofs.Ytcncfmjfgdbfeaa
namespace Go.Proofs.Ytcncfmjfgdbfeaa
set_option maxRecDepth 100000
set_option maxHeartbeats 4000000
open Go.RowKit
theorem walk_each {l : List Nod} : ∀ {n at_ : Nat} {W W' : Wk}, walkW l n at_ W = some W' → ∀ k, at_ ≤ k → k < at_ + n → rightB (nth l k) = true
 | 0, _, _, _, _, k, h1, h2 => by omega
 | n + 1, at_, W, W', h, k, h1, h2 => by
  simp only [walkW] at h
  cases hr : rightB (nth l at_) with
  | false => rw [hr] at h; cases h
  | true =>
   rw [hr, cond_true] at h
   by_cases he : k = at_
   ·rw [he]; exact hr
   split at h
   ·exact walk_each h k (by omega) (by omega)
   cases h
theorem Good.right {l : List Nod} {W : Wk} (h : Good l W) (k : Nat) (hk : k < l.length) : rightB (nth l k) = true := walk_each h.walk k (Nat.zero_le _) (by omega)
def colN (l : List Nod) (W : Wk) : List Nod := (itemsF W.beh l.length l.length 0).map (nth l)
theorem colN_len (l : List Nod) (W : Wk) : (colN l W).length ≤ l.length := by simp only [colN, List.length_map]; exact items_le
theorem nth_mem {S : List Nod} {k : Nat} (h : k < S.length) : nth S k ∈ S := by simp [nth, List.getD, h]
theorem colN_right {l : List Nod} {W : Wk} (h : Good l W) : ∀ n ∈ colN l W, rightB n = true := fun n hn => by
 obtain ⟨k, hk, rfl⟩ := List.mem_map.1 hn
 exact h.right k (items_lt hk)
theorem skF_glued {ns : List Nod} (h : ∀ n ∈ ns, rightB n = true) : ∀ k, k < (skF ns).length → gluedB (nth (skF ns) k) = true := fun k hk => by
 have h1 := List.mem_filter.1 (nth_mem hk)
 exact skip_glued (h _ h1.1) (of_decide_eq_true h1.2)
theorem skF_len (ns : List Nod) : (skF ns).length ≤ ns.length := List.length_filter_le _ _
def sumR (v : Nod → Int) (ns : List Nod) : Value := totR (accN (skF ns) (skF ns).length) (natF v ns 0)
theorem colTot_any (l : List Nod) (W : Wk) (hG : Good l W) (bl ol cl bb bo : Nat) (w : World) (hq : Sat w [] [.row bl ol 19 l.length (rowOf l), .obj false bb (behC W.beh) 3, .obj false bo [.slice (some ⟨bl, ol, none⟩) l.length cl, .slice (some ⟨bb, 0, none⟩) l.length l.length] 141] w) :
  Calls Try.prog 77 #[.func (.func 121) #[] #[.pointer (some ⟨bo, 0, none⟩)], .agg uprightL.toArray] w fun e w' => e = .returned (sumR uprightV (colN l W)) ∧ Kept w w' :=
 totCol_any l W hG (natF uprightV (colN l W) 0) (skF (colN l W)) rfl rfl (by have := skF_len (colN l W); have := colN_len l W; have := hG.le; omega) (skF_glued (colN_right hG)) (fun k hk => hG.right k hk) bl ol cl bb bo w hq
def totA (a : Acc) (T : Int) : Acc := bif dimB (wr a.nat T) then { a with nat := wr a.nat T } else acc0
def totE (a : Acc) (T : Int) : Int := bif dimB (wr a.nat T) then 0 else 20
theorem totR_eq (a : Acc) (T : Int) : totR a T = .tuple #[totV (totA a T), .int .i64 (totE a T)] := by
 unfold totR totA totE
 cases dimB (wr a.nat T) <;> rfl
def sumA (v : Nod → Int) (ns : List Nod) : Acc := totA (accN (skF ns) (skF ns).length) (natF v ns 0)
def sumE (v : Nod → Int) (ns : List Nod) : Int := totE (accN (skF ns) (skF ns).length) (natF v ns 0)
theorem sumR_eq (v : Nod → Int) (ns : List Nod) : sumR v ns = .tuple #[totV (sumA v ns), .int .i64 (sumE v ns)] := totR_eq _ _
theorem colTot2_any (l : List Nod) (W : Wk) (hG : Good l W) (bl ol cl bb bo : Nat) (w : World) (hq : Sat w [] [.row bl ol 19 l.length (rowOf l), .obj false bb (behC W.beh) 3, .obj false bo [.slice (some ⟨bl, ol, none⟩) l.length cl, .slice (some ⟨bb, 0, none⟩) l.length l.length] 141] w) :
  Calls Try.prog 77 #[.func (.func 121) #[] #[.pointer (some ⟨bo, 0, none⟩)], .agg uprightL.toArray] w fun e w' => e = .returned (.tuple #[totV (sumA uprightV (colN l W)), .int .i64 (sumE uprightV (colN l W))]) ∧ Kept w w' := by
 rw [← sumR_eq]
 exact colTot_any l W hG bl ol cl bb bo w hq
theorem column_any (nb : Option Addr) (nn nc : Nat) (bb : Option Addr) (bn bc : Nat) (w : World) :
  Calls Try.prog 78 #[.agg #[.slice nb nn nc, .slice bb bn bc]] w fun e w' => ∃ x : Nat, e = .returned (.func (.func 121) #[] #[.pointer (some ⟨x, 0, none⟩)]) ∧ Sat w [] [.obj true x [.slice nb nn nc, .slice bb bn bc] 141] w' := by
 refine g_enter (args := [.agg #[.slice nb nn nc, .slice bb bn bc]]) [] [] Try.func78 rfl Try.ntmps78 kL (sat0 w) ?_
 refine g0 ?_
 refine gN fun b0 hb0 => ?_
 refine g0 ?_
 refine gR (.func (.func 121) #[] #[.pointer (some ⟨b0, 0, none⟩)]) fun w' hs => ?_
 exact ⟨b0, rfl, hs.at kR⟩
theorem row_any (nb : Option Addr) (nn nc : Nat) (bb : Option Addr) (bn bc : Nat) (w : World) :
  Calls Try.prog 80 #[.agg #[.slice nb nn nc, .slice bb bn bc]] w fun e w' => ∃ x : Nat, e = .returned (.func (.func 125) #[] #[.pointer (some ⟨x, 0, none⟩)]) ∧ Sat w [] [.obj true x [.slice nb nn nc, .slice bb bn bc] 141] w' := by
 refine g_enter (args := [.agg #[.slice nb nn nc, .slice bb bn bc]]) [] [] Try.func80 rfl Try.ntmps80 kL (sat0 w) ?_
 refine g0 ?_
 refine gN fun b0 hb0 => ?_
 refine g0 ?_
 refine gR (.func (.func 125) #[] #[.pointer (some ⟨b0, 0, none⟩)]) fun w' hs => ?_
 exact ⟨b0, rfl, hs.at kR⟩
theorem upright_run (w : World) : Calls Try.prog 79 #[] w fun e w' => e = .returned (.agg uprightL.toArray) ∧ Kept w w' := by
 refine g_enter (args := []) [] [] Try.func79 rfl Try.ntmps79 kL (sat0 w) ?_
 refine g0 ?_
 refine gN fun b0 hb0 => ?_
 refine gA (List.replicate 18 0) 0 ?_
 refine g_ret (List.replicate 18 0) (.agg uprightL.toArray) kR kR kR fun w' hs => ?_
 exact ⟨rfl, hs.kk⟩
theorem along_run (w : World) : Calls Try.prog 81 #[] w fun e w' => e = .returned (.agg alongL.toArray) ∧ Kept w w' := by
 refine g_enter (args := []) [] [] Try.func81 rfl Try.ntmps81 kL (sat0 w) ?_
 refine g0 ?_
 refine gN fun b0 hb0 => ?_
 refine gA (List.replicate 18 0) 0 ?_
 refine g_ret (List.replicate 18 0) (.agg alongL.toArray) kR kR kR fun w' hs => ?_
 exact ⟨rfl, hs.kk⟩
theorem totDown_any (l : List Nod) (bl ol cl : Nat) (W : Wk) (hG : Good l W) (w : World) (hq : Sat w [] [.row bl ol 19 l.length (rowOf l)] w) :
  Calls Try.prog 41 #[.slice (some ⟨bl, ol, none⟩) l.length cl, .bool true] w fun e w' => e = .returned (.tuple #[totV (sumA uprightV (colN l W)), .int .i64 (sumE uprightV (colN l W))]) ∧ Kept w w' := by
 refine g_enter (args := [.slice (some ⟨bl, ol, none⟩) l.length cl, .bool true]) [] [.row bl ol 19 l.length (rowOf l)] Try.func41 rfl Try.ntmps41 kL hq ?_
 refine g0 ?_
 refine gN fun b1 hb1 => ?_
 refine g0 ?_
 refine g_call (X := Nat) _ _ ?_ (fun bb => .tuple #[.agg #[.slice (some ⟨bl, ol, none⟩) l.length cl, .slice (some ⟨bb, 0, none⟩) l.length l.length], .int .i64 0]) (fun bb => [.row bl ol 19 l.length (rowOf l), .obj true b1 [.int .i64 0, .int .i64 0, .int .i64 0, .int .i64 0, .int .i64 0, .int .i64 0, .int .i64 0, .int .i64 0, .int .i64 0] 81] ++ [.obj true bb (behC W.beh) 3])
  (fun w1 hs => (outline_ok l bl ol cl w1 (hs.read [0] [.row bl ol 19 l.length (rowOf l)] kR) W hG.le hG.whole hG.walk hG.d).mono fun e w2 ⟨bb, h1, h2, h3, h4⟩ => ⟨bb, h1, (Sat.at hs kR).more (Sat.one h4 h2 h3) (by simp [HE.own])⟩) (fun bb => ?_)
 ·kernel_rfl
 refine g0 ?_
 refine gN fun b3 hb3 => ?_
 refine gA (List.replicate 4 3) 2 ?_
 refine g_call (X := Nat) _ _ ?_ (fun x => .func (.func 121) #[] #[.pointer (some ⟨x, 0, none⟩)]) (fun x => [.row bl ol 19 l.length (rowOf l), .obj true b1 [.int .i64 0, .int .i64 0, .int .i64 0, .int .i64 0, .int .i64 0, .int .i64 0, .int .i64 0, .int .i64 0, .int .i64 0] 81, .obj true bb (behC W.beh) 3, .obj true b3 [.slice (some ⟨bl, ol, none⟩) l.length cl, .slice (some ⟨bb, 0, none⟩) l.length l.length] 141] ++ [.obj true x [.slice (some ⟨bl, ol, none⟩) l.length cl, .slice (some ⟨bb, 0, none⟩) l.length l.length] 141])
  (fun w1 hs => (column_any _ _ _ _ _ _ w1).mono fun e w' ⟨x, he, hx⟩ => ⟨x, he, (Sat.at hs kR).more hx (by simp [HE.own])⟩) (fun x => ?_)
 ·kernel_rfl
 refine g_callq _ _ _ ?_ (fun w hs => upright_run w) ?_
 ·kernel_rfl
 refine g0 ?_
 refine g_callq _ _ _ ?_ (fun w hs => colTot2_any l W hG bl ol cl bb x w (hs.read [0, 2, 4] _ kR)) ?_
 ·kernel_rfl
 refine gA (List.replicate 9 1) 0 ?_
 refine g_ret (List.replicate 9 1) (.tuple #[totV (sumA uprightV (colN l W)), .int .i64 (sumE uprightV (colN l W))]) kR kR kR fun w' hs => ?_
 exact ⟨rfl, hs.kk⟩
end Go.Proofs.Ytcncfmjfgdbfeaa
namespace Go.Proofs.Ytcncfmjfgdbfeaa
open Go.RowKit
theorem Ch.small {beh : List Nat} {s e : Nat} (h : Ch beh s e) : s = e ∨ s < beh.length := by
 rcases h.inv with h | h
 ·exact .inl h
 exact .inr h.1
theorem kind_in {n : Nod} (h : rightB n = true) : 1 ≤ n.kind ∧ n.kind ≤ 17 := by
 have h2 : ¬ (n.kind < 1 ∨ 17 < n.kind) := fun h' => by rw [rightB_no _ h'] at h; cases h
 omega
def endF (beh : List Nat) : Nat → Nat → Nat
 | 0, at_ => at_
 | f + 1, at_ => if beh.getD at_ 0 = 0 then at_ else endF beh f (beh.getD at_ 0)
theorem Ch.endF {beh : List Nat} {s e : Nat} (h : Ch beh s e) (z : beh.getD e 0 = 0) : ∀ f, e - s ≤ f → endF beh f s = e := by
 induction h with
 | refl s =>
  intro f _
  cases f with
  | zero => rfl
  | succ f => simp only [Proofs.Ytcncfmjfgdbfeaa.endF]; rw [if_pos z]
 | @step s e h1 h2 h3 ih =>
  intro f hf
  have := h3.le
  cases f with
  | zero => omega
  | succ f =>
   simp only [Proofs.Ytcncfmjfgdbfeaa.endF]
   rw [if_neg (by omega)]
   exact ih z f (by omega)
def third (beh : List Nat) (p : Nat) : Nat × Nat :=
 (endF beh beh.length (endF beh beh.length (p + 1) + 1) + 1, endF beh beh.length (endF beh beh.length (endF beh beh.length (p + 1) + 1) + 1))
structure Three (beh : List Nat) (p s1 s2 e : Nat) : Prop where
 h1 : Ch beh (p + 1) s1
 z1 : beh.getD s1 0 = 0
 h2 : Ch beh (s1 + 1) s2
 z2 : beh.getD s2 0 = 0
 h3 : Ch beh (s2 + 1) e
 z3 : beh.getD e 0 = 0
 he : e < beh.length
theorem three_of' {l : List Nod} {W : Wk} (h : Good l W) {p : Nat} (hp : W.beh.getD p 0 ≠ 0) (h10 : (nth l p).kind = 10) : ∃ s1 s2 e, Three W.beh p s1 s2 e ∧ third W.beh p = (s2 + 1, e) ∧ e ≤ W.beh.getD p 0 := by
 obtain ⟨h1, h2, h3⟩ := h.discs p hp
 obtain ⟨h3, h4⟩ := h3 h10
 obtain ⟨_, hlen⟩ := good_ch h.walk h.os
 generalize he : W.beh.getD p 0 - 1 = e at h3 h4
 cases h3 with
 | more a1 a2 a3 r =>
  rename_i s1
  cases r with
  | more b1 b2 b3 r =>
   rename_i s2
   cases r with
   | last c1 =>
    have l1 := a1.le
    have l2 := b1.le
    have l3 := c1.le
    refine ⟨s1, s2, e, ⟨a1, a3, b1, b3, c1, h4, by omega⟩, ?_, by omega⟩
    unfold third
    rw [a1.endF a3 _ (by omega), b1.endF b3 _ (by omega), c1.endF h4 _ (by omega)]
theorem three_of {l : List Nod} {W : Wk} (h : Good l W) {p : Nat} (hp : W.beh.getD p 0 ≠ 0) (h10 : (nth l p).kind = 10) : ∃ s1 s2 e, Three W.beh p s1 s2 e ∧ third W.beh p = (s2 + 1, e) := by
 obtain ⟨s1, s2, e, t, h1, _⟩ := three_of' h hp h10
 exact ⟨s1, s2, e, t, h1⟩
def hereF (l : List Nod) (beh : List Nat) (p : Nat) : Nat × Nat := if (nth l p).kind = 10 then third beh p else (p, beh.getD p 0)
def partN (l : List Nod) (beh : List Nat) (p : Nat) : List Nod := (itemsF beh (hereF l beh p).2 l.length (hereF l beh p).1).map (nth l)
def rowN (l : List Nod) (W : Wk) : List Nod := (itemsF W.beh l.length l.length 0).flatMap (partN l W.beh)
theorem here_ch {l : List Nod} {W : Wk} (h : Good l W) {p : Nat} (hl : p < W.beh.length) (hp : p < W.beh.getD p 0) : Ch W.beh (hereF l W.beh p).1 (hereF l W.beh p).2 ∧ (hereF l W.beh p).2 ≤ l.length := by
 obtain ⟨h1, h2, _⟩ := h.discs p (by omega)
 obtain ⟨_, hlen⟩ := good_ch h.walk h.os
 unfold hereF
 split
 ·rename_i h10
  obtain ⟨s1, s2, e, t, ht⟩ := three_of h (by omega) h10
  rw [ht]
  have := t.he
  exact ⟨t.h3, by show e ≤ l.length; omega⟩
 exact ⟨.step hl hp (.refl _), h2⟩
structure ROX (l : List Nod) (beh : List Nat) (v : Nod → Int) (T : Int) (S : List Nod) where
 at_ : Nat
 ch : Ch beh at_ l.length
 nat : Int
 ss : List Nod
 base : Option Addr
 cap : Nat
 e : HE
 sk : SkIs ss base cap e
 n : Nat
 hn : ss.length = n
 isT : natF v ((itemsF beh l.length l.length at_).flatMap (partN l beh)) nat = T
 isS : ss ++ skF ((itemsF beh l.length l.length at_).flatMap (partN l beh)) = S
structure RIX (l : List Nod) (beh : List Nat) (v : Nod → Int) (to : Nat) (T : Int) (S : List Nod) where
 at_ : Nat
 ch : Ch beh at_ to
 nat : Int
 ss : List Nod
 base : Option Addr
 cap : Nat
 e : HE
 sk : SkIs ss base cap e
 n : Nat
 hn : ss.length = n
 isT : natF v ((itemsF beh to l.length at_).map (nth l)) nat = T
 isS : ss ++ skF ((itemsF beh to l.length at_).map (nth l)) = S
theorem items_unroll {beh : List Nat} {at_ to n : Nat} (h : Ch beh at_ to) (hl : at_ < to) (hto : to ≤ n) : itemsF beh to n at_ = at_ :: itemsF beh to n (beh.getD at_ 0) ∧ at_ < beh.length ∧ at_ < beh.getD at_ 0 ∧ Ch beh (beh.getD at_ 0) to := by
 rcases h.inv with h1 | ⟨h1, h2, h3⟩
 ·omega
 refine ⟨?_, h1, h2, h3⟩
 obtain ⟨m, rfl⟩ : ∃ m, n = m + 1 := ⟨n - 1, by omega⟩
 rw [show itemsF beh to (m + 1) at_ = at_ :: itemsF beh to m (beh.getD at_ 0) by simp [itemsF, hl], h3.fuel (m + 1) m (by omega) (by omega)]
theorem items_end {beh : List Nat} {at_ to n : Nat} (h : ¬ at_ < to) : itemsF beh to n at_ = [] := by cases n <;> simp [itemsF, h]
section
variable {l : List Nod} {beh : List Nat} {v : Nod → Int} {T : Int} {S : List Nod} {to : Nat}
def RIX.next (x : RIX l beh v to T S) (h : x.at_ < to) (hto : to ≤ l.length) (ss : List Nod) (base : Option Addr) (cap : Nat) (e : HE) (sk : SkIs ss base cap e) (m : Nat) (hm : ss.length = m) (hss : ss = if (nth l x.at_).kind = 7 then x.ss ++ [nth l x.at_] else x.ss) : RIX l beh v to T S :=
 ⟨beh.getD x.at_ 0, (items_unroll x.ch h hto).2.2.2, wr x.nat (v (nth l x.at_)), ss, base, cap, e, sk, m, hm, by
  have := x.isT
  rw [(items_unroll x.ch h hto).1] at this
  exact this, by
  have := x.isS
  rw [(items_unroll x.ch h hto).1] at this
  refine Eq.trans ?_ this
  rw [hss]
  by_cases h7 : (nth l x.at_).kind = 7
  ·simp [skF, h7]
  simp [skF, h7]⟩
theorem RIX.done (x : RIX l beh v to T S) (h : ¬ x.at_ < to) : x.nat = T ∧ x.ss = S := by
 have h1 := x.isT
 have h2 := x.isS
 rw [items_end h] at h1 h2
 exact ⟨h1, by simpa [skF] using h2⟩
theorem RIX.len (x : RIX l beh v to T S) : x.ss.length ≤ S.length := by
 have := congrArg List.length x.isS
 rw [List.length_append] at this
 omega
theorem ROX.done (x : ROX l beh v T S) (h : ¬ x.at_ < l.length) : x.nat = T ∧ x.ss = S := by
 have h1 := x.isT
 have h2 := x.isS
 rw [items_end h] at h1 h2
 exact ⟨h1, by simpa [skF] using h2⟩
theorem ROX.len (x : ROX l beh v T S) : x.ss.length ≤ S.length := by
 have := congrArg List.length x.isS
 rw [List.length_append] at this
 omega
def ROX.into2 (x : ROX l beh v T S) {s to : Nat} (hh : hereF l beh x.at_ = (s, to)) (h : Ch beh s to) : RIX l beh v to (natF v (partN l beh x.at_) x.nat) (x.ss ++ skF (partN l beh x.at_)) :=
 ⟨s, h, x.nat, x.ss, x.base, x.cap, x.e, x.sk, x.n, x.hn, by unfold partN; rw [hh], by unfold partN; rw [hh]⟩
def ROX.next (x : ROX l beh v T S) (h : x.at_ < l.length) (y : RIX l beh v to (natF v (partN l beh x.at_) x.nat) (x.ss ++ skF (partN l beh x.at_))) (hy : ¬ y.at_ < to) : ROX l beh v T S :=
 ⟨beh.getD x.at_ 0, (items_unroll x.ch h (Nat.le_refl _)).2.2.2, y.nat, y.ss, y.base, y.cap, y.e, y.sk, y.n, y.hn, by
  have := x.isT
  rw [(items_unroll x.ch h (Nat.le_refl _)).1, List.flatMap_cons, natF_app] at this
  rw [(y.done hy).1]
  exact this, by
  have := x.isS
  rw [(items_unroll x.ch h (Nat.le_refl _)).1, List.flatMap_cons, skF_app, ← List.append_assoc] at this
  rw [(y.done hy).2]
  exact this⟩
end
theorem items_mem {beh : List Nat} {s e : Nat} (h : Ch beh s e) : ∀ {f k : Nat}, k ∈ itemsF beh e f s → k < beh.length ∧ k < beh.getD k 0 ∧ beh.getD k 0 ≤ e := by
 induction h with
 | refl s =>
  intro f k hk
  rw [items_end (Nat.lt_irrefl s)] at hk
  cases hk
 | @step s e h1 h2 h3 ih =>
  intro f k hk
  cases f with
  | zero => cases hk
  | succ f =>
   have := h3.le
   simp only [itemsF] at hk
   rw [if_pos (by omega)] at hk
   rcases List.mem_cons.1 hk with rfl | hk
   ·exact ⟨h1, h2, this⟩
   exact ih hk
theorem Three.third {beh : List Nat} {p s1 s2 e : Nat} (t : Three beh p s1 s2 e) : Proofs.Ytcncfmjfgdbfeaa.third beh p = (s2 + 1, e) := by
 have l1 := t.h1.le
 have l2 := t.h2.le
 have l3 := t.h3.le
 have l4 := t.he
 unfold Proofs.Ytcncfmjfgdbfeaa.third
 rw [t.h1.endF t.z1 _ (by omega), t.h2.endF t.z2 _ (by omega), t.h3.endF t.z3 _ (by omega)]
theorem Three.left {A B : List Nat} {p s1 s2 e : Nat} (t : Three A p s1 s2 e) : Three (A ++ B) p s1 s2 e := by
 have l2 := t.h2.le
 have l3 := t.h3.le
 have l4 := t.he
 exact ⟨t.h1.left, by rw [getD_left (by omega)]; exact t.z1, t.h2.left, by rw [getD_left (by omega)]; exact t.z2, t.h3.left, by rw [getD_left l4]; exact t.z3, by simp; omega⟩
theorem Three.right {A B : List Nat} {p s1 s2 e : Nat} (t : Three B p s1 s2 e) : Three (A ++ B.map (sh A.length)) (p + A.length) (s1 + A.length) (s2 + A.length) (e + A.length) := by
 have l2 := t.h2.le
 have l3 := t.h3.le
 have l4 := t.he
 refine ⟨?_, by rw [getD_right (by omega), t.z1]; rfl, ?_, by rw [getD_right (by omega), t.z2]; rfl, ?_, by rw [getD_right l4, t.z3]; rfl, by simp; omega⟩
 ·have := t.h1.right (A := A)
  rwa [show p + 1 + A.length = p + A.length + 1 by omega] at this
 ·have := t.h2.right (A := A)
  rwa [show s1 + 1 + A.length = s1 + A.length + 1 by omega] at this
 have := t.h3.right (A := A)
 rwa [show s2 + 1 + A.length = s2 + A.length + 1 by omega] at this
theorem here_left {a b : List Nod} {A B : Wk} (ha : Good a A) (hA : A.beh.length = a.length) {k : Nat} (hk : k < A.beh.length) (hk2 : k < A.beh.getD k 0) : hereF (a ++ b) (A.beh ++ B.beh.map (sh A.beh.length)) k = hereF a A.beh k := by
 unfold hereF
 rw [nth_left (by omega), getD_left hk]
 by_cases h10 : (nth a k).kind = 10
 ·rw [if_pos h10, if_pos h10]
  obtain ⟨s1, s2, e, t, _⟩ := three_of ha (by omega) h10
  rw [t.third, (t.left (B := B.beh.map (sh A.beh.length))).third]
 rw [if_neg h10, if_neg h10]
theorem part_left {a b : List Nod} {A B : Wk} (ha : Good a A) (hA : A.beh.length = a.length) {k : Nat} (hk : k < A.beh.length) (hk2 : k < A.beh.getD k 0) : partN (a ++ b) (A.beh ++ B.beh.map (sh A.beh.length)) k = partN a A.beh k := by
 unfold partN
 rw [here_left ha hA hk hk2]
 obtain ⟨h1, h2⟩ := here_ch ha hk hk2
 have h3 := itemsL_left (B := B.beh.map (sh A.beh.length)) h1 (hereF a A.beh k).2 (a ++ b).length (Nat.le_refl _) (by simp; omega) (.refl _)
 rw [items_end (Nat.lt_irrefl _), List.append_nil] at h3
 rw [h3, h1.fuel (a ++ b).length a.length (by simp; omega) (by omega)]
 exact List.map_congr_left fun q hq => nth_left (by have := items_lt hq; omega)
theorem ch_len {beh : List Nat} {s e : Nat} (h : Ch beh s e) (f : Nat) : (itemsF beh e f s).length ≤ e - s := by
 rcases Nat.le_total f (e - s) with hf | hf
 ·have := items_le (beh := beh) (to := e) (f := f) (at_ := s)
  omega
 rw [h.fuel f (e - s) hf (Nat.le_refl _)]
 exact items_le
theorem here_le {l : List Nod} {W : Wk} (h : Good l W) {p : Nat} (hp : p < W.beh.getD p 0) : p ≤ (hereF l W.beh p).1 ∧ (hereF l W.beh p).2 ≤ W.beh.getD p 0 := by
 unfold hereF
 split
 ·rename_i h10
  obtain ⟨s1, s2, e, t, ht, he⟩ := three_of' h (by omega) h10
  rw [ht]
  have l1 := t.h1.le
  have l2 := t.h2.le
  exact ⟨by show p ≤ s2 + 1; omega, he⟩
 exact ⟨Nat.le_refl _, Nat.le_refl _⟩
theorem part_len {l : List Nod} {W : Wk} (h : Good l W) {p : Nat} (hl : p < W.beh.length) (hp : p < W.beh.getD p 0) : (partN l W.beh p).length ≤ W.beh.getD p 0 - p := by
 obtain ⟨h1, _⟩ := here_ch h hl hp
 obtain ⟨h2, h3⟩ := here_le h hp
 have := ch_len h1 l.length
 simp only [partN, List.length_map]
 omega
theorem flat_len {l : List Nod} {W : Wk} (h : Good l W) {s e : Nat} (hc : Ch W.beh s e) : ∀ f, ((itemsF W.beh e f s).flatMap (partN l W.beh)).length ≤ e - s := by
 induction hc with
 | refl s => intro f; rw [items_end (Nat.lt_irrefl s)]; simp
 | @step s e h1 h2 h3 ih =>
  intro f
  cases f with
  | zero => simp [itemsF]
  | succ f =>
   have := h3.le
   have h4 := ih f
   have h5 := part_len h h1 h2
   simp only [itemsF]
   rw [if_pos (by omega), List.flatMap_cons, List.length_append]
   omega
theorem rowN_len {l : List Nod} {W : Wk} (h : Good l W) : (rowN l W).length ≤ l.length := by
 obtain ⟨h1, _⟩ := good_ch h.walk h.os
 exact flat_len h h1 l.length
theorem rowN_right {l : List Nod} {W : Wk} (h : Good l W) : ∀ n ∈ rowN l W, rightB n = true := fun n hn => by
 obtain ⟨k, hk, hn⟩ := List.mem_flatMap.1 hn
 obtain ⟨h1, hlen⟩ := good_ch h.walk h.os
 obtain ⟨q1, q2, _⟩ := items_mem h1 hk
 obtain ⟨h2, h3⟩ := here_ch h q1 q2
 obtain ⟨q, hq, rfl⟩ := List.mem_map.1 hn
 exact h.right q (by have := items_lt hq; omega)
end Go.Proofs.Ytcncfmjfgdbfeaa
