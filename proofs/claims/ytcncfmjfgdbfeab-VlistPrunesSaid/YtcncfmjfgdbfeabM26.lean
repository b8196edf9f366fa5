/- NodCnt NodV NodCh. -/
import Derived.Test.YtcncfmjfgdbfeabM12
import Derived.Test.YtcncfmjfgdbfeabFast13
namespace Go.Proofs.Ytcncfmjfgdbfeab
set_option maxRecDepth 100000
set_option maxHeartbeats 8000000
open Go.RowKit
theorem Sat.more {w0 w w' : World} {bs : List Nat} {hp hpc : List HE} (h : Sat w0 bs hp w) (k : Sat w [] hpc w') (ho : ∀ e ∈ hpc, e.own = true) : Sat w0 bs (hp ++ hpc) w' := by
 have hk := k.kept.kept
 have new : ∀ e ∈ hpc, w.heap.size ≤ e.blk := fun e he => by
  rcases (own_cells (k.holds e he) (ho e he)).2 with q | q
  ·exact q
  cases q
 have old : ∀ e ∈ hp, e.live → e.blk < w.heap.size := fun e he hl => HE.holds_lt (h.holds e he) hl
 refine ⟨h.kept.trans (.of_kept hk), fun e he => ?_, fun i j e e' hij hi hj hown hl => ?_⟩
 ·rcases List.mem_append.1 he with he | he
  ·exact HE.holds_of_block (h.holds e he) hk.size (fun hl => hk.block _ (old e he hl))
  have h1 := k.holds e he
  cases e with
  | obj o b cs T => exact ⟨h1.1, fun _ => .inl (Nat.le_trans h.kept.size (new _ he))⟩
  | row b off sz n f => exact h1
 have live_own : ∀ {e : HE}, e.own = true → e.live := fun {e} he => by
  cases e with
  | obj => trivial
  | row => cases he
 rcases Nat.lt_or_ge i hp.length with q | q <;> rcases Nat.lt_or_ge j hp.length with q' | q'
 ·rw [List.getElem?_append_left q] at hi
  rw [List.getElem?_append_left q'] at hj
  exact h.apart i j e e' hij hi hj hown hl
 ·rw [List.getElem?_append_left q] at hi
  rw [List.getElem?_append_right q'] at hj
  have h1 := old e (List.mem_of_getElem? hi) (live_own hown)
  have h2 := new e' (List.mem_of_getElem? hj)
  omega
 ·rw [List.getElem?_append_right q] at hi
  rw [List.getElem?_append_left q'] at hj
  have h1 := old e' (List.mem_of_getElem? hj) hl
  have h2 := new e (List.mem_of_getElem? hi)
  omega
 rw [List.getElem?_append_right q] at hi
 rw [List.getElem?_append_right q'] at hj
 exact k.apart _ _ e e' (by omega) hi hj hown hl
def itemsF (beh : List Nat) (to : Nat) : Nat → Nat → List Nat
 | 0, _ => []
 | f + 1, at_ => if at_ < to then at_ :: itemsF beh to f (beh.getD at_ 0) else []
def okF (beh : List Nat) (to : Nat) : Nat → Nat → Prop
 | 0, at_ => to ≤ at_
 | f + 1, at_ => at_ < to → at_ < beh.length ∧ okF beh to f (beh.getD at_ 0)
theorem items_any (nb : Option Addr) (nn nc : Nat) (bb : Option Addr) (bn bc : Nat) (fr to : Int) (w : World) :
  Calls Try.prog 77 #[.agg #[.slice nb nn nc, .slice bb bn bc], .agg #[.int .i64 fr, .int .i64 to]] w fun e w' => ∃ x : Nat × Nat, e = .returned (.func (.func 87) #[] #[.pointer (some ⟨x.2, 0, none⟩), .pointer (some ⟨x.1, 0, none⟩)]) ∧
   Sat w [] [.obj true x.1 [.slice nb nn nc, .slice bb bn bc] 108, .obj true x.2 [.int .i64 fr, .int .i64 to] 113] w' := by
 refine g_enter (args := [.agg #[.slice nb nn nc, .slice bb bn bc], .agg #[.int .i64 fr, .int .i64 to]]) [] [] Try.func77 rfl Try.ntmps77 kL (sat0 w) ?_
 refine g0 ?_
 refine gN fun b1 hb1 => ?_
 refine g0 ?_
 refine gN fun b2 hb2 => ?_
 refine g0 ?_
 refine gR (.func (.func 87) #[] #[.pointer (some ⟨b2, 0, none⟩), .pointer (some ⟨b1, 0, none⟩)]) fun w' hs => ?_
 exact ⟨(b1, b2), rfl, hs.at kR⟩
structure CX (beh : List Nat) (to total : Nat) where
 f : Nat
 at_ : Nat
 n : Nat
 ok : okF beh to f at_
 is : n + (itemsF beh to f at_).length = total
def CX.next {beh : List Nat} {to total : Nat} (x : CX beh to total) (h : x.at_ < to) (hf : x.f ≠ 0) : CX beh to total :=
 ⟨x.f - 1, beh.getD x.at_ 0, x.n + 1, by
  have := x.ok
  obtain ⟨g, hg⟩ : ∃ g, x.f = g + 1 := ⟨x.f - 1, by omega⟩
  rw [hg] at this ⊢
  exact (this h).2, by
  have := x.is
  obtain ⟨g, hg⟩ : ∃ g, x.f = g + 1 := ⟨x.f - 1, by omega⟩
  rw [hg] at this ⊢
  simp only [itemsF, h, if_true, List.length_cons] at this
  simp only [Nat.add_sub_cancel]
  omega⟩
theorem CX.pos {beh : List Nat} {to total : Nat} (x : CX beh to total) (h : x.at_ < to) : x.f ≠ 0 ∧ x.at_ < beh.length := by
 have := x.ok
 cases hf : x.f with
 | zero => rw [hf] at this; exact absurd h (Nat.not_lt.2 this)
 | succ g => rw [hf] at this; exact ⟨by omega, (this h).1⟩
theorem CX.end_ {beh : List Nat} {to total : Nat} (x : CX beh to total) (h : ¬ x.at_ < to) : x.n = total := by
 have := x.is
 cases hf : x.f with
 | zero => rw [hf] at this; simpa [itemsF] using this
 | succ g => rw [hf] at this; simpa [itemsF, h] using this
theorem behC_get {beh : List Nat} {k : Nat} (h : k < beh.length) : (behC beh)[0 + k * 1]? = some (.int .i64 ((beh.getD k 0 : Nat) : Int)) := by
 simp [behC, h, List.getD]
theorem CX.le {beh : List Nat} {to total : Nat} (x : CX beh to total) : x.n ≤ total := by have := x.is; omega
theorem count_any (beh : List Nat) (bb : Nat) (nb : Option Addr) (nn nc fr to f : Nat) (hok : okF beh to f fr) (hto : (itemsF beh to f fr).length ≤ 1000000) (w : World) (hb : w.heap[bb]? = some (.cells (behC beh).toArray 3 (0, 0))) :
  Calls Try.prog 67 #[.agg #[.slice nb nn nc, .slice (some ⟨bb, 0, none⟩) beh.length beh.length], .agg #[.int .i64 (fr : Int), .int .i64 (to : Int)]] w fun e w' =>
   e = .returned (.int .i64 ((itemsF beh to f fr).length : Int)) ∧ Kept w w' := by
 refine g_enterM (W := w) (args := [.agg #[.slice nb nn nc, .slice (some ⟨bb, 0, none⟩) beh.length beh.length], .agg #[.int .i64 (fr : Int), .int .i64 (to : Int)]]) [] [.obj false bb (behC beh) 3] Try.func67 rfl Try.ntmps67 kL (sat1 hb) ?_
 refine g0 ?_
 refine gN fun b1 hb1 => ?_
 refine g0 ?_
 refine gN fun b2 hb2 => ?_
 refine g0 ?_
 refine gN fun b3 hb3 => ?_
 refine gA [3, 1, 1, 2, 2] 0 ?_
 refine g_call (X := Nat × Nat) _ _ ?_ (fun x => .func (.func 87) #[] #[.pointer (some ⟨x.2, 0, none⟩), .pointer (some ⟨x.1, 0, none⟩)])
  (fun x => [.obj false bb (behC beh) 3, .obj true b1 [.slice nb nn nc, .slice (some ⟨bb, 0, none⟩) beh.length beh.length] 108, .obj true b2 [.int .i64 (fr : Int), .int .i64 (to : Int)] 113, .obj true b3 [.int .i64 0] 3] ++ [.obj true x.1 [.slice nb nn nc, .slice (some ⟨bb, 0, none⟩) beh.length beh.length] 108, .obj true x.2 [.int .i64 (fr : Int), .int .i64 (to : Int)] 113])
  (fun w1 hs => (items_any nb nn nc _ _ _ (fr : Int) (to : Int) w1).mono fun e w' ⟨x, he, hx⟩ => ⟨x, he, (Sat.at hs kR).more hx (by simp [HE.own])⟩) (fun x => ?_)
 ·kernel_rfl
 obtain ⟨x1, x2⟩ := x
 refine g0 ?_
 refine g_range 87 kR (fun L => by kernel_rfl) Try.func87 rfl Try.ntmps87 (fun L => Nat.le_of_ble_eq_true kR) fun L W1 bs1 R hR => ?_
 refine gA [5] 0 ?_
 refine g_loopN (X := CX beh to (itemsF beh to f fr).length) (fun x => [(4, .int .i64 (x.at_ : Int))])
  (fun x => [.obj false bb (behC beh) 3, .obj true b1 [.slice nb nn nc, .slice (some ⟨bb, 0, none⟩) beh.length beh.length] 108, .obj true b2 [.int .i64 (fr : Int), .int .i64 (to : Int)] 113, .obj true b3 [.int .i64 (x.n : Int)] 3, .obj true x1 [.slice nb nn nc, .slice (some ⟨bb, 0, none⟩) beh.length beh.length] 108, .obj true x2 [.int .i64 (fr : Int), .int .i64 (to : Int)] 113])
  (fun x => x.f) ⟨f, fr, 0, hok, Nat.zero_add _⟩ kR (by unfold Known; kernel_rfl) kR fun x N hN => ?_
 refine gA [5] 0 ?_
 refine g_dec 11 (decide ((x.at_ : Int) < (to : Int))) kR (fun h => ?_) (fun h => ?_)
 ·have hlt : x.at_ < to := by clear hN; simpa using h
  obtain ⟨hf, hlen⟩ := x.pos hlt
  have hle := x.le
  refine gA [] 2 ?_
  refine g_yield hR.ready [.int .i64 (x.at_ : Int)] kR kR fun N2 hB => ?_
  refine g0 ?_
  refine g_begin hB kR kR kR fun W2 bs2 fin2 _hx _hr2 _hsz hRd => ?_
  refine gU 11 [3] 0 ?_
  refine g_val _ _ ?_ (fun w _hs => nat_succ (P := Try.prog) (t := 3) (x := .tmp 10) (y := .const (.int .i64 1)) (m := x.n) (w := w) kR (by omega)) ?_
  ·kernel_rfl
  refine gA [3] 0 ?_
  refine g_end hRd kR (.refl _ _) ?_
  refine gU 19 [4] 1 ?_
  refine g_val _ _ ?_ (fun w _hs => idx_run (P := Try.prog) (T := 41) (E := 3) (b := bb) (o := 0) (n := beh.length) (c := beh.length) (k := x.at_) (sz := 1) (kk := .i64) w kR kR hlen) ?_
  ·kernel_rfl
  refine g_val _ _ ?_ (fun w _hs => Sat.objload1 (T := 3) (T' := 3) (i := 0) (b := bb) (k := 0 + x.at_ * 1) (own := false) (cs := behC beh) (v := .int .i64 ((beh.getD x.at_ 0 : Nat) : Int)) _hs kR (behC_get hlen) kR) ?_
  ·kernel_rfl
  refine g0 ?_
  exact g_hook (hN (x.next hlt hf) (by show x.f - 1 < x.f; omega)) kR kR kR (by unfold Known; kernel_rfl) kR kR
 have hge : ¬ x.at_ < to := by clear hN; simpa using h
 have hx := x.end_ hge
 refine gA [] 4 ?_
 refine g_retM (W0 := W1) (bs0 := bs1) [] (Value.tuple #[]) kR kR [] kR (.refl _ _) (fun D hD => by cases hD) List.nodup_nil fun w2 hs2 => ?_
 refine hR.back _ (fun D W3 bs3 hD he hd hf => ?_) W1 bs1 _ w2 (.refl _ _) hs2
 refine gA [3] 0 ?_
 refine g_retM (W0 := w) (bs0 := []) [] (.int .i64 (x.n : Int)) kR kR [D] kR he (fun D' hD' => by rw [List.mem_singleton.1 hD']; exact ⟨hD, hd, hf⟩) (by simp) fun w3 hs3 => ?_
 exact ⟨by rw [hx], hs3.kept.kept⟩
end Go.Proofs.Ytcncfmjfgdbfeab
namespace Go.Proofs.Ytcncfmjfgdbfeab
set_option maxRecDepth 100000
set_option maxHeartbeats 4000000
open Go.RowKit
def checkB (l : List Nod) : Int :=
 bif decide (2000 < l.length) then 6 else match walkW l l.length 0 (walk0 l) with
  | none => 50
  | some W => bif decide (W.os.length = 0) then (bif decide (40 < W.d) then 51 else 0) else 50
theorem check_size (l : List Nod) (bl ol cl : Nat) (w : World) (hq : Sat w [] [.row bl ol 19 l.length (rowOf l)] w) (hl : 2000 < l.length) :
  Calls Try.prog 44 #[.slice (some ⟨bl, ol, none⟩) l.length cl] w fun e' w' => e' = .returned (.int .i64 6) ∧ Kept w w' := by
 refine g_enter (args := [.slice (some ⟨bl, ol, none⟩) l.length cl]) [] [.row bl ol 19 l.length (rowOf l)] Try.func44 rfl Try.ntmps44 kL hq ?_
 refine g0 ?_
 refine g_callq _ _ _ ?_ (fun w hs => outline_size l bl ol cl w (hs.read [0] [.row bl ol 19 l.length (rowOf l)] kR) hl) ?_
 ·kernel_rfl
 refine g0 ?_
 refine gN fun b1 hb1 => ?_
 refine gA ([1, 1]) 0 ?_
 refine gR (Value.int IntKind.i64 6) fun w' hs => ?_
 exact ⟨rfl, hs.kk⟩
theorem check_list (l : List Nod) (bl ol cl : Nat) (w : World) (hq : Sat w [] [.row bl ol 19 l.length (rowOf l)] w) (hl : l.length ≤ 2000) (hw : wholeB l (walk0 l) = false) :
  Calls Try.prog 44 #[.slice (some ⟨bl, ol, none⟩) l.length cl] w fun e' w' => e' = .returned (.int .i64 50) ∧ Kept w w' := by
 refine g_enter (args := [.slice (some ⟨bl, ol, none⟩) l.length cl]) [] [.row bl ol 19 l.length (rowOf l)] Try.func44 rfl Try.ntmps44 kL hq ?_
 refine g0 ?_
 refine g_callq _ _ _ ?_ (fun w hs => outline_list l bl ol cl w (hs.read [0] [.row bl ol 19 l.length (rowOf l)] kR) hl hw) ?_
 ·kernel_rfl
 refine g0 ?_
 refine gN fun b1 hb1 => ?_
 refine gA ([1, 1]) 0 ?_
 refine gR (Value.int IntKind.i64 50) fun w' hs => ?_
 exact ⟨rfl, hs.kk⟩
theorem check_deep (l : List Nod) (bl ol cl : Nat) (w : World) (hq : Sat w [] [.row bl ol 19 l.length (rowOf l)] w) (Wf : Wk) (hl : l.length ≤ 2000) (hw : wholeB l (walk0 l) = true) (hW : walkW l l.length 0 (walk0 l) = some Wf) (hd : 40 < Wf.d) :
  Calls Try.prog 44 #[.slice (some ⟨bl, ol, none⟩) l.length cl] w fun e' w' => e' = .returned (.int .i64 51) ∧ Kept w w' := by
 refine g_enter (args := [.slice (some ⟨bl, ol, none⟩) l.length cl]) [] [.row bl ol 19 l.length (rowOf l)] Try.func44 rfl Try.ntmps44 kL hq ?_
 refine g0 ?_
 refine g_callq _ _ _ ?_ (fun w hs => outline_deep l bl ol cl w (hs.read [0] [.row bl ol 19 l.length (rowOf l)] kR) Wf hl hw hW hd) ?_
 ·kernel_rfl
 refine g0 ?_
 refine gN fun b1 hb1 => ?_
 refine gA ([1, 1]) 0 ?_
 refine gR (Value.int IntKind.i64 51) fun w' hs => ?_
 exact ⟨rfl, hs.kk⟩
theorem check_ok (l : List Nod) (bl ol cl : Nat) (w : World) (hq : Sat w [] [.row bl ol 19 l.length (rowOf l)] w) (Wf : Wk) (hl : l.length ≤ 2000) (hw : wholeB l (walk0 l) = true) (hW : walkW l l.length 0 (walk0 l) = some Wf) (hd : Wf.d ≤ 40) :
  Calls Try.prog 44 #[.slice (some ⟨bl, ol, none⟩) l.length cl] w fun e' w' => e' = .returned (.int .i64 0) ∧ Kept w w' := by
 refine g_enter (args := [.slice (some ⟨bl, ol, none⟩) l.length cl]) [] [.row bl ol 19 l.length (rowOf l)] Try.func44 rfl Try.ntmps44 kL hq ?_
 refine g0 ?_
 refine g_call (X := Nat) _ _ ?_ (fun bb => .tuple #[.agg #[.slice (some ⟨bl, ol, none⟩) l.length cl, .slice (some ⟨bb, 0, none⟩) l.length l.length], .int .i64 0]) (fun _ => [.row bl ol 19 l.length (rowOf l)]) (fun w hs => (outline_ok l bl ol cl w (hs.read [0] [.row bl ol 19 l.length (rowOf l)] kR) Wf hl hw hW hd).mono fun _ _ h => h.elim fun bb h => ⟨bb, h.1, (hs.at kR).of_kept h.2.2.2⟩) (fun bb => ?_)
 ·kernel_rfl
 refine g0 ?_
 refine gN fun b1 hb1 => ?_
 refine gA ([1, 1]) 0 ?_
 refine gR (Value.int IntKind.i64 0) fun w' hs => ?_
 exact ⟨rfl, hs.kk⟩
theorem check_any (l : List Nod) (bl ol cl : Nat) (w : World) (hq : Sat w [] [.row bl ol 19 l.length (rowOf l)] w) :
  Calls Try.prog 44 #[.slice (some ⟨bl, ol, none⟩) l.length cl] w fun e' w' => e' = .returned (.int .i64 (checkB l)) ∧ Kept w w' := by
 by_cases hl : 2000 < l.length
 ·rw [show checkB l = 6 by simp [checkB, hl]]
  exact check_size l bl ol cl w hq hl
 have hl' : l.length ≤ 2000 := by omega
 cases hW : walkW l l.length 0 (walk0 l) with
 | none =>
  rw [show checkB l = 50 by simp [checkB, hl, hW]]
  exact check_list l bl ol cl w hq hl' (by simp [wholeB, hW])
 | some W =>
  by_cases ho : W.os.length = 0
  ·have hw : wholeB l (walk0 l) = true := by simp only [wholeB, hW, ho, decide_true]
   by_cases hd : 40 < W.d
   ·rw [show checkB l = 51 by simp only [checkB, hl, hW, ho, hd, decide_true, decide_false, cond_true, cond_false]]
    exact check_deep l bl ol cl w hq W hl' hw hW hd
   rw [show checkB l = 0 by simp only [checkB, hl, hW, ho, hd, decide_true, decide_false, cond_true, cond_false]]
   exact check_ok l bl ol cl w hq W hl' hw hW (by omega)
  have hw : wholeB l (walk0 l) = false := by simp only [wholeB, hW, ho, decide_false]
  rw [show checkB l = 50 by simp only [checkB, hl, hW, ho, decide_false, cond_false]]
  exact check_list l bl ol cl w hq hl' hw
end Go.Proofs.Ytcncfmjfgdbfeab
namespace Go.Proofs.Ytcncfmjfgdbfeab
open Go.RowKit
inductive Ch (beh : List Nat) : Nat → Nat → Prop where
 | refl (s : Nat) : Ch beh s s
 | step {s e : Nat} (h1 : s < beh.length) (h2 : s < beh.getD s 0) (h3 : Ch beh (beh.getD s 0) e) : Ch beh s e
theorem Ch.le {beh : List Nat} {s e : Nat} (h : Ch beh s e) : s ≤ e := by
 induction h with
 | refl s => exact Nat.le_refl _
 | step h1 h2 h3 ih => omega
theorem getD_set {beh : List Nat} {k s v : Nat} (h : s ≠ k) : (beh.set k v).getD s 0 = beh.getD s 0 := by
 simp [List.getD, Ne.symm h]
theorem Ch.other {beh : List Nat} {s e k v : Nat} (h : Ch beh s e) (hk : e ≤ k) : Ch (beh.set k v) s e := by
 induction h with
 | refl s => exact .refl s
 | step h1 h2 h3 ih =>
  have := h3.le
  refine .step (by simpa using h1) ?_ ?_
  ·rw [getD_set (by omega)]; exact h2
  rw [getD_set (by omega)]; exact ih hk
theorem Ch.snoc {beh : List Nat} {s p q : Nat} (h : Ch beh s p) (hp : p < beh.length) (hq : p < q) : Ch (beh.set p q) s q := by
 induction h with
 | refl s =>
  have e : (beh.set s q).getD s 0 = q := by simp [List.getD, hp]
  exact .step (by simpa using hp) (by rw [e]; exact hq) (by rw [e]; exact .refl q)
 | step h1 h2 h3 ih =>
  have := h3.le
  refine .step (by simpa using h1) ?_ ?_
  ·rw [getD_set (by omega)]; exact h2
  rw [getD_set (by omega)]; exact ih hp hq
theorem Ch.ok {beh : List Nat} {s e : Nat} (h : Ch beh s e) : ∀ f, e - s ≤ f → okF beh e f s := by
 induction h with
 | refl s =>
  intro f _
  cases f with
  | zero => exact Nat.le_refl _
  | succ f => exact fun h => absurd h (Nat.lt_irrefl _)
 | @step s e h1 h2 h3 ih =>
  intro f hf
  have := h3.le
  cases f with
  | zero => omega
  | succ f => exact fun _ => ⟨h1, ih f (by omega)⟩
theorem Ch.fuel {beh : List Nat} {s e : Nat} (h : Ch beh s e) : ∀ f g, e - s ≤ f → e - s ≤ g → itemsF beh e f s = itemsF beh e g s := by
 induction h with
 | refl s =>
  intro f g _ _
  cases f <;> cases g <;> simp [itemsF]
 | @step s e h1 h2 h3 ih =>
  intro f g hf hg
  have := h3.le
  cases f with
  | zero => omega
  | succ f => cases g with
   | zero => omega
   | succ g =>
    simp only [itemsF]
    rw [ih f g (by omega) (by omega)]
structure WI (W : Wk) (n at_ : Nat) : Prop where
 len : W.beh.length = n
 pos : ∀ p ∈ W.os, p.1 < at_
 up : (W.os.map Prod.fst).Pairwise (· < ·)
 ch : Ch W.beh 0 ((W.os.map Prod.fst ++ [at_]).headD 0)
theorem head_app (a : List Nat) (x y : Nat) : (a ++ [x] ++ [y]).headD 0 = (a ++ [x]).headD 0 := by cases a <;> rfl
theorem wi_step {l : List Nod} {at_ : Nat} {W W' : Wk} (h : stepW l at_ W = some W') (hl : at_ < l.length) (I : WI W l.length at_) : WI W' l.length (at_ + 1) := by
 unfold stepW at h
 by_cases h6 : (nth l at_).kind = 6
 ·simp only [h6, decide_true, cond_true] at h
  unfold leaveW at h
  split at h
  ·cases h
  rename_i p hp
  cases hb : (inDiscB l W.os && !decide (p.2 = 2)) with
  | true => rw [hb] at h; cases h
  | false =>
   rw [hb] at h
   simp only [cond_false, Option.some.injEq] at h
   subst h
   obtain ⟨os, hos⟩ : ∃ os, W.os = os ++ [p] := by
    rcases List.eq_nil_or_concat W.os with e | ⟨L, b, e⟩
    ·rw [e] at hp; cases hp
    rw [e, List.concat_eq_append] at hp ⊢
    simp at hp
    exact ⟨L, by rw [hp]⟩
   obtain ⟨h1, h2, h3, h4⟩ := I
   rw [hos] at h2 h3 h4
   have hpa : p.1 < at_ := h2 p (by simp)
   refine ⟨by simpa using h1, fun q hq => ?_, ?_, ?_⟩
   ·rw [hos] at hq
    simp only [List.dropLast_concat] at hq
    have := h2 q (by simp [hq]); omega
   ·simp only [hos, List.dropLast_concat]
    rw [List.map_append] at h3
    exact (List.pairwise_append.1 h3).1
   simp only [hos, List.dropLast_concat]
   cases os with
   | nil => exact Ch.snoc h4 (by omega) (by omega)
   | cons q r =>
    have hq : q.1 < p.1 := by
     simp only [List.cons_append, List.map_cons, List.pairwise_cons] at h3
     exact h3.1 p.1 (by simp)
    exact (Ch.other (show Ch W.beh 0 q.1 from h4) (k := p.1) (v := at_ + 1) (by omega) : Ch _ 0 q.1)
 simp only [h6, decide_false, cond_false] at h
 by_cases h11 : (nth l at_).kind = 11
 ·simp only [h11, decide_true, cond_true] at h
  unfold partW at h
  split at h
  ·cases h
  rename_i p hp
  cases hb : (inDiscB l W.os && decide (p.2 + 1 ≤ 2)) with
  | false => rw [hb] at h; cases h
  | true =>
   rw [hb] at h
   simp only [cond_true, Option.some.injEq] at h
   subst h
   obtain ⟨os, hos⟩ : ∃ os, W.os = os ++ [p] := by
    rcases List.eq_nil_or_concat W.os with e | ⟨L, b, e⟩
    ·rw [e] at hp; cases hp
    rw [e, List.concat_eq_append] at hp ⊢
    simp at hp
    exact ⟨L, by rw [hp]⟩
   obtain ⟨h1, h2, h3, h4⟩ := I
   rw [hos] at h2 h3 h4
   have e : (os ++ [(p.1, p.2 + 1)]).map Prod.fst = (os ++ [p]).map Prod.fst := by simp
   refine ⟨h1, fun q hq => ?_, ?_, ?_⟩
   ·simp only [hos, List.dropLast_concat] at hq
    rcases List.mem_append.1 hq with q1 | q1
    ·have := h2 q (by simp [q1]); omega
    rw [List.mem_singleton.1 q1]
    have := h2 p (by simp); simp only; omega
   ·simp only [hos, List.dropLast_concat, e]; exact h3
   simp only [hos, List.dropLast_concat, e]
   rw [List.map_append] at h4 ⊢
   simp only [List.map_cons, List.map_nil] at h4 ⊢
   rw [head_app] at h4 ⊢
   exact h4
 simp only [h11, decide_false, cond_false] at h
 cases hb : (!inDiscB l W.os || brokenB (nth l at_)) with
 | false => rw [hb] at h; cases h
 | true =>
  rw [hb, cond_true, Option.some.injEq] at h
  subst h
  obtain ⟨h1, h2, h3, h4⟩ := I
  cases enters (nth l at_).kind with
  | true =>
   simp only [cond_true]
   refine ⟨h1, fun q hq => ?_, ?_, ?_⟩
   ·rcases List.mem_append.1 hq with q1 | q1
    ·have := h2 q q1; omega
    rw [List.mem_singleton.1 q1]; simp only; omega
   ·rw [List.map_append]
    refine List.pairwise_append.2 ⟨h3, by simp, fun a ha b hb' => ?_⟩
    obtain ⟨q, hq, rfl⟩ := List.mem_map.1 ha
    simp only [List.map_cons, List.map_nil, List.mem_singleton] at hb'
    rw [hb']; exact h2 q hq
   rw [List.map_append]
   simp only [List.map_cons, List.map_nil]
   rw [head_app]
   exact h4
  | false =>
   simp only [cond_false]
   refine ⟨by simpa using h1, fun q hq => by have := h2 q hq; omega, h3, ?_⟩
   cases ho : W.os with
   | nil =>
    rw [ho] at h4
    exact Ch.snoc h4 (by omega) (by omega)
   | cons q r =>
    rw [ho] at h4
    have hq := h2 q (by rw [ho]; simp)
    exact (Ch.other (show Ch W.beh 0 q.1 from h4) (k := at_) (v := at_ + 1) (by omega) : Ch _ 0 q.1)
theorem wi_walk {l : List Nod} : ∀ {n at_ : Nat} {W W' : Wk}, walkW l n at_ W = some W' → at_ + n ≤ l.length → WI W l.length at_ → WI W' l.length (at_ + n)
 | 0, at_, W, W', h, _, I => by
  simp only [walkW, Option.some.injEq] at h
  subst h; exact I
 | n + 1, at_, W, W', h, hl, I => by
  unfold walkW at h
  cases hr : rightB (nth l at_) with
  | false => rw [hr] at h; cases h
  | true =>
   rw [hr, cond_true] at h
   split at h
   ·rename_i W1 h1
    have := wi_walk h (by omega) (wi_step h1 (by omega) I)
    rwa [show at_ + 1 + n = at_ + (n + 1) by omega] at this
   cases h
theorem good_ch {l : List Nod} {Wf : Wk} (hW : walkW l l.length 0 (walk0 l) = some Wf) (ho : Wf.os.length = 0) : Ch Wf.beh 0 l.length ∧ Wf.beh.length = l.length := by
 have I := wi_walk hW (by omega) ⟨by simp [walk0], fun p hp => by simp [walk0] at hp, by simp [walk0], .refl 0⟩
 have he : Wf.os = [] := List.length_eq_zero_iff.1 ho
 have h4 := I.ch
 rw [he] at h4
 exact ⟨by simpa using h4, I.len⟩
end Go.Proofs.Ytcncfmjfgdbfeab
