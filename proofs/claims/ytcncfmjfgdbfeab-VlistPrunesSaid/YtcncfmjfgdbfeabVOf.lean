/- items.Of: the items of a right list, one by one: walked once, for any round. -/
import Derived.Test.YtcncfmjfgdbfeabFast18
import Derived.Test.YtcncfmjfgdbfeabM28
namespace Go.Proofs.Ytcncfmjfgdbfeab
open Go.RowKit
theorem RoundX.mono {C C' : List HE → Prop} {Cx Cx' : Code → List HE → Prop} {W2 : World} {bs2 : List Nat} {fin2 : Fin} (h : RoundX C Cx W2 bs2 fin2) (h1 : ∀ hp, C' hp → C hp) (h2 : ∀ c hp, Cx' c hp → Cx c hp) : RoundX C' Cx' W2 bs2 fin2 :=
 ⟨fun hp q => h.normal hp (h1 hp q), fun e c hp q1 q2 => h.leave e c hp q1 (h2 c hp q2)⟩
theorem BegunX.mono {n : Nat} {body : Code} {L : Nat} {P : Program} {mm : Nat} {W : World} {bs : List Nat} {C C' : List HE → Prop} {Cx Cx' : Code → List HE → Prop} {N : Act → World → Prop} (h : BegunX n body L P mm W bs C Cx N) (h1 : ∀ hp, C' hp → C hp) (h2 : ∀ c hp, Cx' c hp → Cx c hp) : BegunX n body L P mm W bs C' Cx' N :=
 ⟨fun ops t hp g => h.back ops t hp fun W2 bs2 fin2 q1 q2 q3 q4 => g W2 bs2 fin2 q1 q2 q3 (q4.mono h1 h2)⟩
theorem seg3_run {P : Program} {T E : TypeId} {b o n c s e sz : Nat} (w : World) (hT : P.underlying T = some (.slice E)) (hs : cellsN P E = some sz) (hse : s < e) (hn : e ≤ c) :
  (sliceSem T (.slice (some ⟨b, o, none⟩) n c) (some (.int .i64 (s : Int))) (some (.int .i64 (e : Int))) (some (.int .i64 (e : Int)))).run P w = .ok (.value (.slice (some ⟨b, o + s * sz, none⟩) (e - s) (e - s))) w := by
 have hu : (underlying T).run P w = .ok (.slice E) w := by simp [underlying, program, hT, Sem.run, Result.andThen]
 obtain ⟨i, hi, hsz⟩ := Option.map_eq_some_iff.1 hs
 have hz : (sizeOf E).run P w = .ok sz w := by simp [sizeOf, typeInfo, program, hi, hsz, Sem.run, Result.andThen]
 have hb : (Instr.sliceBounds true n c (some (.int .i64 (s : Int))) (some (.int .i64 (e : Int))) (some (.int .i64 (e : Int)))).run P w = .ok (s, e, e) w := by
  have h0 : (0 : Int) ≤ s ∧ (s : Int) ≤ e := by omega
  have h1 : (0 : Int) ≤ e ∧ (e : Int) ≤ c := by omega
  simp [Instr.sliceBounds, Instr.sliceBound, asIntOf, h0, h1, Nat.le_of_lt hse, hn]
 have he : ¬ e = s := by omega
 simp [sliceSem, Instr.sliceAt, Instr.slice, hu, hz, hb, Result.andThen, he, add_addr]
structure OX (l : List Nod) (W : Wk) {X : Type} (pl : X → Nat) where
 x : X
 at_ : Nat
 op : Nat
 ch : Ch W.beh (pl x) l.length
 ok : (at_ = l.length ∧ pl x = l.length ∧ op = 0) ∨ (pl x < l.length ∧ pl x ≤ at_ ∧ at_ < W.beh.getD (pl x) 0 ∧ balS l (pl x) at_ = (op : Int))
section
variable {l : List Nod} {W : Wk} {X : Type} {pl : X → Nat}
theorem Ch.next {beh : List Nat} {s e : Nat} (h : Ch beh s e) (hs : s < e) : s < beh.getD s 0 ∧ Ch beh (beh.getD s 0) e := by
 cases h with
 | refl => omega
 | step h1 h2 h3 => exact ⟨h2, h3⟩
def OX.start (x : X) (hc : Ch W.beh (pl x) l.length) : OX l W pl :=
 ⟨x, pl x, 0, hc, by
  rcases Nat.lt_or_ge (pl x) l.length with h | h
  ·exact .inr ⟨h, Nat.le_refl _, (hc.next h).1, by rw [balS_same]; rfl⟩
  exact .inl ⟨by have := hc.le; omega, by have := hc.le; omega, rfl⟩⟩
theorem OX.in_ (o : OX l W pl) (h : o.at_ < l.length) : pl o.x < l.length ∧ pl o.x ≤ o.at_ ∧ o.at_ < W.beh.getD (pl o.x) 0 ∧ balS l (pl o.x) o.at_ = (o.op : Int) := by
 rcases o.ok with h1 | h1
 ·omega
 exact h1
theorem OX.itm (hG : Good l W) (o : OX l W pl) (h : o.at_ < l.length) : Itm l (pl o.x) (W.beh.getD (pl o.x) 0) := hG.itm rfl (by have := (o.in_ h).2.2.1; omega)
def OX.ex (o : OX l W pl) (h : o.at_ < l.length) : EX l (pl o.x) (W.beh.getD (pl o.x) 0) := ⟨o.at_, o.op, (o.in_ h).2.1, (o.in_ h).2.2.1, (o.in_ h).2.2.2⟩
theorem OX.le (o : OX l W pl) : o.at_ ≤ l.length ∧ pl o.x ≤ l.length := by
 refine ⟨?_, o.ch.le⟩
 rcases o.ok with h1 | h1
 ·omega
 have := (o.ch.next h1.1).2.le; omega
def OX.go (o : OX l W pl) (h : o.at_ < l.length) (y : EX l (pl o.x) (W.beh.getD (pl o.x) 0)) : OX l W pl := ⟨o.x, y.i, y.n, o.ch, .inr ⟨(o.in_ h).1, y.le, y.lt, y.hn⟩⟩
theorem OX.fin (hG : Good l W) (o : OX l W pl) (h : o.at_ < l.length) (h0 : balS l (pl o.x) (o.at_ + 1) = 0) : W.beh.getD (pl o.x) 0 = o.at_ + 1 := by
 have I := o.itm hG h
 have h2 := (o.in_ h).2.2.1
 rcases Nat.lt_or_ge (o.at_ + 1) (W.beh.getD (pl o.x) 0) with h3 | h3
 ·have := I.pos (o.at_ + 1) (by have := (o.in_ h).2.1; omega) h3
  omega
 omega
def OX.on (hG : Good l W) (o : OX l W pl) (h : o.at_ < l.length) (m : Nat) (hm : balS l (pl o.x) (o.at_ + 1) = (m : Int)) (h1 : 1 ≤ m) : OX l W pl :=
 ⟨o.x, o.at_ + 1, m, o.ch, .inr ⟨(o.in_ h).1, by have := (o.in_ h).2.1; omega, by
  have I := o.itm hG h
  have h2 := (o.in_ h).2.2.1
  rcases Nat.lt_or_ge (o.at_ + 1) (W.beh.getD (pl o.x) 0) with h3 | h3
  ·exact h3
  have h4 : W.beh.getD (pl o.x) 0 = o.at_ + 1 := by omega
  have h5 := I.zero
  rw [h4, hm] at h5
  omega, hm⟩⟩
theorem OX.bal (o : OX l W pl) (h : o.at_ < l.length) : balS l (pl o.x) (o.at_ + 1) = (o.op : Int) + balN (nth l o.at_) := by
 rw [balS_snoc (o.in_ h).2.1 h, (o.in_ h).2.2.2]
theorem OX.opens (hG : Good l W) (o : OX l W pl) (h : o.at_ < l.length) (h6 : (nth l o.at_).kind = 6) : enters (nth l (pl o.x)).kind = true := by
 have I := o.itm hG h
 have h1 := o.in_ h
 cases hen : enters (nth l (pl o.x)).kind with
 | true => rfl
 | false =>
  exfalso
  rcases Nat.lt_or_ge (pl o.x) o.at_ with h2 | h2
  ·have h3 := I.pos (pl o.x + 1) (by omega) (by omega)
   rw [balS_snoc (Nat.le_refl _) (by omega), balS_same] at h3
   have : balN (nth l (pl o.x)) ≤ 0 := by unfold balN; rw [hen]; split <;> simp
   omega
  have e : pl o.x = o.at_ := by omega
  rcases Nat.lt_or_ge (o.at_ + 1) (W.beh.getD (pl o.x) 0) with h3 | h3
  ·have h4 := I.pos (pl o.x + 1) (by omega) (by omega)
   rw [balS_snoc (Nat.le_refl _) (by omega), balS_same, e, balN_end h6] at h4
   omega
  have h4 := I.zero
  rw [show W.beh.getD (pl o.x) 0 = pl o.x + 1 by omega, balS_snoc (Nat.le_refl _) (by omega), balS_same, e, balN_end h6] at h4
  omega
theorem OX.small (hG : Good l W) (o : OX l W pl) (h : o.at_ < l.length) : o.op ≤ 2000 := EX.small (o.ex h) (o.itm hG h) hG.le
theorem OX.end_ (o : OX l W pl) (h : ¬ o.at_ < l.length) : pl o.x = l.length := by
 rcases o.ok with h1 | h1
 ·exact h1.2.1
 have := o.le.1
 have h2 := h1.2.2.1
 have := (o.ch.next h1.1).2.le
 omega
end
def hpSt (st : St) (hp : List HE) : St := { st with hp }
theorem g_fewer {F : Fence} {mm : Nat} {P : Program} {fin : Fin} {w0 : World} {bs : List Nat} {st : St} (n : Nat) (g : Goal F mm P fin w0 bs (takeSt st n)) : Goal F mm P fin w0 bs st := g_take n g
theorem g_is {F : Fence} {mm : Nat} {P : Program} {fin : Fin} {w0 : World} {bs : List Nat} {st st' : St} (h : st = st') (g : Goal F mm P fin w0 bs st') : Goal F mm P fin w0 bs st := h ▸ g
set_option maxRecDepth 100000 in
set_option maxHeartbeats 8000000 in
theorem of_walk1 {C : List HE → Prop} {Cx : Code → List HE → Prop} {n : Nat} {t : Tr} {ps : Array Tmp} {assign body : Code} {L : Nat} {w0 W1 : World} {bs bs1 : List Nat} {R : Ending → World → Prop} (hR : RangedX C Cx n t ps assign body L w0 bs W1 bs1 R) (hps : Nat.beq 2 ps.size = true)
  (l : List Nod) (bl ol cl : Nat) (W : Wk) (hG : Good l W) (hcl : l.length ≤ cl) (x1 : Nat) {X : Type} (pl : X → Nat) (E1 : X → HE) (x0 : X) (h0 : pl x0 = 0)
  (round : ∀ x e, pl x < l.length → W.beh.getD (pl x) 0 = e → pl x < e → e ≤ l.length → ∀ N, BegunX n body L Try.prog (0 - 1) W1 bs1 (fun hp => ∃ y, pl y = e ∧ hp = [.row bl ol 19 l.length (rowOf l), E1 y, .obj true x1 [.slice (some ⟨bl, ol, none⟩) l.length cl] 22]) Cx N →
   Goal (Fence.wide.inRound L) (0 - 1) Try.prog (fun _ _ _ => False) W1 bs1 ⟨n, [], #[], [], [.code assign, .hook N], Run.setsT n t (ps.toList.zip [.int .i64 ((pl x : Nat) : Int), .slice (some ⟨bl, ol + pl x * 19, none⟩) (e - pl x) (e - pl x)]), [.row bl ol 19 l.length (rowOf l), E1 x, .obj true x1 [.slice (some ⟨bl, ol, none⟩) l.length cl] 22]⟩)
  (done : ∀ x, pl x = l.length → C [.row bl ol 19 l.length (rowOf l), E1 x, .obj true x1 [.slice (some ⟨bl, ol, none⟩) l.length cl] 22]) :
  Goal Fence.wide 0 Try.prog (bodyPostM Fence.wide 0 Try.prog Try.f50 R) W1 bs1 (enterSt Try.f50.ntmps (Try.f50.body.getD .skip) [.func (.yield L) #[] #[], .pointer (some ⟨x1, 0, none⟩)] [.row bl ol 19 l.length (rowOf l), E1 x0, .obj true x1 [.slice (some ⟨bl, ol, none⟩) l.length cl] 22]) := by
 have hle := hG.le
 have hch : Ch W.beh (pl x0) l.length := by rw [h0]; exact (good_ch hG.walk hG.os).1
 refine gA [2] 0 ?_
 refine g_loopN (X := OX l W pl) (fun o => [(3, .int .i64 ((pl o.x : Nat) : Int)), (4, .int .i64 ((o.op : Nat) : Int)), (9, .int .i64 ((o.at_ : Nat) : Int))])
  (fun o => [.row bl ol 19 l.length (rowOf l), E1 o.x, .obj true x1 [.slice (some ⟨bl, ol, none⟩) l.length cl] 22]) (fun o => l.length - o.at_) (OX.start x0 hch) kR (by show Known _ [(3, .int .i64 ((pl x0 : Nat) : Int)), (4, .int .i64 ((0 : Nat) : Int)), (9, .int .i64 ((pl x0 : Nat) : Int))]; rw [h0]; unfold Known; kernel_rfl) kR fun o N hN => ?_
 refine g0 ?_
 refine g_dec 10 (decide ((o.at_ : Int) < (l.length : Int))) kR (fun h10 => ?_) (fun h10 => ?_)
 ·have hlt : o.at_ < l.length := by clear hN; simpa using h10
  have hbal := o.bal hlt
  have hsm := o.small hG hlt
  have hin := o.in_ hlt
  by_cases hen : enters (nth l o.at_).kind = true
  ·have hb2 : balS l (pl o.x) (o.at_ + 1) = ((o.op + 1 : Nat) : Int) := by rw [hbal, balN_open hen]; rfl
   refine gU 12 [] 1 ?_
   refine g_val _ _ ?_ (fun w _hs => idx_run (P := Try.prog) (T := 22) (E := 55) (b := bl) (o := ol) (n := l.length) (c := cl) (k := o.at_) (sz := 19) (kk := .i64) w kR kR hlt) ?_
   ·kernel_rfl
   refine g_val _ _ ?_ (fun w _hs => Sat.rowload (T := 55) (i := 0) (b := bl) (off := ol) (sz := 19) (n := l.length) (k := o.at_) (f := rowOf l) _hs kR hlt kR kR rfl) ?_
   ·kernel_rfl
   refine gN fun b3 hb3 => ?_
   refine gA (List.replicate 20 3) 0 ?_
   refine g_dec 16 ((nth l o.at_).kind == 4) kR (fun h16 => ?_) (fun h16 => ?_)
   ·refine gU 23 [] 2 ?_
    refine g_val _ _ ?_ (fun w _hs => nat_succ (P := Try.prog) (t := 3) (x := .tmp 22) (y := .const (.int .i64 1)) (m := o.op) (w := w) kR (by omega)) ?_
    ·kernel_rfl
    refine g0 ?_
    refine g_dec 29 (decide ((↑(o.op + 1) : Int) > 0)) kR (fun h29 => ?_) (fun h29 => ?_)
    ·refine gU 43 [] 1 ?_
     refine g_val _ _ ?_ (fun w _hs => nat_succ (P := Try.prog) (t := 3) (x := .tmp 9) (y := .const (.int .i64 1)) (m := o.at_) (w := w) kR (by omega)) ?_
     ·kernel_rfl
     refine g0 ?_
     refine g_take 3 ?_
     refine g_hook (hN (o.on hG hlt (o.op + 1) hb2 (by omega)) (by show l.length - (o.at_ + 1) < l.length - o.at_; omega)) kR kR kR (by unfold Known; kernel_rfl) kR kR
    exact absurd h29 (by clear hN hR round done; intro hx; first | (simp at hx; done) | (simp [enters] at hen; simp at *; omega))
   refine gA [] 1 ?_
   refine g_dec 16 ((nth l o.at_).kind == 5) kR (fun h16 => ?_) (fun h16 => ?_)
   ·refine gU 23 [] 2 ?_
    refine g_val _ _ ?_ (fun w _hs => nat_succ (P := Try.prog) (t := 3) (x := .tmp 22) (y := .const (.int .i64 1)) (m := o.op) (w := w) kR (by omega)) ?_
    ·kernel_rfl
    refine g0 ?_
    refine g_dec 29 (decide ((↑(o.op + 1) : Int) > 0)) kR (fun h29 => ?_) (fun h29 => ?_)
    ·refine gU 43 [] 1 ?_
     refine g_val _ _ ?_ (fun w _hs => nat_succ (P := Try.prog) (t := 3) (x := .tmp 9) (y := .const (.int .i64 1)) (m := o.at_) (w := w) kR (by omega)) ?_
     ·kernel_rfl
     refine g0 ?_
     refine g_take 3 ?_
     refine g_hook (hN (o.on hG hlt (o.op + 1) hb2 (by omega)) (by show l.length - (o.at_ + 1) < l.length - o.at_; omega)) kR kR kR (by unfold Known; kernel_rfl) kR kR
    exact absurd h29 (by clear hN hR round done; intro hx; first | (simp at hx; done) | (simp [enters] at hen; simp at *; omega))
   refine gA [] 1 ?_
   refine g_dec 16 ((nth l o.at_).kind == 10) kR (fun h16 => ?_) (fun h16 => ?_)
   ·refine gU 23 [] 2 ?_
    refine g_val _ _ ?_ (fun w _hs => nat_succ (P := Try.prog) (t := 3) (x := .tmp 22) (y := .const (.int .i64 1)) (m := o.op) (w := w) kR (by omega)) ?_
    ·kernel_rfl
    refine g0 ?_
    refine g_dec 29 (decide ((↑(o.op + 1) : Int) > 0)) kR (fun h29 => ?_) (fun h29 => ?_)
    ·refine gU 43 [] 1 ?_
     refine g_val _ _ ?_ (fun w _hs => nat_succ (P := Try.prog) (t := 3) (x := .tmp 9) (y := .const (.int .i64 1)) (m := o.at_) (w := w) kR (by omega)) ?_
     ·kernel_rfl
     refine g0 ?_
     refine g_take 3 ?_
     refine g_hook (hN (o.on hG hlt (o.op + 1) hb2 (by omega)) (by show l.length - (o.at_ + 1) < l.length - o.at_; omega)) kR kR kR (by unfold Known; kernel_rfl) kR kR
    exact absurd h29 (by clear hN hR round done; intro hx; first | (simp at hx; done) | (simp [enters] at hen; simp at *; omega))
   refine gA [] 1 ?_
   refine g_dec 16 ((nth l o.at_).kind == 13) kR (fun h16 => ?_) (fun h16 => ?_)
   ·refine gU 23 [] 2 ?_
    refine g_val _ _ ?_ (fun w _hs => nat_succ (P := Try.prog) (t := 3) (x := .tmp 22) (y := .const (.int .i64 1)) (m := o.op) (w := w) kR (by omega)) ?_
    ·kernel_rfl
    refine g0 ?_
    refine g_dec 29 (decide ((↑(o.op + 1) : Int) > 0)) kR (fun h29 => ?_) (fun h29 => ?_)
    ·refine gU 43 [] 1 ?_
     refine g_val _ _ ?_ (fun w _hs => nat_succ (P := Try.prog) (t := 3) (x := .tmp 9) (y := .const (.int .i64 1)) (m := o.at_) (w := w) kR (by omega)) ?_
     ·kernel_rfl
     refine g0 ?_
     refine g_take 3 ?_
     refine g_hook (hN (o.on hG hlt (o.op + 1) hb2 (by omega)) (by show l.length - (o.at_ + 1) < l.length - o.at_; omega)) kR kR kR (by unfold Known; kernel_rfl) kR kR
    exact absurd h29 (by clear hN hR round done; intro hx; first | (simp at hx; done) | (simp [enters] at hen; simp at *; omega))
   refine gA [] 1 ?_
   refine g_dec 16 ((nth l o.at_).kind == 17) kR (fun h16 => ?_) (fun h16 => ?_)
   ·refine gU 23 [] 1 ?_
    refine g_val _ _ ?_ (fun w _hs => nat_succ (P := Try.prog) (t := 3) (x := .tmp 22) (y := .const (.int .i64 1)) (m := o.op) (w := w) kR (by omega)) ?_
    ·kernel_rfl
    refine g0 ?_
    refine g_dec 29 (decide ((↑(o.op + 1) : Int) > 0)) kR (fun h29 => ?_) (fun h29 => ?_)
    ·refine gU 43 [] 1 ?_
     refine g_val _ _ ?_ (fun w _hs => nat_succ (P := Try.prog) (t := 3) (x := .tmp 9) (y := .const (.int .i64 1)) (m := o.at_) (w := w) kR (by omega)) ?_
     ·kernel_rfl
     refine g0 ?_
     refine g_take 3 ?_
     refine g_hook (hN (o.on hG hlt (o.op + 1) hb2 (by omega)) (by show l.length - (o.at_ + 1) < l.length - o.at_; omega)) kR kR kR (by unfold Known; kernel_rfl) kR kR
    exact absurd h29 (by clear hN hR round done; intro hx; first | (simp at hx; done) | (simp [enters] at hen; simp at *; omega))
   exact absurd h16 (by clear hN hR round done; intro hx; first | (simp at hx; done) | (simp [enters] at hen; simp at *; omega))
  have hen2 : enters (nth l o.at_).kind = false := by simpa using hen
  by_cases h6 : (nth l o.at_).kind = 6
  ·by_cases h1 : o.op ≤ 1
   ·have h1e : o.op = 1 := by
     have h5 := (o.ex hlt).one (o.itm hG hlt) (o.opens hG hlt h6) h6
     exact Nat.le_antisymm h1 h5
    have hfin := o.fin hG hlt (by rw [hbal, balN_end h6, h1e]; rfl)
    refine gU 12 [] 1 ?_
    refine g_val _ _ ?_ (fun w _hs => idx_run (P := Try.prog) (T := 22) (E := 55) (b := bl) (o := ol) (n := l.length) (c := cl) (k := o.at_) (sz := 19) (kk := .i64) w kR kR hlt) ?_
    ·kernel_rfl
    refine g_val _ _ ?_ (fun w _hs => Sat.rowload (T := 55) (i := 0) (b := bl) (off := ol) (sz := 19) (n := l.length) (k := o.at_) (f := rowOf l) _hs kR hlt kR kR rfl) ?_
    ·kernel_rfl
    refine gN fun b3 hb3 => ?_
    refine gA (List.replicate 20 3) 0 ?_
    refine g_dec 16 ((nth l o.at_).kind == 4) kR (fun h16 => ?_) (fun h16 => ?_)
    ·exact absurd h16 (by clear hN hR round done; intro hx; simp [enters] at hen2; simp at *; omega)
    refine gA [] 1 ?_
    refine g_dec 16 ((nth l o.at_).kind == 5) kR (fun h16 => ?_) (fun h16 => ?_)
    ·exact absurd h16 (by clear hN hR round done; intro hx; simp [enters] at hen2; simp at *; omega)
    refine gA [] 1 ?_
    refine g_dec 16 ((nth l o.at_).kind == 10) kR (fun h16 => ?_) (fun h16 => ?_)
    ·exact absurd h16 (by clear hN hR round done; intro hx; simp [enters] at hen2; simp at *; omega)
    refine gA [] 1 ?_
    refine g_dec 16 ((nth l o.at_).kind == 13) kR (fun h16 => ?_) (fun h16 => ?_)
    ·exact absurd h16 (by clear hN hR round done; intro hx; simp [enters] at hen2; simp at *; omega)
    refine gA [] 1 ?_
    refine g_dec 16 ((nth l o.at_).kind == 17) kR (fun h16 => ?_) (fun h16 => ?_)
    ·exact absurd h16 (by clear hN hR round done; intro hx; simp [enters] at hen2; simp at *; omega)
    refine gA [] 1 ?_
    refine g_dec 24 ((nth l o.at_).kind == 6) kR (fun h24 => ?_) (fun h24 => ?_)
    ·refine gU 27 [] 1 ?_
     refine g_val _ _ ?_ (fun w _hs => bin_run (P := Try.prog) (op := .sub) (t := 3) (x := .tmp 26) (y := .const (.int .i64 1)) (a := .int .i64 ((o.op : Nat) : Int)) (b := .int .i64 1) (v := .int .i64 (IntKind.i64.wrap ((o.op : Int) - 1))) (v' := .int .i64 ((0 : Nat) : Int)) (w := w) kR (by rw [h1e]; rfl)) ?_
     ·kernel_rfl
     refine gU 35 ([2]) 1 ?_
     refine g_val _ _ ?_ (fun w _hs => nat_succ (P := Try.prog) (t := 3) (x := .tmp 34) (y := .const (.int .i64 1)) (m := o.at_) (w := w) kR (by omega)) ?_
     ·kernel_rfl
     refine gU 37 [] 0 ?_
     refine g_val _ _ ?_ (fun w _hs => nat_succ (P := Try.prog) (t := 3) (x := .tmp 36) (y := .const (.int .i64 1)) (m := o.at_) (w := w) kR (by omega)) ?_
     ·kernel_rfl
     refine g_val _ _ ?_ (fun w _hs => seg3_run (P := Try.prog) (T := 22) (E := 55) (b := bl) (o := ol) (n := l.length) (c := cl) (s := pl o.x) (e := o.at_ + 1) (sz := 19) w kR kR (by omega) (by omega)) ?_
     ·kernel_rfl
     refine g_take 3 ?_
     refine g_yieldX hR.ready [.int .i64 ((pl o.x : Nat) : Int), .slice (some ⟨bl, ol + pl o.x * 19, none⟩) (o.at_ + 1 - pl o.x) (o.at_ + 1 - pl o.x)] kR hps fun N2 hB => ?_
     refine g_is kR (round o.x (o.at_ + 1) hin.1 hfin (by omega) hlt N2 (hB.mono (fun hp2 hq2 => ?_) (fun c hp2 hc W3 bs3 hE hD => ?_)))
     ·obtain ⟨y, hy, rfl⟩ := hq2
      have hch2 : Ch W.beh (pl y) l.length := by rw [hy, ← hfin]; exact (o.ch.next hin.1).2
      refine gU 42 [] 1 ?_
      refine g_val _ _ ?_ (fun w _hs => bin_run (P := Try.prog) (op := .add) (t := 3) (x := .tmp 41) (y := .const (.int .i64 1)) (a := .int .i64 ((o.at_ : Nat) : Int)) (b := .int .i64 1) (v := .int .i64 (IntKind.i64.wrap ((o.at_ : Int) + 1))) (v' := .int .i64 ((pl y : Nat) : Int)) (w := w) kR (by rw [wrap_i64 (by omega) (by omega), hy]; rfl)) ?_
      ·kernel_rfl
      refine gU 43 [] 0 ?_
      refine g_val _ _ ?_ (fun w _hs => bin_run (P := Try.prog) (op := .add) (t := 3) (x := .tmp 9) (y := .const (.int .i64 1)) (a := .int .i64 ((o.at_ : Nat) : Int)) (b := .int .i64 1) (v := .int .i64 (IntKind.i64.wrap ((o.at_ : Int) + 1))) (v' := .int .i64 ((pl y : Nat) : Int)) (w := w) kR (by rw [wrap_i64 (by omega) (by omega), hy]; rfl)) ?_
      ·kernel_rfl
      refine g0 ?_
      exact g_hook (hN (OX.start y hch2) (by show l.length - pl y < l.length - o.at_; omega)) kR kR kR (by unfold Known; kernel_rfl) kR kR
     refine gA [] 1 ?_
     refine g_retM (W0 := W3) (bs0 := bs3) [] (Value.tuple #[]) kR kR [] kR (.refl _ _) (fun D hD => by cases hD) List.nodup_nil fun w2 hs2 => ?_
     exact hR.leave c _ hc W3 bs3 _ w2 hE hD (hs2.at kR)
    exact absurd h24 (by clear hN hR round done; intro hx; simp [enters] at hen2; simp at *; omega)
   have hb2 : balS l (pl o.x) (o.at_ + 1) = ((o.op - 1 : Nat) : Int) := by rw [hbal, balN_end h6]; omega
   refine gU 12 [] 1 ?_
   refine g_val _ _ ?_ (fun w _hs => idx_run (P := Try.prog) (T := 22) (E := 55) (b := bl) (o := ol) (n := l.length) (c := cl) (k := o.at_) (sz := 19) (kk := .i64) w kR kR hlt) ?_
   ·kernel_rfl
   refine g_val _ _ ?_ (fun w _hs => Sat.rowload (T := 55) (i := 0) (b := bl) (off := ol) (sz := 19) (n := l.length) (k := o.at_) (f := rowOf l) _hs kR hlt kR kR rfl) ?_
   ·kernel_rfl
   refine gN fun b3 hb3 => ?_
   refine gA (List.replicate 20 3) 0 ?_
   refine g_dec 16 ((nth l o.at_).kind == 4) kR (fun h16 => ?_) (fun h16 => ?_)
   ·exact absurd h16 (by clear hN hR round done; intro hx; simp [enters] at hen2; simp at *; omega)
   refine gA [] 1 ?_
   refine g_dec 16 ((nth l o.at_).kind == 5) kR (fun h16 => ?_) (fun h16 => ?_)
   ·exact absurd h16 (by clear hN hR round done; intro hx; simp [enters] at hen2; simp at *; omega)
   refine gA [] 1 ?_
   refine g_dec 16 ((nth l o.at_).kind == 10) kR (fun h16 => ?_) (fun h16 => ?_)
   ·exact absurd h16 (by clear hN hR round done; intro hx; simp [enters] at hen2; simp at *; omega)
   refine gA [] 1 ?_
   refine g_dec 16 ((nth l o.at_).kind == 13) kR (fun h16 => ?_) (fun h16 => ?_)
   ·exact absurd h16 (by clear hN hR round done; intro hx; simp [enters] at hen2; simp at *; omega)
   refine gA [] 1 ?_
   refine g_dec 16 ((nth l o.at_).kind == 17) kR (fun h16 => ?_) (fun h16 => ?_)
   ·exact absurd h16 (by clear hN hR round done; intro hx; simp [enters] at hen2; simp at *; omega)
   refine gA [] 1 ?_
   refine g_dec 24 ((nth l o.at_).kind == 6) kR (fun h24 => ?_) (fun h24 => ?_)
   ·refine gU 27 [] 1 ?_
    refine g_val _ _ ?_ (fun w _hs => bin_run (P := Try.prog) (op := .sub) (t := 3) (x := .tmp 26) (y := .const (.int .i64 1)) (a := .int .i64 ((o.op : Nat) : Int)) (b := .int .i64 1) (v := .int .i64 (IntKind.i64.wrap ((o.op : Int) - 1))) (v' := .int .i64 ((o.op - 1 : Nat) : Int)) (w := w) kR (by rw [wrap_i64 (by omega) (by omega), show (o.op : Int) - 1 = ((o.op - 1 : Nat) : Int) by omega])) ?_
    ·kernel_rfl
    refine g0 ?_
    refine g_dec 29 (decide ((↑(o.op - 1) : Int) > 0)) kR (fun h29 => ?_) (fun h29 => ?_)
    ·refine gU 43 [] 1 ?_
     refine g_val _ _ ?_ (fun w _hs => nat_succ (P := Try.prog) (t := 3) (x := .tmp 9) (y := .const (.int .i64 1)) (m := o.at_) (w := w) kR (by omega)) ?_
     ·kernel_rfl
     refine g0 ?_
     refine g_take 3 ?_
     refine g_hook (hN (o.on hG hlt (o.op - 1) hb2 (by omega)) (by show l.length - (o.at_ + 1) < l.length - o.at_; omega)) kR kR kR (by unfold Known; kernel_rfl) kR kR
    exact absurd h29 (by clear hN hR round done; intro hx; simp [enters] at hen2; simp at *; omega)
   exact absurd h24 (by clear hN hR round done; intro hx; simp [enters] at hen2; simp at *; omega)
  by_cases h1 : o.op = 0
  ·have hfin := o.fin hG hlt (by rw [hbal, balN_none hen2 h6, h1]; rfl)
   refine g_rw 4 (.int .i64 ((o.op : Nat) : Int)) (.int .i64 ((0 : Nat) : Int)) kR (by rw [h1]) ?_
   refine gU 12 [] 1 ?_
   refine g_val _ _ ?_ (fun w _hs => idx_run (P := Try.prog) (T := 22) (E := 55) (b := bl) (o := ol) (n := l.length) (c := cl) (k := o.at_) (sz := 19) (kk := .i64) w kR kR hlt) ?_
   ·kernel_rfl
   refine g_val _ _ ?_ (fun w _hs => Sat.rowload (T := 55) (i := 0) (b := bl) (off := ol) (sz := 19) (n := l.length) (k := o.at_) (f := rowOf l) _hs kR hlt kR kR rfl) ?_
   ·kernel_rfl
   refine gN fun b3 hb3 => ?_
   refine gA (List.replicate 20 3) 0 ?_
   refine g_dec 16 ((nth l o.at_).kind == 4) kR (fun h16 => ?_) (fun h16 => ?_)
   ·exact absurd h16 (by clear hN hR round done; intro hx; simp [enters] at hen2; simp at *; omega)
   refine gA [] 1 ?_
   refine g_dec 16 ((nth l o.at_).kind == 5) kR (fun h16 => ?_) (fun h16 => ?_)
   ·exact absurd h16 (by clear hN hR round done; intro hx; simp [enters] at hen2; simp at *; omega)
   refine gA [] 1 ?_
   refine g_dec 16 ((nth l o.at_).kind == 10) kR (fun h16 => ?_) (fun h16 => ?_)
   ·exact absurd h16 (by clear hN hR round done; intro hx; simp [enters] at hen2; simp at *; omega)
   refine gA [] 1 ?_
   refine g_dec 16 ((nth l o.at_).kind == 13) kR (fun h16 => ?_) (fun h16 => ?_)
   ·exact absurd h16 (by clear hN hR round done; intro hx; simp [enters] at hen2; simp at *; omega)
   refine gA [] 1 ?_
   refine g_dec 16 ((nth l o.at_).kind == 17) kR (fun h16 => ?_) (fun h16 => ?_)
   ·exact absurd h16 (by clear hN hR round done; intro hx; simp [enters] at hen2; simp at *; omega)
   refine gA [] 1 ?_
   refine g_dec 24 ((nth l o.at_).kind == 6) kR (fun h24 => ?_) (fun h24 => ?_)
   ·exact absurd h24 (by clear hN hR round done; intro hx; simp [enters] at hen2; simp at *; omega)
   refine gU 35 ([2]) 2 ?_
   refine g_val _ _ ?_ (fun w _hs => nat_succ (P := Try.prog) (t := 3) (x := .tmp 34) (y := .const (.int .i64 1)) (m := o.at_) (w := w) kR (by omega)) ?_
   ·kernel_rfl
   refine gU 37 [] 0 ?_
   refine g_val _ _ ?_ (fun w _hs => nat_succ (P := Try.prog) (t := 3) (x := .tmp 36) (y := .const (.int .i64 1)) (m := o.at_) (w := w) kR (by omega)) ?_
   ·kernel_rfl
   refine g_val _ _ ?_ (fun w _hs => seg3_run (P := Try.prog) (T := 22) (E := 55) (b := bl) (o := ol) (n := l.length) (c := cl) (s := pl o.x) (e := o.at_ + 1) (sz := 19) w kR kR (by omega) (by omega)) ?_
   ·kernel_rfl
   refine g_take 3 ?_
   refine g_yieldX hR.ready [.int .i64 ((pl o.x : Nat) : Int), .slice (some ⟨bl, ol + pl o.x * 19, none⟩) (o.at_ + 1 - pl o.x) (o.at_ + 1 - pl o.x)] kR hps fun N2 hB => ?_
   refine g_is kR (round o.x (o.at_ + 1) hin.1 hfin (by omega) hlt N2 (hB.mono (fun hp2 hq2 => ?_) (fun c hp2 hc W3 bs3 hE hD => ?_)))
   ·obtain ⟨y, hy, rfl⟩ := hq2
    have hch2 : Ch W.beh (pl y) l.length := by rw [hy, ← hfin]; exact (o.ch.next hin.1).2
    refine gU 42 [] 1 ?_
    refine g_val _ _ ?_ (fun w _hs => bin_run (P := Try.prog) (op := .add) (t := 3) (x := .tmp 41) (y := .const (.int .i64 1)) (a := .int .i64 ((o.at_ : Nat) : Int)) (b := .int .i64 1) (v := .int .i64 (IntKind.i64.wrap ((o.at_ : Int) + 1))) (v' := .int .i64 ((pl y : Nat) : Int)) (w := w) kR (by rw [wrap_i64 (by omega) (by omega), hy]; rfl)) ?_
    ·kernel_rfl
    refine gU 43 [] 0 ?_
    refine g_val _ _ ?_ (fun w _hs => bin_run (P := Try.prog) (op := .add) (t := 3) (x := .tmp 9) (y := .const (.int .i64 1)) (a := .int .i64 ((o.at_ : Nat) : Int)) (b := .int .i64 1) (v := .int .i64 (IntKind.i64.wrap ((o.at_ : Int) + 1))) (v' := .int .i64 ((pl y : Nat) : Int)) (w := w) kR (by rw [wrap_i64 (by omega) (by omega), hy]; rfl)) ?_
    ·kernel_rfl
    refine g0 ?_
    exact g_hook (hN (OX.start y hch2) (by show l.length - pl y < l.length - o.at_; omega)) kR kR kR (by unfold Known; kernel_rfl) kR kR
   refine gA [] 1 ?_
   refine g_retM (W0 := W3) (bs0 := bs3) [] (Value.tuple #[]) kR kR [] kR (.refl _ _) (fun D hD => by cases hD) List.nodup_nil fun w2 hs2 => ?_
   exact hR.leave c _ hc W3 bs3 _ w2 hE hD (hs2.at kR)
  have hb2 : balS l (pl o.x) (o.at_ + 1) = ((o.op : Nat) : Int) := by rw [hbal, balN_none hen2 h6]; omega
  refine gU 12 [] 1 ?_
  refine g_val _ _ ?_ (fun w _hs => idx_run (P := Try.prog) (T := 22) (E := 55) (b := bl) (o := ol) (n := l.length) (c := cl) (k := o.at_) (sz := 19) (kk := .i64) w kR kR hlt) ?_
  ·kernel_rfl
  refine g_val _ _ ?_ (fun w _hs => Sat.rowload (T := 55) (i := 0) (b := bl) (off := ol) (sz := 19) (n := l.length) (k := o.at_) (f := rowOf l) _hs kR hlt kR kR rfl) ?_
  ·kernel_rfl
  refine gN fun b3 hb3 => ?_
  refine gA (List.replicate 20 3) 0 ?_
  refine g_dec 16 ((nth l o.at_).kind == 4) kR (fun h16 => ?_) (fun h16 => ?_)
  ·exact absurd h16 (by clear hN hR round done; intro hx; simp [enters] at hen2; simp at *; omega)
  refine gA [] 1 ?_
  refine g_dec 16 ((nth l o.at_).kind == 5) kR (fun h16 => ?_) (fun h16 => ?_)
  ·exact absurd h16 (by clear hN hR round done; intro hx; simp [enters] at hen2; simp at *; omega)
  refine gA [] 1 ?_
  refine g_dec 16 ((nth l o.at_).kind == 10) kR (fun h16 => ?_) (fun h16 => ?_)
  ·exact absurd h16 (by clear hN hR round done; intro hx; simp [enters] at hen2; simp at *; omega)
  refine gA [] 1 ?_
  refine g_dec 16 ((nth l o.at_).kind == 13) kR (fun h16 => ?_) (fun h16 => ?_)
  ·exact absurd h16 (by clear hN hR round done; intro hx; simp [enters] at hen2; simp at *; omega)
  refine gA [] 1 ?_
  refine g_dec 16 ((nth l o.at_).kind == 17) kR (fun h16 => ?_) (fun h16 => ?_)
  ·exact absurd h16 (by clear hN hR round done; intro hx; simp [enters] at hen2; simp at *; omega)
  refine gA [] 1 ?_
  refine g_dec 24 ((nth l o.at_).kind == 6) kR (fun h24 => ?_) (fun h24 => ?_)
  ·exact absurd h24 (by clear hN hR round done; intro hx; simp [enters] at hen2; simp at *; omega)
  refine gA [] 1 ?_
  refine g_dec 29 (decide ((↑o.op : Int) > 0)) kR (fun h29 => ?_) (fun h29 => ?_)
  ·refine gU 43 [] 1 ?_
   refine g_val _ _ ?_ (fun w _hs => nat_succ (P := Try.prog) (t := 3) (x := .tmp 9) (y := .const (.int .i64 1)) (m := o.at_) (w := w) kR (by omega)) ?_
   ·kernel_rfl
   refine g0 ?_
   refine g_take 3 ?_
   refine g_hook (hN (o.on hG hlt o.op hb2 (by omega)) (by show l.length - (o.at_ + 1) < l.length - o.at_; omega)) kR kR kR (by unfold Known; kernel_rfl) kR kR
  exact absurd h29 (by clear hN hR round done; intro hx; simp [enters] at hen2; simp at *; omega)
 have hend : pl o.x = l.length := o.end_ (by clear hN; simpa using h10)
 refine gA [] 1 ?_
 refine g_retM (W0 := W1) (bs0 := bs1) [] (Value.tuple #[]) kR kR [] kR (.refl _ _) (fun D hD => by cases hD) List.nodup_nil fun w2 hs2 => ?_
 exact hR.back _ (done o.x hend) W1 bs1 _ w2 (.refl _ _) (hs2.at kR)
end Go.Proofs.Ytcncfmjfgdbfeab
