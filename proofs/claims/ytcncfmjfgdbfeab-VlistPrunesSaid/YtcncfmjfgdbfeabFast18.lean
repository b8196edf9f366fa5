/- The second way to walk: a round of a range over a function that leaves its loop (return, break). -/
import Derived.Test.YtcncfmjfgdbfeabFast13
namespace Go.Proofs.Ytcncfmjfgdbfeab
open Go.RowKit
noncomputable section
structure ExtL (l : Nat) (W : World) (bs : List Nat) (W' : World) (bs' : List Nat) : Prop where
 kept : ∀ w, KeptBut bs' W' w → KeptBut (l :: bs) W w
 own : ∀ b, (W'.heap.size ≤ b ∨ b ∈ bs') → (W.heap.size ≤ b ∨ b ∈ bs)
 obj : ∀ l' o, l' ≠ l → W.heap[l']? = some o → o.isCells = false → l' ∉ bs → W'.heap[l']? = some o ∧ l' ∉ bs'
structure DoneRec (L : Nat) (c : Code) (W : World) (bs : List Nat) : Prop where
 out : ∃ r, W.heap[L]? = some (.loop r) ∧ r.state = .done ∧ r.pending = some c
 far : L ∉ bs
theorem ExtL.sat {l : Nat} {W0 W W' w : World} {bs0 bs bs' : List Nat} {hp : List HE} (h : ExtL l W bs W' bs') (h0 : ∀ b, (W.heap.size ≤ b ∨ b ∈ bs) → (W0.heap.size ≤ b ∨ b ∈ bs0)) (hk : ∀ w, KeptBut (l :: bs) W w → KeptBut bs0 W0 w) (k : Sat W' bs' hp w) : Sat W0 bs0 hp w := by
 refine ⟨hk w (h.kept w k.kept), fun e he => ?_, k.apart⟩
 have h1 := k.holds e he
 cases e with
 | obj o b cs T => exact ⟨h1.1, fun q => h0 b (h.own b (h1.2 q))⟩
 | row b off sz n f => exact h1
theorem Sat.newBaseL {W w : World} {bs : List Nat} {hp : List HE} (h : Sat W bs hp w) {l : Nat} (hl : W.heap.size ≤ l) : ∀ w', KeptBut (l :: owns hp) w w' → KeptBut bs W w' := fun w' k => by
 have hown : ∀ b, b ∈ owns hp → W.heap.size ≤ b ∨ b ∈ bs := fun b hb => by
  obtain ⟨e, he, h1, rfl⟩ := mem_owns.1 hb
  exact (own_cells (h.holds e he) h1).2
 refine ⟨k.os.trans h.kept.os, k.tape.trans h.kept.tape, k.output.trans h.kept.output, Nat.le_trans h.kept.size k.size, fun i hi hn => ?_⟩
 rw [k.block i (Nat.lt_of_lt_of_le hi h.kept.size) (fun hm => by
  rcases List.mem_cons.1 hm with q | q
  ·omega
  rcases hown i q with q | q <;> first | omega | exact hn q), h.kept.block i hi hn]
structure RangedX (C : List HE → Prop) (Cx : Code → List HE → Prop) (n : Nat) (t : Tr) (ps : Array Tmp) (assign body : Code) (L : Nat) (W : World) (bs : List Nat) (W1 : World) (bs1 : List Nat) (R : Ending → World → Prop) : Prop extends Ranged C n t ps assign body L W bs W1 bs1 R where
 leave : ∀ c hp, Cx c hp → ∀ W2 bs2 v w, ExtL L W1 bs1 W2 bs2 → DoneRec L c W2 bs2 → Sat W2 bs2 hp w → R (.returned v) w
section
variable {mm : Nat} {P : Program} {fin : Fin} {w0 : World} {bs : List Nat} {st : St}
def behindX (st : St) (c : Code) (ds : List Deferred) (hp : List HE) : St := { st with l := [], k := .code c :: rgRest st, ds, hp }
theorem g_rangeX (gf : FuncId) (h : rgFn st = some gf) (hq : ∀ L, runQ P (callFunc gf (rgArgs st L).toArray) = some (.enter gf (rgArgs st L).toArray))
  {fnI : Func} {cI : Code} {nI : Nat} (hf : P.funcs[gf]? = some fnI) (hb : fnI.body = some cI) (hn : fnI.ntmps = nI) (hle : ∀ L, (rgArgs st L).length ≤ nI)
  (g : ∀ L W1 bs1 R, RangedX (fun hp => ∀ D W3 bs3, w0.heap.size ≤ D → Ext w0 bs W3 bs3 → W3.heap[D]? = some (.deferred (some [])) → D ∉ bs3 → Goal Fence.wide mm P fin W3 bs3 (behind st (Run.markOf D :: st.ds) hp))
   (fun c hp => ∀ D W3 bs3, w0.heap.size ≤ D → Ext w0 bs W3 bs3 → W3.heap[D]? = some (.deferred (some [])) → D ∉ bs3 → Goal Fence.wide mm P fin W3 bs3 (behindX st c (Run.markOf D :: st.ds) hp)) st.n st.t (rgPs st) (rgAssign st) (rgBody st) L w0 bs W1 bs1 R →
   Goal Fence.wide 0 P (bodyPostM Fence.wide 0 P fnI R) W1 bs1 (enterSt nI cI (rgArgs st L) st.hp)) : Goal Fence.wide mm P fin w0 bs st := by
 refine ⟨fun hF a w hr hw => ?_⟩
 obtain ⟨gop, first, cap, s1, s2, s3, s4⟩ := rg_shape h
 rw [s1, s2]
 show (Code.rangeFunc gop (rgPs st) (rgAssign st) (rgBody st)).wpIn Fence.wide mm P (den Fence.wide mm P fin (rgRest st)) a w
 have hga : a.eval gop = .func (.func gf) first cap := hr.ev s3
 have hres : ∀ (l : Nat) (w : World), (resolve a.eval (rangeCall gop l) 0).run P w = .ok { target := .fn (.func gf) cap, args := first ++ #[.func (.yield l) #[] #[]] } w := fun l w => by
  have hc : a.eval (.const (.func (.yield l) #[] #[])) = .func (.yield l) #[] #[] := rfl
  simp only [resolve, hga, Deferred.ofValue, List.map_toArray, List.map_cons, List.map_nil, hc]
  rfl
 refine wpIn_rangeFunc fun fn _ => ?_
 obtain ⟨W1, hW1⟩ : ∃ W1, (w.alloc (.deferred (some []))).alloc (.loop { state := .ready, pending := none, fn, tmps := a.tmps, params := rgPs st, assign := rgAssign st, body := rgBody st, defers := w.heap.size }) = W1 := ⟨_, rfl⟩
 have hL : W1.heap[w.heap.size + 1]? = some (.loop { state := .ready, pending := none, fn, tmps := a.tmps, params := rgPs st, assign := rgAssign st, body := rgBody st, defers := w.heap.size }) := by
  rw [← hW1]; have := World.alloc_heap_new (w.alloc (.deferred (some []))) (.loop { state := .ready, pending := none, fn, tmps := a.tmps, params := rgPs st, assign := rgAssign st, body := rgBody st, defers := w.heap.size }); rwa [World.size_alloc] at this
 have hD : W1.heap[w.heap.size]? = some (.deferred (some [])) := by
  rw [← hW1]; exact (Below.heap_alloc _ _ _ (by simp)).trans (World.alloc_heap_new w _)
 have hk : Kept w W1 := by
  rw [← hW1]; exact ((Below.refl _ w).alloc (Nat.le_refl _) _).alloc (by simp) _
 have hs1 := hw.of_kept hk
 obtain ⟨he, hs2⟩ := hs1.newBase
 have hsz : w0.heap.size ≤ w.heap.size := hw.kept.size
 refine ⟨w.heap.size + 1, [Run.markOf w.heap.size], W1, _, W1, gf, (rgArgs st (w.heap.size + 1)).toArray, W1, ?_, hres _ _, fun f' _ => hF.fn f', ?_, fun h => hF.depth h, ?_⟩
 ·rw [← hW1]; exact run_enterLoop_outer fn a.tmps (rgPs st) (rgAssign st) (rgBody st)
 ·have := runQ_run (hq (w.heap.size + 1)) W1
  rw [show (rgArgs st _).toArray = first ++ #[Value.func (.yield _) #[] #[]] ++ cap by rw [s4]] at this ⊢
  simp only [invoke]
  exact this
 refine hF.calls (g_enterM (owns st.hp) st.hp hf hb hn (hle _) hs2 (g _ W1 _ _ ⟨⟨he, by omega, ⟨⟨fn, a.tmps, w.heap.size, hL, hr.size, hr.at_⟩, far_owns hs2 hL rfl⟩, ?_⟩, ?_⟩))
 rotate_left
 ·intro c hp hC W2 bs2 v w2 hE hD2 hS
  obtain ⟨⟨r, l1, l4, l5⟩, l2⟩ := hD2
  cases r with | mk rst rpe rfn rtm rps ras rbo rde =>
  simp only at l4 l5
  subst l4
  subst l5
  obtain ⟨d1, d2⟩ := hE.obj _ _ (by omega) hD rfl (far_owns hs2 hD rfl)
  have l3 : w2.heap[w.heap.size + 1]? = some (.loop ⟨.done, some c, rfn, rtm, rps, ras, rbo, rde⟩) := (hS.kept.block _ (Array.getElem?_eq_some_iff.1 l1).1 l2).trans l1
  have d3 : w2.heap[w.heap.size]? = _ := (hS.kept.block _ (Array.getElem?_eq_some_iff.1 d1).1 d2).trans d1
  refine ⟨some c, _, run_endLoop (P := P) l3 (by simp), ?_⟩
  have q0 : Sat w0 bs hp w2 := hE.sat he.own (hs1.newBaseL (by omega)) hS
  have q1 : Sat w0 bs hp (w2.putObj (w.heap.size + 1) (.loop ⟨.exhausted, some c, rfn, rtm, rps, ras, rbo, rde⟩)) := q0.turn l3 rfl (by omega) _
  obtain ⟨q2, q3⟩ := q1.newBase
  have d4 := (World.putObj_heap_other (w := w2) (r := w.heap.size + 1) (o := .loop ⟨.exhausted, some c, rfn, rtm, rps, ras, rbo, rde⟩) (k := w.heap.size) (by omega)).trans d3
  exact (hC w.heap.size _ _ hsz q2 d4 (far_owns q3 d4 rfl)).out hF { a with defers := Run.markOf w.heap.size :: a.defers } _ ⟨hr.size, by simp [behindX, hr.defers], hr.at_⟩ q3
 intro hp hC W2 bs2 v w2 hE hS
 obtain ⟨l1, l2⟩ := hE.obj _ _ hL rfl (far_owns hs2 hL rfl)
 obtain ⟨d1, d2⟩ := hE.obj _ _ hD rfl (far_owns hs2 hD rfl)
 have l3 : w2.heap[w.heap.size + 1]? = _ := (hS.kept.block _ (Array.getElem?_eq_some_iff.1 l1).1 l2).trans l1
 have d3 : w2.heap[w.heap.size]? = _ := (hS.kept.block _ (Array.getElem?_eq_some_iff.1 d1).1 d2).trans d1
 refine ⟨none, _, run_endLoop (P := P) l3 (by simp), ?_⟩
 have q1 : Sat w0 bs hp (w2.putObj (w.heap.size + 1) (.loop { state := .exhausted, pending := none, fn, tmps := a.tmps, params := rgPs st, assign := rgAssign st, body := rgBody st, defers := w.heap.size })) :=
  (he.sat (hE.sat hS)).turn l3 rfl (by omega) _
 obtain ⟨q2, q3⟩ := q1.newBase
 have d4 := (World.putObj_heap_other (w := w2) (r := w.heap.size + 1) (o := .loop { state := .exhausted, pending := none, fn, tmps := a.tmps, params := rgPs st, assign := rgAssign st, body := rgBody st, defers := w.heap.size }) (k := w.heap.size) (by omega)).trans d3
 exact (hC w.heap.size _ _ hsz q2 d4 (far_owns q3 d4 rfl)).out hF { a with defers := Run.markOf w.heap.size :: a.defers } _ ⟨hr.size, by simp [behind, hr.defers], hr.at_⟩ q3
end
def codeOf : Exit → Option Code
 | .ret => some .ret
 | .exit id => some (.exit id)
 | _ => none
structure RoundX (C : List HE → Prop) (Cx : Code → List HE → Prop) (W2 : World) (bs2 : List Nat) (fin2 : Fin) : Prop where
 normal : ∀ hp, C hp → ∀ W3 bs3 a w, Ext W2 bs2 W3 bs3 → Sat W3 bs3 hp w → fin2 .normal a w
 leave : ∀ e c hp, codeOf e = some c → Cx c hp → ∀ W3 bs3 a w, Ext W2 bs2 W3 bs3 → Sat W3 bs3 hp w → fin2 e a w
structure BegunX (n : Nat) (body : Code) (L : Nat) (P : Program) (mm : Nat) (W : World) (bs : List Nat) (C : List HE → Prop) (Cx : Code → List HE → Prop) (N : Act → World → Prop) : Prop where
 back : ∀ ops t hp, (∀ W2 bs2 fin2, (∀ l o, l ≠ L → W.heap[l]? = some o → o.isCells = false → l ∉ bs → W2.heap[l]? = some o ∧ l ∉ bs2) → (∃ r, W2.heap[L]? = some (.loop r) ∧ L ∉ bs2) → W.heap.size ≤ W2.heap.size → RoundX C Cx W2 bs2 fin2 →
   Goal (Fence.wide.inRound L) mm P fin2 W2 bs2 ⟨n, [], ops, [], [.code body], t, hp⟩) → ∀ a w, Rep n [] a t → Sat W bs hp w → N a w
section
variable {F : Fence} {mm : Nat} {P : Program} {fin : Fin} {w0 : World} {bs : List Nat} {st : St}
theorem g_yieldX {n : Nat} {t : Tr} {ps : Array Tmp} {assign body : Code} {L : Nat} (hrec : Rec n t ps assign body L w0 bs) (args : List Value) (hy : yieldAt st = some (L, args)) (hlen : Nat.beq args.length ps.size = true)
  (g : ∀ N, BegunX n body L P (mm - 1) w0 bs (fun hp => Goal F mm P fin w0 bs (retSt st (.bool true) hp)) (fun c hp => ∀ W3 bs3, ExtL L w0 bs W3 bs3 → DoneRec L c W3 bs3 → Goal F mm P fin W3 bs3 (retSt st (.bool false) hp)) N →
   Goal (Fence.wide.inRound L) (mm - 1) P (fun _ _ _ => False) w0 bs ⟨n, [], #[], [], [.code assign, .hook N], Run.setsT n t (ps.toList.zip args), st.hp⟩) : Goal F mm P fin w0 bs st := by
 refine ⟨fun hF a w hr hw => ?_⟩
 obtain ⟨fnid, tmps, D, r1, r2, r3⟩ := hrec.out
 have hl : w.heap[L]? = some (.loop { state := .ready, pending := none, fn := fnid, tmps, params := ps, assign, body, defers := D }) := (hw.kept.block L (Array.getElem?_eq_some_iff.1 r1).1 hrec.far).trans r1
 have hlen' := Nat.eq_of_beq_eq_true hlen
 have hown : ∀ {hp : List HE} {w : World}, Sat w0 bs hp w → ∀ b, b ∈ owns hp → w0.heap.size ≤ b ∨ b ∈ bs := fun hw b hb => by
  obtain ⟨e, he, h1, rfl⟩ := mem_owns.1 hb
  exact (own_cells (hw.holds e he) h1).2
 obtain ⟨sn, ds, ops, l, k, st_t, hp⟩ := st
 unfold yieldAt at hy
 simp only at hy hr hw g ⊢
 cases l with
 | nil => cases hy
 | cons o rest =>
  simp only at hy
  split at hy
  rotate_left
  ·cases hy
  rename_i hwn
  obtain ⟨hnd, hsem⟩ := Run.yield_sem (P := P) hy hr
  unfold wpListIn
  rw [hr.wanted hwn, if_pos rfl]
  refine ⟨fun f _ => hF.fn f, ?_⟩
  rw [Oper.semAt_eq _ _ _ hnd, hsem, run_yield (args := args.toArray) hl (by simpa using hlen')]
  refine ⟨fun h => hF.depth h, RoundIn.mono (R := fun e w'' => ∃ v, e = .returned v ∧ wpListIn F mm P ops (den F mm P fin k) rest (a.put o.dst v) w'') ?_ ?_⟩
  rotate_left
  ·rintro e w' ⟨v, rfl, h⟩
   exact h
  refine roundIn_of_wpIn (hF.fn fnid) ?_
  rw [wide_round hF]
  simp only [Run.zip_foldl]
  have hrep : Rep n [] { tmps := (ps.toList.zip args).foldl (fun tmps p => tmps.setIfInBounds p.1 p.2) tmps, defers := [] } (Run.setsT n t (ps.toList.zip args)) := Run.setsT_rep _ ⟨r2, rfl, r3⟩
  refine wpIn_mono ((g (fun a1 w1 => ∃ w2, (Instr.beginRound L).run P w1 = .ok () w2 ∧ body.wpIn (Fence.wide.inRound L) (mm - 1) P (roundPost P L (fun e w'' => ∃ v, e = .returned v ∧ wpListIn F mm P ops (den F mm P fin k) rest (a.put o.dst v) w'')) a1 w2) ⟨?_⟩).out (.inr ⟨L, rfl⟩) _ w hrep hw) ?_
  rotate_left
  ·intro e a1 w1 h
   cases e <;> first | exact h | exact h.elim
  intro ops1 t1 hp1 hG a1 w1 hr1 hw1
  have hl1 : w1.heap[L]? = some (.loop { state := .ready, pending := none, fn := fnid, tmps, params := ps, assign, body, defers := D }) := (hw1.kept.block L (Array.getElem?_eq_some_iff.1 r1).1 hrec.far).trans r1
  have hlt := (Array.getElem?_eq_some_iff.1 hl1).1
  refine ⟨_, run_beginRound hl1 rfl, ?_⟩
  obtain ⟨w2, hw2⟩ : ∃ w2, w1.putObj L (.loop { state := .busy, pending := none, fn := fnid, tmps, params := ps, assign, body, defers := D }) = w2 := ⟨_, rfl⟩
  have hl2 : w2.heap[L]? = some (.loop { state := .busy, pending := none, fn := fnid, tmps, params := ps, assign, body, defers := D }) := by rw [← hw2]; exact World.putObj_heap_same hlt
  have hfar := far_owns hw1 hl1 rfl
  have hs2 : Sat w2 (owns hp1) hp1 w2 := by
   refine ⟨.refl _ _, fun e he => ?_, hw1.apart⟩
   have h1 := HE.holds_turn (hw1.holds e he) hl1 rfl (.loop { state := .busy, pending := none, fn := fnid, tmps, params := ps, assign, body, defers := D })
   rw [hw2] at h1
   cases e with
   | obj o b cs T => exact ⟨h1.1, fun q => .inr (mem_owns.2 ⟨_, he, q, rfl⟩)⟩
   | row b off sz n f => exact h1
  rw [show (w1.putObj L (.loop { state := .busy, pending := none, fn := fnid, tmps, params := ps, assign, body, defers := D })) = w2 from hw2]
  refine (hG w2 (owns hp1) (roundPost P L (fun e w'' => ∃ v, e = .returned v ∧ wpListIn F mm P ops (den F mm P fin k) rest (a.put o.dst v) w'')) (fun l o hne h1 h2 h3 => ?_) ⟨_, hl2, hfar⟩ (by rw [← hw2]; simpa using hw1.kept.size) ⟨fun hp2 hC W3 bs3 a3 w3 hE hS => ?_, fun e3 c3 hp2 he3 hC W3 bs3 a3 w3 hE hS => ?_⟩).out (.inr ⟨L, rfl⟩) a1 w2 hr1 hs2
  ·have q1 : w1.heap[l]? = some o := (hw1.kept.block l (Array.getElem?_eq_some_iff.1 h1).1 h3).trans h1
   exact ⟨by rw [← hw2, World.putObj_heap_other hne]; exact q1, far_owns hw1 q1 h2⟩
  ·have hS2 := hE.sat hS
   have hl3 : w3.heap[L]? = some (.loop { state := .busy, pending := none, fn := fnid, tmps, params := ps, assign, body, defers := D }) := (hS2.kept.block L (Array.getElem?_eq_some_iff.1 hl2).1 hfar).trans hl2
   have hlt3 := (Array.getElem?_eq_some_iff.1 hl3).1
   refine ⟨_, _, run_endRound (P := P) none hl3, ?_⟩
   simp only [Option.isNone_none, if_true]
   have hsz : w2.heap.size = w1.heap.size := by rw [← hw2]; simp
   unfold retSt at hC
   simp only at hC
   refine ⟨_, rfl, hC.out hF _ _ (hr.put _ _) ⟨⟨?_, ?_, ?_, ?_, fun i hi hn => ?_⟩, fun e he => ?_, hS2.apart⟩⟩
   ·have := hS2.kept.os; rw [← hw2] at this; exact this.trans hw1.kept.os
   ·have := hS2.kept.tape; rw [← hw2] at this; exact this.trans hw1.kept.tape
   ·have := hS2.kept.output; rw [← hw2] at this; exact this.trans hw1.kept.output
   ·have := hS2.kept.size; have := hw1.kept.size; simp; omega
   ·by_cases e : i = L
    ·subst e
     rw [World.putObj_heap_same hlt3, r1]
    rw [World.putObj_heap_other e, hS2.kept.block i (by have := hw1.kept.size; omega) (fun hm => by rcases hown hw1 i hm with q | q <;> first | omega | exact hn q), ← hw2, World.putObj_heap_other e]
    exact hw1.kept.block i hi hn
   refine HE.holds_turn (o := .loop { state := .busy, pending := none, fn := fnid, tmps, params := ps, assign, body, defers := D }) ?_ hl3 rfl _
   have h1 := hS2.holds e he
   cases e with
   | obj o b cs T =>
    refine ⟨h1.1, fun q => ?_⟩
    rcases h1.2 q with q1 | q1
    ·exact .inl (by have := hw1.kept.size; omega)
    exact hown hw1 b q1
   | row b off sz n f => exact h1
  have hS2 := hE.sat hS
  have hl3 : w3.heap[L]? = some (.loop { state := .busy, pending := none, fn := fnid, tmps, params := ps, assign, body, defers := D }) := (hS2.kept.block L (Array.getElem?_eq_some_iff.1 hl2).1 hfar).trans hl2
  have hlt3 := (Array.getElem?_eq_some_iff.1 hl3).1
  have hsz : w2.heap.size = w1.heap.size := by rw [← hw2]; simp
  obtain ⟨w4, hw4⟩ : ∃ w4, w3.putObj L (.loop { state := .done, pending := some c3, fn := fnid, tmps, params := ps, assign, body, defers := D }) = w4 := ⟨_, rfl⟩
  have hl4 : w4.heap[L]? = some (.loop { state := .done, pending := some c3, fn := fnid, tmps, params := ps, assign, body, defers := D }) := by rw [← hw4]; exact World.putObj_heap_same hlt3
  have hrun : (Instr.endRound L (some c3)).run P w3 = .ok (.bool false) w4 := by rw [← hw4]; exact run_endRound (P := P) (some c3) hl3
  have hS4 : Sat w4 (owns hp2) hp2 w4 := by
   refine ⟨.refl _ _, fun e he => ?_, hS2.apart⟩
   have h1 := HE.holds_turn (hS2.holds e he) hl3 rfl (.loop { state := .done, pending := some c3, fn := fnid, tmps, params := ps, assign, body, defers := D })
   rw [hw4] at h1
   cases e with
   | obj o b cs T => exact ⟨h1.1, fun q => .inr (mem_owns.2 ⟨_, he, q, rfl⟩)⟩
   | row b off sz n f => exact h1
  have hown2 : ∀ b, b ∈ owns hp2 → w0.heap.size ≤ b ∨ b ∈ bs := fun b hb => by
   obtain ⟨e, he, h1, rfl⟩ := mem_owns.1 hb
   rcases (own_cells (hS2.holds e he) h1).2 with q | q
   ·exact .inl (by have := hw1.kept.size; omega)
   exact hown hw1 _ q
  have hsz4 : w4.heap.size = w3.heap.size := by rw [← hw4]; simp
  have hblk : ∀ i, i < w0.heap.size → i ≠ L → i ∉ bs → w4.heap[i]? = w0.heap[i]? := fun i hi e hn => by
   rw [← hw4, World.putObj_heap_other e, hS2.kept.block i (by have := hw1.kept.size; omega) (fun hm => by rcases hown hw1 i hm with q | q <;> first | omega | exact hn q), ← hw2, World.putObj_heap_other e]
   exact hw1.kept.block i hi hn
  have hX : ExtL L w0 bs w4 (owns hp2) := by
   refine ⟨fun w5 k => ⟨?_, ?_, ?_, ?_, fun i hi hn => ?_⟩, fun b hb => ?_, fun l' o hne h1 h2 h3 => ?_⟩
   ·have q1 := k.os; have q2 := hS2.kept.os; rw [← hw4] at q1; rw [← hw2] at q2; exact q1.trans (q2.trans hw1.kept.os)
   ·have q1 := k.tape; have q2 := hS2.kept.tape; rw [← hw4] at q1; rw [← hw2] at q2; exact q1.trans (q2.trans hw1.kept.tape)
   ·have q1 := k.output; have q2 := hS2.kept.output; rw [← hw4] at q1; rw [← hw2] at q2; exact q1.trans (q2.trans hw1.kept.output)
   ·have q1 := k.size; have q2 := hS2.kept.size; have q3 := hw1.kept.size; omega
   ·have hn1 : i ≠ L := fun e => hn (by simp [e])
    have hn2 : i ∉ bs := fun e => hn (by simp [e])
    rw [k.block i (by have := hS2.kept.size; have := hw1.kept.size; omega) (fun hm => by rcases hown2 i hm with q | q <;> first | omega | exact hn2 q)]
    exact hblk i hi hn1 hn2
   ·rcases hb with q | q
    ·exact .inl (by have := hS2.kept.size; have := hw1.kept.size; omega)
    exact hown2 b q
   have q1 : w4.heap[l']? = some o := (hblk l' (Array.getElem?_eq_some_iff.1 h1).1 hne h3).trans h1
   exact ⟨q1, far_owns hS4 q1 h2⟩
  have hG2 := hC w4 (owns hp2) hX ⟨⟨_, hl4, rfl, rfl⟩, far_owns hS4 hl4 rfl⟩
  unfold retSt at hG2
  simp only at hG2
  have hend : wpListIn F mm P ops (den F mm P fin k) rest (a.put o.dst (.bool false)) w4 := hG2.out hF _ _ (hr.put _ _) hS4
  cases e3 with
  | ret => simp only [codeOf, Option.some.injEq] at he3; subst he3; exact ⟨_, _, hrun, _, rfl, hend⟩
  | exit id => simp only [codeOf, Option.some.injEq] at he3; subst he3; exact ⟨_, _, hrun, _, rfl, hend⟩
  | normal => cases he3
  | goto t => cases he3
  | panic c => cases he3
  | outgrown => cases he3
theorem g_beginX {n : Nat} {body : Code} {L : Nat} {m2 : Nat} {C : List HE → Prop} {Cx : Code → List HE → Prop} {N : Act → World → Prop} (hN : BegunX n body L P m2 w0 bs C Cx N) (hk : (hookOf st).map (fun N a w => N a w) = some N) (hn : st.n = n) (hds : st.ds = [])
  (g : ∀ W2 bs2 fin2, (∀ l o, l ≠ L → w0.heap[l]? = some o → o.isCells = false → l ∉ bs → W2.heap[l]? = some o ∧ l ∉ bs2) → (∃ r, W2.heap[L]? = some (.loop r) ∧ L ∉ bs2) → w0.heap.size ≤ W2.heap.size → RoundX C Cx W2 bs2 fin2 →
   Goal (Fence.wide.inRound L) m2 P fin2 W2 bs2 ⟨n, [], st.ops, [], [.code body], st.t, st.hp⟩) : Goal F mm P fin w0 bs st := by
 refine ⟨fun hF a w hr hw => ?_⟩
 have hk' : st.l = [] ∧ ∃ k, st.k = .hook N :: k := by
  unfold hookOf at hk
  split at hk
  ·rename_i N' k h1 h2
   simp only [Option.map_some, Option.some.injEq] at hk
   subst hk
   exact ⟨h1, k, h2⟩
  cases hk
 obtain ⟨hl, k, hk2⟩ := hk'
 rw [hl, hk2]
 rw [hn, hds] at hr
 exact hN.back st.ops st.t st.hp g a w hr hw
theorem g_endX {C : List HE → Prop} {Cx : Code → List HE → Prop} {W2 : World} {bs2 : List Nat} (hr : RoundX C Cx W2 bs2 fin) (hl : (match st.l, st.k with | [], [] => true | _, _ => false) = true) (hE : Ext W2 bs2 w0 bs) (g : C st.hp) : Goal F mm P fin w0 bs st :=
 g_end (C := C) (W2 := W2) (bs2 := bs2) ⟨hr.normal⟩ hl hE g
def noBlk (id : Nat) : List K → Bool
 | [] => true
 | .blk i :: k => bif Nat.beq id i then false else noBlk id k
 | _ :: k => noBlk id k
theorem den_away {id : Nat} {a : Act} {w : World} : ∀ {k : List K}, noBlk id k = true → fin (.exit id) a w → den F mm P fin k (.exit id) a w
 | [], _, h => h
 | .blk i :: k, h1, h => by
  simp only [noBlk] at h1
  simp only [den, Exit.inBlock]
  cases hb : Nat.beq id i with
  | true => rw [hb] at h1; cases h1
  | false =>
   rw [hb, cond_false] at h1
   rw [if_neg (fun e => by rw [e, Nat.beq_refl] at hb; cases hb)]
   exact den_away (k := k) h1 h
 | .code _ :: k, h1, h => den_away (k := k) (by simpa [noBlk] using h1) h
 | .hook _ :: k, h1, h => den_away (k := k) (by simpa [noBlk] using h1) h
 | .again _ _ :: k, h1, h => den_away (k := k) (by simpa [noBlk] using h1) h
 | .scp :: k, h1, h => den_away (k := k) (by simpa [noBlk] using h1) h
def leaveOf (st : St) : Option Code := match st.l, st.k with
 | [], .code .ret :: _ => some .ret
 | [], .code (.exit id) :: k => bif noBlk id k then some (.exit id) else none
 | _, _ => none
theorem g_leave {C : List HE → Prop} {Cx : Code → List HE → Prop} {W2 : World} {bs2 : List Nat} (hr : RoundX C Cx W2 bs2 fin) (c : Code) (hl : leaveOf st = some c) (hE : Ext W2 bs2 w0 bs) (g : Cx c st.hp) : Goal F mm P fin w0 bs st := by
 refine ⟨fun hF a w hr1 hw => ?_⟩
 unfold leaveOf at hl
 split at hl
 ·rename_i k h1 h2
  obtain rfl := Option.some.inj hl
  rw [h1, h2]
  exact wpIn_ret (den_ret (hr.leave .ret .ret st.hp rfl g w0 bs a w hE hw))
 ·rename_i id k h1 h2
  cases hb : noBlk id k with
  | false => rw [hb] at hl; cases hl
  | true =>
   rw [hb, cond_true] at hl
   obtain rfl := Option.some.inj hl
   rw [h1, h2]
   exact wpIn_exit (den_away hb (hr.leave (.exit id) (.exit id) st.hp rfl g w0 bs a w hE hw))
 cases hl
end
attribute [irreducible] behindX leaveOf
end
end Go.Proofs.Ytcncfmjfgdbfeab
