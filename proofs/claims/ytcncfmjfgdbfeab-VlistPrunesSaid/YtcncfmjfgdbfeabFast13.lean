/- The second way to walk: a range over a function, the iterator walked through, its rounds in their places. -/
import Derived.Test.YtcncfmjfgdbfeabFast12
import Derived.Test.YtcncfmjfgdbfeabRun5
namespace Go.Proofs.Ytcncfmjfgdbfeab
open Go.RowKit
noncomputable section
structure Ext (W : World) (bs : List Nat) (W' : World) (bs' : List Nat) : Prop where
 kept : ∀ w, KeptBut bs' W' w → KeptBut bs W w
 own : ∀ b, (W'.heap.size ≤ b ∨ b ∈ bs') → (W.heap.size ≤ b ∨ b ∈ bs)
 obj : ∀ l o, W.heap[l]? = some o → o.isCells = false → l ∉ bs → W'.heap[l]? = some o ∧ l ∉ bs'
theorem Ext.refl (W : World) (bs : List Nat) : Ext W bs W bs := ⟨fun _ h => h, fun _ h => h, fun _ _ h _ k => ⟨h, k⟩⟩
theorem Ext.trans {W W' W'' : World} {bs bs' bs'' : List Nat} (h : Ext W bs W' bs') (k : Ext W' bs' W'' bs'') : Ext W bs W'' bs'' :=
 ⟨fun w q => h.kept w (k.kept w q), fun b q => h.own b (k.own b q), fun l o q1 q2 q3 => let ⟨r1, r2⟩ := h.obj l o q1 q2 q3; k.obj l o r1 q2 r2⟩
theorem HE.holds_ext {W W' w : World} {bs bs' : List Nat} (h : Ext W bs W' bs') {e : HE} (k : e.holds W' bs' w) : e.holds W bs w := by
 cases e with
 | obj o b cs T => exact ⟨k.1, fun q => h.own b (k.2 q)⟩
 | row b off sz n f => exact k
theorem Ext.sat {W W' w : World} {bs bs' : List Nat} {hp : List HE} (h : Ext W bs W' bs') (k : Sat W' bs' hp w) : Sat W bs hp w :=
 ⟨h.kept w k.kept, fun e he => HE.holds_ext h (k.holds e he), k.apart⟩
def owns (hp : List HE) : List Nat := (hp.filter HE.own).map HE.blk
theorem mem_owns {hp : List HE} {b : Nat} : b ∈ owns hp ↔ ∃ e ∈ hp, e.own = true ∧ e.blk = b := by
 simp [owns, List.mem_map, List.mem_filter, and_assoc]
theorem own_cells {W w : World} {bs : List Nat} {e : HE} (h : e.holds W bs w) (ho : e.own = true) : (∃ cs T, w.heap[e.blk]? = some (.cells cs T (0, 0))) ∧ (W.heap.size ≤ e.blk ∨ e.blk ∈ bs) := by
 cases e with
 | obj o b cs T => exact ⟨⟨_, _, h.1⟩, h.2 ho⟩
 | row b off sz n f => cases ho
theorem far_owns {W w : World} {bs : List Nat} {hp : List HE} (h : Sat W bs hp w) {l : Nat} {o : Obj} (hl : w.heap[l]? = some o) (ho : o.isCells = false) : l ∉ owns hp := fun hm => by
 obtain ⟨e, he, h1, h2⟩ := mem_owns.1 hm
 obtain ⟨⟨cs, T, hc⟩, _⟩ := own_cells (h.holds e he) h1
 rw [h2, hl] at hc
 obtain rfl := Option.some.inj hc
 cases ho
theorem Sat.newBase {W w : World} {bs : List Nat} {hp : List HE} (h : Sat W bs hp w) : Ext W bs w (owns hp) ∧ Sat w (owns hp) hp w := by
 have hown : ∀ b, b ∈ owns hp → W.heap.size ≤ b ∨ b ∈ bs := fun b hb => by
  obtain ⟨e, he, h1, rfl⟩ := mem_owns.1 hb
  exact (own_cells (h.holds e he) h1).2
 refine ⟨⟨fun w' k => ?_, fun b hb => ?_, fun l o hl ho hn => ?_⟩, .refl _ _, fun e he => ?_, h.apart⟩
 ·refine ⟨k.os.trans h.kept.os, k.tape.trans h.kept.tape, k.output.trans h.kept.output, Nat.le_trans h.kept.size k.size, fun i hi hn => ?_⟩
  rw [k.block i (Nat.lt_of_lt_of_le hi h.kept.size) (fun hm => by rcases hown i hm with q | q <;> first | omega | exact hn q), h.kept.block i hi hn]
 ·rcases hb with hb | hb
  ·exact .inl (Nat.le_trans h.kept.size hb)
  exact hown b hb
 ·have h1 : w.heap[l]? = some o := (h.kept.block l (Array.getElem?_eq_some_iff.1 hl).1 hn).trans hl
  exact ⟨h1, far_owns h h1 ho⟩
 have h1 := h.holds e he
 cases e with
 | obj o b cs T => exact ⟨h1.1, fun q => .inr (mem_owns.2 ⟨_, he, q, rfl⟩)⟩
 | row b off sz n f => exact h1
theorem HE.holds_turn {W w : World} {bs : List Nat} {e : HE} (h : e.holds W bs w) {l : Nat} {o : Obj} (hl : w.heap[l]? = some o) (ho : o.isCells = false) (o' : Obj) : e.holds W bs (w.putObj l o') := by
 cases e with
 | obj o2 b cs T =>
  refine ⟨?_, h.2⟩
  rw [World.putObj_heap_other fun e2 => ?_]
  ·exact h.1
  have := h.1
  rw [e2, hl] at this
  obtain rfl := Option.some.inj this
  cases ho
 | row b off sz n f =>
  intro hn
  obtain ⟨h1, h2⟩ := h hn
  refine ⟨by simpa using h1, fun k hk j v hv => ?_⟩
  have h3 := h2 k hk j v hv
  by_cases e2 : b = l
  ·subst e2
   unfold World.cell? at h3
   simp only [hl] at h3
   cases o <;> first | (cases ho; done) | (simp at h3; done) | (cases h3; done)
  rw [World.cell?_of_block (w := w) (World.putObj_heap_other e2)]
  exact h3
theorem Sat.turn {W w : World} {bs : List Nat} {hp : List HE} (h : Sat W bs hp w) {l : Nat} {o : Obj} (hl : w.heap[l]? = some o) (ho : o.isCells = false) (hn : W.heap.size ≤ l) (o' : Obj) : Sat W bs hp (w.putObj l o') := by
 refine ⟨⟨h.kept.os, h.kept.tape, h.kept.output, by simpa using h.kept.size, fun i hi hm => ?_⟩, fun e he => HE.holds_turn (h.holds e he) hl ho o', h.apart⟩
 rw [World.putObj_heap_other (by omega)]; exact h.kept.block i hi hm
theorem g_ext {F : Fence} {mm : Nat} {P : Program} {fin : Fin} {W W' : World} {bs bs' : List Nat} {st : St} (h : Ext W bs W' bs') (g : Goal F mm P fin W bs st) : Goal F mm P fin W' bs' st :=
 ⟨fun hF a w hr hw => g.out hF a w hr (h.sat hw)⟩
structure Rec (n : Nat) (t : Tr) (ps : Array Tmp) (assign body : Code) (L : Nat) (W : World) (bs : List Nat) : Prop where
 out : ∃ fn tmps D, W.heap[L]? = some (.loop { state := .ready, pending := none, fn, tmps, params := ps, assign, body, defers := D }) ∧ tmps.size = n ∧ ∀ i v, t.get i = some v → tmps[i]? = some v
 far : L ∉ bs
theorem Rec.lt {n : Nat} {t : Tr} {ps : Array Tmp} {assign body : Code} {L : Nat} {W : World} {bs : List Nat} (h : Rec n t ps assign body L W bs) : L < W.heap.size := by
 obtain ⟨fn, tmps, D, h1, _⟩ := h.out
 exact (Array.getElem?_eq_some_iff.1 h1).1
theorem Rec.ext {n : Nat} {t : Tr} {ps : Array Tmp} {assign body : Code} {L : Nat} {W W' : World} {bs bs' : List Nat} (h : Rec n t ps assign body L W bs) (e : Ext W bs W' bs') : Rec n t ps assign body L W' bs' := by
 obtain ⟨fn, tmps, D, h1, h2⟩ := h.out
 obtain ⟨h3, h4⟩ := e.obj L _ h1 rfl h.far
 exact ⟨⟨fn, tmps, D, h3, h2⟩, h4⟩
structure Ranged (C : List HE → Prop) (n : Nat) (t : Tr) (ps : Array Tmp) (assign body : Code) (L : Nat) (W : World) (bs : List Nat) (W1 : World) (bs1 : List Nat) (R : Ending → World → Prop) : Prop where
 ext : Ext W bs W1 bs1
 new : W.heap.size ≤ L
 ready : Rec n t ps assign body L W1 bs1
 back : ∀ hp, C hp → ∀ W2 bs2 v w, Ext W1 bs1 W2 bs2 → Sat W2 bs2 hp w → R (.returned v) w
def rangeOf (st : St) : Option (Operand × Array Tmp × Code × Code × List K) :=
 match st.l, st.k with
 | [], .code (.rangeFunc g ps assign body) :: k => some (g, ps, assign, body, k)
 | _, _ => none
def rgPs (st : St) : Array Tmp := match rangeOf st with | some (_, ps, _) => ps | none => #[]
def rgAssign (st : St) : Code := match rangeOf st with | some (_, _, c, _) => c | none => .skip
def rgBody (st : St) : Code := match rangeOf st with | some (_, _, _, c, _) => c | none => .skip
def rgRest (st : St) : List K := match rangeOf st with | some (_, _, _, _, k) => k | none => []
def rgFn (st : St) : Option FuncId := match rangeOf st with
 | some (g, _) => match st.t.ev? g with
  | some (.func (.func gf) _ _) => some gf
  | _ => none
 | none => none
def rgArgs (st : St) (L : Nat) : List Value := match rangeOf st with
 | some (g, _) => match st.t.ev? g with
  | some (.func (.func _) first cap) => (first ++ #[Value.func (.yield L) #[] #[]] ++ cap).toList
  | _ => []
 | none => []
theorem rg_shape {st : St} {gf : FuncId} (h : rgFn st = some gf) : ∃ g first cap, st.l = [] ∧ st.k = .code (.rangeFunc g (rgPs st) (rgAssign st) (rgBody st)) :: rgRest st ∧ st.t.ev? g = some (.func (.func gf) first cap) ∧
  ∀ L, rgArgs st L = (first ++ #[Value.func (.yield L) #[] #[]] ++ cap).toList := by
 unfold rgFn at h
 split at h
 rotate_left
 ·cases h
 rename_i g x hx
 obtain ⟨ps, assign, body, k⟩ := x
 split at h
 rotate_left
 ·cases h
 rename_i gf' first cap hg
 obtain rfl := Option.some.inj h
 have hs : st.l = [] ∧ st.k = .code (.rangeFunc g ps assign body) :: k := by
  unfold rangeOf at hx
  split at hx
  ·rename_i h1 h2
   simp only [Option.some.injEq, Prod.mk.injEq] at hx
   obtain ⟨rfl, rfl, rfl, rfl, rfl⟩ := hx
   exact ⟨h1, h2⟩
  cases hx
 refine ⟨g, first, cap, hs.1, ?_, hg, fun L => ?_⟩
 ·simp only [rgPs, rgAssign, rgBody, rgRest, hx]; exact hs.2
 simp only [rgArgs, hx, hg]
def behind (st : St) (ds : List Deferred) (hp : List HE) : St := { st with l := [], k := rgRest st, ds, hp }
theorem enter_rep {n : Nat} {args : List Value} (hle : args.length ≤ n) (c : Code) (hp : List HE) : Rep (enterSt n c args hp).n (enterSt n c args hp).ds { tmps := args.toArray ++ Array.replicate (n - args.toArray.size) undef, defers := [] } (enterSt n c args hp).t := by
 refine ⟨?_, by simp [enterSt], fun i v hv => ?_⟩
 ·simp [enterSt]; omega
 simp only [enterSt] at hv
 rcases fold_get args 0 Tr.nil i v hv with ⟨_, h⟩ | ⟨_, h⟩ | ⟨_, h⟩
 ·simp [Tr.get] at h
 ·simp only [Nat.sub_zero] at h
  have hlt : i < args.length := by
   rcases Nat.lt_or_ge i args.length with h1 | h1
   ·exact h1
   rw [List.getElem?_eq_none h1] at h; cases h
  rw [Array.getElem?_append_left (by simpa using hlt)]
  simpa using h
 simp [Tr.get] at h
theorem g_enterM {P : Program} {f : FuncId} {fn : Func} {c : Code} {args : List Value} {n : Nat} {w : World} {R : Ending → World → Prop} (bs : List Nat) (hp : List HE)
  (hf : P.funcs[f]? = some fn) (hb : fn.body = some c) (hn : fn.ntmps = n) (hle : args.length ≤ n) {W : World} (hs : Sat W bs hp w)
  (g : Goal Fence.wide 0 P (bodyPostM Fence.wide 0 P fn R) W bs (enterSt n c args hp)) : Calls P f args.toArray w R := by
 refine callsIn_wide (n := 0).1 (callsIn_of_wp_marks hf hb trivial ?_)
 rw [hn]
 have hrep := enter_rep hle c hp
 unfold enterSt at g hrep
 exact g.out (.inl rfl) _ w hrep hs
section
variable {mm : Nat} {P : Program} {fin : Fin} {w0 : World} {bs : List Nat} {st : St}
theorem g_range (gf : FuncId) (h : rgFn st = some gf) (hq : ∀ L, runQ P (callFunc gf (rgArgs st L).toArray) = some (.enter gf (rgArgs st L).toArray))
  {fnI : Func} {cI : Code} {nI : Nat} (hf : P.funcs[gf]? = some fnI) (hb : fnI.body = some cI) (hn : fnI.ntmps = nI) (hle : ∀ L, (rgArgs st L).length ≤ nI)
  (g : ∀ L W1 bs1 R, Ranged (fun hp => ∀ D W3 bs3, w0.heap.size ≤ D → Ext w0 bs W3 bs3 → W3.heap[D]? = some (.deferred (some [])) → D ∉ bs3 → Goal Fence.wide mm P fin W3 bs3 (behind st (Run.markOf D :: st.ds) hp)) st.n st.t (rgPs st) (rgAssign st) (rgBody st) L w0 bs W1 bs1 R →
   Goal Fence.wide 0 P (bodyPostM Fence.wide 0 P fnI R) W1 bs1 (enterSt nI cI (rgArgs st L) st.hp)) : Goal Fence.wide mm P fin w0 bs st := by
 refine ⟨fun hF a w hr hw => ?_⟩
 obtain ⟨gop, first, cap, s1, s2, s3, s4⟩ := rg_shape h
 rw [s1, s2]
 show (Code.rangeFunc gop (rgPs st) (rgAssign st) (rgBody st)).wpIn Fence.wide mm P (den Fence.wide mm P fin (rgRest st)) a w
 have hga : a.eval gop = .func (.func gf) first cap := hr.ev s3
 have hres : ∀ (l : Nat) (w : World), (resolve a.eval (rangeCall gop l) 0).run P w = .ok { target := .fn (.func gf) cap, args := first ++ #[.func (.yield l) #[] #[]] } w := fun l w => by
  have hc : a.eval (.const (.func (.yield l) #[] #[])) = .func (.yield l) #[] #[] := rfl
  simp only [resolve, hga, Deferred.ofValue, List.map_toArray, List.map_cons, List.map_nil, hc]
  rfl
 refine wpIn_rangeFunc fun fn _ => ?_
 obtain ⟨W1, hW1⟩ : ∃ W1, (w.alloc (.deferred (some []))).alloc (.loop { state := .ready, pending := none, fn, tmps := a.tmps, params := rgPs st, assign := rgAssign st, body := rgBody st, defers := w.heap.size }) = W1 := ⟨_, rfl⟩
 have hL : W1.heap[w.heap.size + 1]? = some (.loop { state := .ready, pending := none, fn, tmps := a.tmps, params := rgPs st, assign := rgAssign st, body := rgBody st, defers := w.heap.size }) := by
  rw [← hW1]; have := World.alloc_heap_new (w.alloc (.deferred (some []))) (.loop { state := .ready, pending := none, fn, tmps := a.tmps, params := rgPs st, assign := rgAssign st, body := rgBody st, defers := w.heap.size }); rwa [World.size_alloc] at this
 have hD : W1.heap[w.heap.size]? = some (.deferred (some [])) := by
  rw [← hW1]; exact (Below.heap_alloc _ _ _ (by simp)).trans (World.alloc_heap_new w _)
 have hk : Kept w W1 := by
  rw [← hW1]; exact ((Below.refl _ w).alloc (Nat.le_refl _) _).alloc (by simp) _
 have hs1 := hw.of_kept hk
 obtain ⟨he, hs2⟩ := hs1.newBase
 have hsz : w0.heap.size ≤ w.heap.size := hw.kept.size
 refine ⟨w.heap.size + 1, [Run.markOf w.heap.size], W1, _, W1, gf, (rgArgs st (w.heap.size + 1)).toArray, W1, ?_, hres _ _, fun f' _ => hF.fn f', ?_, fun h => hF.depth h, ?_⟩
 ·rw [← hW1]; exact run_enterLoop_outer fn a.tmps (rgPs st) (rgAssign st) (rgBody st)
 ·have := runQ_run (hq (w.heap.size + 1)) W1
  rw [show (rgArgs st _).toArray = first ++ #[Value.func (.yield _) #[] #[]] ++ cap by rw [s4]] at this ⊢
  simp only [invoke]
  exact this
 refine hF.calls (g_enterM (owns st.hp) st.hp hf hb hn (hle _) hs2 (g _ W1 _ _ ⟨he, by omega, ⟨⟨fn, a.tmps, w.heap.size, hL, hr.size, hr.at_⟩, far_owns hs2 hL rfl⟩, ?_⟩))
 intro hp hC W2 bs2 v w2 hE hS
 obtain ⟨l1, l2⟩ := hE.obj _ _ hL rfl (far_owns hs2 hL rfl)
 obtain ⟨d1, d2⟩ := hE.obj _ _ hD rfl (far_owns hs2 hD rfl)
 have l3 : w2.heap[w.heap.size + 1]? = _ := (hS.kept.block _ (Array.getElem?_eq_some_iff.1 l1).1 l2).trans l1
 have d3 : w2.heap[w.heap.size]? = _ := (hS.kept.block _ (Array.getElem?_eq_some_iff.1 d1).1 d2).trans d1
 refine ⟨none, _, run_endLoop (P := P) l3 (by simp), ?_⟩
 have q1 : Sat w0 bs hp (w2.putObj (w.heap.size + 1) (.loop { state := .exhausted, pending := none, fn, tmps := a.tmps, params := rgPs st, assign := rgAssign st, body := rgBody st, defers := w.heap.size })) :=
  (he.sat (hE.sat hS)).turn l3 rfl (by omega) _
 obtain ⟨q2, q3⟩ := q1.newBase
 have d4 := (World.putObj_heap_other (w := w2) (r := w.heap.size + 1) (o := .loop { state := .exhausted, pending := none, fn, tmps := a.tmps, params := rgPs st, assign := rgAssign st, body := rgBody st, defers := w.heap.size }) (k := w.heap.size) (by omega)).trans d3
 exact (hC w.heap.size _ _ hsz q2 d4 (far_owns q3 d4 rfl)).out hF { a with defers := Run.markOf w.heap.size :: a.defers } _ ⟨hr.size, by simp [behind, hr.defers], hr.at_⟩ q3
theorem g_rangeR {l : Nat} (hl : ∃ r, w0.heap[l]? = some (.loop r) ∧ l ∉ bs) (gf : FuncId) (h : rgFn st = some gf) (hq : ∀ L, runQ P (callFunc gf (rgArgs st L).toArray) = some (.enter gf (rgArgs st L).toArray))
  {fnI : Func} {cI : Code} {nI : Nat} (hf : P.funcs[gf]? = some fnI) (hb : fnI.body = some cI) (hn : fnI.ntmps = nI) (hle : ∀ L, (rgArgs st L).length ≤ nI)
  (g : ∀ L W1 bs1 R, Ranged (fun hp => Goal (Fence.wide.inRound l) mm P fin w0 bs (behind st st.ds hp)) st.n st.t (rgPs st) (rgAssign st) (rgBody st) L w0 bs W1 bs1 R →
   Goal Fence.wide 0 P (bodyPostM Fence.wide 0 P fnI R) W1 bs1 (enterSt nI cI (rgArgs st L) st.hp)) : Goal (Fence.wide.inRound l) mm P fin w0 bs st := by
 refine ⟨fun hF a w hr hw => ?_⟩
 obtain ⟨gop, first, cap, s1, s2, s3, s4⟩ := rg_shape h
 rw [s1, s2]
 show (Code.rangeFunc gop (rgPs st) (rgAssign st) (rgBody st)).wpIn (Fence.wide.inRound l) mm P (den (Fence.wide.inRound l) mm P fin (rgRest st)) a w
 have hga : a.eval gop = .func (.func gf) first cap := hr.ev s3
 have hres : ∀ (l : Nat) (w : World), (resolve a.eval (rangeCall gop l) 0).run P w = .ok { target := .fn (.func gf) cap, args := first ++ #[.func (.yield l) #[] #[]] } w := fun l w => by
  have hc : a.eval (.const (.func (.yield l) #[] #[])) = .func (.yield l) #[] #[] := rfl
  simp only [resolve, hga, Deferred.ofValue, List.map_toArray, List.map_cons, List.map_nil, hc]
  rfl
 obtain ⟨r0, hl1, hl2⟩ := hl
 have hl3 : w.heap[l]? = some (.loop r0) := (hw.kept.block l (Array.getElem?_eq_some_iff.1 hl1).1 hl2).trans hl1
 refine wpIn_rangeFunc fun fn _ => ?_
 obtain ⟨W1, hW1⟩ : ∃ W1, w.alloc (.loop { state := .ready, pending := none, fn, tmps := a.tmps, params := rgPs st, assign := rgAssign st, body := rgBody st, defers := r0.defers }) = W1 := ⟨_, rfl⟩
 have hL : W1.heap[w.heap.size]? = some (.loop { state := .ready, pending := none, fn, tmps := a.tmps, params := rgPs st, assign := rgAssign st, body := rgBody st, defers := r0.defers }) := by
  rw [← hW1]; exact World.alloc_heap_new w _
 have hk : Kept w W1 := by
  rw [← hW1]; exact (Below.refl _ w).alloc (Nat.le_refl _) _
 have hs1 := hw.of_kept hk
 obtain ⟨he, hs2⟩ := hs1.newBase
 have hsz : w0.heap.size ≤ w.heap.size := hw.kept.size
 refine ⟨w.heap.size, [], W1, _, W1, gf, (rgArgs st w.heap.size).toArray, W1, ?_, hres _ _, fun f' _ => hF.fn f', ?_, fun h => hF.depth h, ?_⟩
 ·rw [← hW1]; exact run_enterLoop_inner hl3 fn a.tmps (rgPs st) (rgAssign st) (rgBody st)
 ·have := runQ_run (hq w.heap.size) W1
  rw [show (rgArgs st _).toArray = first ++ #[Value.func (.yield _) #[] #[]] ++ cap by rw [s4]] at this ⊢
  simp only [invoke]
  exact this
 refine hF.calls (g_enterM (owns st.hp) st.hp hf hb hn (hle _) hs2 (g _ W1 _ _ ⟨he, by omega, ⟨⟨fn, a.tmps, r0.defers, hL, hr.size, hr.at_⟩, far_owns hs2 hL rfl⟩, ?_⟩))
 intro hp hC W2 bs2 v w2 hE hS
 obtain ⟨l1, l2⟩ := hE.obj _ _ hL rfl (far_owns hs2 hL rfl)
 have l3 : w2.heap[w.heap.size]? = _ := (hS.kept.block _ (Array.getElem?_eq_some_iff.1 l1).1 l2).trans l1
 refine ⟨none, _, run_endLoop (P := P) l3 (by simp), ?_⟩
 exact hC.out hF { a with defers := [] ++ a.defers } _ ⟨hr.size, by simp [behind, hr.defers], hr.at_⟩ ((he.sat (hE.sat hS)).turn l3 rfl (by omega) _)
end
theorem resRun_ok {P : Program} {fn : Func} {hs : List Nat} {st : St} {v : Value} (h : (resRun P fn hs st).map Prod.fst = some v) (he : (resRun P fn hs st).map (fun x => x.2.map Prod.fst) = (resRun P fn hs st).map (fun x => x.2.map Prod.snd)) :
  st.l = [] ∧ atEnd st.k = true ∧ ∀ (ds : List Deferred) (a : Act) (W : World) (bs : List Nat) (w : World), Rep st.n ds a st.t → Sat W bs st.hp w → (results fn a.tmps).run P w = .ok v w := by
 obtain ⟨n, _, ops, l, k, t, hp⟩ := st
 obtain ⟨⟨v', e⟩, hx, hv⟩ := Option.map_eq_some_iff.1 h
 simp only at hv
 subst hv
 rw [hx] at he
 simp only [Option.map_some, Option.some.injEq] at he
 unfold resRun at hx
 simp only at hx ⊢
 cases l with
 | cons => cases hx
 | nil =>
  simp only at hx
  cases he1 : atEnd k with
  | false => rw [he1] at hx; cases hx
  | true =>
   rw [he1, cond_true] at hx
   cases hk : resKnown fn t with
   | false => rw [hk] at hx; cases hx
   | true =>
    rw [hk, cond_true] at hx
    split at hx
    ·rename_i v2 hs' e' hrun
     simp only [Option.some.injEq, Prod.mk.injEq] at hx
     obtain ⟨rfl, rfl⟩ := hx
     refine ⟨rfl, rfl, fun _ a W bs w hr hw => ?_⟩
     rw [resSem_eq hr hk]; exact runR_run hw hrun (AllEq.of_map he)
    cases hx
theorem marks_leave {P : Program} {fn : Func} {tmps : Array Value} {R : Ending → World → Prop} {W0 : World} {bs0 : List Nat} {hp : List HE} {v : Value}
  (hres : ∀ w, Sat W0 bs0 hp w → (results fn tmps).run P w = .ok v w) (hR : ∀ w, Sat W0 bs0 hp w → R (.returned v) w) :
  ∀ (ds : List Nat) (w : World), (∀ D ∈ ds, W0.heap.size ≤ D) → (∀ D ∈ ds, w.heap[D]? = some (.deferred (some []))) → ds.Nodup → Sat W0 bs0 hp w → LeavesInM Fence.wide 0 P fn tmps R (ds.map Run.markOf) .returning w
 | [], w, _, _, _, hw => ⟨v, hres w hw, hR w hw⟩
 | D :: ds, w, h1, h2, h3, hw => by
  have h4 := h2 D (by simp)
  refine ⟨by simp, .inl ⟨D, _, rfl, run_takeDeferred h4, ?_⟩⟩
  refine marks_leave hres hR ds _ (fun D' h => h1 D' (by simp [h])) (fun D' h => ?_) (List.nodup_cons.1 h3).2 (hw.turn h4 rfl (h1 D (by simp)) _)
  have hne : D' ≠ D := fun e => (List.nodup_cons.1 h3).1 (e ▸ h)
  rw [World.putObj_heap_other hne]
  exact h2 D' (by simp [h])
section
variable {F : Fence} {mm : Nat} {P : Program} {fn : Func} {R : Ending → World → Prop} {fin : Fin} {w0 : World} {bs : List Nat} {st : St}
theorem g_retM (hs : List Nat) (v : Value) (h : (resRun P fn hs st).map Prod.fst = some v) (he : (resRun P fn hs st).map (fun x => x.2.map Prod.fst) = (resRun P fn hs st).map (fun x => x.2.map Prod.snd))
  (ds : List Nat) (hds : st.ds = ds.map Run.markOf) {W0 : World} {bs0 : List Nat} (hx : Ext W0 bs0 w0 bs) (hm : ∀ D ∈ ds, W0.heap.size ≤ D ∧ w0.heap[D]? = some (.deferred (some [])) ∧ D ∉ bs) (hnd : ds.Nodup)
  (hR : ∀ w, Sat W0 bs0 st.hp w → R (.returned v) w) : Goal F mm P (bodyPostM Fence.wide 0 P fn R) w0 bs st := by
 refine ⟨fun hF a w hr hw => ?_⟩
 obtain ⟨h1, h2, h3⟩ := resRun_ok h he
 rw [h1]
 have hq : LeavesInM Fence.wide 0 P fn a.tmps R a.defers .returning w := by
  rw [hr.defers, hds]
  refine marks_leave (W0 := W0) (bs0 := bs0) (hp := st.hp) (fun w' hw' => h3 _ a _ _ w' hr hw') hR ds w (fun D hD => (hm D hD).1) (fun D hD => ?_) hnd (hx.sat hw)
  obtain ⟨_, q2, q3⟩ := hm D hD
  exact (hw.kept.block D (Array.getElem?_eq_some_iff.1 q2).1 q3).trans q2
 exact den_end h2 hq hq
end
structure Round (C : List HE → Prop) (W2 : World) (bs2 : List Nat) (fin2 : Fin) : Prop where
 normal : ∀ hp, C hp → ∀ W3 bs3 a w, Ext W2 bs2 W3 bs3 → Sat W3 bs3 hp w → fin2 .normal a w
structure Begun (n : Nat) (body : Code) (L : Nat) (P : Program) (mm : Nat) (W : World) (bs : List Nat) (C : List HE → Prop) (N : Act → World → Prop) : Prop where
 back : ∀ ops t hp, (∀ W2 bs2 fin2, (∀ l o, l ≠ L → W.heap[l]? = some o → o.isCells = false → l ∉ bs → W2.heap[l]? = some o ∧ l ∉ bs2) → (∃ r, W2.heap[L]? = some (.loop r) ∧ L ∉ bs2) → W.heap.size ≤ W2.heap.size → Round C W2 bs2 fin2 →
   Goal (Fence.wide.inRound L) mm P fin2 W2 bs2 ⟨n, [], ops, [], [.code body], t, hp⟩) → ∀ a w, Rep n [] a t → Sat W bs hp w → N a w
theorem wide_round {F : Fence} (h : OpenF F) (l : Nat) : F.inRound l = Fence.wide.inRound l := by
 rcases h with rfl | ⟨l', rfl⟩ <;> rfl
section
variable {F : Fence} {mm : Nat} {P : Program} {fin : Fin} {w0 : World} {bs : List Nat} {st : St}
def yieldAt (st : St) : Option (Nat × List Value) :=
 match st.l with
 | [] => none
 | o :: _ => match wanted? st.ops st.t o with
  | some true => Run.yieldOf st.t o
  | _ => none
theorem g_yield {n : Nat} {t : Tr} {ps : Array Tmp} {assign body : Code} {L : Nat} (hrec : Rec n t ps assign body L w0 bs) (args : List Value) (hy : yieldAt st = some (L, args)) (hlen : Nat.beq args.length ps.size = true)
  (g : ∀ N, Begun n body L P (mm - 1) w0 bs (fun hp => Goal F mm P fin w0 bs (retSt st (.bool true) hp)) N →
   Goal (Fence.wide.inRound L) (mm - 1) P (fun _ _ _ => False) w0 bs ⟨n, [], #[], [], [.code assign, .hook N], Run.setsT n t (ps.toList.zip args), st.hp⟩) : Goal F mm P fin w0 bs st := by
 refine ⟨fun hF a w hr hw => ?_⟩
 obtain ⟨fnid, tmps, D, r1, r2, r3⟩ := hrec.out
 have hl : w.heap[L]? = some (.loop { state := .ready, pending := none, fn := fnid, tmps, params := ps, assign, body, defers := D }) := (hw.kept.block L (Array.getElem?_eq_some_iff.1 r1).1 hrec.far).trans r1
 have hlen' := Nat.eq_of_beq_eq_true hlen
 have hown : ∀ {hp : List HE} {w : World}, Sat w0 bs hp w → ∀ b, b ∈ owns hp → w0.heap.size ≤ b ∨ b ∈ bs := fun hw b hb => by
  obtain ⟨e, he, h1, rfl⟩ := mem_owns.1 hb
  exact (own_cells (hw.holds e he) h1).2
 obtain ⟨sn, ds, ops, l, k, st_t, hp⟩ := st
 unfold yieldAt at hy
 simp only at hy hr hw g ⊢
 cases l with
 | nil => cases hy
 | cons o rest =>
  simp only at hy
  split at hy
  rotate_left
  ·cases hy
  rename_i hwn
  obtain ⟨hnd, hsem⟩ := Run.yield_sem (P := P) hy hr
  unfold wpListIn
  rw [hr.wanted hwn, if_pos rfl]
  refine ⟨fun f _ => hF.fn f, ?_⟩
  rw [Oper.semAt_eq _ _ _ hnd, hsem, run_yield (args := args.toArray) hl (by simpa using hlen')]
  refine ⟨fun h => hF.depth h, RoundIn.mono (R := fun e w'' => ∃ v, e = .returned v ∧ wpListIn F mm P ops (den F mm P fin k) rest (a.put o.dst v) w'') ?_ ?_⟩
  rotate_left
  ·rintro e w' ⟨v, rfl, h⟩
   exact h
  refine roundIn_of_wpIn (hF.fn fnid) ?_
  rw [wide_round hF]
  simp only [Run.zip_foldl]
  have hrep : Rep n [] { tmps := (ps.toList.zip args).foldl (fun tmps p => tmps.setIfInBounds p.1 p.2) tmps, defers := [] } (Run.setsT n t (ps.toList.zip args)) := Run.setsT_rep _ ⟨r2, rfl, r3⟩
  refine wpIn_mono ((g (fun a1 w1 => ∃ w2, (Instr.beginRound L).run P w1 = .ok () w2 ∧ body.wpIn (Fence.wide.inRound L) (mm - 1) P (roundPost P L (fun e w'' => ∃ v, e = .returned v ∧ wpListIn F mm P ops (den F mm P fin k) rest (a.put o.dst v) w'')) a1 w2) ⟨?_⟩).out (.inr ⟨L, rfl⟩) _ w hrep hw) ?_
  rotate_left
  ·intro e a1 w1 h
   cases e <;> first | exact h | exact h.elim
  intro ops1 t1 hp1 hG a1 w1 hr1 hw1
  have hl1 : w1.heap[L]? = some (.loop { state := .ready, pending := none, fn := fnid, tmps, params := ps, assign, body, defers := D }) := (hw1.kept.block L (Array.getElem?_eq_some_iff.1 r1).1 hrec.far).trans r1
  have hlt := (Array.getElem?_eq_some_iff.1 hl1).1
  refine ⟨_, run_beginRound hl1 rfl, ?_⟩
  obtain ⟨w2, hw2⟩ : ∃ w2, w1.putObj L (.loop { state := .busy, pending := none, fn := fnid, tmps, params := ps, assign, body, defers := D }) = w2 := ⟨_, rfl⟩
  have hl2 : w2.heap[L]? = some (.loop { state := .busy, pending := none, fn := fnid, tmps, params := ps, assign, body, defers := D }) := by rw [← hw2]; exact World.putObj_heap_same hlt
  have hfar := far_owns hw1 hl1 rfl
  have hs2 : Sat w2 (owns hp1) hp1 w2 := by
   refine ⟨.refl _ _, fun e he => ?_, hw1.apart⟩
   have h1 := HE.holds_turn (hw1.holds e he) hl1 rfl (.loop { state := .busy, pending := none, fn := fnid, tmps, params := ps, assign, body, defers := D })
   rw [hw2] at h1
   cases e with
   | obj o b cs T => exact ⟨h1.1, fun q => .inr (mem_owns.2 ⟨_, he, q, rfl⟩)⟩
   | row b off sz n f => exact h1
  rw [show (w1.putObj L (.loop { state := .busy, pending := none, fn := fnid, tmps, params := ps, assign, body, defers := D })) = w2 from hw2]
  refine (hG w2 (owns hp1) (roundPost P L (fun e w'' => ∃ v, e = .returned v ∧ wpListIn F mm P ops (den F mm P fin k) rest (a.put o.dst v) w'')) (fun l o hne h1 h2 h3 => ?_) ⟨_, hl2, hfar⟩ (by rw [← hw2]; simpa using hw1.kept.size) ⟨fun hp2 hC W3 bs3 a3 w3 hE hS => ?_⟩).out (.inr ⟨L, rfl⟩) a1 w2 hr1 hs2
  ·have q1 : w1.heap[l]? = some o := (hw1.kept.block l (Array.getElem?_eq_some_iff.1 h1).1 h3).trans h1
   exact ⟨by rw [← hw2, World.putObj_heap_other hne]; exact q1, far_owns hw1 q1 h2⟩
  have hS2 := hE.sat hS
  have hl3 : w3.heap[L]? = some (.loop { state := .busy, pending := none, fn := fnid, tmps, params := ps, assign, body, defers := D }) := (hS2.kept.block L (Array.getElem?_eq_some_iff.1 hl2).1 hfar).trans hl2
  have hlt3 := (Array.getElem?_eq_some_iff.1 hl3).1
  refine ⟨_, _, run_endRound (P := P) none hl3, ?_⟩
  simp only [Option.isNone_none, if_true]
  have hsz : w2.heap.size = w1.heap.size := by rw [← hw2]; simp
  unfold retSt at hC
  simp only at hC
  refine ⟨_, rfl, hC.out hF _ _ (hr.put _ _) ⟨⟨?_, ?_, ?_, ?_, fun i hi hn => ?_⟩, fun e he => ?_, hS2.apart⟩⟩
  ·have := hS2.kept.os; rw [← hw2] at this; exact this.trans hw1.kept.os
  ·have := hS2.kept.tape; rw [← hw2] at this; exact this.trans hw1.kept.tape
  ·have := hS2.kept.output; rw [← hw2] at this; exact this.trans hw1.kept.output
  ·have := hS2.kept.size; have := hw1.kept.size; simp; omega
  ·by_cases e : i = L
   ·subst e
    rw [World.putObj_heap_same hlt3, r1]
   rw [World.putObj_heap_other e, hS2.kept.block i (by have := hw1.kept.size; omega) (fun hm => by rcases hown hw1 i hm with q | q <;> first | omega | exact hn q), ← hw2, World.putObj_heap_other e]
   exact hw1.kept.block i hi hn
  refine HE.holds_turn (o := .loop { state := .busy, pending := none, fn := fnid, tmps, params := ps, assign, body, defers := D }) ?_ hl3 rfl _
  have h1 := hS2.holds e he
  cases e with
  | obj o b cs T =>
   refine ⟨h1.1, fun q => ?_⟩
   rcases h1.2 q with q1 | q1
   ·exact .inl (by have := hw1.kept.size; omega)
   exact hown hw1 b q1
  | row b off sz n f => exact h1
theorem g_begin {n : Nat} {body : Code} {L : Nat} {m2 : Nat} {C : List HE → Prop} {N : Act → World → Prop} (hN : Begun n body L P m2 w0 bs C N) (hk : (hookOf st).map (fun N a w => N a w) = some N) (hn : st.n = n) (hds : st.ds = [])
  (g : ∀ W2 bs2 fin2, (∀ l o, l ≠ L → w0.heap[l]? = some o → o.isCells = false → l ∉ bs → W2.heap[l]? = some o ∧ l ∉ bs2) → (∃ r, W2.heap[L]? = some (.loop r) ∧ L ∉ bs2) → w0.heap.size ≤ W2.heap.size → Round C W2 bs2 fin2 →
   Goal (Fence.wide.inRound L) m2 P fin2 W2 bs2 ⟨n, [], st.ops, [], [.code body], st.t, st.hp⟩) : Goal F mm P fin w0 bs st := by
 refine ⟨fun hF a w hr hw => ?_⟩
 have hk' : st.l = [] ∧ ∃ k, st.k = .hook N :: k := by
  unfold hookOf at hk
  split at hk
  ·rename_i N' k h1 h2
   simp only [Option.map_some, Option.some.injEq] at hk
   subst hk
   exact ⟨h1, k, h2⟩
  cases hk
 obtain ⟨hl, k, hk2⟩ := hk'
 rw [hl, hk2]
 rw [hn, hds] at hr
 exact hN.back st.ops st.t st.hp g a w hr hw
theorem g_end {C : List HE → Prop} {W2 : World} {bs2 : List Nat} (hr : Round C W2 bs2 fin) (hl : (match st.l, st.k with | [], [] => true | _, _ => false) = true) (hE : Ext W2 bs2 w0 bs) (g : C st.hp) : Goal F mm P fin w0 bs st := by
 refine ⟨fun hF a w hr1 hw => ?_⟩
 have h1 : st.l = [] ∧ st.k = [] := by
  split at hl
  ·rename_i h1 h2; exact ⟨h1, h2⟩
  cases hl
 rw [h1.1, h1.2]
 exact hr.normal st.hp g w0 bs a w hE hw
end
end
end Go.Proofs.Ytcncfmjfgdbfeab
