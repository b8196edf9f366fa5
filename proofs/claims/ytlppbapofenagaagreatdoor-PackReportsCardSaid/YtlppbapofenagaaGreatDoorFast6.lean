/- The second way to walk: append to a row of one's own. -/
import Derived.Test.YtlppbapofenagaaGreatDoorFast5
import Derived.Laws.AppendOwn
namespace Go.Proofs.YtlppbapofenagaaGreatDoor
open Go.RowKit
noncomputable section

/-- a block of one's own has other cells now -/
theorem Sat.setObj {w0 w w' : World} {bs : List Nat} {hp : List HE} {i b : Nat} {cs cs' : List Value} {T : TypeId} (h : Sat w0 bs hp w) (hi : hp[i]? = some (.obj true b cs T))
    (h1 : w'.os = w.os) (h2 : w'.tape = w.tape) (h3 : w'.output = w.output) (hsz : w'.heap.size = w.heap.size) (hb : w'.heap[b]? = some (.cells cs'.toArray T (0, 0))) (hne : ∀ k, k ≠ b → w'.heap[k]? = w.heap[k]?) :
    Sat w0 bs (hp.set i (.obj true b cs' T)) w' := by
  have hown := (h.holds _ (List.mem_of_getElem? hi)).2 rfl
  refine ⟨⟨h1.trans h.kept.os, h2.trans h.kept.tape, h3.trans h.kept.output, by rw [hsz]; exact h.kept.size, fun k hk hn => ?_⟩, fun e he => ?_, fun j l e e' hjl hj hl hoe hle => ?_⟩
  · rw [hne k (fun e => by
      subst e
      rcases hown with h1 | h1
      · omega
      · exact hn h1)]
    exact h.kept.block k hk hn
  · obtain ⟨j, hj⟩ := List.mem_iff_getElem?.1 he
    rw [List.getElem?_set] at hj
    by_cases e1 : i = j
    · rw [if_pos e1] at hj
      by_cases h2 : i < hp.length
      · rw [if_pos h2] at hj
        obtain rfl := Option.some.inj hj
        exact ⟨hb, fun _ => hown⟩
      · rw [if_neg h2] at hj; cases hj
    · rw [if_neg e1] at hj
      exact HE.holds_of_block (h.holds e (List.mem_of_getElem? hj)) (by rw [hsz]; exact Nat.le_refl _) (fun hlv => hne _ (fun e2 => h.apart i j _ e e1 hi hj rfl hlv e2.symm))
  · rw [List.getElem?_set] at hj hl
    by_cases e1 : i = j <;> by_cases e2 : i = l
    · omega
    · rw [if_pos e1] at hj; rw [if_neg e2] at hl
      by_cases h2 : i < hp.length
      · rw [if_pos h2] at hj
        obtain rfl := Option.some.inj hj
        have := h.apart i l (.obj true b cs T) e' e2 hi hl rfl hle
        exact this
      · rw [if_neg h2] at hj; cases hj
    · rw [if_neg e1] at hj; rw [if_pos e2] at hl
      by_cases h2 : i < hp.length
      · rw [if_pos h2] at hl
        obtain rfl := Option.some.inj hl
        have := h.apart j i e (.obj true b cs T) (fun e => e1 e.symm) hj hi hoe trivial
        exact this
      · rw [if_neg h2] at hl; cases hl
    · rw [if_neg e1] at hj; rw [if_neg e2] at hl
      exact h.apart j l e e' hjl hj hl hoe hle

/-- a new block in an entry's place -/
theorem Sat.swap {w0 w : World} {bs : List Nat} {hp : List HE} (h : Sat w0 bs hp w) (i : Nat) (cs : List Value) (T : TypeId) : Sat w0 bs (hp.set i (.obj true w.heap.size cs T)) (w.drew.alloc (.cells cs.toArray T (0, 0))) := by
  have h0 : Sat w0 bs hp w.drew := h.draw _
  have h' := h0.alloc cs T
  have hw : ({ w.drew with heap := w.drew.heap.push (.cells cs.toArray T (0, 0)) } : World) = w.drew.alloc (.cells cs.toArray T (0, 0)) := rfl
  rw [hw] at h'
  have hs : w.drew.heap.size = w.heap.size := rfl
  rw [hs] at h'
  have hnew : (hp ++ [HE.obj true w.heap.size cs T])[hp.length]? = some (.obj true w.heap.size cs T) := by simp
  have pick : ∀ j e, (hp.set i (.obj true w.heap.size cs T))[j]? = some e → (j ≠ i ∧ (hp ++ [HE.obj true w.heap.size cs T])[j]? = some e ∧ j < hp.length) ∨ (j = i ∧ e = .obj true w.heap.size cs T) := fun j e hj => by
    have hlt : j < hp.length := by
      rcases Nat.lt_or_ge j hp.length with h1 | h1
      · exact h1
      · rw [List.getElem?_eq_none (by simpa using h1)] at hj; cases hj
    rw [List.getElem?_set] at hj
    by_cases e1 : i = j
    · rw [if_pos e1, if_pos (by omega)] at hj
      exact .inr ⟨e1.symm, (Option.some.inj hj).symm⟩
    · rw [if_neg e1] at hj
      exact .inl ⟨fun e2 => e1 e2.symm, by rw [List.getElem?_append_left hlt]; exact hj, hlt⟩
  refine ⟨h'.kept, fun e he => ?_, fun j l e e' hjl hj hl hoe hle => ?_⟩
  · obtain ⟨j, hj⟩ := List.mem_iff_getElem?.1 he
    rcases pick j e hj with ⟨_, h1, _⟩ | ⟨_, rfl⟩
    · exact h'.holds e (List.mem_of_getElem? h1)
    · exact h'.holds _ (List.mem_of_getElem? hnew)
  · rcases pick j e hj with ⟨_, h1, j1⟩ | ⟨j1, rfl⟩ <;> rcases pick l e' hl with ⟨_, h2, l1⟩ | ⟨l1, rfl⟩
    · exact h'.apart j l e e' hjl h1 h2 hoe hle
    · exact h'.apart j hp.length e _ (by omega) h1 hnew hoe hle
    · exact h'.apart hp.length l _ e' (by omega) hnew h2 hoe hle
    · omega

/-- the slice's row: none yet, or a block of one's own, all of it known -/
def RowAt (hp : List HE) (i : Nat) (base : Option Addr) (len cap sz : Nat) (cs : List Value) (E : TypeId) : Prop :=
  i < hp.length ∧ ((base = none ∧ len = 0 ∧ cap = 0) ∨ (∃ b, base = some ⟨b, 0, none⟩ ∧ hp[i]? = some (.obj true b cs E) ∧ cs.length = cap * sz ∧ len ≤ cap))

section
variable {F : Fence} {mm : Nat} {P : Program} {fin : Fin} {w0 : World} {bs : List Nat} {st : St}
def appendOf (st : St) : Option (TypeId × TypeId × Value × Value) :=
  match st.l with
  | [] => none
  | o :: _ => match wanted? st.ops st.t o with
    | some true => bif (o.op.operands.toList.all fun x => (st.t.ev? x).isSome) then (match o.op with
      | .call cc => (match cc.callee, cc.args.toList, cc.argTypes.toList with
        | .builtin .append, [s, x], [t, u] => some (t, u, st.t.ev s, st.t.ev x)
        | _, _, _ => none)
      | _ => none) else none
    | _ => none
/-- APPEND to a row of one's own: what is appended lies in a known block -/
theorem g_append (i j : Nat) (t E E' : TypeId) (base : Option Addr) (len cap sz m c bx by_ : Nat) (cs news : List Value) (o' : Bool) (h : appendOf st = some (t, t, .slice base len cap, .slice (some ⟨bx, 0, none⟩) m c))
    (ht : P.underlying t = some (.slice E)) (hsz : cellsN P E = some sz) (hz : ∃ ti z, P.info? E = some ti ∧ ti.zero = some z ∧ ti.size = sz ∧ ti.bytes = by_ ∧ z.cells.size = sz)
    (hr0 : RowAt st.hp i base len cap sz cs E) (hj : st.hp[j]? = some (.obj o' bx news E')) (hnl : news.length = m * sz) (hn1 : ∀ u ∈ news, u.oneCell' = true) (hm : 0 < m)
    (hbig : len + m ≤ 9223372036854775807) (hbytes : (len + m) * by_ ≤ 140737488355328)
    (g : ∀ b' cap' cs', w0.heap.size ≤ b' ∨ b' ∈ bs → len + m ≤ cap' → cs'.length = cap' * sz → cs'.take ((len + m) * sz) = cs.take (len * sz) ++ news →
      Goal F mm P fin w0 bs (retSt st (.slice (some ⟨b', 0, none⟩) (len + m) cap') (st.hp.set i (.obj true b' cs' E)))) : Goal F mm P fin w0 bs st := by
  refine ⟨fun hF a w hr hw => ?_⟩
  obtain ⟨n, ds, ops, l, kk, tt, hp⟩ := st
  unfold appendOf at h
  unfold retSt at g
  simp only at h hr hw hr0 hj g ⊢
  obtain ⟨ti, z, hti, hzero, hsize, hby, hzs⟩ := hz
  subst hsize
  subst hby
  cases l with
  | nil => cases h
  | cons o rest =>
    simp only at h
    split at h
    · rename_i hwn
      cases hall : (o.op.operands.toList.all fun x => (tt.ev? x).isSome) with
      | false => rw [hall] at h; cases h
      | true =>
        rw [hall, cond_true] at h
        split at h
        · rename_i cc hop0
          split at h
          case h_2 => cases h
          rename_i s x t1 u1 hcc ha1 ha2
          simp only [Option.some.injEq, Prod.mk.injEq] at h
          obtain ⟨h1, h2, hs, hx⟩ := h
          replace h1 := h1.symm
          replace h2 := h2.symm
          subst h1
          subst h2
          have hop : o.op = .call { callee := .builtin .append, args := #[s, x], argTypes := #[t, t] } := by
            rw [hop0]
            obtain ⟨c1, c2, c3⟩ := cc
            simp only at hcc ha1 ha2
            have e2 : c2 = #[s, x] := by rw [← ha1]
            have e3 : c3 = #[t, t] := by rw [← ha2]
            rw [hcc, e2, e3]
          have hsem : opSem tt o = some (execOp tt.ev o) := by
            unfold opSem
            rw [hall]
            simp [noSel, hop]
          have hexec : execOp tt.ev o = (do let v ← Builtin.append_ #[t, t] o.type #[.slice base len cap, .slice (some ⟨bx, 0, none⟩) m c]; pure (.value v)) := by
            unfold execOp
            simp [hop, resolve, invoke, builtin, hs, hx]
          have hnews : ∀ k v, news[k]? = some v → w.cell? (Addr.add ⟨bx, 0, none⟩ k) = some v := fun k v hv => by
            rw [add_addr, Nat.zero_add]; exact cell_obj (hw.obj hj) hv
          have fin1 : ∀ (v : Value) (w' : World), (Builtin.append_ #[t, t] o.type #[.slice base len cap, .slice (some ⟨bx, 0, none⟩) m c]).run P w = .ok v w' →
              (∃ b' cap' cs', v = .slice (some ⟨b', 0, none⟩) (len + m) cap' ∧ (w0.heap.size ≤ b' ∨ b' ∈ bs) ∧ len + m ≤ cap' ∧ cs'.length = cap' * ti.size ∧ cs'.take ((len + m) * ti.size) = cs.take (len * ti.size) ++ news ∧ Sat w0 bs (hp.set i (.obj true b' cs' E)) w') →
              wpListIn F mm P ops (den F mm P fin kk) (o :: rest) a w := fun v w' hrun ⟨b', cap', cs', hv, h1, h2, h3, h4, h5⟩ => by
            subst hv
            have hg := (g b' cap' cs' h1 h2 h3 h4).out hF
            unfold wpListIn
            rw [hr.wanted hwn, if_pos rfl]
            refine ⟨fun f _ => hF.fn f, ?_⟩
            rw [Oper.semAt_eq _ _ _ (noDefer (opSem_noSel hsem)), hr.opSem hsem, hexec]
            have : (do let v ← Builtin.append_ #[t, t] o.type #[.slice base len cap, .slice (some ⟨bx, 0, none⟩) m c]; pure (.value v) : Sem Next).run P w = .ok (.value (.slice (some ⟨b', 0, none⟩) (len + m) cap')) w' := by
              simp [hrun, Result.andThen]
            rw [this]
            exact hg _ _ (hr.put _ _) h5
          obtain ⟨hil, hrow⟩ := hr0
          have hzc : ∀ k, (Builtin.zeroCells z.cells k).size = k * ti.size := fun k => by simp [Builtin.zeroCells, hzs]
          rcases hrow with ⟨rfl, rfl, rfl⟩ | ⟨b, rfl, hb, hlen, hle⟩
          · -- out of nothing
            have hrun := run_append_nil (P := P) (w := w) t o.type E ti z ht hti hzero ⟨bx, 0, none⟩ m c news hnl hnews hm (by omega) (by rw [Nat.zero_add] at hbytes; omega)
            have hge := grownCap_ge w m 0 E
            refine fin1 _ _ hrun ⟨w.heap.size, grownCap w m 0 E, news ++ (Builtin.zeroCells z.cells (grownCap w m 0 E - m)).toList, by simp, .inl hw.kept.size, by omega, ?_, ?_, ?_⟩
            · simp only [List.length_append, hnl, Array.length_toList, hzc]
              rw [← Nat.add_mul]
              congr 1
              omega
            · rw [Nat.zero_mul, List.take_zero, List.nil_append, Nat.zero_add, ← hnl, List.take_left']
              rfl
            · have := hw.swap i (news ++ (Builtin.zeroCells z.cells (grownCap w m 0 E - m)).toList) E
              have e : (news ++ (Builtin.zeroCells z.cells (grownCap w m 0 E - m)).toList).toArray = news.toArray ++ Builtin.zeroCells z.cells (grownCap w m 0 E - m) := by simp
              rw [e] at this
              exact this
          · by_cases hroom : len + m ≤ cap
            · -- room
              have hrun := run_append_room (P := P) (w := w) t o.type E ti ht hti b len cap cs.toArray (hw.obj hb) ⟨bx, 0, none⟩ m c news hnl hnews hn1 hroom (by
                have := Nat.mul_le_mul_right ti.size hroom
                rw [Nat.add_mul] at this
                simp only [List.size_toArray, hnl, hlen]
                omega)
              have hroom2 : len * ti.size + m * ti.size ≤ cap * ti.size := by rw [← Nat.add_mul]; exact Nat.mul_le_mul_right _ hroom
              have htl : (cs.take (len * ti.size)).length = len * ti.size := by rw [List.length_take, hlen]; omega
              refine fin1 _ _ hrun ⟨b, cap, cs.take (len * ti.size) ++ news ++ cs.drop (len * ti.size + news.length), rfl, (hw.holds _ (List.mem_of_getElem? hb)).2 rfl, hroom, ?_, ?_, ?_⟩
              · simp only [List.length_append, htl, List.length_drop, hnl, hlen]
                omega
              · rw [Nat.add_mul, ← hnl, ← htl, ← List.length_append, List.take_left']
                rw [htl]
              · refine hw.setObj hb rfl rfl rfl (by simp [World.setRow]) ?_ (fun k hk => ?_)
                · exact setRow_heap w b cs.toArray _ E (0, 0) (hw.obj hb)
                · simp only [World.setRow, Array.getElem?_modify]
                  rw [if_neg (fun e => hk e.symm)]
            · -- a greater row
              have holds : ∀ k v, (cs.take (len * ti.size))[k]? = some v → w.cell? (Addr.add ⟨b, 0, none⟩ k) = some v := fun k v hv => by
                rw [add_addr, Nat.zero_add]
                refine cell_obj (hw.obj hb) ?_
                rw [List.getElem?_take] at hv
                by_cases hk : k < len * ti.size
                · rw [if_pos hk] at hv; exact hv
                · rw [if_neg hk] at hv; cases hv
              have hlo : (cs.take (len * ti.size)).length = len * ti.size := by
                rw [List.length_take, hlen]
                exact Nat.min_eq_left (Nat.mul_le_mul_right _ hle)
              have hrun := run_append_grow (P := P) (w := w) t o.type E ti z ht hti hzero ⟨b, 0, none⟩ len cap _ hlo holds ⟨bx, 0, none⟩ m c news hnl hnews (by omega) (by omega) (growslice_fits (by omega) hbytes)
              have hge := grownCap_ge w (len + m) cap E
              refine fin1 _ _ hrun ⟨w.heap.size, grownCap w (len + m) cap E, cs.take (len * ti.size) ++ news ++ (Builtin.zeroCells z.cells (grownCap w (len + m) cap E - (len + m))).toList, rfl, .inl hw.kept.size, hge, ?_, ?_, ?_⟩
              · simp only [List.length_append, hlo, hnl, Array.length_toList, hzc]
                rw [← Nat.add_mul, ← Nat.add_mul]
                congr 1
                omega
              · rw [Nat.add_mul, ← hnl, ← hlo, ← List.length_append, List.take_left']
                rw [hlo]
              · have := hw.swap i (cs.take (len * ti.size) ++ news ++ (Builtin.zeroCells z.cells (grownCap w (len + m) cap E - (len + m))).toList) E
                have e : (cs.take (len * ti.size) ++ news ++ (Builtin.zeroCells z.cells (grownCap w (len + m) cap E - (len + m))).toList).toArray = (cs.take (len * ti.size)).toArray ++ news.toArray ++ Builtin.zeroCells z.cells (grownCap w (len + m) cap E - (len + m)) := by simp
                rw [e] at this
                exact this
        · cases h
    · cases h
end
attribute [irreducible] appendOf
end
end Go.Proofs.YtlppbapofenagaaGreatDoor
