/- The second way to walk: append of a piece of a row that came in; a slice's tail; a block of one's own read as a row. -/
import Derived.Test.YtcncfmjfgdbfeabFast10
namespace Go.Proofs.Ytcncfmjfgdbfeab
open Go.RowKit
noncomputable section
def rowsL (f : Nat → List Value) (s m : Nat) : List Value := (List.range m).flatMap fun k => f (s + k)
theorem rowsL_succ (f : Nat → List Value) (s m : Nat) : rowsL f s (m + 1) = rowsL f s m ++ f (s + m) := by
 simp [rowsL, List.range_succ]
theorem rowsL_length {f : Nat → List Value} {sz : Nat} (hf : ∀ k, (f k).length = sz) (s : Nat) : ∀ m, (rowsL f s m).length = m * sz
 | 0 => by simp [rowsL]
 | m + 1 => by rw [rowsL_succ, List.length_append, rowsL_length hf s m, hf, Nat.succ_mul]
theorem rowsL_get {f : Nat → List Value} {sz : Nat} (hf : ∀ k, (f k).length = sz) (s : Nat) : ∀ m k v, (rowsL f s m)[k]? = some v → ∃ q r, q < m ∧ k = q * sz + r ∧ (f (s + q))[r]? = some v
 | 0, k, v, h => by simp [rowsL] at h
 | m + 1, k, v, h => by
  rw [rowsL_succ] at h
  by_cases hk : k < (rowsL f s m).length
  ·rw [List.getElem?_append_left hk] at h
   obtain ⟨q, r, h1, h2, h3⟩ := rowsL_get hf s m k v h
   exact ⟨q, r, by omega, h2, h3⟩
  rw [List.getElem?_append_right (by omega)] at h
  rw [rowsL_length hf] at h hk
  exact ⟨m, k - m * sz, by omega, by omega, h⟩
theorem rowsL_at {f : Nat → List Value} {sz : Nat} (hf : ∀ k, (f k).length = sz) (s : Nat) : ∀ m q r, q < m → r < sz → (rowsL f s m)[q * sz + r]? = (f (s + q))[r]?
 | 0, q, r, h, _ => by omega
 | m + 1, q, r, h, hr => by
  rw [rowsL_succ]
  by_cases e : q = m
  ·subst e
   rw [List.getElem?_append_right (by rw [rowsL_length hf]; omega), rowsL_length hf]
   congr 1; omega
  have : q * sz + r < m * sz := by
   have := Nat.mul_le_mul_right sz (show q + 1 ≤ m by omega)
   rw [Nat.succ_mul] at this
   omega
  rw [List.getElem?_append_left (by rw [rowsL_length hf]; exact this)]
  exact rowsL_at hf s m q r (by omega) hr
section
variable {P : Program}
def tailA (b o s sz c : Nat) : Addr := if c = s then ⟨b, o, none⟩ else ⟨b, o + s * sz, none⟩
theorem tail_run {T E : TypeId} {b o n c s sz : Nat} {kk : IntKind} (w : World) (hT : P.underlying T = some (.slice E)) (hs : cellsN P E = some sz) (hsn : s ≤ n) (_hn : n ≤ c) :
  (sliceSem T (.slice (some ⟨b, o, none⟩) n c) (some (.int kk s)) none none).run P w = .ok (.value (.slice (some (tailA b o s sz c)) (n - s) (c - s))) w := by
 have hu : (underlying T).run P w = .ok (.slice E) w := by simp [underlying, program, hT, Sem.run, Result.andThen]
 obtain ⟨i, hi, hsz⟩ := Option.map_eq_some_iff.1 hs
 have hz : (sizeOf E).run P w = .ok sz w := by simp [sizeOf, typeInfo, program, hi, hsz, Sem.run, Result.andThen]
 have hb : (Instr.sliceBounds true n c (some (.int kk s)) none none).run P w = .ok (s, n, c) w := by
  have h0 : (0 : Int) ≤ s ∧ (s : Int) ≤ n := by omega
  simp [Instr.sliceBounds, Instr.sliceBound, asIntOf, h0, hsn]
 unfold tailA
 by_cases e : c = s
 ·subst e
  simp [sliceSem, Instr.sliceAt, Instr.slice, hu, hz, hb, Result.andThen]
 simp [sliceSem, Instr.sliceAt, Instr.slice, hu, hz, hb, Result.andThen, e, add_addr]
theorem run_append_zero {t ty e : TypeId} {i : TypeInfo} {w : World} (ht : P.underlying t = some (.slice e)) (hi : P.info? e = some i) (b : Addr) (len cap : Nat) (x : Option Addr) (c : Nat) (hle : len ≤ cap) :
  (Builtin.append_ #[t, t] ty #[.slice (some b) len cap, .slice x 0 c]).run P w = .ok (.slice (some b) len cap) w := by
 cases x with
 | none => simp [Builtin.append_, run_underlying ht, sizeOf, typeInfo, hi, Builtin.lenOf, hle, Builtin.firstCells, storeCells]
 | some a => simp [Builtin.append_, run_underlying ht, sizeOf, typeInfo, hi, Builtin.lenOf, hle, Builtin.firstCells, loadCells, loadCellsFrom, storeCells]
end
section
variable {F : Fence} {mm : Nat} {P : Program} {fin : Fin} {w0 : World} {bs : List Nat} {st : St}
theorem g_appendR (i j : Nat) (t E : TypeId) (b len cap sz m c s bx off n by_ : Nat) (ax : Option Addr) (cs : List Value) (f : Nat → List Value) (h : appendOf st = some (t, t, .slice (some ⟨b, 0, none⟩) len cap, .slice ax m c))
  (ht : P.underlying t = some (.slice E)) (hz : ∃ ti z, P.info? E = some ti ∧ ti.zero = some z ∧ ti.size = sz ∧ ti.bytes = by_ ∧ z.cells.size = sz)
  (hb : st.hp[i]? = some (.obj true b cs E)) (hlen : cs.length = cap * sz) (hle : len ≤ cap) (hj : st.hp[j]? = some (.row bx off sz n f)) (hf : ∀ k, (f k).length = sz) (hn1 : ∀ k, ∀ u ∈ f k, u.oneCell' = true)
  (hsm : s + m ≤ n) (hax : m = 0 ∨ ax = some ⟨bx, off + s * sz, none⟩) (hbig : len + m ≤ 9223372036854775807) (hbytes : (len + m) * by_ ≤ 140737488355328)
  (g : ∀ b' cap' cs', w0.heap.size ≤ b' ∨ b' ∈ bs → len + m ≤ cap' → cs'.length = cap' * sz → cs'.take ((len + m) * sz) = cs.take (len * sz) ++ rowsL f s m →
   Goal F mm P fin w0 bs (retSt st (.slice (some ⟨b', 0, none⟩) (len + m) cap') (st.hp.set i (.obj true b' cs' E)))) : Goal F mm P fin w0 bs st := by
 refine ⟨fun hF a w hr hw => ?_⟩
 obtain ⟨n0, ds, ops, l, kk, tt, hp⟩ := st
 unfold appendOf at h
 unfold retSt at g
 simp only at h hr hw hb hj g ⊢
 obtain ⟨ti, z, hti, hzero, hsize, hby, hzs⟩ := hz
 subst hsize
 subst hby
 cases l with
 | nil => cases h
 | cons o rest =>
  simp only at h
  split at h
  ·rename_i hwn
   cases hall : (o.op.operands.toList.all fun x => (tt.ev? x).isSome) with
   | false => rw [hall] at h; cases h
   | true =>
    rw [hall, cond_true] at h
    split at h
    ·rename_i cc hop0
     split at h
     case h_2 => cases h
     rename_i sx x t1 u1 hcc ha1 ha2
     simp only [Option.some.injEq, Prod.mk.injEq] at h
     obtain ⟨h1, h2, hs, hx⟩ := h
     replace h1 := h1.symm
     replace h2 := h2.symm
     subst h1
     subst h2
     have hop : o.op = .call { callee := .builtin .append, args := #[sx, x], argTypes := #[t, t] } := by
      rw [hop0]
      obtain ⟨c1, c2, c3⟩ := cc
      simp only at hcc ha1 ha2
      have e2 : c2 = #[sx, x] := by rw [← ha1]
      have e3 : c3 = #[t, t] := by rw [← ha2]
      rw [hcc, e2, e3]
     have hsem : opSem tt o = some (execOp tt.ev o) := by
      unfold opSem
      rw [hall]
      simp [noSel, hop]
     have hexec : execOp tt.ev o = (do let v ← Builtin.append_ #[t, t] o.type #[.slice (some ⟨b, 0, none⟩) len cap, .slice ax m c]; pure (.value v)) := by
      unfold execOp
      simp [hop, resolve, invoke, builtin, hs, hx]
     have fin1 : ∀ (v : Value) (w' : World), (Builtin.append_ #[t, t] o.type #[.slice (some ⟨b, 0, none⟩) len cap, .slice ax m c]).run P w = .ok v w' →
       (∃ b' cap' cs', v = .slice (some ⟨b', 0, none⟩) (len + m) cap' ∧ (w0.heap.size ≤ b' ∨ b' ∈ bs) ∧ len + m ≤ cap' ∧ cs'.length = cap' * ti.size ∧ cs'.take ((len + m) * ti.size) = cs.take (len * ti.size) ++ rowsL f s m ∧ Sat w0 bs (hp.set i (.obj true b' cs' E)) w') →
       wpListIn F mm P ops (den F mm P fin kk) (o :: rest) a w := fun v w' hrun ⟨b', cap', cs', hv, h1, h2, h3, h4, h5⟩ => by
      subst hv
      have hg := (g b' cap' cs' h1 h2 h3 h4).out hF
      unfold wpListIn
      rw [hr.wanted hwn, if_pos rfl]
      refine ⟨fun f _ => hF.fn f, ?_⟩
      rw [Oper.semAt_eq _ _ _ (noDefer (opSem_noSel hsem)), hr.opSem hsem, hexec]
      have : (do let v ← Builtin.append_ #[t, t] o.type #[.slice (some ⟨b, 0, none⟩) len cap, .slice ax m c]; pure (.value v) : Sem Next).run P w = .ok (.value (.slice (some ⟨b', 0, none⟩) (len + m) cap')) w' := by
       simp [hrun, Result.andThen]
      rw [this]
      exact hg _ _ (hr.put _ _) h5
     have hzc : ∀ k, (Builtin.zeroCells z.cells k).size = k * ti.size := fun k => by simp [Builtin.zeroCells, hzs]
     have hnl := rowsL_length hf s m
     rcases Nat.eq_zero_or_pos m with hm0 | hm
     ·subst hm0
      refine fin1 _ w (run_append_zero ht hti _ _ _ _ _ hle) ⟨b, cap, cs, rfl, (hw.holds _ (List.mem_of_getElem? hb)).2 rfl, by omega, hlen, by simp [rowsL], ?_⟩
      have : hp.set i (.obj true b cs E) = hp := by
       have hlt := (List.getElem?_eq_some_iff.1 hb).1
       have hv := (List.getElem?_eq_some_iff.1 hb).2
       rw [← hv]
       exact List.set_getElem_self hlt
      rw [this]; exact hw
     obtain rfl : ax = some ⟨bx, off + s * ti.size, none⟩ := by rcases hax with h | h; omega; exact h
     have hnews : ∀ k v, (rowsL f s m)[k]? = some v → w.cell? (Addr.add ⟨bx, off + s * ti.size, none⟩ k) = some v := fun k v hv => by
      obtain ⟨q, r, h1, h2, h3⟩ := rowsL_get hf s m k v hv
      have := hw.rowcell hj (k := s + q) (by omega) h3
      rw [add_addr, h2]
      rw [show off + s * ti.size + (q * ti.size + r) = off + (s + q) * ti.size + r by rw [Nat.add_mul]; omega]
      exact this
     have hnone : ∀ u ∈ rowsL f s m, u.oneCell' = true := fun u hu => by
      obtain ⟨k, hk⟩ := List.mem_iff_getElem?.1 hu
      obtain ⟨q, r, _, _, h3⟩ := rowsL_get hf s m k u hk
      exact hn1 _ u (List.mem_of_getElem? h3)
     by_cases hroom : len + m ≤ cap
     ·have hrun := run_append_room (P := P) (w := w) t o.type E ti ht hti b len cap cs.toArray (hw.obj hb) ⟨bx, off + s * ti.size, none⟩ m c (rowsL f s m) hnl hnews hnone hroom (by
       have := Nat.mul_le_mul_right ti.size hroom
       rw [Nat.add_mul] at this
       simp only [List.size_toArray, hnl, hlen]
       omega)
      have hroom2 : len * ti.size + m * ti.size ≤ cap * ti.size := by rw [← Nat.add_mul]; exact Nat.mul_le_mul_right _ hroom
      have htl : (cs.take (len * ti.size)).length = len * ti.size := by rw [List.length_take, hlen]; omega
      refine fin1 _ _ hrun ⟨b, cap, cs.take (len * ti.size) ++ rowsL f s m ++ cs.drop (len * ti.size + (rowsL f s m).length), rfl, (hw.holds _ (List.mem_of_getElem? hb)).2 rfl, hroom, ?_, ?_, ?_⟩
      ·simp only [List.length_append, htl, List.length_drop, hnl, hlen]
       omega
      ·rw [Nat.add_mul, ← hnl, ← htl, ← List.length_append, List.take_left']
       rw [htl]
      refine hw.setObj hb rfl rfl rfl (by simp [World.setRow]) ?_ (fun k hk => ?_)
      ·exact setRow_heap w b cs.toArray _ E (0, 0) (hw.obj hb)
      simp only [World.setRow, Array.getElem?_modify]
      rw [if_neg (fun e => hk e.symm)]
     have holds : ∀ k v, (cs.take (len * ti.size))[k]? = some v → w.cell? (Addr.add ⟨b, 0, none⟩ k) = some v := fun k v hv => by
      rw [add_addr, Nat.zero_add]
      refine cell_obj (hw.obj hb) ?_
      rw [List.getElem?_take] at hv
      by_cases hk : k < len * ti.size
      ·rw [if_pos hk] at hv; exact hv
      rw [if_neg hk] at hv; cases hv
     have hlo : (cs.take (len * ti.size)).length = len * ti.size := by
      rw [List.length_take, hlen]
      exact Nat.min_eq_left (Nat.mul_le_mul_right _ hle)
     have hrun := run_append_grow (P := P) (w := w) t o.type E ti z ht hti hzero ⟨b, 0, none⟩ len cap _ hlo holds ⟨bx, off + s * ti.size, none⟩ m c (rowsL f s m) hnl hnews (by omega) (by omega) (growslice_fits (by omega) hbytes)
     have hge := grownCap_ge w (len + m) cap E
     refine fin1 _ _ hrun ⟨w.heap.size, grownCap w (len + m) cap E, cs.take (len * ti.size) ++ rowsL f s m ++ (Builtin.zeroCells z.cells (grownCap w (len + m) cap E - (len + m))).toList, rfl, .inl hw.kept.size, hge, ?_, ?_, ?_⟩
     ·simp only [List.length_append, hlo, hnl, Array.length_toList, hzc]
      rw [← Nat.add_mul, ← Nat.add_mul]
      congr 1
      omega
     ·rw [Nat.add_mul, ← hnl, ← hlo, ← List.length_append, List.take_left']
      rw [hlo]
     have := hw.swap i (cs.take (len * ti.size) ++ rowsL f s m ++ (Builtin.zeroCells z.cells (grownCap w (len + m) cap E - (len + m))).toList) E
     have e : (cs.take (len * ti.size) ++ rowsL f s m ++ (Builtin.zeroCells z.cells (grownCap w (len + m) cap E - (len + m))).toList).toArray = (cs.take (len * ti.size)).toArray ++ (rowsL f s m).toArray ++ Builtin.zeroCells z.cells (grownCap w (len + m) cap E - (len + m)) := by simp
     rw [e] at this
     exact this
    cases h
  cases h
end
theorem Sat.asRow {w0 w : World} {bs : List Nat} {hp : List HE} {i b sz n : Nat} {o : Bool} {cs : List Value} {E : TypeId} {f : Nat → List Value} (h : Sat w0 bs hp w) (hi : hp[i]? = some (.obj o b cs E)) (hf : ∀ k, (f k).length = sz) (hc : cs.take (n * sz) = rowsL f 0 n) :
  Sat w [] [.row b 0 sz n f] w := by
 refine ⟨.refl _ _, fun e he => ?_, fun i j e e' hij hi' hj => ?_⟩
 ·rw [List.mem_singleton.1 he]
  intro hn
  have ho := h.obj hi
  refine ⟨(Array.getElem?_eq_some_iff.1 ho).1, fun k hk r v hv => ?_⟩
  have hr : r < sz := by rw [← hf k]; exact (List.getElem?_eq_some_iff.1 hv).1
  rw [Nat.zero_add]
  refine cell_obj ho ?_
  have h1 := rowsL_at hf 0 n k r hk hr
  rw [← hc, List.getElem?_take] at h1
  have hlt : k * sz + r < n * sz := by
   have := Nat.mul_le_mul_right sz (show k + 1 ≤ n by omega)
   rw [Nat.succ_mul] at this
   omega
  rw [if_pos hlt] at h1
  rw [h1, Nat.zero_add]
  exact hv
 have h1 := (List.getElem?_eq_some_iff.1 hi').1
 have h2 := (List.getElem?_eq_some_iff.1 hj).1
 simp at h1 h2
 omega
end
end Go.Proofs.Ytcncfmjfgdbfeab
