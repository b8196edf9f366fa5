/- The second way to walk: memory as a list of known blocks; states; the runs that the kernel reckons. -/
import Derived.Test.YtcncfmjfgdbfeabM0
namespace Go.Proofs.Ytcncfmjfgdbfeab
open Go.RowKit
noncomputable section
inductive HE where
 | obj (own : Bool) (b : Nat) (cs : List Value) (T : TypeId)
 | row (b off sz n : Nat) (f : Nat → List Value)
def HE.blk : HE → Nat
 | .obj _ b _ _ => b
 | .row b _ _ _ _ => b
def HE.own : HE → Bool
 | .obj o _ _ _ => o
 | _ => false
def HE.live : HE → Prop
 | .obj _ _ _ _ => True
 | .row _ _ _ n _ => 0 < n
def HE.holds (w0 : World) (bs : List Nat) (w : World) : HE → Prop
 | .obj own b cs T => w.heap[b]? = some (.cells cs.toArray T (0, 0)) ∧ (own = true → w0.heap.size ≤ b ∨ b ∈ bs)
 | .row b off sz n f => 0 < n → b < w.heap.size ∧ ∀ k, k < n → ∀ j v, (f k)[j]? = some v → w.cell? ⟨b, off + k * sz + j, none⟩ = some v
structure KeptBut (bs : List Nat) (w w' : World) : Prop where
 os : w'.os = w.os
 tape : w'.tape = w.tape
 output : w'.output = w.output
 size : w.heap.size ≤ w'.heap.size
 block : ∀ k, k < w.heap.size → k ∉ bs → w'.heap[k]? = w.heap[k]?
theorem KeptBut.refl (bs : List Nat) (w : World) : KeptBut bs w w := ⟨rfl, rfl, rfl, Nat.le_refl _, fun _ _ _ => rfl⟩
theorem KeptBut.trans {bs : List Nat} {a b c : World} (h : KeptBut bs a b) (k : KeptBut bs b c) : KeptBut bs a c :=
 ⟨k.os.trans h.os, k.tape.trans h.tape, k.output.trans h.output, Nat.le_trans h.size k.size, fun i hi hn => (k.block i (Nat.lt_of_lt_of_le hi h.size) hn).trans (h.block i hi hn)⟩
theorem KeptBut.of_kept {bs : List Nat} {w w' : World} (h : Kept w w') : KeptBut bs w w' := ⟨h.os, h.tape, h.output, h.size, fun k hk _ => h.block k hk⟩
theorem KeptBut.kept {w w' : World} (h : KeptBut [] w w') : Kept w w' := ⟨h.os, h.tape, h.output, h.size, fun k hk => h.block k hk (by simp)⟩
structure Sat (w0 : World) (bs : List Nat) (hp : List HE) (w : World) : Prop where
 kept : KeptBut bs w0 w
 holds : ∀ e ∈ hp, e.holds w0 bs w
 apart : ∀ (i j : Nat) (e e' : HE), i ≠ j → hp[i]? = some e → hp[j]? = some e' → e.own = true → e'.live → e.blk ≠ e'.blk
theorem HE.holds_lt {w0 w : World} {bs : List Nat} {e : HE} (h : e.holds w0 bs w) (hl : e.live) : e.blk < w.heap.size := by
 cases e with
 | obj o b cs T => exact (Array.getElem?_eq_some_iff.1 h.1).1
 | row b off sz n f => exact (h hl).1
theorem HE.holds_of_block {w0 w w' : World} {bs : List Nat} {e : HE} (h : e.holds w0 bs w) (hs : w.heap.size ≤ w'.heap.size) (hb : e.live → w'.heap[e.blk]? = w.heap[e.blk]?) : e.holds w0 bs w' := by
 cases e with
 | obj o b cs T => exact ⟨(hb trivial).trans h.1, h.2⟩
 | row b off sz n f =>
  intro hn
  obtain ⟨h1, h2⟩ := h hn
  refine ⟨Nat.lt_of_lt_of_le h1 hs, fun k hk j v hv => ?_⟩
  rw [World.cell?_of_block (w := w) (hb hn)]
  exact h2 k hk j v hv
theorem Sat.of_kept {w0 w w' : World} {bs : List Nat} {hp : List HE} (h : Sat w0 bs hp w) (k : Kept w w') : Sat w0 bs hp w' :=
 ⟨h.kept.trans (.of_kept k), fun e he => HE.holds_of_block (h.holds e he) k.size (fun hl => k.block _ (HE.holds_lt (h.holds e he) hl)), h.apart⟩
theorem Sat.draw {w0 w : World} {bs : List Nat} {hp : List HE} (h : Sat w0 bs hp w) (n : Nat) : Sat w0 bs hp { w with drawn := n } :=
 h.of_kept ⟨rfl, rfl, rfl, Nat.le_refl _, fun _ _ => rfl⟩
theorem Sat.obj {w0 w : World} {bs : List Nat} {hp : List HE} {i : Nat} {o : Bool} {b : Nat} {cs : List Value} {T : TypeId} (h : Sat w0 bs hp w) (hi : hp[i]? = some (.obj o b cs T)) : w.heap[b]? = some (.cells cs.toArray T (0, 0)) :=
 (h.holds _ (List.mem_of_getElem? hi)).1
theorem Sat.alloc {w0 w : World} {bs : List Nat} {hp : List HE} (h : Sat w0 bs hp w) (cs : List Value) (T : TypeId) : Sat w0 bs (hp ++ [.obj true w.heap.size cs T]) { w with heap := w.heap.push (.cells cs.toArray T (0, 0)) } := by
 have hk : Kept w { w with heap := w.heap.push (.cells cs.toArray T (0, 0)) } := (Kept.refl w).alloc (Nat.le_refl _) (.cells cs.toArray T (0, 0))
 have h' := h.of_kept hk
 refine ⟨h'.kept, fun e he => ?_, fun i j e e' hij hi hj ho hl => ?_⟩
 ·rcases List.mem_append.1 he with he | he
  ·exact h'.holds e he
  rw [List.mem_singleton.1 he]
  exact ⟨by simp, fun _ => .inl h.kept.size⟩
 rw [List.getElem?_append] at hi hj
 by_cases h1 : i < hp.length <;> by_cases h2 : j < hp.length
 ·rw [if_pos h1] at hi; rw [if_pos h2] at hj
  exact h.apart i j e e' hij hi hj ho hl
 ·rw [if_pos h1] at hi; rw [if_neg h2] at hj
  have hj' : e' = .obj true w.heap.size cs T := by
   have := List.mem_of_getElem? hj
   simpa using this
  subst hj'
  have hlive : e.live := by cases e with
   | obj => trivial
   | row => simp [HE.own] at ho
  exact Nat.ne_of_lt (HE.holds_lt (h.holds e (List.mem_of_getElem? hi)) hlive)
 ·rw [if_neg h1] at hi; rw [if_pos h2] at hj
  have hi' : e = .obj true w.heap.size cs T := by
   have := List.mem_of_getElem? hi
   simpa using this
  subst hi'
  exact fun e1 => by
   have e2 : w.heap.size = e'.blk := e1
   have := HE.holds_lt (h.holds e' (List.mem_of_getElem? hj)) hl
   omega
 rw [if_neg h1] at hi; rw [if_neg h2] at hj
 have h3 : i - hp.length = 0 := by
  rcases Nat.eq_zero_or_pos (i - hp.length) with h | h
  ·exact h
  rw [List.getElem?_eq_none (by simp; omega)] at hi; cases hi
 have h4 : j - hp.length = 0 := by
  rcases Nat.eq_zero_or_pos (j - hp.length) with h | h
  ·exact h
  rw [List.getElem?_eq_none (by simp; omega)] at hj; cases hj
 omega
theorem Sat.store {w0 w : World} {bs : List Nat} {hp : List HE} {i b off : Nat} {cs : List Value} {T : TypeId} (h : Sat w0 bs hp w) (hi : hp[i]? = some (.obj true b cs T)) (v : Value) :
  Sat w0 bs (hp.set i (.obj true b (cs.set off v) T)) (w.setCell ⟨b, off, none⟩ v) := by
 have ho := h.obj hi
 have hown := (h.holds _ (List.mem_of_getElem? hi)).2 rfl
 have hne : ∀ k, k ≠ b → (w.setCell ⟨b, off, none⟩ v).heap[k]? = w.heap[k]? := fun k hk => by
  simp only [World.setCell, Array.getElem?_modify]
  rw [if_neg (fun e => hk e.symm)]
 have hsz : (w.setCell ⟨b, off, none⟩ v).heap.size = w.heap.size := by simp [World.setCell]
 have heq : (w.setCell ⟨b, off, none⟩ v).heap[b]? = some (.cells (cs.set off v).toArray T (0, 0)) := by
  simp only [World.setCell, Array.getElem?_modify, ho]
  simp
 refine ⟨⟨h.kept.os, h.kept.tape, h.kept.output, by rw [hsz]; exact h.kept.size, fun k hk hn => ?_⟩, fun e he => ?_, fun j l e e' hjl hj hl hoe hle => ?_⟩
 ·rw [hne k (fun e => by
   subst e
   rcases hown with h1 | h1
   ·omega
   exact hn h1)]
  exact h.kept.block k hk hn
 ·obtain ⟨j, hj⟩ := List.mem_iff_getElem?.1 he
  rw [List.getElem?_set] at hj
  by_cases e1 : i = j
  ·rw [if_pos e1] at hj
   by_cases h2 : i < hp.length
   ·rw [if_pos h2] at hj
    obtain rfl := Option.some.inj hj
    exact ⟨heq, fun _ => hown⟩
   rw [if_neg h2] at hj; cases hj
  rw [if_neg e1] at hj
  exact HE.holds_of_block (h.holds e (List.mem_of_getElem? hj)) (by rw [hsz]; exact Nat.le_refl _) (fun hlv => hne _ (fun e2 => h.apart i j _ e e1 hi hj rfl hlv e2.symm))
 rw [List.getElem?_set] at hj hl
 by_cases e1 : i = j <;> by_cases e2 : i = l
 ·omega
 ·rw [if_pos e1] at hj; rw [if_neg e2] at hl
  by_cases h2 : i < hp.length
  ·rw [if_pos h2] at hj
   obtain rfl := Option.some.inj hj
   have := h.apart i l (.obj true b cs T) e' e2 hi hl rfl hle
   exact this
  rw [if_neg h2] at hj; cases hj
 ·rw [if_neg e1] at hj; rw [if_pos e2] at hl
  by_cases h2 : i < hp.length
  ·rw [if_pos h2] at hl
   obtain rfl := Option.some.inj hl
   have := h.apart j i e (.obj true b cs T) (fun e => e1 e.symm) hj hi hoe trivial
   exact this
  rw [if_neg h2] at hl; cases hl
 rw [if_neg e1] at hj; rw [if_neg e2] at hl
 exact h.apart j l e e' hjl hj hl hoe hle
def runR {α : Type} (p : Program) (hp : List HE) : Sem α → List Nat → Option (α × List Nat × List (Nat × Nat))
 | .pure a, hs => some (a, hs, [])
 | .program k, hs => runR p hp (k p) hs
 | .mark _ k, hs => runR p hp k hs
 | .load _ a k, hs => match hs with
  | [] => none
  | i :: hs => match hp[i]? with
   | some (.obj _ b cs _) => match a.spot, cs[a.off]? with
    | none, some v => match runR p hp (k v) hs with
     | some (x, hs', e) => some (x, hs', (a.block, b) :: e)
     | none => none
    | _, _ => none
   | _ => none
 | .shape r k, hs => match hs with
  | [] => none
  | i :: hs => match hp[i]? with
   | some (.obj _ b cs T) => match runR p hp (k (some (T, cs.length))) hs with
     | some (x, hs', e) => some (x, hs', (r, b) :: e)
     | none => none
   | _ => none
 | .frozen a k, hs => match hs with
  | [] => none
  | i :: hs => match hp[i]? with
   | some (.obj _ b _ _) => match runR p hp (k false) hs with
     | some (x, hs', e) => some (x, hs', (a.block, b) :: e)
     | none => none
   | _ => none
 | _, _ => none
def AllEq : List (Nat × Nat) → Prop
 | [] => True
 | p :: l => p.1 = p.2 ∧ AllEq l
theorem AllEq.of_map : ∀ {l : List (Nat × Nat)}, l.map Prod.fst = l.map Prod.snd → AllEq l
 | [], _ => trivial
 | p :: l, h => by
  simp only [List.map_cons, List.cons.injEq] at h
  exact ⟨h.1, AllEq.of_map h.2⟩
theorem AllEq.append : ∀ {l m : List (Nat × Nat)}, AllEq (l ++ m) → AllEq l ∧ AllEq m
 | [], _, h => ⟨trivial, h⟩
 | _ :: _, _, h => ⟨⟨h.1, (AllEq.append h.2).1⟩, (AllEq.append h.2).2⟩
theorem cell_obj {w : World} {b off : Nat} {cs : List Value} {T : TypeId} {v : Value} (h : w.heap[b]? = some (.cells cs.toArray T (0, 0))) (hv : cs[off]? = some v) : w.cell? ⟨b, off, none⟩ = some v := by
 simp [World.cell?, h, hv]
theorem runR_run {α : Type} {p : Program} {w0 : World} {bs : List Nat} {hp : List HE} {w : World} (hw : Sat w0 bs hp w) :
  ∀ {s : Sem α} {hs : List Nat} {a : α} {hs' : List Nat} {e : List (Nat × Nat)}, runR p hp s hs = some (a, hs', e) → AllEq e → s.run p w = .ok a w
 | .pure a, hs, b, hs', e, h, _ => by simp only [runR, Option.some.injEq, Prod.mk.injEq] at h; rw [← h.1]; rfl
 | .program k, hs, b, hs', e, h, he => by
  simp only [runR] at h
  exact runR_run hw (s := k p) h he
 | .mark m k, hs, b, hs', e, h, he => by
  simp only [runR] at h
  exact runR_run hw (s := k) h he
 | .load m a k, hs, x, hs', e, h, he => by
  rw [runR.eq_def] at h
  dsimp only at h
  split at h
  ·cases h
  split at h
  ·rename_i i hs1 o b cs T hi
   split at h
   ·rename_i v hsp hv
    split at h
    ·rename_i y hs2 e2 hr
     simp only [Option.some.injEq, Prod.mk.injEq] at h
     obtain ⟨rfl, rfl, rfl⟩ := h
     have hb : a.block = b := he.1
     obtain ⟨ab, ao, asp⟩ := a
     simp only at hsp hv hb
     subst hsp hb
     have hc := cell_obj (hw.obj hi) hv
     simp only [Sem.run, hc]
     exact runR_run hw (s := k v) hr he.2
    cases h
   cases h
  cases h
 | .shape r k, hs, x, hs', e, h, he => by
  rw [runR.eq_def] at h
  dsimp only at h
  split at h
  ·cases h
  split at h
  ·rename_i i hs1 o b cs T hi
   split at h
   ·rename_i y hs2 e2 hr
    simp only [Option.some.injEq, Prod.mk.injEq] at h
    obtain ⟨rfl, rfl, rfl⟩ := h
    have hb : r = b := he.1
    subst hb
    have hc : w.shape? r = some (T, cs.length) := by simp [World.shape?, hw.obj hi]
    simp only [Sem.run, hc]
    exact runR_run hw (s := k _) hr he.2
   cases h
  cases h
 | .frozen a k, hs, x, hs', e, h, he => by
  rw [runR.eq_def] at h
  dsimp only at h
  split at h
  ·cases h
  split at h
  ·rename_i i hs1 o b cs T hi
   split at h
   ·rename_i y hs2 e2 hr
    simp only [Option.some.injEq, Prod.mk.injEq] at h
    obtain ⟨rfl, rfl, rfl⟩ := h
    have hb : a.block = b := he.1
    have hc : w.frozen? a = false := by simp [World.frozen?, hb, hw.obj hi]
    simp only [Sem.run, hc]
    exact runR_run hw (s := k _) hr he.2
   cases h
  cases h
 | .store .., _, _, _, _, h, _ | .new .., _, _, _, _, h, _ | .freeze .., _, _, _, _, h, _ | .getObj .., _, _, _, _, h, _ | .setObj .., _, _, _, _, h, _ | .choose .., _, _, _, _, h, _ | .sys .., _, _, _, _, h, _ | .halt .., _, _, _, _, h, _ => by
  simp [runR] at h
def cellV : Value → Bool
 | .agg _ => false
 | .tuple _ => false
 | _ => true
def runW {α : Type} (p : Program) : Sem α → List HE → List Nat → Option (α × List HE × List Nat × List (Nat × Nat))
 | .pure a, hp, hs => some (a, hp, hs, [])
 | .program k, hp, hs => runW p (k p) hp hs
 | .mark _ k, hp, hs => runW p k hp hs
 | .load _ a k, hp, hs => match hs with
  | [] => none
  | i :: hs => match hp[i]? with
   | some (.obj _ b cs _) => match a.spot, cs[a.off]? with
    | none, some v => match runW p (k v) hp hs with
     | some (x, hp', hs', e) => some (x, hp', hs', (a.block, b) :: e)
     | none => none
    | _, _ => none
   | _ => none
 | .store _ a v k, hp, hs => match hs with
  | [] => none
  | i :: hs => match hp[i]? with
   | some (.obj true b cs T) => match a.spot, cs[a.off]?, cellV v with
    | none, some _, true => match runW p k (hp.set i (.obj true b (cs.set a.off v) T)) hs with
     | some (x, hp', hs', e) => some (x, hp', hs', (a.block, b) :: e)
     | none => none
    | _, _, _ => none
   | _ => none
 | _, _, _ => none
theorem runW_run {α : Type} {p : Program} {w0 : World} {bs : List Nat} :
  ∀ {s : Sem α} {hp : List HE} {w : World} {hs : List Nat} {a : α} {hp' : List HE} {hs' : List Nat} {e : List (Nat × Nat)}, Sat w0 bs hp w → runW p s hp hs = some (a, hp', hs', e) → AllEq e → ∃ w', s.run p w = .ok a w' ∧ Sat w0 bs hp' w'
 | .pure a, hp, w, hs, b, hp', hs', e, hw, h, _ => by
  simp only [runW, Option.some.injEq, Prod.mk.injEq] at h
  obtain ⟨rfl, rfl, rfl, rfl⟩ := h
  exact ⟨w, rfl, hw⟩
 | .program k, hp, w, hs, b, hp', hs', e, hw, h, he => by
  simp only [runW] at h
  exact runW_run (s := k p) hw h he
 | .mark m k, hp, w, hs, b, hp', hs', e, hw, h, he => by
  simp only [runW] at h
  exact runW_run (s := k) hw h he
 | .load m a k, hp, w, hs, x, hp', hs', e, hw, h, he => by
  rw [runW.eq_def] at h
  dsimp only at h
  split at h
  ·cases h
  split at h
  ·rename_i i hs1 o b cs T hi
   split at h
   ·rename_i v hsp hv
    split at h
    ·rename_i y hp2 hs2 e2 hr
     simp only [Option.some.injEq, Prod.mk.injEq] at h
     obtain ⟨rfl, rfl, rfl, rfl⟩ := h
     have hb : a.block = b := he.1
     obtain ⟨ab, ao, asp⟩ := a
     simp only at hsp hv hb
     subst hsp hb
     have hc := cell_obj (hw.obj hi) hv
     simp only [Sem.run, hc]
     exact runW_run (s := k v) hw hr he.2
    cases h
   cases h
  cases h
 | .store m a v k, hp, w, hs, x, hp', hs', e, hw, h, he => by
  rw [runW.eq_def] at h
  dsimp only at h
  split at h
  ·cases h
  split at h
  ·rename_i i hs1 b cs T hi
   split at h
   ·rename_i u hsp hv hcv
    split at h
    ·rename_i y hp2 hs2 e2 hr
     simp only [Option.some.injEq, Prod.mk.injEq] at h
     obtain ⟨rfl, rfl, rfl, rfl⟩ := h
     have hb : a.block = b := he.1
     obtain ⟨ab, ao, asp⟩ := a
     simp only at hsp hv hb
     subst hsp hb
     have hc := cell_obj (hw.obj hi) hv
     have hf : w.frozen? ⟨ab, ao, none⟩ = false := by simp [World.frozen?, hw.obj hi]
     have hst := hw.store (off := ao) hi v
     obtain ⟨w', h1, h2⟩ := runW_run (s := k) hst hr he.2
     refine ⟨w', ?_, h2⟩
     cases v <;> first | (simp [cellV] at hcv; done) | (simp only [Sem.run, hc, hf]; exact h1)
    cases h
   cases h
  cases h
 | .shape .., _, _, _, _, _, _, _, _, h, _ | .frozen .., _, _, _, _, _, _, _, _, h, _ | .new .., _, _, _, _, _, _, _, _, h, _ | .freeze .., _, _, _, _, _, _, _, _, h, _ | .getObj .., _, _, _, _, _, _, _, _, h, _ | .setObj .., _, _, _, _, _, _, _, _, h, _ | .choose .., _, _, _, _, _, _, _, _, h, _ | .sys .., _, _, _, _, _, _, _, _, h, _ | .halt .., _, _, _, _, _, _, _, _, h, _ => by
  simp [runW] at h
end
theorem Sat.kk {w0 w : World} {hp : List HE} (h : Sat w0 [] hp w) : Kept w0 w := h.kept.kept
end Go.Proofs.Ytcncfmjfgdbfeab
