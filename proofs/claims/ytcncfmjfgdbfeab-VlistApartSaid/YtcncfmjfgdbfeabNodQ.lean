/- nodes: the walk through a list: what each node does to what is open. -/
import Derived.Test.YtcncfmjfgdbfeabNodP
namespace Go.Proofs.Ytcncfmjfgdbfeab
open Go.RowKit

/-- what is open, as cells -/
def opC (os : List (Nat × Nat)) : List Value := os.flatMap fun p => [.int .i64 (p.1 : Int), .int .i64 (p.2 : Int)]
theorem opC_length : ∀ os : List (Nat × Nat), (opC os).length = os.length * 2
  | [] => rfl
  | p :: r => by
    have := opC_length r
    simp only [opC, List.flatMap_cons, List.length_append, List.length_cons, List.length_nil] at *
    omega
theorem opC_append (a b : List (Nat × Nat)) : opC (a ++ b) = opC a ++ opC b := by simp [opC]
/-- the row of what is open: none yet, or a block of one's own -/
def OpenIs (os : List (Nat × Nat)) (base : Option Addr) (cap : Nat) (e : HE) : Prop :=
  (base = none ∧ os = [] ∧ cap = 0) ∨ ∃ bo oc, base = some ⟨bo, 0, none⟩ ∧ e = .obj true bo oc 140 ∧ oc.length = cap * 2 ∧ os.length ≤ cap ∧ oc.take (os.length * 2) = opC os
/-- the cells of the last one -/
theorem OpenIs.last {os : List (Nat × Nat)} {p : Nat × Nat} {base : Option Addr} {cap : Nat} {e : HE} (h : OpenIs (os ++ [p]) base cap e) :
    ∃ bo oc, base = some ⟨bo, 0, none⟩ ∧ e = .obj true bo oc 140 ∧ oc.length = cap * 2 ∧ os.length + 1 ≤ cap ∧ oc.take ((os.length + 1) * 2) = opC (os ++ [p]) ∧
      oc[0 + os.length * 2]? = some (.int .i64 (p.1 : Int)) ∧ oc[0 + os.length * 2 + 1]? = some (.int .i64 (p.2 : Int)) := by
  rcases h with ⟨_, h, _⟩ | ⟨bo, oc, h1, h2, h3, h4, h5⟩
  · simp at h
  · simp only [List.length_append, List.length_cons, List.length_nil, Nat.zero_add] at h4 h5
    have hl := opC_length os
    refine ⟨bo, oc, h1, h2, h3, h4, h5, ?_, ?_⟩
    · have : (oc.take ((os.length + 1) * 2))[os.length * 2]? = some (.int .i64 (p.1 : Int)) := by
        rw [h5, opC_append, ← hl, List.getElem?_append_right (Nat.le_refl _), Nat.sub_self]; rfl
      rw [List.getElem?_take, if_pos (by omega)] at this
      rwa [Nat.zero_add]
    · have : (oc.take ((os.length + 1) * 2))[os.length * 2 + 1]? = some (.int .i64 (p.2 : Int)) := by
        rw [h5, opC_append, ← hl, List.getElem?_append_right (by omega), Nat.add_sub_cancel_left]; rfl
      rw [List.getElem?_take, if_pos (by omega)] at this
      rwa [Nat.zero_add]
def inDiscB (l : List Nod) (os : List (Nat × Nat)) : Bool := match os.getLast? with
  | some p => decide ((nth l p.1).kind = 10)
  | none => false
abbrev walkHp (l : List Nod) (bw bl ol cl bb : Nat) (beh : List Value) (base : Option Addr) (m cap : Nat) (d : Int) (e : HE) : List HE :=
  [.obj true bw [.slice (some ⟨bl, ol, none⟩) l.length cl, .slice (some ⟨bb, 0, none⟩) l.length l.length, .slice base m cap, .int .i64 d] 122, .row bl ol 19 l.length (rowOf l), .obj true bb beh 3, e]
/-- the deepest, one more begun -/
def deep (d : Int) (m : Nat) : Int := if ((m + 1 : Nat) : Int) > d then ((m + 1 : Nat) : Int) else d
theorem Sat.at {w0 w : World} {bs : List Nat} {hp hp' : List HE} (h : Sat w0 bs hp w) (e : hp = hp') : Sat w0 bs hp' w := e ▸ h
theorem Sat.take {w0 w : World} {bs : List Nat} {hp : List HE} (h : Sat w0 bs hp w) (n : Nat) : Sat w0 bs (hp.take n) w :=
  ⟨h.kept, fun e he => h.holds e (List.mem_of_mem_take he), fun i j e e' hij hi hj => h.apart i j e e' hij (by rw [List.getElem?_take] at hi; split at hi; exact hi; cases hi) (by rw [List.getElem?_take] at hj; split at hj; exact hj; cases hj)⟩
theorem info_of {P : Program} {E : TypeId} {sz by_ : Nat} (h : ((P.info? E).map fun ti => (ti.size, ti.bytes, ti.zero.map fun z => z.cells.size)) = some (sz, by_, some sz)) :
    ∃ ti z, P.info? E = some ti ∧ ti.zero = some z ∧ ti.size = sz ∧ ti.bytes = by_ ∧ z.cells.size = sz := by
  obtain ⟨ti, h1, h2⟩ := Option.map_eq_some_iff.1 h
  simp only [Prod.mk.injEq] at h2
  obtain ⟨h3, h4, h5⟩ := h2
  obtain ⟨z, h6, h7⟩ := Option.map_eq_some_iff.1 h5
  exact ⟨ti, z, h1, h6, h3, h4, h7⟩
/-- as a row that is appended to -/
theorem OpenIs.row {os : List (Nat × Nat)} {base : Option Addr} {cap : Nat} {e : HE} (h : OpenIs os base cap e) :
    ∃ oc : List Value, oc.take (os.length * 2) = opC os ∧ ∀ hp : List HE, hp[3]? = some e → RowAt hp 3 base os.length cap 2 oc 140 := by
  rcases h with ⟨h1, h2, h3⟩ | ⟨bo, oc, h1, h2, h3, h4, h5⟩
  · subst h2
    exact ⟨[], rfl, fun hp hh => ⟨(List.getElem?_eq_some_iff.1 hh).1, .inl ⟨h1, rfl, h3⟩⟩⟩
  · exact ⟨oc, h5, fun hp hh => ⟨(List.getElem?_eq_some_iff.1 hh).1, .inr ⟨bo, h1, by rw [hh, h2], h3, h4⟩⟩⟩
theorem OpenIs.grow {os : List (Nat × Nat)} {p : Nat × Nat} {b' cap' : Nat} {oc cs' : List Value} (h : oc.take (os.length * 2) = opC os) (hc : os.length + 1 ≤ cap') (hl : cs'.length = cap' * 2)
    (ht : cs'.take ((os.length + 1) * 2) = oc.take (os.length * 2) ++ [.int .i64 (p.1 : Int), .int .i64 (p.2 : Int)]) : OpenIs (os ++ [p]) (some ⟨b', 0, none⟩) cap' (.obj true b' cs' 140) :=
  .inr ⟨b', cs', rfl, rfl, hl, by simpa using hc, by
    rw [show (os ++ [p]).length = os.length + 1 by simp, ht, h, opC_append]; rfl⟩
theorem indisc_any (l : List Nod) (bw bl ol cl bb : Nat) (beh : List Value) (base : Option Addr) (cap : Nat) (d : Int) (e : HE) (os : List (Nat × Nat)) (w0 : World) (bs : List Nat) (w : World)
    (hq : Sat w0 bs (walkHp l bw bl ol cl bb beh base os.length cap d e) w) (ho : OpenIs os base cap e) (hos : ∀ p ∈ os, p.1 < l.length) (hm : os.length < 9223372036854775807) :
    Calls Try.prog 114 #[.pointer (some ⟨bw, 0, none⟩)] w fun e w' => e = .returned (.bool (inDiscB l os)) ∧ Kept w w' := by
  rcases List.eq_nil_or_concat os with rfl | ⟨os, p, rfl⟩
  · exact indisc0 bw _ _ _ _ _ w (hq.read [0] _ rfl)
  · rw [List.concat_eq_append] at *
    obtain ⟨bo, oc, rfl, rfl, _, _, _, h1, _⟩ := ho.last
    simp only [List.length_append, List.length_cons, List.length_nil, Nat.zero_add] at hq hm
    have h2 : inDiscB l (os ++ [p]) = decide ((nth l p.1).kind = 10) := by simp [inDiscB]
    rw [h2]
    exact indisc1 l bw bl ol cl bo cap os.length p.1 oc _ _ w (hq.read [0, 1, 3] _ rfl) (by omega) (hos p (by simp)) h1
set_option maxRecDepth 100000 in
set_option maxHeartbeats 4000000 in
theorem begin_any (l : List Nod) (bw bl ol cl bb : Nat) (beh : List Value) (base : Option Addr) (cap : Nat) (d : Int) (e : HE) (os : List (Nat × Nat)) (at_ : Nat) (w0 : World) (bs : List Nat) (w : World) (hq : Sat w0 bs (walkHp l bw bl ol cl bb beh base os.length cap d e) w) (ho : OpenIs os base cap e) (hos : ∀ p ∈ os, p.1 < l.length) (hm : os.length < 9223372036854775807) (hat : at_ < l.length) :
    Calls Try.prog 113 #[.pointer (some ⟨bw, 0, none⟩), .int .i64 (at_ : Int)] w fun e' w' => e' = .returned (.bool (!inDiscB l os || brokenB (nth l at_))) ∧ Sat w0 bs (walkHp l bw bl ol cl bb beh base os.length cap (deep d os.length) e) w' := by
  refine g_enter (args := [.pointer (some ⟨bw, 0, none⟩), .int .i64 (at_ : Int)]) (owned (walkHp l bw bl ol cl bb beh base os.length cap d e)) (walkHp l bw bl ol cl bb beh base os.length cap d e) Try.func113 rfl Try.ntmps113 (Nat.le_of_ble_eq_true (by kernel_rfl)) hq.rebase ?_
  refine g_run 9999 [] 0 (by kernel_rfl) ?_
  refine g_draw 14 (by kernel_rfl) (by kernel_rfl) ?_
  refine l_run 15 ([0, 0]) 0 (by kernel_rfl) ?_
  refine l_val _ _ ?_ (fun w _hs => .inl (nat_succ (P := Try.prog) (t := 3) (x := .tmp 14) (y := .const (.int .i64 1)) (m := os.length) (w := w) (by kernel_rfl) hm)) ?_
  · kernel_rfl
  refine l_run 9999 [] 0 (by kernel_rfl) ?_
  refine l_end (by kernel_rfl) ?_
  refine g_run 9999 ([0]) 0 (by kernel_rfl) ?_
  refine g_callq _ _ _ ?_ (fun w hs => indisc_any l bw bl ol cl bb beh base cap (deep d os.length) e os _ _ w (hs.at (by kernel_rfl)) ho hos hm) ?_
  · kernel_rfl
  refine g_run 9999 [] 0 (by kernel_rfl) ?_
  refine g_dec 22 (!inDiscB l os) (by kernel_rfl) (fun h22 => ?_) (fun h22 => ?_)
  · refine g_run 9999 [] 9 (by kernel_rfl) ?_
    refine g_ret [] (Value.bool true) (by kernel_rfl) (by kernel_rfl) (by kernel_rfl) fun w' hs => ?_
    exact ⟨ret_bool (by clear hs; (try simp at *); simp [*]), hq.unbase (hs.at (by kernel_rfl))⟩
  · refine g_run 29 ([0]) 6 (by kernel_rfl) ?_
    refine g_val _ _ ?_ (fun w _hs => idx_run (P := Try.prog) (T := 22) (E := 55) (b := bl) (o := ol) (n := l.length) (c := cl) (k := at_) (sz := 19) (kk := .i64) w (by kernel_rfl) (by kernel_rfl) hat) ?_
    · kernel_rfl
    refine g_val _ _ ?_ (fun w _hs => Sat.rowload (T := 55) (i := 1) (b := bl) (off := ol) (sz := 19) (n := l.length) (k := at_) (f := rowOf l) _hs (by kernel_rfl) hat (by kernel_rfl) (by kernel_rfl) rfl) ?_
    · kernel_rfl
    refine g_callq _ _ _ ?_ (fun w hs => broken_any (nth l at_) w) ?_
    · kernel_rfl
    refine g_run 9999 [] 0 (by kernel_rfl) ?_
    refine g_ret [] (Value.bool (brokenB (nth l at_))) (by kernel_rfl) (by kernel_rfl) (by kernel_rfl) fun w' hs => ?_
    exact ⟨ret_bool (by clear hs; (try simp at *); simp [*]), hq.unbase (hs.at (by kernel_rfl))⟩
set_option maxRecDepth 100000 in
set_option maxHeartbeats 4000000 in
theorem stand_any (l : List Nod) (bw bl ol cl bb : Nat) (beh : List Value) (base : Option Addr) (cap : Nat) (d : Int) (e : HE) (os : List (Nat × Nat)) (at_ : Nat) (w0 : World) (bs : List Nat) (w : World) (hq : Sat w0 bs (walkHp l bw bl ol cl bb beh base os.length cap d e) w) (ho : OpenIs os base cap e) (hos : ∀ p ∈ os, p.1 < l.length) (hm : os.length < 9223372036854775807) (hat : at_ < l.length)(hbeh : beh.length = l.length) (hn : l.length < 9223372036854775807) :
    Calls Try.prog 103 #[.pointer (some ⟨bw, 0, none⟩), .int .i64 (at_ : Int)] w fun e' w' => e' = .returned (.bool (!inDiscB l os || brokenB (nth l at_))) ∧ Sat w0 bs (walkHp l bw bl ol cl bb (beh.set at_ (.int .i64 ((at_ + 1 : Nat) : Int))) base os.length cap (deep d os.length) e) w' := by
  refine g_enter (args := [.pointer (some ⟨bw, 0, none⟩), .int .i64 (at_ : Int)]) (owned (walkHp l bw bl ol cl bb beh base os.length cap d e)) (walkHp l bw bl ol cl bb beh base os.length cap d e) Try.func103 rfl Try.ntmps103 (Nat.le_of_ble_eq_true (by kernel_rfl)) hq.rebase ?_
  refine g_run 12 ([0]) 0 (by kernel_rfl) ?_
  refine g_val _ _ ?_ (fun w _hs => nat_succ (P := Try.prog) (t := 3) (x := .tmp 11) (y := .const (.int .i64 1)) (m := at_) (w := w) (by kernel_rfl) (by omega)) ?_
  · kernel_rfl
  refine g_val _ _ ?_ (fun w _hs => idx_run (P := Try.prog) (T := 41) (E := 3) (b := bb) (o := 0) (n := l.length) (c := l.length) (k := at_) (sz := 1) (kk := .i64) w (by kernel_rfl) (by kernel_rfl) hat) ?_
  · kernel_rfl
  refine g_store1 2 3 3 bb (0 + at_ * 1) beh (.int .i64 ((at_ + 1 : Nat) : Int)) (by kernel_rfl) (by kernel_rfl) (by omega) rfl (by kernel_rfl) ?_
  refine g_run 9999 [] 0 (by kernel_rfl) ?_
  refine g_call (X := Unit) _ _ ?_ (fun _ => .bool (!inDiscB l os || brokenB (nth l at_))) (fun _ => walkHp l bw bl ol cl bb (beh.set (0 + at_ * 1) (.int .i64 ((at_ + 1 : Nat) : Int))) base os.length cap (deep d os.length) e) (fun w hs => ((begin_any l bw bl ol cl bb _ base cap d e os at_ _ _ w (hs.at (by kernel_rfl)) ho hos hm hat).mono fun _ _ h => ⟨(), h.1, h.2⟩)) (fun _ => ?_)
  · kernel_rfl
  refine g_run 9999 [] 0 (by kernel_rfl) ?_
  refine g_ret [] (Value.bool (!inDiscB l os || brokenB (nth l at_))) (by kernel_rfl) (by kernel_rfl) (by kernel_rfl) fun w' hs => ?_
  exact ⟨rfl, hq.unbase (hs.at (by rw [show 0 + at_ * 1 = at_ by omega]; kernel_rfl))⟩
set_option maxRecDepth 100000 in
set_option maxHeartbeats 4000000 in
theorem enter_any (l : List Nod) (bw bl ol cl bb : Nat) (beh : List Value) (base : Option Addr) (cap : Nat) (d : Int) (e : HE) (os : List (Nat × Nat)) (at_ : Nat) (w0 : World) (bs : List Nat) (w : World) (hq : Sat w0 bs (walkHp l bw bl ol cl bb beh base os.length cap d e) w) (ho : OpenIs os base cap e) (hos : ∀ p ∈ os, p.1 < l.length) (hm : os.length < 9223372036854775807) (hat : at_ < l.length)(hf : (os.length + 1) * 16 ≤ 140737488355328) :
    Calls Try.prog 104 #[.pointer (some ⟨bw, 0, none⟩), .int .i64 (at_ : Int)] w fun e' w' => e' = .returned (.bool (!inDiscB l os || brokenB (nth l at_))) ∧ ∃ base' cap' e2, OpenIs (os ++ [(at_, 0)]) base' cap' e2 ∧ Sat w0 bs (walkHp l bw bl ol cl bb beh base' (os.length + 1) cap' (deep d os.length) e2) w' := by
  obtain ⟨oc, htk, hro⟩ := ho.row
  refine g_enter (args := [.pointer (some ⟨bw, 0, none⟩), .int .i64 (at_ : Int)]) (owned (walkHp l bw bl ol cl bb beh base os.length cap d e)) (walkHp l bw bl ol cl bb beh base os.length cap d e) Try.func104 rfl Try.ntmps104 (Nat.le_of_ble_eq_true (by kernel_rfl)) hq.rebase ?_
  refine g_run 9999 [] 0 (by kernel_rfl) ?_
  refine g_call (X := Unit) _ _ ?_ (fun _ => .bool (!inDiscB l os || brokenB (nth l at_))) (fun _ => walkHp l bw bl ol cl bb beh base os.length cap (deep d os.length) e) (fun w hs => ((begin_any l bw bl ol cl bb _ base cap d e os at_ _ _ w (hs.at (by kernel_rfl)) ho hos hm hat).mono fun _ _ h => ⟨(), h.1, h.2⟩)) (fun _ => ?_)
  · kernel_rfl
  refine g_run 9999 ([0]) 0 (by kernel_rfl) ?_
  refine g_new (fun b => by kernel_rfl) fun b4 hb4 => ?_
  refine g_append 3 4 120 140 140 base os.length cap 2 1 1 b4 16 oc [.int .i64 (at_ : Int), .int .i64 0] true (by kernel_rfl) (by kernel_rfl) (by kernel_rfl) (info_of (by kernel_rfl)) (hro _ (by kernel_rfl)) (by kernel_rfl) rfl (by simp [Value.oneCell']) (by omega) (by omega) (by omega) fun b' cap' cs' _hb' hc' hl' ht' => ?_
  refine g_run 9999 ([0]) 0 (by kernel_rfl) ?_
  refine g_ret [] (Value.bool (!inDiscB l os || brokenB (nth l at_))) (by kernel_rfl) (by kernel_rfl) (by kernel_rfl) fun w' hs => ?_
  exact ⟨rfl, some ⟨b', 0, none⟩, cap', .obj true b' cs' 140, OpenIs.grow (p := (at_, 0)) htk hc' hl' ht', hq.unbase ((hs.take 4).at (by kernel_rfl))⟩
end Go.Proofs.Ytcncfmjfgdbfeab
