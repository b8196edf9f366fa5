/- NodMs NodTc. -/
import Derived.Test.YtcncfmjfgdbfeaaNodOf
namespace Go.Proofs.Ytcncfmjfgdbfeaa
open Go.RowKit
def alongV (n : Nod) : Int := if n.kind ∈ ([1, 2, 3, 4, 5, 8, 15, 16] : List Int) then n.w else 0
def uprightV (n : Nod) : Int := if n.kind ∈ ([3, 4, 5] : List Int) then wr n.h n.d else if n.kind = 8 then n.w else 0
theorem kind_eq {n : Nod} {k : Int} (h : n.kind = k) : ({ n with kind := k } : Nod) = n := by subst h; rfl
theorem kinds_of {n : Nod} (h1 : 1 ≤ n.kind) (h2 : n.kind ≤ 17) : n.kind = 1 ∨ n.kind = 2 ∨ n.kind = 3 ∨ n.kind = 4 ∨ n.kind = 5 ∨ n.kind = 6 ∨ n.kind = 7 ∨ n.kind = 8 ∨ n.kind = 9 ∨ n.kind = 10 ∨ n.kind = 11 ∨ n.kind = 12 ∨ n.kind = 13 ∨ n.kind = 14 ∨ n.kind = 15 ∨ n.kind = 16 ∨ n.kind = 17 := by omega
theorem of_along_any (n : Nod) (h1 : 1 ≤ n.kind) (h2 : n.kind ≤ 17) (b : Nat) (w : World) (hb : w.heap[b]? = some (.cells alongL.toArray 162 (0, 0))) : Calls Try.prog 118 #[.pointer (some ⟨b, 0, none⟩), nodV n] w fun e w' => e = .returned (.int .i64 (alongV n)) ∧ Kept w w' := by
 rcases kinds_of h1 h2 with h | h | h | h | h | h | h | h | h | h | h | h | h | h | h | h | h
 ·have := of_along_1 n b w hb
  rw [kind_eq h] at this
  simpa [alongV, h] using this
 ·have := of_along_2 n b w hb
  rw [kind_eq h] at this
  simpa [alongV, h] using this
 ·have := of_along_3 n b w hb
  rw [kind_eq h] at this
  simpa [alongV, h] using this
 ·have := of_along_4 n b w hb
  rw [kind_eq h] at this
  simpa [alongV, h] using this
 ·have := of_along_5 n b w hb
  rw [kind_eq h] at this
  simpa [alongV, h] using this
 ·have := of_along_6 n b w hb
  rw [kind_eq h] at this
  simpa [alongV, h] using this
 ·have := of_along_7 n b w hb
  rw [kind_eq h] at this
  simpa [alongV, h] using this
 ·have := of_along_8 n b w hb
  rw [kind_eq h] at this
  simpa [alongV, h] using this
 ·have := of_along_9 n b w hb
  rw [kind_eq h] at this
  simpa [alongV, h] using this
 ·have := of_along_10 n b w hb
  rw [kind_eq h] at this
  simpa [alongV, h] using this
 ·have := of_along_11 n b w hb
  rw [kind_eq h] at this
  simpa [alongV, h] using this
 ·have := of_along_12 n b w hb
  rw [kind_eq h] at this
  simpa [alongV, h] using this
 ·have := of_along_13 n b w hb
  rw [kind_eq h] at this
  simpa [alongV, h] using this
 ·have := of_along_14 n b w hb
  rw [kind_eq h] at this
  simpa [alongV, h] using this
 ·have := of_along_15 n b w hb
  rw [kind_eq h] at this
  simpa [alongV, h] using this
 ·have := of_along_16 n b w hb
  rw [kind_eq h] at this
  simpa [alongV, h] using this
 have := of_along_17 n b w hb
 rw [kind_eq h] at this
 simpa [alongV, h] using this
theorem of_upright_any (n : Nod) (h1 : 1 ≤ n.kind) (h2 : n.kind ≤ 17) (b : Nat) (w : World) (hb : w.heap[b]? = some (.cells uprightL.toArray 162 (0, 0))) : Calls Try.prog 118 #[.pointer (some ⟨b, 0, none⟩), nodV n] w fun e w' => e = .returned (.int .i64 (uprightV n)) ∧ Kept w w' := by
 rcases kinds_of h1 h2 with h | h | h | h | h | h | h | h | h | h | h | h | h | h | h | h | h
 ·have := of_upright_1 n b w hb
  rw [kind_eq h] at this
  simpa [uprightV, h] using this
 ·have := of_upright_2 n b w hb
  rw [kind_eq h] at this
  simpa [uprightV, h] using this
 ·have := of_upright_3 n b w hb
  rw [kind_eq h] at this
  simpa [uprightV, h] using this
 ·have := of_upright_4 n b w hb
  rw [kind_eq h] at this
  simpa [uprightV, h] using this
 ·have := of_upright_5 n b w hb
  rw [kind_eq h] at this
  simpa [uprightV, h] using this
 ·have := of_upright_6 n b w hb
  rw [kind_eq h] at this
  simpa [uprightV, h] using this
 ·have := of_upright_7 n b w hb
  rw [kind_eq h] at this
  simpa [uprightV, h] using this
 ·have := of_upright_8 n b w hb
  rw [kind_eq h] at this
  simpa [uprightV, h] using this
 ·have := of_upright_9 n b w hb
  rw [kind_eq h] at this
  simpa [uprightV, h] using this
 ·have := of_upright_10 n b w hb
  rw [kind_eq h] at this
  simpa [uprightV, h] using this
 ·have := of_upright_11 n b w hb
  rw [kind_eq h] at this
  simpa [uprightV, h] using this
 ·have := of_upright_12 n b w hb
  rw [kind_eq h] at this
  simpa [uprightV, h] using this
 ·have := of_upright_13 n b w hb
  rw [kind_eq h] at this
  simpa [uprightV, h] using this
 ·have := of_upright_14 n b w hb
  rw [kind_eq h] at this
  simpa [uprightV, h] using this
 ·have := of_upright_15 n b w hb
  rw [kind_eq h] at this
  simpa [uprightV, h] using this
 ·have := of_upright_16 n b w hb
  rw [kind_eq h] at this
  simpa [uprightV, h] using this
 have := of_upright_17 n b w hb
 rw [kind_eq h] at this
 simpa [uprightV, h] using this
def glC (ss : List Nod) : List Value := ss.flatMap gC
theorem glC_append (a b : List Nod) : glC (a ++ b) = glC a ++ glC b := by simp [glC]
def SkIs (ss : List Nod) (base : Option Addr) (cap : Nat) (e : HE) : Prop :=
 (base = none ∧ ss = [] ∧ cap = 0) ∨ ∃ bo oc, base = some ⟨bo, 0, none⟩ ∧ e = .obj true bo oc 61 ∧ oc.length = cap * 5 ∧ ss.length ≤ cap ∧ oc.take (ss.length * 5) = glC ss
theorem SkIs.row {ss : List Nod} {base : Option Addr} {cap : Nat} {e : HE} (h : SkIs ss base cap e) :
  ∃ oc : List Value, oc.take (ss.length * 5) = glC ss ∧ ∀ (hp : List HE) (i : Nat), hp[i]? = some e → RowAt hp i base ss.length cap 5 oc 61 := by
 rcases h with ⟨h1, h2, h3⟩ | ⟨bo, oc, h1, h2, h3, h4, h5⟩
 ·subst h2
  exact ⟨[], rfl, fun hp i hh => ⟨(List.getElem?_eq_some_iff.1 hh).1, .inl ⟨h1, rfl, h3⟩⟩⟩
 exact ⟨oc, h5, fun hp i hh => ⟨(List.getElem?_eq_some_iff.1 hh).1, .inr ⟨bo, h1, by rw [hh, h2], h3, h4⟩⟩⟩
theorem SkIs.grow {ss : List Nod} {n : Nod} {b' cap' : Nat} {oc cs' : List Value} (h : oc.take (ss.length * 5) = glC ss) (hc : ss.length + 1 ≤ cap') (hl : cs'.length = cap' * 5)
  (ht : cs'.take ((ss.length + 1) * 5) = oc.take (ss.length * 5) ++ gC n) : SkIs (ss ++ [n]) (some ⟨b', 0, none⟩) cap' (.obj true b' cs' 61) :=
 .inr ⟨b', cs', rfl, rfl, hl, by simpa using hc, by
  rw [show (ss ++ [n]).length = ss.length + 1 by simp, ht, h, glC_append]; simp [glC]⟩
theorem glC_get : ∀ (ss : List Nod) (k j : Nat) (v : Value), k < ss.length → (gC (nth ss k))[j]? = some v → (glC ss)[k * 5 + j]? = some v
 | [], _, _, _, h, _ => by simp at h
 | n :: r, 0, j, v, _, hv => by
  have hj : j < 5 := by have := (List.getElem?_eq_some_iff.1 hv).1; simpa [gC] using this
  simp only [glC, List.flatMap_cons, Nat.zero_mul, Nat.zero_add]
  rw [List.getElem?_append_left (by simpa [gC] using hj)]
  simpa [nth] using hv
 | n :: r, k + 1, j, v, h, hv => by
  have ih := glC_get r k j v (by simpa using h) (by simpa [nth] using hv)
  simp only [glC, List.flatMap_cons]
  rw [List.getElem?_append_right (by simp [gC]; omega)]
  have e : (k + 1) * 5 + j - (gC n).length = k * 5 + j := by simp [gC]; omega
  rw [e]
  exact ih
theorem SkIs.reads {ss : List Nod} {w0 w : World} {bs : List Nat} {hp : List HE} {i bo : Nat} {oc : List Value} (h : Sat w0 bs hp w) (hi : hp[i]? = some (.obj true bo oc 61)) (ht : oc.take (ss.length * 5) = glC ss) : Sat w [] [.row bo 0 5 ss.length (gRow ss)] w := by
 have hb := h.obj hi
 refine ⟨.refl _ _, fun e he => ?_, fun i j e e' hij hi hj => ?_⟩
 ·rw [List.mem_singleton.1 he]
  intro hn
  refine ⟨(Array.getElem?_eq_some_iff.1 hb).1, fun k hk j v hv => ?_⟩
  have h1 := glC_get ss k j v hk hv
  rw [← ht, List.getElem?_take] at h1
  split at h1
  ·rw [Nat.zero_add]
   simp [World.cell?, hb, h1]
  cases h1
 have hi' := (List.getElem?_eq_some_iff.1 hi).1
 have hj' := (List.getElem?_eq_some_iff.1 hj).1
 simp at hi' hj'
 omega
end Go.Proofs.Ytcncfmjfgdbfeaa
namespace Go.Proofs.Ytcncfmjfgdbfeaa
open Go.RowKit
theorem g_dummy {F : Fence} {mm : Nat} {P : Program} {fin : Fin} {w0 : World} {bs : List Nat} {st : St} (g : Goal F mm P fin w0 bs { st with hp := st.hp ++ [noneE] }) : Goal F mm P fin w0 bs st :=
 ⟨fun hF a w hr hw => g.out hF a w hr hw.dummy⟩
def natF (v : Nod → Int) : List Nod → Int → Int
 | [], a => a
 | n :: r, a => natF v r (wr a (v n))
def skF (ns : List Nod) : List Nod := ns.filter fun n => decide (n.kind = 7)
structure TX (l : List Nod) (beh : List Nat) (v : Nod → Int) (T : Int) (S : List Nod) where
 f : Nat
 at_ : Nat
 ok : okF beh l.length f at_
 nat : Int
 ss : List Nod
 base : Option Addr
 cap : Nat
 e : HE
 sk : SkIs ss base cap e
 n : Nat
 hn : ss.length = n
 isT : natF v ((itemsF beh l.length f at_).map (nth l)) nat = T
 isS : ss ++ skF ((itemsF beh l.length f at_).map (nth l)) = S
theorem Rec.past {n : Nat} {t : Tr} {ps : Array Tmp} {assign body : Code} {L L2 : Nat} {W W' : World} {bs bs' : List Nat} (h : Rec n t ps assign body L W bs) (hne : L ≠ L2)
  (hx : ∀ l o, l ≠ L2 → W.heap[l]? = some o → o.isCells = false → l ∉ bs → W'.heap[l]? = some o ∧ l ∉ bs') : Rec n t ps assign body L W' bs' := by
 obtain ⟨fn, tmps, D, h1, h2⟩ := h.out
 obtain ⟨h3, h4⟩ := hx L _ hne h1 rfl h.far
 exact ⟨⟨fn, tmps, D, h3, h2⟩, h4⟩
section
variable {l : List Nod} {beh : List Nat} {v : Nod → Int} {T : Int} {S : List Nod}
theorem TX.pos (x : TX l beh v T S) (h : x.at_ < l.length) : x.f ≠ 0 ∧ x.at_ < beh.length ∧ okF beh l.length (x.f - 1) (beh.getD x.at_ 0) := by
 have := x.ok
 cases hf : x.f with
 | zero => rw [hf] at this; exact absurd h (Nat.not_lt.2 this)
 | succ g => rw [hf] at this; exact ⟨by omega, (this h).1, (this h).2⟩
theorem TX.unroll (x : TX l beh v T S) (h : x.at_ < l.length) : (itemsF beh l.length x.f x.at_).map (nth l) = nth l x.at_ :: (itemsF beh l.length (x.f - 1) (beh.getD x.at_ 0)).map (nth l) := by
 have h1 := (x.pos h).1
 obtain ⟨g, hg⟩ : ∃ g, x.f = g + 1 := ⟨x.f - 1, by omega⟩
 rw [hg]
 simp [itemsF, h]
def TX.next (x : TX l beh v T S) (h : x.at_ < l.length) (ss : List Nod) (base : Option Addr) (cap : Nat) (e : HE) (sk : SkIs ss base cap e) (m : Nat) (hm : ss.length = m) (hss : ss = if (nth l x.at_).kind = 7 then x.ss ++ [nth l x.at_] else x.ss) : TX l beh v T S :=
 ⟨x.f - 1, beh.getD x.at_ 0, (x.pos h).2.2, wr x.nat (v (nth l x.at_)), ss, base, cap, e, sk, m, hm, by
  have := x.isT
  rw [x.unroll h] at this
  exact this, by
  have := x.isS
  rw [x.unroll h] at this
  refine Eq.trans ?_ this
  rw [hss]
  by_cases h7 : (nth l x.at_).kind = 7
  ·simp [skF, h7]
  simp [skF, h7]⟩
theorem TX.done (x : TX l beh v T S) (h : ¬ x.at_ < l.length) : x.nat = T ∧ x.ss = S := by
 have h1 := x.isT
 have h2 := x.isS
 have e : itemsF beh l.length x.f x.at_ = [] := by
  cases x.f with
  | zero => rfl
  | succ g => simp [itemsF, h]
 rw [e] at h1 h2
 exact ⟨h1, by simpa [skF] using h2⟩
theorem TX.len (x : TX l beh v T S) : x.ss.length ≤ S.length := by
 have := congrArg List.length x.isS
 rw [List.length_append] at this
 omega
end
theorem gsum_nil (w : World) : Calls Try.prog 119 #[.slice none 0 0] w fun e w' => e = .returned (.tuple #[totV acc0, .int .i64 0]) ∧ Kept w w' :=
 Run.closed (P := Try.prog) kR (args := [.slice none 0 0]) (Run.unpack 4096 12 0x1001001001001001001001001001003002) 1000 (fun A => by kernel_rfl) w
theorem SkIs.sum {ss : List Nod} {base : Option Addr} {cap n i : Nat} {e : HE} {w0 w : World} {bs : List Nat} {hp : List HE} (h : SkIs ss base cap e) (hn : ss.length = n) (hl : ss.length ≤ 2000) (hg : ∀ k, k < ss.length → gluedB (nth ss k) = true) (hs : Sat w0 bs hp w) (hi : hp[i]? = some e) :
  Calls Try.prog 119 #[.slice base n cap] w fun e w' => e = .returned (.tuple #[totV (accN ss n), .int .i64 0]) ∧ Kept w w' := by
 subst hn
 rcases h with ⟨rfl, rfl, rfl⟩ | ⟨bo, oc, rfl, rfl, h3, h4, h5⟩
 ·exact gsum_nil w
 exact gsum_ok ss bo cap hl hg w (SkIs.reads hs hi h5)
theorem skip_glued {n : Nod} (h : rightB n = true) (h7 : n.kind = 7) : gluedB n = true := by
 have e : rightB n = skipB n := by
  unfold rightB
  rw [decide_eq_false (by omega), cond_false, decide_eq_false (by omega), cond_false, decide_eq_false (by omega), cond_false, decide_eq_false (by omega), cond_false, decide_eq_false (by omega), cond_false, decide_eq_false (by omega), cond_false, decide_eq_true h7, cond_true]
 rw [e] at h
 simp only [skipB, Bool.and_eq_true] at h
 exact h.1.1.1
def totR (a : Acc) (T : Int) : Value := bif dimB (wr a.nat T) then .tuple #[totV { a with nat := wr a.nat T }, .int .i64 0] else .tuple #[totV acc0, .int .i64 20]
set_option maxRecDepth 100000 in
set_option maxHeartbeats 40000000 in
theorem totCol_any (l : List Nod) (W : Wk) (hG : Good l W) (T : Int) (S : List Nod) (hT : natF uprightV ((itemsF W.beh l.length l.length 0).map (nth l)) 0 = T) (hS : skF ((itemsF W.beh l.length l.length 0).map (nth l)) = S) (hS2 : S.length ≤ 2000) (hSg : ∀ k, k < S.length → gluedB (nth S k) = true) (hrt : ∀ k, k < l.length → rightB (nth l k) = true) (bl ol cl bb bo : Nat) (w : World) (hq : Sat w [] [.row bl ol 19 l.length (rowOf l), .obj false bb (behC W.beh) 3, .obj false bo [.slice (some ⟨bl, ol, none⟩) l.length cl, .slice (some ⟨bb, 0, none⟩) l.length l.length] 141] w) :
  Calls Try.prog 77 #[.func (.func 121) #[] #[.pointer (some ⟨bo, 0, none⟩)], .agg uprightL.toArray] w fun e w' => e = .returned (totR (accN S S.length) T) ∧ Kept w w' := by
 obtain ⟨hch, hlen⟩ := good_ch hG.walk hG.os
 refine g_enterM (W := w) (args := [.func (.func 121) #[] #[.pointer (some ⟨bo, 0, none⟩)], .agg uprightL.toArray]) [] [.row bl ol 19 l.length (rowOf l), .obj false bb (behC W.beh) 3, .obj false bo [.slice (some ⟨bl, ol, none⟩) l.length cl, .slice (some ⟨bb, 0, none⟩) l.length l.length] 141] Try.func77 rfl Try.ntmps77 kL hq ?_
 refine g0 ?_
 refine gN fun b3 hb3 => ?_
 refine gN fun b4 hb4 => ?_
 refine g0 ?_
 refine gN fun b5 hb5 => ?_
 refine gA ([5]) 0 ?_
 refine gN fun b6 hb6 => ?_
 refine g0 ?_
 refine g_dummy ?_
 refine g_range 121 kR (fun L => by kernel_rfl) Try.func121 rfl Try.ntmps121 (fun L => Nat.le_of_ble_eq_true kR) fun L1 W1 bs1 R1 hR1 => ?_
 refine g0 ?_
 refine gN fun b8 hb8 => ?_
 refine g0 ?_
 refine gD 3 ?_
 refine lA (List.replicate 4 2) 0 ?_
 refine l_callq _ _ _ ?_ (fun w hs => nwhole_any (some ⟨bl, ol, none⟩) l.length cl (some ⟨bb, 0, none⟩) l.length l.length w) ?_
 ·kernel_rfl
 refine lE ?_
 refine g_call (X := Nat × Nat) _ _ ?_ (fun x => .func (.func 172) #[] #[.pointer (some ⟨x.2, 0, none⟩), .pointer (some ⟨x.1, 0, none⟩)]) (fun x => [.row bl ol 19 l.length (rowOf l), .obj false bb (behC W.beh) 3, .obj false bo [.slice (some ⟨bl, ol, none⟩) l.length cl, .slice (some ⟨bb, 0, none⟩) l.length l.length] 141, .obj true b3 uprightL 162, .obj true b4 [.int .i64 0, .int .i64 0, .int .i64 0, .int .i64 0, .int .i64 0, .int .i64 0, .int .i64 0, .int .i64 0, .int .i64 0] 81, .obj true b5 [.int .i64 0] 3, .obj true b6 [.slice none 0 0] 203, noneE, .obj true b8 [.func (.yield L1) #[] #[]] 197] ++ [.obj true x.1 [.slice (some ⟨bl, ol, none⟩) l.length cl, .slice (some ⟨bb, 0, none⟩) l.length l.length] 141, .obj true x.2 [.int .i64 0, .int .i64 (l.length : Int)] 147])
  (fun w1 hs => (items_any _ _ _ _ _ _ (0 : Int) (l.length : Int) w1).mono fun e w' ⟨x, he, hx⟩ => ⟨x, he, (Sat.at hs kR).more hx (by simp [HE.own])⟩) (fun x => ?_)
 ·kernel_rfl
 obtain ⟨x1, x2⟩ := x
 refine g0 ?_
 refine g_range 172 kR (fun L => by kernel_rfl) Try.func172 rfl Try.ntmps172 (fun L => Nat.le_of_ble_eq_true kR) fun L2 W2 bs2 R2 hR2 => ?_
 refine gA [10] 0 ?_
 refine g_loopN (X := TX l W.beh uprightV T S) (fun x => [(4, .int .i64 (x.at_ : Int))]) (fun x => [.row bl ol 19 l.length (rowOf l), .obj false bb (behC W.beh) 3, .obj false bo [.slice (some ⟨bl, ol, none⟩) l.length cl, .slice (some ⟨bb, 0, none⟩) l.length l.length] 141, .obj true b3 uprightL 162, .obj true b4 [.int .i64 0, .int .i64 0, .int .i64 0, .int .i64 0, .int .i64 0, .int .i64 0, .int .i64 0, .int .i64 0, .int .i64 0] 81, .obj true b5 [.int .i64 x.nat] 3, .obj true b6 [.slice x.base x.n x.cap] 203, x.e, .obj true b8 [.func (.yield L1) #[] #[]] 197, .obj true x1 [.slice (some ⟨bl, ol, none⟩) l.length cl, .slice (some ⟨bb, 0, none⟩) l.length l.length] 141, .obj true x2 [.int .i64 0, .int .i64 (l.length : Int)] 147]) (fun x => x.f) ⟨l.length, 0, hch.ok _ (by omega), 0, [], none, 0, noneE, .inl ⟨rfl, rfl, rfl⟩, 0, rfl, hT, by rw [List.nil_append]; exact hS⟩ kR (by unfold Known; kernel_rfl) kR fun x N hN => ?_
 refine gA [10] 0 ?_
 refine g_dec 11 (decide ((↑x.at_ : Int) < (↑l.length : Int))) kR (fun h11 => ?_) (fun h11 => ?_)
 ·have hlt : x.at_ < l.length := by clear hN hq; simpa using h11
  obtain ⟨hf, hbl, _⟩ := x.pos hlt
  refine gA [] 2 ?_
  refine g_yield hR2.ready [.int .i64 (x.at_ : Int)] kR kR fun N2 hB2 => ?_
  refine g0 ?_
  refine g_begin hB2 kR kR kR fun W3 bs3 fin3 hx3 _hr3 _hsz3 hRd3 => ?_
  have hrec1 := (hR1.ready.ext hR2.ext).past (by have := hR1.ready.lt; have := hR2.new; omega) hx3
  refine g0 ?_
  refine gD 6 ?_
  refine lU 13 [8, 2] 0 ?_
  refine l_val _ _ ?_ (fun w _hs => .inl (idx_run (P := Try.prog) (T := 59) (E := 63) (b := bl) (o := ol) (n := l.length) (c := cl) (k := x.at_) (sz := 19) (kk := .i64) w kR kR hlt)) ?_
  ·kernel_rfl
  refine l_val _ _ ?_ (fun w _hs => .inl (Sat.rowload (T := 63) (i := 0) (b := bl) (off := ol) (sz := 19) (n := l.length) (k := x.at_) (f := rowOf l) _hs kR hlt kR kR rfl)) ?_
  ·kernel_rfl
  refine lE ?_
  refine g_yield hrec1 [nodV (nth l x.at_)] kR kR fun N4 hB4 => ?_
  refine g0 ?_
  refine gN fun b11 hb11 => ?_
  refine gA (List.replicate 19 11) 0 ?_
  refine g_begin hB4 kR kR kR fun W5 bs5 fin5 _hx5 _hr5 _hsz5 hRd5 => ?_
  obtain ⟨hk1, hk2⟩ : 1 ≤ (nth l x.at_).kind ∧ (nth l x.at_).kind ≤ 17 := by
   have h1 := hrt x.at_ hlt
   have h2 : ¬ ((nth l x.at_).kind < 1 ∨ 17 < (nth l x.at_).kind) := fun h => by rw [rightB_no _ h] at h1; cases h1
   omega
  have hle := x.len
  refine gA ([11]) 0 ?_
  refine g_dec 15 ((nth l x.at_).kind == 7) kR (fun h15 => ?_) (fun h15 => ?_)
  ·have h7 : (nth l x.at_).kind = 7 := by clear hN hq; simpa using h15
   refine gA ([6] ++ List.replicate 5 11) 1 ?_
   refine gN fun b12 hb12 => ?_
   obtain ⟨oc, htk, hro⟩ := x.sk.row
   have hxn := x.hn
   rw [hxn] at hro
   refine g_append 7 12 203 61 61 x.base x.n x.cap 5 1 1 b12 40 oc (gC (nth l x.at_)) true kR kR kR (info_of kR) (hro _ 7 kR) kR rfl (by simp [gC, Value.oneCell']) (by omega) (by omega) (by omega) fun b' cap' cs' _hb' hc' hl' ht' => ?_
   refine gA ([6]) 0 ?_
   refine gD 4 ?_
   refine lA ([5] ++ List.replicate 19 11) 0 ?_
   refine l_callq _ _ _ ?_ (fun w hs => of_upright_any (nth l x.at_) hk1 hk2 b3 w (hs.obj (o := true) (i := 3) kR)) ?_
   ·kernel_rfl
   refine l0 ?_
   refine lE ?_
   refine gA ([5]) 0 ?_
   refine g_take 11 ?_
   refine g_end hRd5 kR (.refl _ _) ?_
   refine gA [] 1 ?_
   refine g_end hRd3 kR (.refl _ _) ?_
   refine gU 19 [9] 1 ?_
   refine g_val _ _ ?_ (fun w _hs => idx_run (P := Try.prog) (T := 25) (E := 3) (b := bb) (o := 0) (n := l.length) (c := l.length) (k := x.at_) (sz := 1) (kk := .i64) w kR kR hlt) ?_
   ·kernel_rfl
   refine g_val _ _ ?_ (fun w _hs => Sat.objload1 (T := 3) (T' := 3) (i := 1) (b := bb) (k := 0 + x.at_ * 1) (own := false) (cs := behC W.beh) (v := .int .i64 ((W.beh.getD x.at_ 0 : Nat) : Int)) _hs kR (behC_get hbl) kR) ?_
   ·kernel_rfl
   refine g0 ?_
   exact g_hook (hN (x.next hlt (x.ss ++ [nth l x.at_]) (some ⟨b', 0, none⟩) cap' (.obj true b' cs' 61) (SkIs.grow htk (by rw [hxn]; exact hc') hl' (by rw [hxn]; exact ht')) (x.n + 1) (by simp [hxn]) (by rw [if_pos h7])) (by show x.f - 1 < x.f; omega)) kR kR kR (by unfold Known; kernel_rfl) kR kR
  have h7 : ¬ (nth l x.at_).kind = 7 := by clear hN hq; simpa using h15
  refine gA [] 1 ?_
  refine gD 4 ?_
  refine lA ([5] ++ List.replicate 19 11) 0 ?_
  refine l_callq _ _ _ ?_ (fun w hs => of_upright_any (nth l x.at_) hk1 hk2 b3 w (hs.obj (o := true) (i := 3) kR)) ?_
  ·kernel_rfl
  refine l0 ?_
  refine lE ?_
  refine gA ([5]) 0 ?_
  refine g_take 11 ?_
  refine g_end hRd5 kR (.refl _ _) ?_
  refine gA [] 1 ?_
  refine g_end hRd3 kR (.refl _ _) ?_
  refine gU 19 [9] 1 ?_
  refine g_val _ _ ?_ (fun w _hs => idx_run (P := Try.prog) (T := 25) (E := 3) (b := bb) (o := 0) (n := l.length) (c := l.length) (k := x.at_) (sz := 1) (kk := .i64) w kR kR hlt) ?_
  ·kernel_rfl
  refine g_val _ _ ?_ (fun w _hs => Sat.objload1 (T := 3) (T' := 3) (i := 1) (b := bb) (k := 0 + x.at_ * 1) (own := false) (cs := behC W.beh) (v := .int .i64 ((W.beh.getD x.at_ 0 : Nat) : Int)) _hs kR (behC_get hbl) kR) ?_
  ·kernel_rfl
  refine g0 ?_
  exact g_hook (hN (x.next hlt x.ss x.base x.cap x.e x.sk x.n x.hn (by rw [if_neg h7])) (by show x.f - 1 < x.f; omega)) kR kR kR (by unfold Known; kernel_rfl) kR kR
 have hge : ¬ x.at_ < l.length := by clear hN hq; simpa using h11
 obtain ⟨hxT, hxS⟩ := x.done hge
 refine gA [] 4 ?_
 refine g_retM (W0 := W2) (bs0 := bs2) [] (Value.tuple #[]) kR kR [] kR (.refl _ _) (fun D hD => by cases hD) List.nodup_nil fun w2 hs2 => ?_
 refine hR2.back _ (fun D2 W6 bs6 hD2 he2 hd2 hf2 => ?_) W2 bs2 _ w2 (.refl _ _) hs2
 refine g0 ?_
 refine g_retM (W0 := W1) (bs0 := bs1) [] (Value.tuple #[]) kR kR [D2] kR he2 (fun D' hD' => by rw [List.mem_singleton.1 hD']; exact ⟨hD2, hd2, hf2⟩) (by simp) fun w3 hs3 => ?_
 refine hR1.back _ (fun D1 W7 bs7 hD1 he1 hd1 hf1 => ?_) W1 bs1 _ w3 (.refl _ _) hs3
 have hxn := x.hn
 refine gA ([6]) 0 ?_
 refine g_callq _ _ _ ?_ (fun w hs => x.sk.sum hxn (by have := x.len; omega) (by rw [hxS]; exact hSg) hs (i := 7) kR) ?_
 ·kernel_rfl
 refine g0 ?_
 refine gN fun b11 hb11 => ?_
 refine gA (List.replicate 10 11 ++ [5] ++ [11, 11]) 1 ?_
 refine gN fun b12 hb12 => ?_
 refine g_callq _ _ _ ?_ (fun w hs => dims1 b12 (wr (accN x.ss x.n).nat x.nat) w (hs.obj (o := true) (i := 12) kR)) ?_
 ·kernel_rfl
 refine g0 ?_
 have hnS : x.n = S.length := by rw [← hxn, hxS]
 refine g_dec 43 (!dimB (wr (accN x.ss x.n).nat x.nat)) kR (fun h43 => ?_) (fun h43 => ?_)
 ·refine gA (List.replicate 9 4) 1 ?_
  refine g_retM (W0 := w) (bs0 := []) (List.replicate 9 4) (.tuple #[totV acc0, .int .i64 20]) kR kR [D1] kR he1 (fun D' hD' => by rw [List.mem_singleton.1 hD']; exact ⟨hD1, hd1, hf1⟩) (by simp) fun w4 hs4 => ?_
  refine ⟨?_, hs4.kept.kept⟩
  rw [hxS, hnS, hxT] at h43
  have h44 : dimB (wr (accN S S.length).nat T) = false := by simpa using h43
  unfold totR
  rw [h44]
  rfl
 refine gA (List.replicate 9 11 ++ List.replicate 9 4) 1 ?_
 refine g_retM (W0 := w) (bs0 := []) (List.replicate 9 4) (.tuple #[totV { accN x.ss x.n with nat := wr (accN x.ss x.n).nat x.nat }, .int .i64 0]) kR kR [D1] kR he1 (fun D' hD' => by rw [List.mem_singleton.1 hD']; exact ⟨hD1, hd1, hf1⟩) (by simp) fun w4 hs4 => ?_
 refine ⟨?_, hs4.kept.kept⟩
 rw [hxS, hnS, hxT] at h43 ⊢
 have h44 : dimB (wr (accN S S.length).nat T) = true := by simpa using h43
 unfold totR
 rw [h44]
 rfl
end Go.Proofs.Ytcncfmjfgdbfeaa
