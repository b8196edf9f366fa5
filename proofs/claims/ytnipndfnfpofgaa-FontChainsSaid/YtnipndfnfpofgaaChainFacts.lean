/- What the chain of greater characters is: plain mathematics. -/
import Derived.Test.YtnipndfnfpofgaaCNext
namespace Go.Proofs.Ytnipndfnfpofgaa
open Go.RowKit

theorem pth_next (F : Fnt) (i : Nat) : ∀ s, pth F (nx F i) s = pth F i (s + 1)
  | 0 => rfl
  | s + 1 => by show nx F (pth F (nx F i) s) = nx F (pth F i (s + 1)); rw [pth_next F i s]
theorem lst_at (F : Fnt) : ∀ t x i, i ≤ t → (lst F t x)[i]? = some (F.first + pth F x i)
  | 0, x, i, h => by
    obtain rfl : i = 0 := by omega
    rfl
  | t + 1, x, 0, _ => rfl
  | t + 1, x, i + 1, h => by
    show (lst F t (nx F x))[i]? = _
    rw [lst_at F t (nx F x) i (by omega), pth_next]
theorem next_none {F : Fnt} {c : Int} (h : ¬ nextE F c = 0) : nextL F c = [] := by
  unfold nextE at h
  unfold nextL
  split at h
  · rename_i h0
    rw [if_pos h0]
    split at h
    · exact absurd rfl h
    · rename_i h1
      cases ht : thereAt F c with
      | none => rfl
      | some x => exact absurd (there_yes ht).2 h1
  · rename_i h0; rw [if_neg h0]
structure ChainIs (F : Fnt) (c : Int) (l : List Int) : Prop where
  pos : 0 < l.length
  few : l.length ≤ 256
  fst : l[0]?.getD 0 = c
  byte : ∀ i, ∀ h : i < l.length, 0 ≤ l[i] ∧ l[i] ≤ 255
  th : ∀ i, ∀ h : i < l.length, thB F l[i] = true
  once : ∀ i, ∀ h : i < l.length, l[i] ∉ l.take i
  tag : ∀ i, ∀ h : i < l.length, ((metV F l[i]).tag = 2 ↔ i < l.length - 1)
  rest : ∀ i, ∀ h : i + 1 < l.length, (metV F l[i]).rest = l[i + 1]
theorem chain_is {F : Fnt} {c : Int} (hc : 0 ≤ c ∧ c ≤ 255) (h : nextE F c = 0) : ChainIs F c (nextL F c) := by
  have h0 : fontE F = 0 := by
    unfold nextE at h; split at h
    · assumption
    · omega
  have h1 : thB F c = true := by
    unfold nextE at h; rw [if_pos h0] at h; split at h
    · assumption
    · omega
  obtain ⟨x, ht⟩ : ∃ x, thereAt F c = some x := by
    cases ht : thereAt F c with
    | none => rw [(there_no ht).2] at h1; cases h1
    | some x => exact ⟨x, rfl⟩
  obtain ⟨V, hE⟩ := font_told h0
  have hx := there_lt ht
  obtain ⟨t, he⟩ := hE x hx
  have hs := ends_soon V he hx
  have e : nextL F c = lst F t x := by
    unfold nextL
    rw [if_pos h0, ht]
    exact chL_lst he (by omega)
  obtain ⟨b0, b1⟩ := font_bd0 h0
  rw [e]
  have hl := lst_len F t x
  have at' : ∀ i, ∀ h : i < (lst F t x).length, (lst F t x)[i] = F.first + pth F x i := fun i hi => by
    have q := lst_at F t x i (by omega)
    rw [List.getElem?_eq_getElem hi] at q
    exact Option.some.inj q
  have pe := pth_ends V he hx
  have tg : ∀ i, i < t → F.chars[pth F x i]?.map (·.tag) = some 2 := fun i hi => by
    obtain ⟨p, q⟩ := pe i (by omega)
    obtain ⟨u, hu⟩ : ∃ u, t - i = u + 1 := ⟨t - i - 1, by omega⟩
    rw [hu] at p
    have := p.1
    rw [tagAt_of q] at this
    rw [List.getElem?_eq_getElem q]
    simp [this]
  have told : ∀ i, i < t → ∃ q : pth F x i < F.chars.length, F.chars[pth F x i].tag = 2 ∧ F.chars[pth F x i].rest = F.first + pth F x (i + 1) ∧ 0 ≤ F.chars[pth F x i].rest ∧ F.chars[pth F x i].rest < 256 ∧ thereAt F (F.first + pth F x (i + 1)) = some (pth F x (i + 1)) := fun i hi => by
    obtain ⟨p, q⟩ := pe i (by omega)
    obtain ⟨u, hu⟩ : ∃ u, t - i = u + 1 := ⟨t - i - 1, by omega⟩
    rw [hu] at p
    have t2 := p.1
    rw [tagAt_of q] at t2
    obtain ⟨_, r1, r2, r3, r4⟩ := V _ q t2
    refine ⟨q, t2, r1, r2, r3, ?_⟩
    rw [r1] at r4
    exact r4
  have thr : ∀ i, i ≤ t → thereAt F (F.first + pth F x i) = some (pth F x i) := fun i hi => by
    cases i with
    | zero => show thereAt F (F.first + x) = some x; rw [← (there_of ht).1]; exact ht
    | succ i => obtain ⟨_, _, _, _, _, r⟩ := told i (by omega); exact r
  have mv : ∀ i, i ≤ t → ∃ q : pth F x i < F.chars.length, metV F (F.first + pth F x i) = F.chars[pth F x i] := fun i hi => by
    obtain ⟨_, q, m⟩ := there_of (thr i hi)
    exact ⟨q, by rw [m, List.getElem?_eq_getElem q]; rfl⟩
  refine ⟨by omega, by omega, ?_, fun i hi => ?_, fun i hi => ?_, fun i hi => ?_, fun i hi => ?_, fun i hi => ?_⟩
  · rw [lst_at F t x 0 (by omega)]
    show F.first + (x : Int) = c
    exact (there_of ht).1.symm
  · rw [at' i hi]
    cases i with
    | zero => show 0 ≤ F.first + (x : Int) ∧ F.first + (x : Int) ≤ 255; rw [← (there_of ht).1]; exact hc
    | succ i => obtain ⟨_, _, r1, r2, r3, _⟩ := told i (by omega); rw [← r1]; omega
  · rw [at' i hi]; exact (there_yes (thr i (by omega))).2
  · intro hm
    obtain ⟨j, hj, ej⟩ := List.mem_iff_getElem.1 hm
    rw [List.length_take] at hj
    rw [List.getElem_take, at' j (by omega), at' i hi] at ej
    have ep : pth F x j = pth F x i := by omega
    have e1 := (pe i (by omega)).1
    have e2 := (pe j (by omega)).1
    rw [ep] at e2
    have := ends_one e1 e2
    omega
  · rw [at' i hi]
    obtain ⟨q, m⟩ := mv i (by omega)
    rw [m]
    constructor
    · intro h2
      have p := (pe i (by omega)).1
      rcases Nat.lt_or_ge i t with h' | h'
      · omega
      · rw [show t - i = 0 by omega] at p
        exact absurd (by rw [tagAt_of q]; exact h2) p
    · intro h'
      obtain ⟨_, t2, _⟩ := told i (by omega)
      exact t2
  · rw [at' i (by omega), at' (i + 1) hi]
    obtain ⟨q, m⟩ := mv i (by omega)
    obtain ⟨_, _, r1, _⟩ := told i (by omega)
    rw [m, r1]
end Go.Proofs.Ytnipndfnfpofgaa
