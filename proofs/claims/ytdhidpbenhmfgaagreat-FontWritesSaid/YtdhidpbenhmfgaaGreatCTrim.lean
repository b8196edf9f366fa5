/- font's reader: trimmed. -/
import Derived.Test.YtdhidpbenhmfgaaGreatRMath
namespace Go.Proofs.YtdhidpbenhmfgaaGreat
open Go.RowKit

def lenOf : Value → Nat
  | .slice _ n _ => n
  | _ => 0
/-- the first loop: what is behind place j is missing -/
def Tr1 (A : Option Addr) (c : Nat) (L : List Met) (s1 : Value) : Prop := ∃ j : Nat, j ≤ L.length ∧ s1 = .slice A j c ∧ ∀ k, ∀ h : k < L.length, j ≤ k → L[k].tag = -1
/-- the second one: and what is ahead of place i -/
def Tr2 (b o j : Nat) (c : Nat) (first : Int) (L : List Met) (s0 s1 : Value) : Prop := ∃ (i : Nat) (A' : Option Addr) (n' c' : Nat), i ≤ j ∧ s0 = .int .i64 (first + i) ∧ s1 = .slice A' n' c' ∧ i + n' = j ∧ n' ≤ c' ∧ c' ≤ c ∧ (i < j → A' = some ⟨b, o + i * 6, none⟩) ∧ ∀ k, ∀ h : k < L.length, k < i → L[k].tag = -1

set_option maxRecDepth 100000 in
set_option maxHeartbeats 8000000 in
theorem trimmed_any (first : Int) (A : Option Addr) (n c : Nat) (L : List Met) (w : World) (B : Nat) (h : MetsAt w A L B) (hL : L.length = n) (hc : n ≤ c) (hc2 : c ≤ 9223372036854775807) (hf : 0 ≤ first ∧ first ≤ 40000) (hn : n ≤ 40000) :
    Calls Tryz.prog 87 #[.int .i64 first, .slice A n c] w fun e w' => (∃ A' c', e = .returned (.tuple #[.int .i64 (trimF first L), .slice A' (trimL L).length c']) ∧ MetsAt w A' (trimL L) B ∧ (trimL L).length ≤ c') ∧ w' = w := by
  obtain ⟨f0, f1⟩ := hf
  have HL := Lib.hid hL
  have HM := Lib.hid h
  have done : ∀ (i j : Nat) (A' : Option Addr) (c' : Nat), i ≤ j → (hj : j ≤ L.length) → (∀ k, ∀ h : k < L.length, j ≤ k → L[k].tag = -1) → (∀ k, ∀ h : k < L.length, k < i → L[k].tag = -1) → (∀ h : 0 < j, (L[j - 1]'(by omega)).tag ≠ -1) → (∀ h : i < j, (L[i]'(by omega)).tag ≠ -1) → i < j → j - i ≤ c' → (∀ b o, A = some ⟨b, o, none⟩ → A' = some ⟨b, o + i * 6, none⟩) → Hid (∃ A'' c'', Ending.returned (.tuple #[.int .i64 (first + i), .slice A' (j - i) c']) = Ending.returned (.tuple #[.int .i64 (trimF first L), .slice A'' (trimL L).length c'']) ∧ MetsAt w A'' (trimL L) B ∧ (trimL L).length ≤ c'') := by
    intro i j A' c' hij hj h1 h2 h3 h4 hlt hc' hA
    obtain ⟨e1, e2, e3⟩ := trim_of hij hj h1 (fun k hk => h2 k (by omega) hk) h3 h4
    have hlen : (trimL L).length = j - i := by rw [e2]; simp; omega
    have hF : trimF first L = first + i := by
      unfold trimF
      rw [e1, e3]
      cases hq : trimL L with
      | nil => rw [hq] at hlen; simp at hlen; omega
      | cons m t => rfl
    refine Lib.hid ⟨A', c', by rw [hF, hlen], fun hp => ?_, by omega⟩
    obtain ⟨b, o, rfl, hb, hcell⟩ := HM.out (by omega)
    refine ⟨b, o + i * 6, hA b o rfl, hb, fun k hk => ?_⟩
    have hk' : k < j - i := by rw [← hlen]; exact hk
    have q := hcell (i + k) (by omega)
    have eg : (trimL L)[k] = L[i + k]'(by omega) := by
      have : (trimL L)[k]? = L[i + k]? := by rw [e2, List.getElem?_drop, List.getElem?_take, if_pos (by omega)]
      rw [List.getElem?_eq_getElem hk, List.getElem?_eq_getElem (by omega)] at this
      exact Option.some.inj this
    rw [eg, show o + i * 6 + k * 6 = o + (i + k) * 6 by omega]
    exact q
  have none_left : (∀ k, ∀ h : k < L.length, L[k].tag = -1) → Hid (trimL L = [] ∧ trimF first L = 0) := fun hall => by
    obtain ⟨e1, e2, e3⟩ := trim_of (L := L) (i := 0) (j := 0) (by omega) (by omega) (fun k hk _ => hall k hk) (fun k hk => by omega) (fun h => by omega) (fun h => by omega)
    have e4 : trimL L = [] := by rw [e2]; simp
    exact Lib.hid ⟨e4, by unfold trimF; rw [e4]⟩
  subst hL
  clear h
  go_enter Tryz.func87, Tryz.ntmps87
  go_wp2_with (fail)
  go_loop [1] (fun s1 => Tr1 A c L s1) (fun s1 => lenOf s1)
  case atStart => exact ⟨L.length, Nat.le_refl _, rfl, fun k hk h' => by omega⟩
  case round =>
    obtain ⟨j, hj, rfl, hall⟩ := hrel
    by_cases hj0 : j = 0
    · have HN := none_left fun k hk => hall k hk (by omega)
      subst hj0
      clear hall
      go_wp2_with (fail)
      go_loop [0, 1] (fun s0 s1 => s0 = .int .i64 first ∧ s1 = .slice A 0 c) (fun _ s1 => lenOf s1)
      case atStart => exact ⟨rfl, rfl⟩
      case round =>
        obtain ⟨rfl, rfl⟩ := hrel
        go_wp2_with (fail)
        go_ret2
        obtain ⟨e1, e2⟩ := HN.out
        rw [e1, e2]
        exact ⟨⟨none, 0, rfl, fun h => absurd h (Nat.lt_irrefl _), Nat.le_refl _⟩, rfl⟩
    · obtain ⟨b, o, rfl, hb, hcell⟩ := HM.out (by omega)
      have hjl : j - 1 < L.length := by omega
      obtain ⟨_, _, _, _, c4, _⟩ := hcell (j - 1) hjl
      have d0 : decide (0 < j) = true := decide_eq_true (by omega)
      have Hall := Lib.hid hall
      by_cases ht : (L[j - 1]'hjl).tag = -1
      · have HT := Lib.hid ht
        rw [ht] at c4
        clear hall hcell ht
        go_wp2_with (fail)
        go_round
        case rel => exact ⟨j - 1, by omega, rfl, fun k hk h' => by
          rcases Nat.lt_or_ge k j with h2 | h2
          · obtain rfl : k = j - 1 := by omega
            exact HT.out
          · exact Hall.out k hk h2⟩
        case measure => simp [lenOf]; omega
      · have HT := Lib.hid ht
        have z : ((L[j - 1]'hjl).tag == -1) = false := by simpa using ht
        have hcells := fun k hk => Lib.hid (hcell k hk)
        clear hall hcell ht
        generalize (L[j - 1]'hjl).tag = t at c4 z
        go_wp2_with (fail)
        have HDN := fun i A' c' h1 h3 h4 h5 h6 h7 => done i j A' c' h1 hj Hall.out h3 (fun _ => HT.out) h4 h5 h6 h7
        clear done
        go_loop [0, 1] (fun s0 s1 => Tr2 b o j c first L s0 s1) (fun _ s1 => lenOf s1)
        case atStart => exact ⟨0, _, _, _, Nat.zero_le _, by simp, rfl, by omega, by omega, by omega, fun _ => by simp, fun k _ h => by omega⟩
        case round =>
          obtain ⟨i, A', n', c', hij, rfl, rfl, hsum, hnc, hcc, hA', hbefore⟩ := hrel
          by_cases hn0 : n' = 0
          · exact absurd (hbefore (j - 1) hjl (by omega)) HT.out
          · obtain rfl := hA' (by omega)
            have hil : i < L.length := by omega
            obtain ⟨_, _, _, _, t4, _⟩ := (hcells i hil).out
            have e0 : decide (0 < n') = true := decide_eq_true (by omega)
            have HBe := Lib.hid hbefore
            have HA := Lib.hid hA'
            by_cases hti : (L[i]'hil).tag = -1
            · have HTI := Lib.hid hti
              rw [hti] at t4
              have HS := Lib.hid hsum
              have hb2 : 0 ≤ first + i ∧ first + i ≤ 90000 := by omega
              obtain ⟨g0, g1⟩ := hb2
              clear hbefore hti hsum hA' hcells HDN
              go_wp2_with (fail)
              all_goals go_round
              all_goals first
                | (case rel => exact ⟨i + 1, _, _, _, by have := HS.out; omega, by go_num, rfl, by have := HS.out; omega, by omega, by omega, fun _ => by first | (have := HS.out; omega) | (rw [show o + (i + 1) * 6 = o + i * 6 + 6 by omega, if_neg (by have := HS.out; omega)]), fun k hk h' => by
                    rcases Nat.lt_or_ge k i with h2 | h2
                    · exact HBe.out k hk h2
                    · obtain rfl : k = i := by omega
                      exact HTI.out⟩)
                | (case measure => simp [lenOf]; omega)
                | skip
            · have HTI := Lib.hid hti
              have zi : ((L[i]'hil).tag == -1) = false := by simpa using hti
              have zn : ((n' : Int) == 0) = false := by simp; omega
              obtain rfl : n' = j - i := by omega
              have HD := HDN i (some ⟨b, o + i * 6, none⟩) c' (by omega) (fun k hk h => hbefore k hk h) (fun _ => hti) (by omega) (by omega) (fun b' o' e => by cases e; rfl)
              generalize (L[i]'hil).tag = ti at t4 zi
              clear hbefore hti hsum hA' hcells HDN
              go_wp2_with (fail)
              go_ret2
              exact ⟨HD.out, rfl⟩
end Go.Proofs.YtdhidpbenhmfgaaGreat
