/- galleylaw01.SameInts: two lists of numbers side by side. -/
import Derived.Test.YtnipndfnfpofgaaBase
namespace Go.Proofs.Ytnipndfnfpofgaa
open Go.RowKit

/-- the slice at A holds these numbers, in blocks below B -/
def IAt (w : World) (A : Option Addr) (xs : List Int) (B : Nat) : Prop := 0 < xs.length → ∃ b o, A = some ⟨b, o, none⟩ ∧ b < B ∧ ∀ k (hk : k < xs.length), w.cell? ⟨b, o + k, none⟩ = some (.int .i64 xs[k])

theorem IAt.below {w w' : World} {A : Option Addr} {xs : List Int} {B : Nat} (h : IAt w A xs B) (hb : Below B w w') : IAt w' A xs B := by
  intro hn
  obtain ⟨b, o, e, hlt, hc⟩ := h hn
  exact ⟨b, o, e, hlt, fun k hk => (hb.cell (p := ⟨b, o + k, none⟩) hlt).trans (hc k hk)⟩
theorem IAt.more {w : World} {A : Option Addr} {xs : List Int} {B B' : Nat} (h : IAt w A xs B) (hB : B ≤ B') : IAt w A xs B' := by
  intro hn
  obtain ⟨b, o, e, hlt, hc⟩ := h hn
  exact ⟨b, o, e, by omega, hc⟩

def IntsAt (xs ys : List Int) (w : World) (i : Value) (wr : World) : Prop := ∃ k : Nat, k ≤ xs.length ∧ i = .int .i64 k ∧ xs.take k = ys.take k ∧ Kept w wr

theorem ints_step {xs ys : List Int} {k : Nat} (hx : k < xs.length) (hy : k < ys.length) (h : xs.take k = ys.take k) (he : xs[k] = ys[k]) : xs.take (k + 1) = ys.take (k + 1) := by
  rw [List.take_succ_eq_append_getElem hx, List.take_succ_eq_append_getElem hy, h, he]

set_option maxHeartbeats 1000000 in
theorem sameInts_any (A B : Option Addr) (xs ys : List Int) (c d : Nat) (w : World) (hlx : xs.length ≤ 9223372036854775807) (hly : ys.length ≤ 9223372036854775807) (hx : IAt w A xs w.heap.size) (hy : IAt w B ys w.heap.size) :
    Calls Try.prog 96 #[.slice A xs.length c, .slice B ys.length d] w fun e w' => e = .returned (.bool (decide (xs = ys))) ∧ Kept w w' := by
  by_cases hl : xs.length = ys.length
  · have HX := Lib.hid hx
    have HY := Lib.hid hy
    clear hx hy
    have Hl := Lib.hid hl
    have hl1 : xs.length ≤ ys.length := by omega
    have hl2 : ys.length ≤ xs.length := by omega
    have hne : ((xs.length : Int) != (ys.length : Int)) = false := by simp [hl]
    clear hl
    go_enter Try.func96, Try.ntmps96
    go_wp2
    clear hne
    go_loopw [5] (fun i wr => IntsAt xs ys w i wr) (fun i _ => xs.length - (intOf i).toNat)
    case atStart => exact ⟨0, Nat.zero_le _, rfl, rfl, Kept.refl _⟩
    case round =>
      obtain ⟨k, hk, rfl, htk, hkept⟩ := hrel
      by_cases hlt : k < xs.length
      · have hlt2 : k < ys.length := by omega
        obtain ⟨b, o, rfl, hb, hc⟩ := (IAt.below HX.out hkept) (by omega)
        obtain ⟨b', o', rfl, hb', hc'⟩ := (IAt.below HY.out hkept) (by omega)
        have c0 := hc k hlt
        have c1 := hc' k hlt2
        clear hc hc'
        have Hst := Lib.hid (fun h => ints_step hlt hlt2 htk h : xs[k] = ys[k] → xs.take (k + 1) = ys.take (k + 1))
        have Hno : Hid (xs[k] ≠ ys[k] → decide (xs = ys) = false) := by
          intro h
          rw [decide_eq_false_iff_not]
          rintro rfl
          exact h rfl
        clear htk
        generalize xs[k] = x at *
        generalize ys[k] = y at *
        by_cases hxy : x = y
        · subst hxy
          have Hs := Lib.hid (Hst.out rfl); clear Hst
          have hb1 : (x != x) = false := by simp
          go_wp2
          go_quiet (fail)
          go_wp2
          go_roundw
          case rel => exact ⟨k + 1, by omega, by go_num, Hs.out, below_drewN hkept _⟩
          case measure => simp [intOf]; omega
        · have hb1 : (x != y) = true := by simpa using hxy
          go_wp2
          go_quiet (fail)
          go_wp2
          go_ret
          exact ⟨ret_bool (Hno.out hxy).symm, below_drewN hkept _⟩
      · have hz : xs = ys := by
          have h1 : xs.take k = xs := List.take_of_length_le (by omega)
          have h2 : ys.take k = ys := List.take_of_length_le (by omega)
          rw [h1, h2] at htk
          exact htk
        have Hz : Hid (decide (xs = ys) = true) := decide_eq_true hz
        clear hz htk
        go_wp2
        go_ret
        exact ⟨ret_bool Hz.out.symm, hkept⟩
  · have e1 : decide (xs = ys) = false := by
      rw [decide_eq_false_iff_not]
      rintro rfl
      exact hl rfl
    rw [e1]
    have hne : ((xs.length : Int) != (ys.length : Int)) = true := by
      rw [bne_iff_ne]; omega
    clear hx hy e1 hl
    go_enter Try.func96, Try.ntmps96
    go_wp2
    go_ret
    exact ⟨rfl, Kept.refl _⟩
end Go.Proofs.Ytnipndfnfpofgaa
