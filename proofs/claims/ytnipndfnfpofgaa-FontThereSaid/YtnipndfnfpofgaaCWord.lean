/- font.ofNumber, ofStep, ofPieces, place, chars, words of counts. -/
import Derived.Test.YtnipndfnfpofgaaOwnInts
import Derived.Test.YtnipndfnfpofgaaCMetric
namespace Go.Proofs.Ytnipndfnfpofgaa
open Go.RowKit

abbrev stA (s : St) : Value := .agg #[.int .u8 s.skip, .int .u8 s.next, .int .u8 s.op, .int .u8 s.rest]
/-- a number as four bytes -/
def numS (n : Int) : St := ⟨n / 16777216 % 256, n / 65536 % 256, n / 256 % 256, n % 256⟩

set_option maxHeartbeats 1000000 in
theorem ofNumber_any (n : Int) (w : World) (_h0 : -9223372036854775808 ≤ n) (_h1 : n ≤ 9223372036854775807) :
    Calls Try.prog 41 #[.int .i64 n] w fun e w' => e = .returned (stA (numS n)) ∧ Kept w w' := by
  have e0 : IntKind.u8.wrap (n / 16777216) = n / 16777216 % 256 := by rw [IntKind.wrap_u8]
  have e1 : IntKind.u8.wrap (n / 65536) = n / 65536 % 256 := by rw [IntKind.wrap_u8]
  have e2 : IntKind.u8.wrap (n / 256) = n / 256 % 256 := by rw [IntKind.wrap_u8]
  have e3 : IntKind.u8.wrap n = n % 256 := by rw [IntKind.wrap_u8]
  unfold numS
  generalize n / 16777216 % 256 = a0 at *
  generalize n / 65536 % 256 = a1 at *
  generalize n / 256 % 256 = a2 at *
  generalize n % 256 = a3 at *
  go_enter Try.func41, Try.ntmps41
  go_wp2_with (fail)
  exact bodyPost_ret (v := stA ⟨a0, a1, a2, a3⟩) (by simp [results, Try.results41, go_sem]) rfl ⟨rfl, (by repeat (first | exact Kept.refl _ | assumption | refine kalloc ?_ _ | refine Below.setCell ?_ (by simp; try omega) _ | refine below_drewN ?_ _ | refine Below.drew ?_))⟩

set_option maxHeartbeats 1000000 in
theorem ofStep_any (s : St) (w : World) :
    Calls Try.prog 45 #[stA s] w fun e w' => e = .returned (stA s) ∧ Kept w w' := by
  obtain ⟨s0, s1, s2, s3⟩ := s
  go_enter Try.func45, Try.ntmps45
  go_wp2_with (fail)
  exact bodyPost_ret (v := stA ⟨s0, s1, s2, s3⟩) (by simp [results, Try.results45, go_sem]) rfl ⟨rfl, (by repeat (first | exact Kept.refl _ | assumption | refine kalloc ?_ _ | refine Below.setCell ?_ (by simp; try omega) _ | refine below_drewN ?_ _ | refine Below.drew ?_))⟩

set_option maxHeartbeats 1000000 in
theorem ofPieces_any (s : St) (w : World) :
    Calls Try.prog 47 #[stA s] w fun e w' => e = .returned (stA s) ∧ Kept w w' := by
  obtain ⟨s0, s1, s2, s3⟩ := s
  go_enter Try.func47, Try.ntmps47
  go_wp2_with (fail)
  exact bodyPost_ret (v := stA ⟨s0, s1, s2, s3⟩) (by simp [results, Try.results47, go_sem]) rfl ⟨rfl, (by repeat (first | exact Kept.refl _ | assumption | refine kalloc ?_ _ | refine Below.setCell ?_ (by simp; try omega) _ | refine below_drewN ?_ _ | refine Below.drew ?_))⟩

/-- a number's place in its table's rest; 0: it is not there -/
def placeL (l : List Int) (n : Int) : Int := if l.contains n then (l.countP (· < n) : Nat) + 1 else 0
theorem placeL_bd (l : List Int) (n : Int) (h : l.length ≤ 255) : 0 ≤ placeL l n ∧ placeL l n ≤ 255 + 1 := by
  unfold placeL
  have := List.countP_le_length (p := (· < n)) (l := l)
  split <;> omega
theorem count_lt {l : List Int} {n : Int} (h : l.contains n = true) : l.countP (· < n) < l.length := by
  have h2 : n ∈ l := by simpa using h
  rcases Nat.lt_or_ge (l.countP (· < n)) l.length with h' | h'
  · exact h'
  · have h3 : l.countP (· < n) = l.length := Nat.le_antisymm (List.countP_le_length) h'
    have := List.countP_eq_length.1 h3 n h2
    simp at this

set_option maxHeartbeats 2000000 in
theorem place_any (A : Option Addr) (z : Int) (zs : List Int) (c : Nat) (n : Int) (w : World) (B : Nat) (h : NumsAt w A (z :: zs) B) (hc : zs.length + 1 ≤ c) (hl : zs.length ≤ 255) (hs : zs.Pairwise (· ≤ ·)) :
    Calls Try.prog 79 #[.slice A (z :: zs).length c, .int .i64 n] w fun e w' => e = .returned (.int .u8 (placeL zs n)) ∧ Kept w w' := by
  obtain ⟨b, o, rfl, hb, hcell⟩ := h (by simp)
  rw [List.length_cons]
  by_cases h1 : c = 1
  · obtain rfl : zs = [] := List.length_eq_zero_iff.1 (by omega)
    subst h1
    have he := fun a c w => Lib.hid (Try.slices_BinarySearch_int_empty a c n w)
    clear hcell hc hl hs
    show Calls _ _ #[.slice _ 1 1, _] _ _
    go_enter Try.func79, Try.ntmps79
    go_wp2_with (fail)
    all_goals refine (he _ _ _).out.mono ?_
    all_goals rintro e w1 ⟨rfl, rfl⟩
    all_goals go_wp2_with (fail)
    all_goals go_ret
    all_goals exact ⟨rfl, Kept.refl _⟩
  · have hbs := Try.slices_BinarySearch_int b (o + 1) zs.length (c - 1) zs n w (Nat.le_refl _) (by omega) (fun j hj => by
      have := hcell (j + 1) (by simp; omega)
      simp only [List.getElem_cons_succ] at this
      rw [show o + 1 + j = o + (j + 1) by omega, this]
      simp [List.getD, List.getElem?_eq_getElem hj]) (by rw [List.take_of_length_le (Nat.le_refl _)]; exact hs)
    rw [List.take_of_length_le (Nat.le_refl _)] at hbs
    have hbs := Lib.hid hbs
    have hcap : 1 < c := by omega
    clear hcell h1
    cases hct : zs.contains n with
    | false =>
      have hp : placeL zs n = 0 := by unfold placeL; rw [hct]; rfl
      rw [hct] at hbs
      rw [hp]
      generalize zs.countP (· < n) = q at *
      clear hct hp hs
      go_enter Try.func79, Try.ntmps79
      go_wp2_with (fail)
      refine hbs.out.mono ?_
      rintro e w1 ⟨rfl, m, rfl⟩
      go_wp2_with (fail)
      go_ret
      exact ⟨rfl, below_drewN (Kept.refl _) _⟩
    | true =>
      have hlt := count_lt hct
      have hp : placeL zs n = (zs.countP (· < n) : Nat) + 1 := by unfold placeL; rw [hct]; rfl
      rw [hct] at hbs
      rw [hp]
      generalize zs.countP (· < n) = q at *
      have e1 : IntKind.u8.wrap ((q : Int) + 1) = (q : Int) + 1 := by rw [IntKind.wrap_u8]; omega
      clear hct hp hs
      go_enter Try.func79, Try.ntmps79
      go_wp2_with (fail)
      refine hbs.out.mono ?_
      rintro e w1 ⟨rfl, m, rfl⟩
      go_wp2_with (fail)
      go_ret
      exact ⟨rfl, below_drewN (Kept.refl _) _⟩
end Go.Proofs.Ytnipndfnfpofgaa
