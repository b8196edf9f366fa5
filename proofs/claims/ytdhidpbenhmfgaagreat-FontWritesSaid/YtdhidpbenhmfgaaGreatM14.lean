/- CWord BytesAt. -/
import Derived.Test.YtdhidpbenhmfgaaGreatOwnInts
import Derived.Test.YtdhidpbenhmfgaaGreatM4
import Derived.Test.YtdhidpbenhmfgaaGreatM0
namespace Go.Proofs.YtdhidpbenhmfgaaGreat
open Go.RowKit

abbrev stA (s : St) : Value := .agg #[.int .u8 s.skip, .int .u8 s.next, .int .u8 s.op, .int .u8 s.rest]
/-- a number as four bytes -/
def numS (n : Int) : St := ⟨n / 16777216 % 256, n / 65536 % 256, n / 256 % 256, n % 256⟩

set_option maxHeartbeats 1000000 in
theorem ofNumber_any (n : Int) (w : World) (_h0 : -9223372036854775808 ≤ n) (_h1 : n ≤ 9223372036854775807) :
    Calls Tryz.prog 25 #[.int .i64 n] w fun e w' => e = .returned (stA (numS n)) ∧ Kept w w' := by
  have e0 : IntKind.u8.wrap (n / 16777216) = n / 16777216 % 256 := by rw [IntKind.wrap_u8]
  have e1 : IntKind.u8.wrap (n / 65536) = n / 65536 % 256 := by rw [IntKind.wrap_u8]
  have e2 : IntKind.u8.wrap (n / 256) = n / 256 % 256 := by rw [IntKind.wrap_u8]
  have e3 : IntKind.u8.wrap n = n % 256 := by rw [IntKind.wrap_u8]
  unfold numS
  generalize n / 16777216 % 256 = a0 at *
  generalize n / 65536 % 256 = a1 at *
  generalize n / 256 % 256 = a2 at *
  generalize n % 256 = a3 at *
  go_enter Tryz.func25, Tryz.ntmps25
  go_wp2_with (fail)
  exact bodyPost_ret (v := stA ⟨a0, a1, a2, a3⟩) (by simp [results, Tryz.results25, go_sem]) rfl ⟨rfl, (by repeat (first | exact Kept.refl _ | assumption | refine kalloc ?_ _ | refine Below.setCell ?_ (by simp; try omega) _ | refine below_drewN ?_ _ | refine Below.drew ?_))⟩

set_option maxHeartbeats 1000000 in
theorem ofStep_any (s : St) (w : World) :
    Calls Tryz.prog 29 #[stA s] w fun e w' => e = .returned (stA s) ∧ Kept w w' := by
  obtain ⟨s0, s1, s2, s3⟩ := s
  go_enter Tryz.func29, Tryz.ntmps29
  go_wp2_with (fail)
  exact bodyPost_ret (v := stA ⟨s0, s1, s2, s3⟩) (by simp [results, Tryz.results29, go_sem]) rfl ⟨rfl, (by repeat (first | exact Kept.refl _ | assumption | refine kalloc ?_ _ | refine Below.setCell ?_ (by simp; try omega) _ | refine below_drewN ?_ _ | refine Below.drew ?_))⟩

set_option maxHeartbeats 1000000 in
theorem ofPieces_any (s : St) (w : World) :
    Calls Tryz.prog 31 #[stA s] w fun e w' => e = .returned (stA s) ∧ Kept w w' := by
  obtain ⟨s0, s1, s2, s3⟩ := s
  go_enter Tryz.func31, Tryz.ntmps31
  go_wp2_with (fail)
  exact bodyPost_ret (v := stA ⟨s0, s1, s2, s3⟩) (by simp [results, Tryz.results31, go_sem]) rfl ⟨rfl, (by repeat (first | exact Kept.refl _ | assumption | refine kalloc ?_ _ | refine Below.setCell ?_ (by simp; try omega) _ | refine below_drewN ?_ _ | refine Below.drew ?_))⟩

/-- a number's place in its table's rest; 0: it is not there -/
def placeL (l : List Int) (n : Int) : Int := if l.contains n then (l.countP (· < n) : Nat) + 1 else 0
theorem placeL_bd (l : List Int) (n : Int) (h : l.length ≤ 255) : 0 ≤ placeL l n ∧ placeL l n ≤ 255 + 1 := by
  unfold placeL
  have := List.countP_le_length (p := (· < n)) (l := l)
  split <;> omega
theorem count_lt {l : List Int} {n : Int} (h : l.contains n = true) : l.countP (· < n) < l.length := by
  have h2 : n ∈ l := by simpa using h
  rcases Nat.lt_or_ge (l.countP (· < n)) l.length with h' | h'
  · exact h'
  · have h3 : l.countP (· < n) = l.length := Nat.le_antisymm (List.countP_le_length) h'
    have := List.countP_eq_length.1 h3 n h2
    simp at this

set_option maxHeartbeats 2000000 in
theorem place_any (A : Option Addr) (z : Int) (zs : List Int) (c : Nat) (n : Int) (w : World) (B : Nat) (h : NumsAt w A (z :: zs) B) (hc : zs.length + 1 ≤ c) (hl : zs.length ≤ 255) (hs : zs.Pairwise (· ≤ ·)) :
    Calls Tryz.prog 57 #[.slice A (z :: zs).length c, .int .i64 n] w fun e w' => e = .returned (.int .u8 (placeL zs n)) ∧ Kept w w' := by
  obtain ⟨b, o, rfl, hb, hcell⟩ := h (by simp)
  rw [List.length_cons]
  by_cases h1 : c = 1
  · obtain rfl : zs = [] := List.length_eq_zero_iff.1 (by omega)
    subst h1
    have he := fun a c w => Lib.hid (Tryz.slices_BinarySearch_int_empty a c n w)
    clear hcell hc hl hs
    show Calls _ _ #[.slice _ 1 1, _] _ _
    go_enter Tryz.func57, Tryz.ntmps57
    go_wp2_with (fail)
    all_goals refine (he _ _ _).out.mono ?_
    all_goals rintro e w1 ⟨rfl, rfl⟩
    all_goals go_wp2_with (fail)
    all_goals go_ret
    all_goals exact ⟨rfl, Kept.refl _⟩
  · have hbs := Tryz.slices_BinarySearch_int b (o + 1) zs.length (c - 1) zs n w (Nat.le_refl _) (by omega) (fun j hj => by
      have := hcell (j + 1) (by simp; omega)
      simp only [List.getElem_cons_succ] at this
      rw [show o + 1 + j = o + (j + 1) by omega, this]
      simp [List.getD, List.getElem?_eq_getElem hj]) (by rw [List.take_of_length_le (Nat.le_refl _)]; exact hs)
    rw [List.take_of_length_le (Nat.le_refl _)] at hbs
    have hbs := Lib.hid hbs
    have hcap : 1 < c := by omega
    clear hcell h1
    cases hct : zs.contains n with
    | false =>
      have hp : placeL zs n = 0 := by unfold placeL; rw [hct]; rfl
      rw [hct] at hbs
      rw [hp]
      generalize zs.countP (· < n) = q at *
      clear hct hp hs
      go_enter Tryz.func57, Tryz.ntmps57
      go_wp2_with (fail)
      refine hbs.out.mono ?_
      rintro e w1 ⟨rfl, m, rfl⟩
      go_wp2_with (fail)
      go_ret
      exact ⟨rfl, below_drewN (Kept.refl _) _⟩
    | true =>
      have hlt := count_lt hct
      have hp : placeL zs n = (zs.countP (· < n) : Nat) + 1 := by unfold placeL; rw [hct]; rfl
      rw [hct] at hbs
      rw [hp]
      generalize zs.countP (· < n) = q at *
      have e1 : IntKind.u8.wrap ((q : Int) + 1) = (q : Int) + 1 := by rw [IntKind.wrap_u8]; omega
      clear hct hp hs
      go_enter Tryz.func57, Tryz.ntmps57
      go_wp2_with (fail)
      refine hbs.out.mono ?_
      rintro e w1 ⟨rfl, m, rfl⟩
      go_wp2_with (fail)
      go_ret
      exact ⟨rfl, below_drewN (Kept.refl _) _⟩
end Go.Proofs.YtdhidpbenhmfgaaGreat
namespace Go.Proofs.YtdhidpbenhmfgaaGreat
open Go.ChangeShapes Go.WideShapes Go.ChangeAt Go.RowKit Go.Deep

def BytesAt (w : World) (A : Option Addr) (l : List Int) (B : Nat) : Prop :=
  0 < l.length → ∃ b o, A = some ⟨b, o, none⟩ ∧ b < B ∧ ∀ i (h : i < l.length), w.cell? ⟨b, o + i, none⟩ = some (.int .u8 l[i])
def BytesWf (l : List Int) : Prop := l.length ≤ maxLen ∧ ∀ z ∈ l, 0 ≤ z ∧ z ≤ 255
section
variable {w w' : World} {A : Option Addr} {B n : Nat} {f : Nat → Nat → Int}
theorem BytesAt.kept {l : List Int} (h : BytesAt w A l B) (hk : Below B w w') : BytesAt w' A l B := fun hn => by
  obtain ⟨b, o, e, hb, hc⟩ := h hn
  exact ⟨b, o, e, hb, fun i hi => (hk.cell (p := ⟨b, o + i, none⟩) hb).trans (hc i hi)⟩
theorem BytesAt.more {l : List Int} {C : Nat} (h : BytesAt w A l B) (hB : B ≤ C) : BytesAt w A l C := fun hn => by
  obtain ⟨b, o, e, hb, hc⟩ := h hn
  exact ⟨b, o, e, by omega, hc⟩
theorem bytes_of (h : RowsAt w A (fun _ => .u8) 1 n f B) (hw : ∀ i < n, ∀ j < 1, (Lit.int .u8 (f i j)).wf = true) : ∃ l : List Int, l.length = n ∧ BytesAt w A l B ∧ ∀ z ∈ l, 0 ≤ z ∧ z ≤ 255 := by
  refine ⟨(List.range n).map fun i => f i 0, by simp, fun hn => ?_, fun m hm => ?_⟩
  · have hn' : 0 < n := by simpa using hn
    obtain ⟨b, o, e, hb, hc⟩ := h hn'
    refine ⟨b, o, e, hb, fun i hi => ?_⟩
    have hi' : i < n := by simpa using hi
    have h0 := hc i hi' 0 (by omega)
    simp only [List.getElem_map, List.getElem_range]
    rw [Nat.mul_one] at h0
    exact h0
  · rw [List.mem_map] at hm
    obtain ⟨i, hi, rfl⟩ := hm
    exact bounds_u8 (hw i (List.mem_range.1 hi) 0 (by omega))
end
section
variable {H : Type} {enc : TypeId × Value → H} {w : World}
set_option maxRecDepth 100000 in
theorem open_bytes {r : Reach} {b0 : Nat} {v : Value} {d : DataW H} {p : List MemPlace} (hv : Value.okWide Tryz.prog w r b0 30 v) (h : DataW.Trod enc Tryz.prog w 0 (fun _ => true) true 30 v d p) :
    ∃ (A : Option Addr) (l : List Int) (c : Nat), v = .slice A l.length c ∧ BytesAt w A l w.heap.size ∧ BytesWf l ∧ l.length ≤ c ∧ c ≤ maxLen := by
  obtain ⟨A, n, c, f, rfl, hr, hl, hc, hw⟩ := open_rows (m := 1) (K := fun _ => .u8) Tryz.underlying30 (by kernel_rfl) (by omega) (fun j hj => by
    obtain rfl : j = 0 := by omega
    exact of_decide_eq_true (by kernel_rfl)) hv h
  obtain ⟨l, rfl, hb, hz⟩ := bytes_of hr hw
  exact ⟨A, l, c, rfl, hb, ⟨Nat.le_trans hl hc, hz⟩, hl, hc⟩
end
end Go.Proofs.YtdhidpbenhmfgaaGreat
