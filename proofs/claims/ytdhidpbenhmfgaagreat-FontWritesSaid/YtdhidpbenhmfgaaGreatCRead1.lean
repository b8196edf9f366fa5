/- font.need, take, half: the reader. -/
import Derived.Test.YtdhidpbenhmfgaaGreatCWords
import Derived.Laws.BitsLemmas
import Derived.IntWalk
namespace Go.Proofs.YtdhidpbenhmfgaaGreat
open Go.RowKit

/-- what the reader gives up by -/
abbrev giveUp : List PanicEntry := [{ v := .iface 31 (.int .i64 40), recovered := false }]

theorem need_yes (w : World) : Calls Tryz.prog 88 #[.bool true] w fun e w' => e = .returned (.tuple #[]) ∧ w' = w := by
  go_enter Tryz.func88, Tryz.ntmps88
  go_wp2
  go_end0
  exact ⟨rfl, rfl⟩
theorem need_no (w : World) : Calls Tryz.prog 88 #[.bool false] w fun e w' => e = .panicked giveUp ∧ w' = w := by
  go_enter Tryz.func88, Tryz.ntmps88
  go_wp2
  exact ⟨rfl, rfl, rfl⟩

/-- a reader that has taken k bytes -/
structure Rd (w : World) (R b o c k : Nat) (bs : List Int) : Prop where
  box : ∃ p, w.heap[R]? = some (.cells #[.slice (some ⟨b, p, none⟩) (bs.length - k) (c - k)] 101 (0, 0)) ∧ (k < c → p = o + k)
  bytes : ∀ i, ∀ h : i < bs.length, w.cell? ⟨b, o + i, none⟩ = some (.int .u8 bs[i])
  ne : b ≠ R
  kle : k ≤ bs.length
  cap : bs.length ≤ c
  big : c ≤ 9223372036854775807
  blt : b < w.heap.size
theorem Rd.grown {w w' : World} {R b o c k : Nat} {bs : List Int} {row : Option Nat} (h : Rd w R b o c k bs) (g : w.grownBy w' row) (hR : row ≠ some R) (hb : row ≠ some b) : Rd w' R b o c k bs := by
  obtain ⟨p, h1, h2⟩ := h.box
  exact ⟨⟨p, (g.block R (Array.getElem?_eq_some_iff.1 h1).1 (fun e => hR e.symm)).trans h1, h2⟩, fun i hi => (World.cell?_of_block (a := ⟨b, o + i, none⟩) (g.block b h.blt (fun e => hb e.symm))).trans (h.bytes i hi), h.ne, h.kle, h.cap, h.big, Nat.lt_of_lt_of_le h.blt g.size⟩

theorem grown_drew {a b : World} {row : Option Nat} (h : a.grownBy b row) (n : Nat) : a.grownBy (b.drewN n) row := ⟨h.os, h.tape, h.output, h.size, h.block⟩

set_option maxHeartbeats 4000000 in
theorem take_ok (w : World) (R b o c k n : Nat) (bs : List Int) (h : Rd w R b o c k bs) (hn : k + n ≤ bs.length) :
    Calls Tryz.prog 95 #[.pointer (some ⟨R, 0, none⟩), .int .i64 n] w fun e w' => ∃ p, e = .returned (.slice (some ⟨b, p, none⟩) n (c - k)) ∧ (0 < n → p = o + k) ∧ Rd w' R b o c (k + n) bs ∧ w.grownBy w' (some R) := by
  obtain ⟨p, h1, h2⟩ := h.box
  have HH := Lib.hid h
  have hc := h.cap
  have hk := h.kle
  have hb := h.big
  obtain ⟨m, hm⟩ : ∃ m, m = bs.length - k := ⟨_, rfl⟩
  obtain ⟨q, hq⟩ : ∃ q, q = c - k := ⟨_, rfl⟩
  rw [← hm, ← hq] at h1
  have hnm : n ≤ m := by omega
  have hmq : m ≤ q := by omega
  have hq1 : q ≤ 9223372036854775807 := by omega
  have d0 : decide ((n : Int) ≤ m) = true := decide_eq_true (by omega)
  have r0 : w.cell? ⟨R, 0, none⟩ = some (.slice (some ⟨b, p, none⟩) m q) := by simp [World.cell?, h1]
  have rf : w.frozen? ⟨R, 0, none⟩ = false := by simp [World.frozen?, h1]
  have fin : ∀ p', (q - n ≠ 0 → p' = p + n) → Hid (∃ p'', (p'' = p ∧ (0 < n → p'' = o + k)) ∧ Rd (w.setCell ⟨R, 0, none⟩ (.slice (some ⟨b, p', none⟩) (m - n) (q - n))) R b o c (k + n) bs ∧ w.grownBy (w.setCell ⟨R, 0, none⟩ (.slice (some ⟨b, p', none⟩) (m - n) (q - n))) (some R)) := fun p' hp' => by
    refine Lib.hid ⟨p, ⟨rfl, fun h0 => h2 (by omega)⟩, ?_, ?_⟩
    · refine ⟨⟨p', ?_, fun hk' => ?_⟩, fun i hi => ?_, HH.out.ne, by omega, HH.out.cap, HH.out.big, by simpa [World.setCell] using HH.out.blt⟩
      · simp only [World.setCell, Array.getElem?_modify, h1, if_true, Option.map_some]
        rw [show bs.length - (k + n) = m - n by omega, show c - (k + n) = q - n by omega]
        rfl
      · rw [hp' (by omega), h2 (by omega)]; omega
      · rw [World.cell?_setCell_other _ _ _ _ (by intro e; injection e with e1; exact HH.out.ne e1.symm)]; exact HH.out.bytes i hi
    · exact ⟨rfl, rfl, rfl, by simp [World.setCell], fun j hj hne => by
        have : R ≠ j := fun e => hne (by rw [e])
        simp [World.setCell, Array.getElem?_modify, this]⟩
  have Hm := Lib.hid hm
  have Hq := Lib.hid hq
  rw [← hq]
  clear h hm hq h1 h2 hc hk hb
  go_enter Tryz.func95, Tryz.ntmps95
  go_wp2_with (fail)
  refine (need_yes _).mono ?_
  rintro e w1 ⟨rfl, rfl⟩
  go_wp2_with (fail)
  all_goals go_ret
  all_goals first
    | (obtain ⟨p'', ⟨rfl, hz⟩, h3, h4⟩ := (fin (p + n) (fun _ => rfl)).out; exact ⟨_, rfl, hz, h3, h4⟩)
    | (have hqn : q = n := (by omega); have ht := (fin p (by omega)).out; simp only [hqn, Nat.sub_self] at ht ⊢; obtain ⟨p'', ⟨rfl, hz⟩, h3, h4⟩ := ht; exact ⟨_, rfl, hz, h3, h4⟩)
set_option maxHeartbeats 4000000 in
theorem take_no (w : World) (R b o c k n : Nat) (bs : List Int) (h : Rd w R b o c k bs) (hn : bs.length < k + n) :
    Calls Tryz.prog 95 #[.pointer (some ⟨R, 0, none⟩), .int .i64 n] w fun e w' => e = .panicked giveUp ∧ w' = w := by
  obtain ⟨p, h1, h2⟩ := h.box
  have hc := h.cap
  have hk := h.kle
  have hb := h.big
  generalize hm : bs.length - k = m at *
  generalize c - k = q at *
  have hnm : m < n := by omega
  have d0 : decide (n ≤ m) = false := decide_eq_false (by omega)
  have r0 : w.cell? ⟨R, 0, none⟩ = some (.slice (some ⟨b, p, none⟩) m q) := by simp [World.cell?, h1]
  clear h hm h1 h2 hc hk hb
  go_enter Tryz.func95, Tryz.ntmps95
  go_wp2_with (fail)
  refine (need_no _).mono ?_
  rintro e w1 ⟨rfl, rfl⟩
  go_wp2_with (fail)
  exact ⟨rfl, rfl, rfl⟩

def hv (bs : List Int) (k : Nat) : Int := bs[k]?.getD 0 * 256 + bs[k + 1]?.getD 0
def BytesOk (bs : List Int) : Prop := ∀ z ∈ bs, 0 ≤ z ∧ z ≤ 255
theorem get_ok {bs : List Int} (h : BytesOk bs) {i : Nat} (hi : i < bs.length) : bs[i]?.getD 0 = bs[i] ∧ 0 ≤ bs[i] ∧ bs[i] ≤ 255 := by
  refine ⟨by rw [List.getElem?_eq_getElem hi]; rfl, h _ (List.getElem_mem hi)⟩

set_option maxHeartbeats 4000000 in
theorem half_short (w : World) (R b o c k : Nat) (bs : List Int) (h : Rd w R b o c k bs) (hn : bs.length < k + 2) :
    Calls Tryz.prog 94 #[.pointer (some ⟨R, 0, none⟩)] w fun e w' => e = .panicked giveUp ∧ w' = w := by
  have ht := Lib.hid (take_no w R b o c k 2 bs h hn)
  clear h hn
  go_enter Tryz.func94, Tryz.ntmps94
  go_wp2_with (fail)
  refine ht.out.mono ?_
  rintro e w1 ⟨rfl, rfl⟩
  go_wp2_with (fail)
  exact ⟨rfl, rfl, rfl⟩

set_option maxHeartbeats 4000000 in
theorem half_great (w : World) (R b o c k : Nat) (bs : List Int) (h : Rd w R b o c k bs) (hb : BytesOk bs) (hn : k + 2 ≤ bs.length) (hg : 32767 < hv bs k) :
    Calls Tryz.prog 94 #[.pointer (some ⟨R, 0, none⟩)] w fun e w' => e = .panicked giveUp ∧ w.grownBy w' (some R) := by
  have ht := Lib.hid (take_ok w R b o c k 2 bs h hn)
  obtain ⟨g0, a0, a1⟩ := get_ok hb (show k < bs.length by omega)
  obtain ⟨g1, a2, a3⟩ := get_ok hb (show k + 1 < bs.length by omega)
  have hcell : ∀ w', Rd w' R b o c (k + 2) bs → Hid (w'.cell? ⟨b, o + k, none⟩ = some (.int .u8 bs[k]) ∧ w'.cell? ⟨b, o + k + 1, none⟩ = some (.int .u8 bs[k + 1])) := fun w' hr => Lib.hid ⟨hr.bytes k (by omega), hr.bytes (k + 1) (by omega)⟩
  unfold hv at *
  rw [g0, g1] at hg
  try rw [g0, g1]
  clear h hb g0 g1
  generalize bs[k] = x at *
  generalize bs[k + 1] = y at *
  have e1 : bits .or .i64 (x * 256) y = x * 256 + y := bits_join .i64 16 (by decide) (fun n h0 h1 => IntWalk.i64_in n (by omega)) 8 _ _ (by omega) (by omega) (by omega) (by omega) (by omega) (by omega)
  have e2 : IntKind.i64.wrap (x * 256) = x * 256 := IntWalk.i64_in _ (by omega)
  have d0 : decide (x * 256 + y ≤ 32767) = false := decide_eq_false (by omega)
  go_enter Tryz.func94, Tryz.ntmps94
  go_wp2_with (fail)
  refine ht.out.mono ?_
  rintro e w1 ⟨p, rfl, hp, hr, hg1⟩
  obtain rfl := hp (by omega)
  obtain ⟨c0, c1⟩ := (hcell w1 hr).out
  go_wp2_with (fail)
  go_quiet (fail)
  go_wp2_with (fail)
  refine (need_no _).mono ?_
  rintro e w2 ⟨rfl, rfl⟩
  go_wp2_with (fail)
  exact ⟨rfl, rfl, grown_drew hg1 _⟩

set_option maxHeartbeats 4000000 in
theorem half_ok (w : World) (R b o c k : Nat) (bs : List Int) (h : Rd w R b o c k bs) (hb : BytesOk bs) (hn : k + 2 ≤ bs.length) (hg : hv bs k ≤ 32767) :
    Calls Tryz.prog 94 #[.pointer (some ⟨R, 0, none⟩)] w fun e w' => e = .returned (.int .i64 (hv bs k)) ∧ Rd w' R b o c (k + 2) bs ∧ w.grownBy w' (some R) := by
  have ht := Lib.hid (take_ok w R b o c k 2 bs h hn)
  obtain ⟨g0, a0, a1⟩ := get_ok hb (show k < bs.length by omega)
  obtain ⟨g1, a2, a3⟩ := get_ok hb (show k + 1 < bs.length by omega)
  have hcell : ∀ w', Rd w' R b o c (k + 2) bs → Hid (w'.cell? ⟨b, o + k, none⟩ = some (.int .u8 bs[k]) ∧ w'.cell? ⟨b, o + k + 1, none⟩ = some (.int .u8 bs[k + 1])) := fun w' hr => Lib.hid ⟨hr.bytes k (by omega), hr.bytes (k + 1) (by omega)⟩
  unfold hv at *
  rw [g0, g1] at hg
  try rw [g0, g1]
  clear h hb g0 g1
  generalize bs[k] = x at *
  generalize bs[k + 1] = y at *
  have e1 : bits .or .i64 (x * 256) y = x * 256 + y := bits_join .i64 16 (by decide) (fun n h0 h1 => IntWalk.i64_in n (by omega)) 8 _ _ (by omega) (by omega) (by omega) (by omega) (by omega) (by omega)
  have e2 : IntKind.i64.wrap (x * 256) = x * 256 := IntWalk.i64_in _ (by omega)
  have d0 : decide (x * 256 + y ≤ 32767) = true := decide_eq_true hg
  go_enter Tryz.func94, Tryz.ntmps94
  go_wp2_with (fail)
  refine ht.out.mono ?_
  rintro e w1 ⟨p, rfl, hp, hr, hg1⟩
  obtain rfl := hp (by omega)
  obtain ⟨c0, c1⟩ := (hcell w1 hr).out
  go_wp2_with (fail)
  go_quiet (fail)
  go_wp2_with (fail)
  refine (need_yes _).mono ?_
  rintro e w2 ⟨rfl, rfl⟩
  go_wp2_with (fail)
  go_ret
  exact ⟨rfl, hr.grown (row := none) (grown_kept (below_drewN (Kept.refl _) _)) (by simp) (by simp), grown_drew hg1 _⟩
end Go.Proofs.YtdhidpbenhmfgaaGreat
