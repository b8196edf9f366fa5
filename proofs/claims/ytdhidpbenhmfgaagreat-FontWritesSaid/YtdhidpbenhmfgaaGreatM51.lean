/- KeepInts FSame FEq. -/
import Derived.Test.YtdhidpbenhmfgaaGreatM0
import Derived.Test.YtdhidpbenhmfgaaGreatFontAt
import Derived.Laws.StructEq
namespace Go.Proofs.YtdhidpbenhmfgaaGreat
open Go.RowKit

/-- the slice at A holds these numbers, in blocks below B -/
def IAt (w : World) (A : Option Addr) (xs : List Int) (B : Nat) : Prop := 0 < xs.length → ∃ b o, A = some ⟨b, o, none⟩ ∧ b < B ∧ ∀ k (hk : k < xs.length), w.cell? ⟨b, o + k, none⟩ = some (.int .i64 xs[k])

theorem IAt.below {w w' : World} {A : Option Addr} {xs : List Int} {B : Nat} (h : IAt w A xs B) (hb : Below B w w') : IAt w' A xs B := by
  intro hn
  obtain ⟨b, o, e, hlt, hc⟩ := h hn
  exact ⟨b, o, e, hlt, fun k hk => (hb.cell (p := ⟨b, o + k, none⟩) hlt).trans (hc k hk)⟩
theorem IAt.more {w : World} {A : Option Addr} {xs : List Int} {B B' : Nat} (h : IAt w A xs B) (hB : B ≤ B') : IAt w A xs B' := by
  intro hn
  obtain ⟨b, o, e, hlt, hc⟩ := h hn
  exact ⟨b, o, e, by omega, hc⟩

def IntsAt (xs ys : List Int) (w : World) (i : Value) (wr : World) : Prop := ∃ k : Nat, k ≤ xs.length ∧ i = .int .i64 k ∧ xs.take k = ys.take k ∧ Kept w wr

theorem ints_step {xs ys : List Int} {k : Nat} (hx : k < xs.length) (hy : k < ys.length) (h : xs.take k = ys.take k) (he : xs[k] = ys[k]) : xs.take (k + 1) = ys.take (k + 1) := by
  rw [List.take_succ_eq_append_getElem hx, List.take_succ_eq_append_getElem hy, h, he]

set_option maxHeartbeats 1000000 in
theorem sameInts_any (A B : Option Addr) (xs ys : List Int) (c d : Nat) (w : World) (hlx : xs.length ≤ 9223372036854775807) (hly : ys.length ≤ 9223372036854775807) (hx : IAt w A xs w.heap.size) (hy : IAt w B ys w.heap.size) :
    Calls Tryz.prog 63 #[.slice A xs.length c, .slice B ys.length d] w fun e w' => e = .returned (.bool (decide (xs = ys))) ∧ Kept w w' := by
  by_cases hl : xs.length = ys.length
  · have HX := Lib.hid hx
    have HY := Lib.hid hy
    clear hx hy
    have Hl := Lib.hid hl
    have hl1 : xs.length ≤ ys.length := by omega
    have hl2 : ys.length ≤ xs.length := by omega
    have hne : ((xs.length : Int) != (ys.length : Int)) = false := by simp [hl]
    clear hl
    go_enter Tryz.func63, Tryz.ntmps63
    go_wp2
    clear hne
    go_loopw [5] (fun i wr => IntsAt xs ys w i wr) (fun i _ => xs.length - (intOf i).toNat)
    case atStart => exact ⟨0, Nat.zero_le _, rfl, rfl, Kept.refl _⟩
    case round =>
      obtain ⟨k, hk, rfl, htk, hkept⟩ := hrel
      by_cases hlt : k < xs.length
      · have hlt2 : k < ys.length := by omega
        obtain ⟨b, o, rfl, hb, hc⟩ := (IAt.below HX.out hkept) (by omega)
        obtain ⟨b', o', rfl, hb', hc'⟩ := (IAt.below HY.out hkept) (by omega)
        have c0 := hc k hlt
        have c1 := hc' k hlt2
        clear hc hc'
        have Hst := Lib.hid (fun h => ints_step hlt hlt2 htk h : xs[k] = ys[k] → xs.take (k + 1) = ys.take (k + 1))
        have Hno : Hid (xs[k] ≠ ys[k] → decide (xs = ys) = false) := by
          intro h
          rw [decide_eq_false_iff_not]
          rintro rfl
          exact h rfl
        clear htk
        generalize xs[k] = x at *
        generalize ys[k] = y at *
        by_cases hxy : x = y
        · subst hxy
          have Hs := Lib.hid (Hst.out rfl); clear Hst
          have hb1 : (x != x) = false := by simp
          go_wp2
          go_quiet (fail)
          go_wp2
          go_roundw
          case rel => exact ⟨k + 1, by omega, by go_num, Hs.out, below_drewN hkept _⟩
          case measure => simp [intOf]; omega
        · have hb1 : (x != y) = true := by simpa using hxy
          go_wp2
          go_quiet (fail)
          go_wp2
          go_ret
          exact ⟨ret_bool (Hno.out hxy).symm, below_drewN hkept _⟩
      · have hz : xs = ys := by
          have h1 : xs.take k = xs := List.take_of_length_le (by omega)
          have h2 : ys.take k = ys := List.take_of_length_le (by omega)
          rw [h1, h2] at htk
          exact htk
        have Hz : Hid (decide (xs = ys) = true) := decide_eq_true hz
        clear hz htk
        go_wp2
        go_ret
        exact ⟨ret_bool Hz.out.symm, hkept⟩
  · have e1 : decide (xs = ys) = false := by
      rw [decide_eq_false_iff_not]
      rintro rfl
      exact hl rfl
    rw [e1]
    have hne : ((xs.length : Int) != (ys.length : Int)) = true := by
      rw [bne_iff_ne]; omega
    clear hx hy e1 hl
    go_enter Tryz.func63, Tryz.ntmps63
    go_wp2
    go_ret
    exact ⟨rfl, Kept.refl _⟩
end Go.Proofs.YtdhidpbenhmfgaaGreat
namespace Go.Proofs.YtdhidpbenhmfgaaGreat
open Go.RowKit

set_option maxHeartbeats 1000000 in
theorem fnum_any (f : Int) (w : World) : Calls Tryz.prog 8 #[.int .i64 f] w fun e w' => e = .returned (.int .i64 f) ∧ w = w' := by
  go_enter Tryz.func8, Tryz.ntmps8
  go_wp2
  go_ret
  exact ⟨rfl, rfl⟩
set_option maxHeartbeats 1000000 in
theorem fints_any (A B : Option Addr) (xs ys : List Int) (c d : Nat) (w : World) (hlx : xs.length ≤ 9223372036854775807) (hly : ys.length ≤ 9223372036854775807) (hx : NumsAt w A xs w.heap.size) (hy : NumsAt w B ys w.heap.size) :
    Calls Tryz.prog 45 #[.slice A xs.length c, .slice B ys.length d] w fun e w' => e = .returned (.bool (decide (xs = ys))) ∧ Kept w w' := by
  have h := fun w' (hk : Kept w w') => Lib.hid (sameInts_any A B xs ys c d w' hlx hly (IAt.more (IAt.below (fun hn => hx hn) hk) hk.size) (IAt.more (IAt.below (fun hn => hy hn) hk) hk.size))
  clear hx hy
  go_enter Tryz.func45, Tryz.ntmps45
  go_wp2_with (fail)
  refine (h _ (Kept.refl _)).out.mono ?_
  rintro e w1 ⟨rfl, k1⟩
  go_wp2_with (fail)
  go_ret
  exact ⟨rfl, k1⟩
end Go.Proofs.YtdhidpbenhmfgaaGreat
namespace Go.Proofs.YtdhidpbenhmfgaaGreat
open Go.RowKit

set_option maxRecDepth 100000 in
set_option maxHeartbeats 2000000 in
theorem met_neq (x y : Met) (h : x ≠ y) (w : World) : (binOp .neq 43 (.agg #[.int .i64 x.w, .int .i64 x.h, .int .i64 x.d, .int .i64 x.it, .int .i64 x.tag, .int .i64 x.rest]) (.agg #[.int .i64 y.w, .int .i64 y.h, .int .i64 y.d, .int .i64 y.it, .int .i64 y.tag, .int .i64 y.rest])).run Tryz.prog w = .ok (.bool true) w := by
  obtain ⟨x0, x1, x2, x3, x4, x5⟩ := x
  obtain ⟨y0, y1, y2, y3, y4, y5⟩ := y
  simp only
  by_cases h0 : x0 = y0
  · by_cases h1 : x1 = y1
    · by_cases h2 : x2 = y2
      · by_cases h3 : x3 = y3
        · by_cases h4 : x4 = y4
          · by_cases h5 : x5 = y5
            · exact absurd (by rw [h0, h1, h2, h3, h4, h5]) h
            · have e : (x5 == y5) = false := by simpa using h5
              subst h0 h1 h2 h3 h4
              clear h h5
              go_simp
          · have e : (x4 == y4) = false := by simpa using h4
            subst h0 h1 h2 h3
            clear h h4
            go_simp
        · have e : (x3 == y3) = false := by simpa using h3
          subst h0 h1 h2
          clear h h3
          go_simp
      · have e : (x2 == y2) = false := by simpa using h2
        subst h0 h1
        clear h h2
        go_simp
    · have e : (x1 == y1) = false := by simpa using h1
      subst h0
      clear h h1
      go_simp
  · have e : (x0 == y0) = false := by simpa using h0
    clear h h0
    go_simp

set_option maxRecDepth 100000 in
set_option maxHeartbeats 2000000 in
theorem step_neq (x y : St) (h : x ≠ y) (w : World) : (binOp .neq 71 (.agg #[.int .u8 x.skip, .int .u8 x.next, .int .u8 x.op, .int .u8 x.rest]) (.agg #[.int .u8 y.skip, .int .u8 y.next, .int .u8 y.op, .int .u8 y.rest])).run Tryz.prog w = .ok (.bool true) w := by
  obtain ⟨x0, x1, x2, x3⟩ := x
  obtain ⟨y0, y1, y2, y3⟩ := y
  simp only
  by_cases h0 : x0 = y0
  · by_cases h1 : x1 = y1
    · by_cases h2 : x2 = y2
      · by_cases h3 : x3 = y3
        · exact absurd (by rw [h0, h1, h2, h3]) h
        · have e : (x3 == y3) = false := by simpa using h3
          subst h0 h1 h2
          clear h h3
          go_simp
      · have e : (x2 == y2) = false := by simpa using h2
        subst h0 h1
        clear h h2
        go_simp
    · have e : (x1 == y1) = false := by simpa using h1
      subst h0
      clear h h1
      go_simp
  · have e : (x0 == y0) = false := by simpa using h0
    clear h h0
    go_simp

theorem cells_u8 : Tryz.prog.cellsOf 5 = 1 := by kernel_rfl
set_option maxRecDepth 100000 in
set_option maxHeartbeats 2000000 in
theorem arr4_eq (a0 a1 a2 a3 b0 b1 b2 b3 : Int) (w : World) : (Op.equalIn 10000 74 (.agg #[.int .u8 a0, .int .u8 a1, .int .u8 a2, .int .u8 a3]) (.agg #[.int .u8 b0, .int .u8 b1, .int .u8 b2, .int .u8 b3])).run Tryz.prog w = .ok (a0 == b0 && (a1 == b1 && (a2 == b2 && a3 == b3))) w := by
  have hs := run_underlying (w := w) Tryz.underlying74
  rw [show (10000 : Nat) = 9999 + 1 from rfl]
  unfold Op.equalIn
  simp only [Sem.run_bind, hs, Result.andThen_ok]
  simp [Std.Legacy.Range.forIn_eq_forIn_range', List.range', List.forIn_cons, go_sem]
  by_cases h0 : a0 = b0 <;> by_cases h1 : a1 = b1 <;> by_cases h2 : a2 = b2 <;> by_cases h3 : a3 = b3 <;> simp [*]

theorem piece_neq (x y : St) (h : x ≠ y) (w : World) : (binOp .neq 74 (.agg #[.int .u8 x.skip, .int .u8 x.next, .int .u8 x.op, .int .u8 x.rest]) (.agg #[.int .u8 y.skip, .int .u8 y.next, .int .u8 y.op, .int .u8 y.rest])).run Tryz.prog w = .ok (.bool true) w := by
  rw [run_neq_struct, arr4_eq]
  have e : (x.skip == y.skip && (x.next == y.next && (x.op == y.op && x.rest == y.rest))) = false := by
    rw [Bool.eq_false_iff]
    intro hh
    simp only [Bool.and_eq_true, beq_iff_eq] at hh
    obtain ⟨x0, x1, x2, x3⟩ := x
    obtain ⟨y0, y1, y2, y3⟩ := y
    simp only at hh
    exact h (by rw [hh.1, hh.2.1, hh.2.2.1, hh.2.2.2])
  rw [e]
  rfl
theorem piece_same (x : St) (w : World) : (binOp .neq 74 (.agg #[.int .u8 x.skip, .int .u8 x.next, .int .u8 x.op, .int .u8 x.rest]) (.agg #[.int .u8 x.skip, .int .u8 x.next, .int .u8 x.op, .int .u8 x.rest])).run Tryz.prog w = .ok (.bool false) w := by
  rw [run_neq_struct, arr4_eq]
  simp [Result.andThen]
end Go.Proofs.YtdhidpbenhmfgaaGreat
