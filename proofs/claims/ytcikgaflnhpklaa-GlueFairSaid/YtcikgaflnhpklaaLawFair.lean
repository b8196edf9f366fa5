/- The walk of galleylaw02.GlueFair. -/
import Derived.Test.YtcikgaflnhpklaaFairMath
import Derived.Test.YtcikgaflnhpklaaLive
import Derived.Deep.RegionHeld3
import Derived.Outline
namespace Go.Proofs.Ytcikgaflnhpklaa
open Go.RowKit

theorem sizes_read2 {w : World} {b n : Nat} {sg od nu de : Int} {gs : List Gl} (h : w.rowIs b 3 n (fun j => .int .i64 (szAt sg od nu de gs j))) (hn : gs.length = n) : IAt w (some ⟨b, 0, none⟩) (szL sg od nu de gs) w.heap.size :=
  IAt.of_row h h.lt (by rw [szL_len, hn]) (fun i hi => by rw [szL_get])

theorem GAt.more {w : World} {A : Option Addr} {gs : List Gl} {B B' : Nat} (h : GAt w A gs B) (hB : B ≤ B') : GAt w A gs B' := by
  intro hn
  obtain ⟨b, o, e, hlt, hc⟩ := h hn
  exact ⟨b, o, e, by omega, hc⟩

theorem IAt.take {w : World} {A : Option Addr} {xs : List Int} {B : Nat} (h : IAt w A xs B) (n : Nat) : IAt w A (xs.take n) B := by
  intro hn
  have hl : (xs.take n).length ≤ xs.length := by rw [List.length_take]; omega
  obtain ⟨b, o, e, hlt, hc⟩ := h (by omega)
  exact ⟨b, o, e, hlt, fun k hk => by have := hc k (by omega); simpa using this⟩

/-- the way's box, as a later world has it -/
theorem box_four {w w1 : World} {B : Nat} {T : TypeId} {z0 z1 z2 z3 : Value} (h : w.heap[B]? = some (.cells #[z0, z1, z2, z3] T (0, 0))) (hk : w1.heap[B]? = w.heap[B]?) :
    w1.cell? ⟨B, 0, none⟩ = some z0 ∧ w1.cell? ⟨B, 1, none⟩ = some z1 ∧ w1.cell? ⟨B, 2, none⟩ = some z2 ∧ w1.cell? ⟨B, 3, none⟩ = some z3 := by
  rw [h] at hk
  refine ⟨?_, ?_, ?_, ?_⟩
  all_goals simp [World.cell?, hk]

/-- what the round asks of piece k -/
structure RoundAt (wr : World) (b o bs B : Nat) (k : Nat) (g : Gl) (sz sg od nu de : Int) : Prop where
  c0 : wr.cell? ⟨b, o + k * 5, none⟩ = some (.int .i64 g.nat)
  c1 : wr.cell? ⟨b, o + k * 5 + 1, none⟩ = some (.int .i64 g.st)
  c2 : wr.cell? ⟨b, o + k * 5 + 2, none⟩ = some (.int .i64 g.sh)
  c3 : wr.cell? ⟨b, o + k * 5 + 3, none⟩ = some (.int .i64 g.so)
  c4 : wr.cell? ⟨b, o + k * 5 + 4, none⟩ = some (.int .i64 g.ho)
  z : wr.cell? ⟨bs, k, none⟩ = some (.int .i64 sz)
  w0 : wr.cell? ⟨B, 0, none⟩ = some (.int .i64 sg)
  w1 : wr.cell? ⟨B, 1, none⟩ = some (.int .i64 od)
  w2 : wr.cell? ⟨B, 2, none⟩ = some (.int .i64 nu)
  w3 : wr.cell? ⟨B, 3, none⟩ = some (.int .i64 de)

def FairAt (gs : List Gl) (w2 : World) (i : Value) (wr : World) : Prop := ∃ k : Nat, k ≤ gs.length ∧ i = .int .i64 k ∧ Kept w2 wr

set_option maxRecDepth 100000 in
set_option maxHeartbeats 4000000 in
theorem fair_bad (w : World) (A : Option Addr) (gs : List Gl) (c : Nat) (h : GAt w A gs w.heap.size) (hlen : gs.length ≤ 9223372036854775807) (sg od nu de : Int) (cut : Int) (hok : ¬ szOk gs sg od nu de) :
    Calls Try.prog 6 #[.slice A gs.length c, .agg #[.int .i64 sg, .int .i64 od, .int .i64 nu, .int .i64 de], .int .i64 cut] w fun e w' => e = .returned (.bool true) ∧ Kept w w' := by
  have hsz := fun w h => Lib.hid (sizes_bad A gs c sg od nu de w hlen h hok)
  have H := Lib.hid h; clear h hok
  go_enter Try.func6, Try.ntmps6
  go_wp2_with (fail)
  refine (hsz _ ?_).out.mono ?_
  · have h1 := GAt.below H.out ((Kept.refl w).alloc (Nat.le_refl _) (.cells #[.int .i64 sg, .int .i64 od, .int .i64 nu, .int .i64 de] 47))
    intro hn
    obtain ⟨b, o, e1, hb, hc⟩ := h1 hn
    exact ⟨b, o, e1, by simp; omega, hc⟩
  rintro e w3 ⟨c2, hc2, rfl, k3⟩
  have hc2b : (c2 != 0) = true := by simpa using hc2
  clear hc2
  go_wp2_with (fail)
  refine (num_any _ _).mono ?_
  rintro e w4 ⟨rfl, rfl⟩
  go_wp2_with (fail)
  refine (live_any _).mono ?_
  rintro e w5 ⟨rfl, k5⟩
  go_wp2_with (fail)
  go_ret
  exact ⟨rfl, Kept.trans ((Kept.refl w).alloc (Nat.le_refl _) _) (Kept.trans k3 k5)⟩

set_option maxRecDepth 100000 in
set_option maxHeartbeats 8000000 in
theorem fair_good (w : World) (A : Option Addr) (gs : List Gl) (c : Nat) (h : GAt w A gs w.heap.size) (hlen : gs.length ≤ 9223372036854775807) (hcap : gs.length ≤ c) (sg od nu de : Int) (cut : Int) (hok : szOk gs sg od nu de) :
    Calls Try.prog 6 #[.slice A gs.length c, .agg #[.int .i64 sg, .int .i64 od, .int .i64 nu, .int .i64 de], .int .i64 cut] w fun e w' => e = .returned (.bool true) ∧ Kept w w' := by
  have hsz := fun w h => Lib.hid (sizes_good A gs c sg od nu de w h hok)
  have H := Lib.hid h; clear h
  have Hok := Lib.hid hok
  obtain ⟨⟨hr, hsg, hod, hnu, hde, hd1⟩, _⟩ := hok
  obtain ⟨hl, hall⟩ := row_ok hr
  have Hall := Lib.hid hall; clear hall
  obtain ⟨m0, m1⟩ := inB_yes hnu
  obtain ⟨d0, d1⟩ := inB_yes hde
  have Hd1 := Lib.hid hd1
  clear hr hnu hde hd1
  have hbx := Lib.hid (made1 w (.cells #[.int .i64 sg, .int .i64 od, .int .i64 nu, .int .i64 de] 47))
  have Hsg := Lib.hid hsg; clear hsg
  go_enter Try.func6, Try.ntmps6
  go_wp2_with (fail)
  refine (hsz _ ?_).out.mono ?_
  · have h1 := GAt.below H.out ((Kept.refl w).alloc (Nat.le_refl _) (.cells #[.int .i64 sg, .int .i64 od, .int .i64 nu, .int .i64 de] 47))
    intro hn
    obtain ⟨b, o, e1, hb, hc⟩ := h1 hn
    exact ⟨b, o, e1, by simp; omega, hc⟩
  rintro e w2 ⟨bs, rfl, hbb, hrow, k2⟩
  have Hrow := Lib.hid hrow; clear hrow
  have hbx2 := Lib.hid ((k2.block w.heap.size (by simp)).trans hbx.out)
  have hwl : w.heap.size < w2.heap.size := by have := k2.size; simp at this; omega
  have k02 : Kept w w2 := Kept.trans ((Kept.refl w).alloc (Nat.le_refl _) _) k2
  clear k2 hbb
  go_wp2_with (fail)
  refine (num_any _ _).mono ?_
  rintro e w4 ⟨rfl, rfl⟩
  have hnn : ((gs.length : Int) != (gs.length : Int)) = false := by simp
  go_wp2_with (fail)
  go_loopw [9] (fun i wr => FairAt gs w2 i wr) (fun i _ => gs.length - (intOf i).toNat)
  case atStart => exact ⟨0, Nat.zero_le _, rfl, Kept.refl _⟩
  case round =>
    obtain ⟨k, hk, rfl, hkept⟩ := hrel
    by_cases hlt : k < gs.length
    · obtain ⟨b, o, rfl, hb, hc⟩ := (GAt.below H.out (k02.trans hkept)) (by omega)
      obtain ⟨c0, c1, c2, c3, c4⟩ := hc k hlt
      clear hc
      have hz := (Hrow.out.of_block (hkept.block bs Hrow.out.lt)).cell (i := k) hlt
      obtain ⟨y0, y1, y2, y3⟩ := box_four hbx2.out (hkept.block w.heap.size hwl)
      rw [off_size hlt] at hz
      obtain ⟨n0, s0, h0, _, _⟩ := ok_parts ((List.all_eq_true.1 Hall.out) gs[k] (List.getElem_mem hlt))
      obtain ⟨f0, f1⟩ := off_bd sg od nu de gs k
      have Hz := Lib.hid (fun h => off_zero (nu := nu) (de := de) hlt h : sOf sg od gs[k] = 0 → offAt sg od nu de gs k = 0)
      have Hf := Lib.hid (fun h => off_fair hlt Hok.out h : sg ≠ 0 → offAt sg od nu de gs k * de - nu * sOf sg od gs[k] ≤ de ∧ nu * sOf sg od gs[k] - offAt sg od nu de gs k * de ≤ de)
      generalize offAt sg od nu de gs k = off at *
      have eS : sOf sg od gs[k] = if sg = 2 then -fsz sg od gs[k] else fsz sg od gs[k] := rfl
      unfold fsz ofOrder at eS
      generalize sOf sg od gs[k] = S at *
      generalize gs[k].st = st at *
      generalize gs[k].sh = sh at *
      generalize gs[k].so = so at *
      generalize gs[k].ho = ho at *
      generalize gs[k].nat = gn at *
      have hwr : w.heap.size < wr.heap.size := by have := hkept.size; omega
      have hgo : gn + off - gn = off := by omega
      rcases Hsg.out with rfl | rfl | rfl
      · obtain rfl : off = 0 := Hz.out (by rw [eS]; simp)
        clear eS Hz Hf
        go_wp2_with (fail)
        go_quiet (fail)
        go_wp2_with (fail)
        go_quiet (fail)
        go_wp2_with (fail)
        go_quiet (fail)
        go_wp2_with (fail)
        go_roundw
        case rel => exact ⟨k + 1, by omega, by go_num, below_drewN hkept _⟩
        case measure => simp [intOf]; omega
      · by_cases ho : so = od
        · have hob : (so == od) = true := by simpa using ho
          have eS2 : S = st := by rw [eS]; simp [ho]
          clear eS ho
          subst eS2
          by_cases hS0 : S = 0
          · obtain rfl : off = 0 := Hz.out hS0
            subst hS0
            clear Hz Hf
            go_wp2_with (fail)
            go_quiet (fail)
            go_wp2_with (fail)
            go_quiet (fail)
            go_wp2_with (fail)
            go_quiet (fail)
            go_wp2_with (fail)
            go_roundw
            case rel => exact ⟨k + 1, by omega, by go_num, below_drewN hkept _⟩
            case measure => simp [intOf]; omega
          · have hSb : (S == 0) = false := by simpa using hS0
            have hSn : (S != 0) = true := by simpa using hS0
            clear hS0
            have hsm := fun w => Lib.hid (small_any 1 od nu de w)
            have hs2 := fun w => Lib.hid (small2_any S w)
            obtain ⟨g1, g2⟩ := Hf.out (by decide)
            clear Hf Hz
            cases hb1 : smallB nu de
            · rw [hb1] at hsm
              clear hb1 g1 g2
              go_wp2_with (fail)
              go_quiet (fail)
              go_wp2_with (fail)
              go_quiet (fail)
              go_wp2_with (fail)
              go_quiet (fail)
              go_wp2_with (fail)
              refine (hsm _).out.mono ?_
              rintro e w5 ⟨rfl, k5⟩
              obtain ⟨bc, bf⟩ := bcell k5
              have y2' : w5.cell? ⟨w.heap.size, 2, none⟩ = some (.int .i64 nu) := by rw [bc _ _ (by simp; omega)]; simpa using y2
              have y3' : w5.cell? ⟨w.heap.size, 3, none⟩ = some (.int .i64 de) := by rw [bc _ _ (by simp; omega)]; simpa using y3
              clear bc bf
              go_wp2_with (fail)
              go_roundw
              case rel => exact ⟨k + 1, by omega, by go_num, Kept.trans (below_drewN hkept _) k5⟩
              case measure => simp [intOf]; omega
            · cases hb2 : small2B S
              · rw [hb1] at hsm
                rw [hb2] at hs2
                clear hb1 hb2 g1 g2
                go_wp2_with (fail)
                go_quiet (fail)
                go_wp2_with (fail)
                go_quiet (fail)
                go_wp2_with (fail)
                go_quiet (fail)
                go_wp2_with (fail)
                refine (hsm _).out.mono ?_
                rintro e w5 ⟨rfl, k5⟩
                obtain ⟨bc, bf⟩ := bcell k5
                have y2' : w5.cell? ⟨w.heap.size, 2, none⟩ = some (.int .i64 nu) := by rw [bc _ _ (by simp; omega)]; simpa using y2
                have y3' : w5.cell? ⟨w.heap.size, 3, none⟩ = some (.int .i64 de) := by rw [bc _ _ (by simp; omega)]; simpa using y3
                clear bc bf
                go_wp2_with (fail)
                refine (hs2 _).out.mono ?_
                rintro e w6 ⟨rfl, rfl⟩
                go_wp2_with (fail)
                go_roundw
                case rel => exact ⟨k + 1, by omega, by go_num, Kept.trans (below_drewN hkept _) k5⟩
                case measure => simp [intOf]; omega
              · have hp := small_prod (nu := nu) (s := S) (by simp [smallB] at hb1; omega) (by simp [small2B] at hb2; omega)
                have hd2 : de < 1073741824 := by simp [smallB] at hb1; omega
                have hdpos : 1 ≤ de := Hd1.out (by decide)
                rw [hb1] at hsm
                rw [hb2] at hs2
                clear hb1 hb2
                have p0 : -2305843009213693952 ≤ off * de := by omega
                have p1 : off * de ≤ 2305843009213693952 := by omega
                obtain ⟨p2, p3⟩ := hp
                go_wp2_with (fail)
                go_quiet (fail)
                go_wp2_with (fail)
                go_quiet (fail)
                go_wp2_with (fail)
                go_quiet (fail)
                go_wp2_with (fail)
                refine (hsm _).out.mono ?_
                rintro e w5 ⟨rfl, k5⟩
                obtain ⟨bc, bf⟩ := bcell k5
                have y2' : w5.cell? ⟨w.heap.size, 2, none⟩ = some (.int .i64 nu) := by rw [bc _ _ (by simp; omega)]; simpa using y2
                have y3' : w5.cell? ⟨w.heap.size, 3, none⟩ = some (.int .i64 de) := by rw [bc _ _ (by simp; omega)]; simpa using y3
                clear bc bf
                go_wp2_with (fail)
                refine (hs2 _).out.mono ?_
                rintro e w6 ⟨rfl, rfl⟩
                go_wp2_with (fail)
                go_roundw
                case rel => exact ⟨k + 1, by omega, by go_num, Kept.trans (below_drewN hkept _) k5⟩
                case measure => simp [intOf]; omega
        · have hob : (so == od) = false := by simpa using ho
          obtain rfl : off = 0 := Hz.out (by rw [eS]; simp [ho])
          clear eS Hz Hf ho
          go_wp2_with (fail)
          go_quiet (fail)
          go_wp2_with (fail)
          go_quiet (fail)
          go_wp2_with (fail)
          go_quiet (fail)
          go_wp2_with (fail)
          go_roundw
          case rel => exact ⟨k + 1, by omega, by go_num, below_drewN hkept _⟩
          case measure => simp [intOf]; omega
      · by_cases hoo : ho = od
        · have hob : (ho == od) = true := by simpa using hoo
          have eS2 : -sh = S := by rw [eS]; simp [hoo]
          clear eS hoo
          by_cases hS0 : S = 0
          · obtain rfl : off = 0 := Hz.out hS0
            obtain rfl : sh = 0 := by omega
            clear Hz Hf eS2 hS0
            go_wp2_with (fail)
            go_quiet (fail)
            go_wp2_with (fail)
            go_quiet (fail)
            go_wp2_with (fail)
            go_quiet (fail)
            go_wp2_with (fail)
            go_roundw
            case rel => exact ⟨k + 1, by omega, by go_num, below_drewN hkept _⟩
            case measure => simp [intOf]; omega
          · have hSb : (S == 0) = false := by simpa using hS0
            have hSn : (S != 0) = true := by simpa using hS0
            clear hS0
            have hsm := fun w => Lib.hid (small_any 2 od nu de w)
            have hs2 := fun w => Lib.hid (small2_any S w)
            obtain ⟨g1, g2⟩ := Hf.out (by decide)
            clear Hf Hz
            cases hb1 : smallB nu de
            · rw [hb1] at hsm
              clear hb1 g1 g2
              go_wp2_with (fail)
              go_quiet (fail)
              go_wp2_with (fail)
              go_quiet (fail)
              go_wp2_with (fail)
              go_quiet (fail)
              go_wp2_with (fail)
              refine (hsm _).out.mono ?_
              rintro e w5 ⟨rfl, k5⟩
              obtain ⟨bc, bf⟩ := bcell k5
              have y2' : w5.cell? ⟨w.heap.size, 2, none⟩ = some (.int .i64 nu) := by rw [bc _ _ (by simp; omega)]; simpa using y2
              have y3' : w5.cell? ⟨w.heap.size, 3, none⟩ = some (.int .i64 de) := by rw [bc _ _ (by simp; omega)]; simpa using y3
              clear bc bf
              go_wp2_with (fail)
              go_roundw
              case rel => exact ⟨k + 1, by omega, by go_num, Kept.trans (below_drewN hkept _) k5⟩
              case measure => simp [intOf]; omega
            · cases hb2 : small2B S
              · rw [hb1] at hsm
                rw [hb2] at hs2
                clear hb1 hb2 g1 g2
                go_wp2_with (fail)
                go_quiet (fail)
                go_wp2_with (fail)
                go_quiet (fail)
                go_wp2_with (fail)
                go_quiet (fail)
                go_wp2_with (fail)
                refine (hsm _).out.mono ?_
                rintro e w5 ⟨rfl, k5⟩
                obtain ⟨bc, bf⟩ := bcell k5
                have y2' : w5.cell? ⟨w.heap.size, 2, none⟩ = some (.int .i64 nu) := by rw [bc _ _ (by simp; omega)]; simpa using y2
                have y3' : w5.cell? ⟨w.heap.size, 3, none⟩ = some (.int .i64 de) := by rw [bc _ _ (by simp; omega)]; simpa using y3
                clear bc bf
                go_wp2_with (fail)
                refine (hs2 _).out.mono ?_
                rintro e w6 ⟨rfl, rfl⟩
                go_wp2_with (fail)
                go_roundw
                case rel => exact ⟨k + 1, by omega, by go_num, Kept.trans (below_drewN hkept _) k5⟩
                case measure => simp [intOf]; omega
              · have hp := small_prod (nu := nu) (s := S) (by simp [smallB] at hb1; omega) (by simp [small2B] at hb2; omega)
                have hd2 : de < 1073741824 := by simp [smallB] at hb1; omega
                have hdpos : 1 ≤ de := Hd1.out (by decide)
                rw [hb1] at hsm
                rw [hb2] at hs2
                clear hb1 hb2
                have p0 : -2305843009213693952 ≤ off * de := by omega
                have p1 : off * de ≤ 2305843009213693952 := by omega
                obtain ⟨p2, p3⟩ := hp
                go_wp2_with (fail)
                go_quiet (fail)
                go_wp2_with (fail)
                go_quiet (fail)
                go_wp2_with (fail)
                go_quiet (fail)
                go_wp2_with (fail)
                refine (hsm _).out.mono ?_
                rintro e w5 ⟨rfl, k5⟩
                obtain ⟨bc, bf⟩ := bcell k5
                have y2' : w5.cell? ⟨w.heap.size, 2, none⟩ = some (.int .i64 nu) := by rw [bc _ _ (by simp; omega)]; simpa using y2
                have y3' : w5.cell? ⟨w.heap.size, 3, none⟩ = some (.int .i64 de) := by rw [bc _ _ (by simp; omega)]; simpa using y3
                clear bc bf
                go_wp2_with (fail)
                refine (hs2 _).out.mono ?_
                rintro e w6 ⟨rfl, rfl⟩
                go_wp2_with (fail)
                go_roundw
                case rel => exact ⟨k + 1, by omega, by go_num, Kept.trans (below_drewN hkept _) k5⟩
                case measure => simp [intOf]; omega
        · have hob : (ho == od) = false := by simpa using hoo
          obtain rfl : off = 0 := Hz.out (by rw [eS]; simp [hoo])
          clear eS Hz Hf hoo
          go_wp2_with (fail)
          go_quiet (fail)
          go_wp2_with (fail)
          go_quiet (fail)
          go_wp2_with (fail)
          go_quiet (fail)
          go_wp2_with (fail)
          go_roundw
          case rel => exact ⟨k + 1, by omega, by go_num, below_drewN hkept _⟩
          case measure => simp [intOf]; omega
    · have hke : k = gs.length := by omega
      subst hke
      have kwr : Kept w wr := Kept.trans k02 hkept
      by_cases hc0 : cut < 0
      · go_wp2_with (fail)
        refine (live_any _).mono ?_
        rintro e w5 ⟨rfl, k5⟩
        go_wp2_with (fail)
        go_ret
        exact ⟨rfl, Kept.trans kwr k5⟩
      · by_cases hc1 : (gs.length : Int) < cut
        · go_wp2_with (fail)
          refine (live_any _).mono ?_
          rintro e w5 ⟨rfl, k5⟩
          go_wp2_with (fail)
          go_ret
          exact ⟨rfl, Kept.trans kwr k5⟩
        · obtain ⟨m, rfl⟩ : ∃ m : Nat, cut = (m : Int) := ⟨cut.toNat, by omega⟩
          have hmn : m ≤ gs.length := by omega
          have hlm : (gs.take m).length = m := by rw [List.length_take]; omega
          have hsz2 := fun w' (hk : Kept w w') => Lib.hid (sizes_good A (gs.take m) c sg od nu de w' (((GAt.below H.out hk).take m).more hk.size) (take_szOk Hok.out m hmn))
          rw [hlm] at hsz2
          have hin : ∀ b2 w', IAt w' (some ⟨b2, 0, none⟩) (szL sg od nu de (gs.take m)) w'.heap.size → IAt w' (some ⟨bs, 0, none⟩) ((szL sg od nu de gs).take m) w'.heap.size →
              Hid (Calls Try.prog 20 #[.slice (some ⟨b2, 0, none⟩) m m, .slice (some ⟨bs, 0, none⟩) m gs.length] w' fun e w'' => e = .returned (.bool true) ∧ Kept w' w'') := by
            intro b2 w' h1 h2
            have e1 : (szL sg od nu de (gs.take m)).length = m := by rw [szL_len, hlm]
            have e2 : ((szL sg od nu de gs).take m).length = m := by rw [← take_szL hmn, e1]
            have := ints_any (some ⟨b2, 0, none⟩) (some ⟨bs, 0, none⟩) _ _ m gs.length w' (by rw [e1]; omega) (by rw [e2]; omega) h1 h2
            rw [e1, e2, take_szL hmn, decide_eq_true rfl] at this
            exact Lib.hid this
          obtain ⟨y0, y1, y2, y3⟩ := box_four hbx2.out (hkept.block w.heap.size hwl)
          have Hlm := Lib.hid hlm; clear hlm
          have hmc : m ≤ c := by omega
          go_wp2_with (fail)
          go_region_held3 (fun w' => w'.cell? ⟨w.heap.size, 0, none⟩ = some (.int .i64 sg) ∧ w'.cell? ⟨w.heap.size, 1, none⟩ = some (.int .i64 od) ∧ w'.cell? ⟨w.heap.size, 2, none⟩ = some (.int .i64 nu) ∧ w'.cell? ⟨w.heap.size, 3, none⟩ = some (.int .i64 de) ∧ Kept w w' ∧ Kept w2 w') (first | (refine ⟨?_, ?_, ?_, ?_, ?_, ?_⟩ <;> first | assumption | exact Below.drew kwr | exact Below.drew hkept | go_keep) | assumption | exact Below.drew kwr | exact Below.drew hkept | go_keep) (first | (go_at_call 16; refine (hsz2 _ (Below.drew kwr)).out.mono ?_; rintro e w5 ⟨b2, rfl, hb2, hrow2, k5⟩; have Hrow2 := Lib.hid hrow2; clear hrow2; have kq : Kept w w5 := Kept.trans (Below.drew kwr) k5; have kq2 : Kept w2 w5 := Kept.trans (Below.drew hkept) k5; obtain ⟨q0, q1, q2, q3⟩ := box_four hbx2.out (kq2.block w.heap.size hwl)))
          all_goals go_wp2_with (fail)
          refine (num_any _ _).mono ?_
          rintro e w6 ⟨rfl, rfl⟩
          go_wp2_with (fail)
          refine (hin _ _ ?_ ?_).out.mono ?_
          · exact sizes_read2 Hrow2.out Hlm.out
          · exact ((sizes_read2 (Hrow.out.of_block (kq2.block bs Hrow.out.lt)) rfl)).take m
          rintro e w7 ⟨rfl, k7⟩
          go_wp2_with (fail)
          refine (live_any _).mono ?_
          rintro e w8 ⟨rfl, k8⟩
          go_wp2_with (fail)
          go_ret
          exact ⟨rfl, Kept.trans kq (Kept.trans k7 k8)⟩

theorem glueFair_walk (w : World) (A : Option Addr) (gs : List Gl) (c : Nat) (h : GAt w A gs w.heap.size) (hlen : gs.length ≤ 9223372036854775807) (hcap : gs.length ≤ c) (sg od nu de : Int) (cut : Int) :
    Calls Try.prog 6 #[.slice A gs.length c, .agg #[.int .i64 sg, .int .i64 od, .int .i64 nu, .int .i64 de], .int .i64 cut] w fun e w' => e = .returned (.bool true) ∧ Kept w w' := by
  by_cases hok : szOk gs sg od nu de
  · exact fair_good w A gs c h hlen hcap sg od nu de cut hok
  · exact fair_bad w A gs c h hlen sg od nu de cut hok
end Go.Proofs.Ytcikgaflnhpklaa
