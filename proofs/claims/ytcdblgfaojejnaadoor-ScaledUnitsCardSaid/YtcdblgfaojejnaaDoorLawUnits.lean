/- The walk of galleylaw01.ScaledUnits. -/
import Derived.Test.YtcdblgfaojejnaaDoorUnitText
import Derived.Test.YtcdblgfaojejnaaDoorPad
import Derived.Test.YtcdblgfaojejnaaDoorKnows
import Derived.Test.YtcdblgfaojejnaaDoorLaidUnits
import Derived.Test.YtcdblgfaojejnaaDoorRefDimen
namespace Go.Proofs.YtcdblgfaojejnaaDoor
open Go.RowKit

/-- the units, the greatest first -/
def uOrd (k : Nat) : Un := ([⟨[105, 110], 7227, 100⟩, ⟨[99, 109], 7227, 254⟩, ⟨[99, 99], 14856, 1157⟩, ⟨[112, 99], 12, 1⟩, ⟨[109, 109], 7227, 2540⟩, ⟨[100, 100], 1238, 1157⟩, ⟨[98, 112], 7227, 7200⟩, ⟨[112, 116], 1, 1⟩] : List Un).getD k ⟨[112, 116], 1, 1⟩
theorem uOrd_mem (k : Nat) (h : k < 8) : uOrd k ∈ unitL ∧ 1 ≤ (uOrd k).d ∧ 0 ≤ (uOrd k).n ∧ (uOrd k).n ≤ 14856 := by
  have h' : k = 0 ∨ k = 1 ∨ k = 2 ∨ k = 3 ∨ k = 4 ∨ k = 5 ∨ k = 6 ∨ k = 7 := by omega
  rcases h' with rfl | rfl | rfl | rfl | rfl | rfl | rfl | rfl <;> exact ⟨by simp [uOrd, unitL], by decide, by decide, by decide⟩
theorem uOrd_next (k : Nat) (h : k < 7) : (uOrd (k + 1)).n * (uOrd k).d ≤ (uOrd k).n * (uOrd (k + 1)).d := by
  have h' : k = 0 ∨ k = 1 ∨ k = 2 ∨ k = 3 ∨ k = 4 ∨ k = 5 ∨ k = 6 := by omega
  rcases h' with rfl | rfl | rfl | rfl | rfl | rfl | rfl <;> decide
def uSize (S : Int) (k : Nat) : Int := (uOrd k).n * S / (uOrd k).d
theorem uSize_next {S : Int} (hS : 0 ≤ S) (k : Nat) (h : k < 7) : uSize S (k + 1) ≤ uSize S k :=
  ratio_mono hS (by have := (uOrd_mem k (by omega)).2.1; omega) (by have := (uOrd_mem (k + 1) (by omega)).2.1; omega) (uOrd_mem (k + 1) (by omega)).2.2.1 (uOrd_next k h)
theorem uSize_nonneg {S : Int} (hS : 0 ≤ S) (k : Nat) (h : k < 8) : 0 ≤ uSize S k := by
  have := uOrd_mem k h
  exact Int.ediv_nonneg (Int.mul_nonneg this.2.2.1 hS) (by omega)

/-- what the loop knows: the last answer is the greatest dimension, or the unit's before -/
def LastOk (S : Int) (k : Nat) (last : Int) : Prop := 0 ≤ last ∧ last ≤ 1073741823 ∧ (last = 1073741823 ∨ (1 ≤ k ∧ uSize S (k - 1) = last))
theorem LastOk.big {S last : Int} {k : Nat} (h : LastOk S k last) (hS : 0 ≤ S) (hk : k < 8) (hb : 1073741823 < uSize S k) : last = 1073741823 := by
  obtain ⟨h0, h1, h2⟩ := h
  rcases h2 with h2 | ⟨h2, h3⟩
  · exact h2
  · have := uSize_next hS (k - 1) (by omega)
    rw [show k - 1 + 1 = k from by omega] at this
    omega
theorem LastOk.small {S last : Int} {k : Nat} (h : LastOk S k last) (hS : 0 ≤ S) (hk : k < 8) (hb : ¬ 1073741823 < uSize S k) : uSize S k ≤ last := by
  obtain ⟨h0, h1, h2⟩ := h
  rcases h2 with h2 | ⟨h2, h3⟩
  · omega
  · have := uSize_next hS (k - 1) (by omega)
    rw [show k - 1 + 1 = k from by omega] at this
    omega

theorem txt_join (D P u : List UInt8) : (⟨(D ++ 46 :: P).toArray⟩ : ByteArray) ++ bmk u = bmk (D ++ 46 :: (P ++ u)) := by
  apply WideShapes.bytes_inj
  simp [bmk]

set_option maxHeartbeats 8000000 in
set_option maxRecDepth 100000 in
set_option linter.unusedVariables false in
theorem scaledUnits_walk (wh : Int) (w0 : (Lit.int .i64 wh).wf = true) (f : Int) (w1 : (Lit.int .i64 f).wf = true) (w : World) (ht : Tabs w) (hu : UnitsIs w) :
    Calls Tryd.prog 10 #[.int .i64 wh, .int .i64 f] w fun e w' => e = .returned (.bool true) ∧ Kept w w' := by
  clear w0 w1
  have HT := Lib.hid ht
  have HU := Lib.hid hu
  clear ht hu
  generalize hx : wh.tmod 20000 = x
  generalize hy : f.tmod 100000 = y
  have hxb : -19999 ≤ x ∧ x ≤ 19999 := by
    have h2 : (wh.tmod 20000).natAbs < 20000 := by rw [Int.natAbs_tmod]; exact Nat.mod_lt _ (by decide)
    omega
  have hyb : -99999 ≤ y ∧ y ≤ 99999 := by
    have h2 : (f.tmod 100000).natAbs < 100000 := by rw [Int.natAbs_tmod]; exact Nat.mod_lt _ (by decide)
    omega
  obtain ⟨x0, x1⟩ := hxb
  obtain ⟨y0, y1⟩ := hyb
  obtain ⟨m, hm⟩ : ∃ m : Nat, x % 20000 = (m : Int) := ⟨(x % 20000).toNat, by omega⟩
  obtain ⟨n, hn⟩ : ∃ n : Nat, y % 100000 = (n : Int) := ⟨(y % 100000).toNat, by omega⟩
  have m1 : m < 20000 := by omega
  have n1 : n < 100000 := by omega
  have Hnum := fun w => Lib.hid (number_nat m (by omega) w)
  have Hpad := fun w => Lib.hid (padded_any n 5 w (by omega) (by omega))
  have hDd := Lib.hid (dec_dig m)
  have hPd := Lib.hid (padL_dig n 5)
  have hDp := Lib.hid (dec_pos m)
  have hDl := dec_len m
  have hPl : (padL n 5).length ≤ n + 10 := by
    unfold padL; rw [List.length_append, List.length_replicate]; have := dec_len n; omega
  generalize Lib.decDigits m = D at *
  generalize padL n 5 = P at *
  go_enter Tryd.func10, Tryd.ntmps10
  go_wp2_with (fail)
  refine (Hnum _).out.mono ?_
  rintro e u1 ⟨rfl, k1⟩
  go_wp2_with (fail)
  refine (Hpad _).out.mono ?_
  rintro e u2 ⟨rfl, k2⟩
  have K2 := Lib.hid (k1.trans k2)
  have hT : (⟨D.toArray⟩ : ByteArray) ++ ⟨#[46]⟩ ++ ⟨P.toArray⟩ = bmk (D ++ 46 :: P) := WideShapes.bytes_inj (by simp [bmk])
  have HT2 := Lib.hid hT
  obtain ⟨T, hTT⟩ : ∃ T, T = bmk (D ++ 46 :: P) := ⟨_, rfl⟩
  have hTl : T.data.toList = D ++ 46 :: P := by rw [hTT]; rfl
  have hTs : T.size ≤ 200000 := by rw [Lib.size_eq, hTl]; simp; omega
  have HTT := Lib.hid hTT
  have HTl := Lib.hid hTl
  obtain ⟨pv, pe⟩ := parse_text hDd.out hDp.out hPd.out
  have Hparse := Lib.hid (fun w => parse_any T w (by omega))
  rw [hTl, pv, pe] at Hparse
  have hS0 : 0 ≤ sizeDP D P ∧ sizeDP D P ≤ 140737488420864 := by
    have a := wholeN_bd D hDd.out
    have b := fracN_bd P hPd.out
    unfold sizeDP; omega
  -- each unit's answers
  have hdim : ∀ k, k < 8 → ∀ w, UnitsIs w → (Calls Tryd.prog 28 #[.string (T ++ bmk (uOrd k).name)] w fun e w' => e = .returned (.tuple #[.int .i64 (dimV (uSize (sizeDP D P) k)), .int .i64 (dimE (uSize (sizeDP D P) k))]) ∧ Kept w w') ∧
      (Calls Tryd.prog 28 #[.string ((⟨#[45]⟩ : ByteArray) ++ T ++ bmk (uOrd k).name)] w fun e w' => e = .returned (.tuple #[.int .i64 (dimV (-uSize (sizeDP D P) k)), .int .i64 (dimE (uSize (sizeDP D P) k))]) ∧ Kept w w') := by
    intro k hk w hu
    obtain ⟨hmem, hd1, _, _⟩ := uOrd_mem k hk
    obtain ⟨⟨v1, e1⟩, v2, e2⟩ := dimen_text hDd.out hDp.out hPd.out hmem (by omega)
    have hn2 : (uOrd k).name.length = 2 := unit_two _ hmem
    have hj : T ++ bmk (uOrd k).name = bmk (D ++ 46 :: (P ++ (uOrd k).name)) := by rw [hTT]; exact txt_join D P _
    have hj2 : (⟨#[45]⟩ : ByteArray) ++ T ++ bmk (uOrd k).name = bmk (45 :: (D ++ 46 :: (P ++ (uOrd k).name))) := by
      rw [hTT]; apply WideShapes.bytes_inj; simp [bmk]
    have hl1 : (bmk (D ++ 46 :: (P ++ (uOrd k).name))).size ≤ 9223372036854775807 := by rw [bmk_size]; simp; omega
    have hl2 : (bmk (45 :: (D ++ 46 :: (P ++ (uOrd k).name)))).size ≤ 9223372036854775807 := by rw [bmk_size]; simp; omega
    have a := dimen_text_any _ w hl1 hu
    have b := dimen_text_any _ w hl2 hu
    rw [bmk_list, v1, e1, ← hj] at a
    rw [bmk_list, v2, e2, ← hj2] at b
    exact ⟨a, b⟩
  have hpt : uSize (sizeDP D P) 7 = sizeDP D P := by
    show 1 * sizeDP D P / 1 = _
    rw [Int.one_mul, Int.ediv_one]
  have Hpt := Lib.hid (fun w hu => (hdim 7 (by omega) w hu).1)
  rw [hpt] at Hpt
  have Hdim := Lib.hid hdim
  obtain ⟨S, hS⟩ : ∃ S, sizeDP D P = S := ⟨_, rfl⟩
  rw [hS] at hS0 Hdim Hpt Hparse
  obtain ⟨S0, S1⟩ := hS0
  rw [← hTT] at hT
  rw [show bmk (uOrd 7).name = ⟨#[112, 116]⟩ from rfl] at Hpt
  clear hTT hTl pv pe hdim hpt hS k1 k2
  go_wp2_with (fail)
  refine (Hparse.out _).mono ?_
  rintro e u3 ⟨rfl, k3⟩
  have K3 := Lib.hid (K2.out.trans k3)
  clear k3
  go_wp2_with (fail)
  refine (Hpt.out _ (HU.out.kept K3.out)).mono ?_
  rintro e u4 ⟨rfl, k4⟩
  have K4 := Lib.hid (K3.out.trans k4)
  clear k4
  go_wp2_with (first | (go_at_call 20; refine (num_any _ _).mono ?_; rintro e w' ⟨rfl, rfl⟩) | (go_at_call 21; refine (knows_any _ (HT.out.kept K4.out)).mono ?_; rintro e u5 ⟨rfl, k5⟩))
  have K5 := Lib.hid (K4.out.trans k5)
  clear k5
  obtain ⟨B, hB⟩ : ∃ B, u5.heap.size = B := ⟨_, rfl⟩
  have hcells : ∀ k, k < 8 → ∀ X, X = u5.alloc (.cells #[.string ⟨#[105, 110]⟩, .string ⟨#[99, 109]⟩, .string ⟨#[99, 99]⟩, .string ⟨#[112, 99]⟩, .string ⟨#[109, 109]⟩, .string ⟨#[100, 100]⟩, .string ⟨#[98, 112]⟩, .string ⟨#[112, 116]⟩] 9) → X.cell? ⟨B, k, none⟩ = some (.string (bmk (uOrd k).name)) := by
    intro k hk X hX
    have hh : X.heap[B]? = some (.cells #[.string ⟨#[105, 110]⟩, .string ⟨#[99, 109]⟩, .string ⟨#[99, 99]⟩, .string ⟨#[112, 99]⟩, .string ⟨#[109, 109]⟩, .string ⟨#[100, 100]⟩, .string ⟨#[98, 112]⟩, .string ⟨#[112, 116]⟩] 9 (0, 0)) := by
      rw [hX, ← hB]; simp only [World.alloc, Array.getElem?_push_size]
    rw [Lib.cell_of_heap hh]
    have h' : k = 0 ∨ k = 1 ∨ k = 2 ∨ k = 3 ∨ k = 4 ∨ k = 5 ∨ k = 6 ∨ k = 7 := by omega
    rcases h' with rfl | rfl | rfl | rfl | rfl | rfl | rfl | rfl <;> rfl
  have K6 : Kept u5 (u5.alloc (.cells #[.string ⟨#[105, 110]⟩, .string ⟨#[99, 109]⟩, .string ⟨#[99, 99]⟩, .string ⟨#[112, 99]⟩, .string ⟨#[109, 109]⟩, .string ⟨#[100, 100]⟩, .string ⟨#[98, 112]⟩, .string ⟨#[112, 116]⟩] 9)) := (Below.refl _ _).alloc (Nat.le_refl _) _
  have hBs : u5.heap.size < (u5.alloc (.cells #[.string ⟨#[105, 110]⟩, .string ⟨#[99, 109]⟩, .string ⟨#[99, 99]⟩, .string ⟨#[112, 99]⟩, .string ⟨#[109, 109]⟩, .string ⟨#[100, 100]⟩, .string ⟨#[98, 112]⟩, .string ⟨#[112, 116]⟩] 9)).heap.size := by simp
  rw [hB]
  generalize hW6 : u5.alloc (.cells #[.string ⟨#[105, 110]⟩, .string ⟨#[99, 109]⟩, .string ⟨#[99, 99]⟩, .string ⟨#[112, 99]⟩, .string ⟨#[109, 109]⟩, .string ⟨#[100, 100]⟩, .string ⟨#[98, 112]⟩, .string ⟨#[112, 116]⟩] 9) = W6
  rw [hW6] at K6 hBs
  have hc6 := Lib.hid (fun k hk => hcells k hk W6 hW6.symm)
  rw [hB] at hBs
  have HK6 := Lib.hid (K5.out.trans K6)
  have HB := Lib.hid hBs
  clear hcells hW6 K6 hB hBs hT hm hn hx hy
  go_loopw [11, 12] (fun la i wr => ∃ (k : Nat) (last : Int), k ≤ 8 ∧ i = .int .i64 k ∧ la = .int .i64 last ∧ Hid (LastOk S k last) ∧ 0 ≤ last ∧ last ≤ 1073741823 ∧ Hid (Kept W6 wr)) (fun _ i _ => 8 - (intOf i).toNat)
  case atStart => exact ⟨0, 1073741823, by omega, rfl, rfl, Lib.hid ⟨by omega, by omega, .inl rfl⟩, by omega, by omega, Lib.hid (Kept.refl _)⟩
  case round =>
    obtain ⟨k, last, hk, rfl, rfl, hla, la0, la1, hkw⟩ := hrel
    by_cases hlt : k < 8
    · have hcell : wr.cell? ⟨B, k, none⟩ = some (.string (bmk (uOrd k).name)) := by
        rw [(bcell hkw.out).1 B k HB.out]; exact hc6.out k hlt
      have hUr : UnitsIs wr := HU.out.kept (HK6.out.trans hkw.out)
      have H1 := Lib.hid (Hdim.out k hlt wr hUr).1
      have H2 := Lib.hid (fun w hu => (Hdim.out k hlt w hu).2)
      have z0 := uSize_nonneg S0 k hlt
      have hbig := Lib.hid (hla.out.big S0 hlt)
      have hsm := Lib.hid (hla.out.small S0 hlt)
      have hn2 : (bmk (uOrd k).name).size = 2 := by rw [bmk_size]; exact unit_two _ (uOrd_mem k hlt).1
      have hn3 : (bmk (uOrd k).name).size ≤ 2 := by omega
      obtain ⟨z, hz⟩ : ∃ z, uSize S k = z := ⟨_, rfl⟩
      rw [hz] at H1 H2 z0 hbig hsm
      have Hz := Lib.hid hz
      have HUr := Lib.hid hUr
      clear hz hn2 hUr
      generalize bmk (uOrd k).name = nm at *
      by_cases hb : 1073741823 < z
      · have d1 : dimV z = 0 := by have := dim_pos_V z0 false; rw [if_pos hb] at this; exact this
        have d2 : dimV (-z) = 0 := by have := dim_pos_V z0 true; rw [if_pos hb] at this; exact this
        have d3 : dimE z = 20 := by have := dim_pos_E z0; rw [if_pos hb] at this; exact this
        rw [d1, d3] at H1
        rw [d2, d3] at H2
        obtain rfl : last = 1073741823 := hbig.out hb
        clear d1 d2 d3
        go_wp2_with (fail)
        refine H1.out.mono ?_
        rintro e u7 ⟨rfl, k7⟩
        have hcell7 : u7.cell? ⟨B, k, none⟩ = some (.string nm) := by
          rw [(bcell k7).1 B k (by have := hkw.out.size; have := HB.out; omega)]; exact hcell
        clear hcell
        go_wp2_with (fail)
        refine (H2.out u7 (HUr.out.kept k7)).mono ?_
        rintro e u8 ⟨rfl, k8⟩
        have K8 := Lib.hid (hkw.out.trans (k7.trans k8))
        clear k7 k8 hcell7
        go_wp2_with ((go_at_call 20; refine (num_any _ _).mono ?_; rintro e w' ⟨rfl, rfl⟩))
        go_roundw
        case rel => exact ⟨k + 1, 1073741823, by omega, by go_num, rfl, Lib.hid ⟨by omega, by omega, .inl rfl⟩, by omega, by omega, K8⟩
        case measure => simp [intOf]; omega
      · have d1 : dimV z = z := by have := dim_pos_V z0 false; rw [if_neg hb] at this; exact this
        have d2 : dimV (-z) = -z := by have := dim_pos_V z0 true; rw [if_neg hb] at this; exact this
        have d3 : dimE z = 0 := by have := dim_pos_E z0; rw [if_neg hb] at this; exact this
        rw [d1, d3] at H1
        rw [d2, d3] at H2
        have hle : z ≤ last := hsm.out hb
        clear d1 d2 d3
        go_wp2_with (fail)
        refine H1.out.mono ?_
        rintro e u7 ⟨rfl, k7⟩
        have hcell7 : u7.cell? ⟨B, k, none⟩ = some (.string nm) := by
          rw [(bcell k7).1 B k (by have := hkw.out.size; have := HB.out; omega)]; exact hcell
        clear hcell
        go_wp2_with (fail)
        refine (H2.out u7 (HUr.out.kept k7)).mono ?_
        rintro e u8 ⟨rfl, k8⟩
        have K8 := Lib.hid (hkw.out.trans (k7.trans k8))
        clear k7 k8 hcell7
        go_wp2_with ((go_at_call 20; refine (num_any _ _).mono ?_; rintro e w' ⟨rfl, rfl⟩))
        go_roundw
        case rel => exact ⟨k + 1, z, by omega, by go_num, rfl, Lib.hid ⟨z0, by omega, .inr ⟨by omega, Hz.out⟩⟩, z0, by omega, K8⟩
        case measure => simp [intOf]; omega
    · go_wp2
      go_ret
      exact ⟨rfl, HK6.out.trans hkw.out⟩
end Go.Proofs.YtcdblgfaojejnaaDoor
