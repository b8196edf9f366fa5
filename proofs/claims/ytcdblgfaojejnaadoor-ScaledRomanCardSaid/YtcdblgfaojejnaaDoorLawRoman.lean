/- The walk of galleylaw01.ScaledRoman. -/
import Derived.Test.YtcdblgfaojejnaaDoorRoman
import Derived.Test.YtcdblgfaojejnaaDoorReader1
import Derived.Test.YtcdblgfaojejnaaDoorKnows
import Derived.Test.YtcdblgfaojejnaaDoorLaidRomans
namespace Go.Proofs.YtcdblgfaojejnaaDoor
open Go.RowKit

theorem byte_num {c : UInt8} {k : Nat} (hk : k < 256) : c = UInt8.ofNat k ↔ (c.toNat : Int) = k := by
  rw [← UInt8.toNat_inj, UInt8.toNat_ofNat', Nat.mod_eq_of_lt hk]; omega

set_option maxHeartbeats 1000000 in
theorem worth_any (c : UInt8) (w : World) : Calls Tryd.prog 41 #[.int .u8 c.toNat] w fun e w' => e = .returned (.int .i64 (worthOf c)) ∧ w = w' := by
  have hb : c.toNat < 256 := c.toNat_lt
  have h : (c.toNat = 109 ∧ worthOf c = 1000) ∨ (c.toNat = 100 ∧ worthOf c = 500) ∨ (c.toNat = 99 ∧ worthOf c = 100) ∨ (c.toNat = 108 ∧ worthOf c = 50) ∨ (c.toNat = 120 ∧ worthOf c = 10) ∨ (c.toNat = 118 ∧ worthOf c = 5) ∨ (c.toNat = 105 ∧ worthOf c = 1) ∨
      ((c.toNat ≠ 109 ∧ c.toNat ≠ 100 ∧ c.toNat ≠ 99 ∧ c.toNat ≠ 108 ∧ c.toNat ≠ 120 ∧ c.toNat ≠ 118 ∧ c.toNat ≠ 105) ∧ worthOf c = 0) := by
    have hd : ∀ c : Fin 256, (c.val = 109 ∧ worthOf (UInt8.ofNat c.val) = 1000) ∨ (c.val = 100 ∧ worthOf (UInt8.ofNat c.val) = 500) ∨ (c.val = 99 ∧ worthOf (UInt8.ofNat c.val) = 100) ∨ (c.val = 108 ∧ worthOf (UInt8.ofNat c.val) = 50) ∨ (c.val = 120 ∧ worthOf (UInt8.ofNat c.val) = 10) ∨ (c.val = 118 ∧ worthOf (UInt8.ofNat c.val) = 5) ∨ (c.val = 105 ∧ worthOf (UInt8.ofNat c.val) = 1) ∨
      ((c.val ≠ 109 ∧ c.val ≠ 100 ∧ c.val ≠ 99 ∧ c.val ≠ 108 ∧ c.val ≠ 120 ∧ c.val ≠ 118 ∧ c.val ≠ 105) ∧ worthOf (UInt8.ofNat c.val) = 0) := by decide +kernel
    have := hd ⟨c.toNat, hb⟩
    rw [UInt8.ofNat_toNat] at this
    exact this
  generalize worthOf c = v at *
  generalize c.toNat = m at *
  rcases h with ⟨rfl, rfl⟩ | ⟨rfl, rfl⟩ | ⟨rfl, rfl⟩ | ⟨rfl, rfl⟩ | ⟨rfl, rfl⟩ | ⟨rfl, rfl⟩ | ⟨rfl, rfl⟩ | ⟨⟨h1, h2, h3, h4, h5, h6, h7⟩, rfl⟩
  all_goals
    go_enter Tryd.func41, Tryd.ntmps41
    go_wp2
    go_ret
    exact ⟨rfl, rfl⟩

theorem sumW_bd (l : List UInt8) : -(1000 * l.length : Int) ≤ sumW l ∧ sumW l ≤ 1000 * l.length := by
  induction l with
  | nil => simp [sumW]
  | cons c l ih =>
    have hc := worth_bd c
    cases l with
    | nil => simp [sumW]; omega
    | cons d r =>
      rw [sumW]
      simp only [List.length_cons] at ih ⊢
      split <;> omega
theorem drop_two {l : List UInt8} {k : Nat} {c d : UInt8} (h : l[k]? = some c) (h' : l[k + 1]? = some d) : l.drop k = c :: d :: l.drop (k + 2) ∧ l.drop (k + 1) = d :: l.drop (k + 2) := by
  have a := List.getElem?_eq_some_iff.1 h
  have b := List.getElem?_eq_some_iff.1 h'
  have e2 : l.drop (k + 1) = d :: l.drop (k + 2) := by rw [List.drop_eq_getElem_cons b.1, b.2]
  exact ⟨by rw [List.drop_eq_getElem_cons a.1, a.2, e2], e2⟩
theorem drop_one {l : List UInt8} {k : Nat} {c : UInt8} (h : l[k]? = some c) (h' : l.length ≤ k + 1) : l.drop k = [c] ∧ l.drop (k + 1) = [] := by
  have a := List.getElem?_eq_some_iff.1 h
  have e2 : l.drop (k + 1) = [] := List.drop_eq_nil_of_le h'
  exact ⟨by rw [List.drop_eq_getElem_cons a.1, a.2, e2], e2⟩

set_option maxHeartbeats 4000000 in
set_option linter.unusedVariables false in
theorem scaledRoman_walk (n : Int) (w0 : (Lit.int .i64 n).wf = true) (w : World) (ht : Tabs w) (hr : RomansIs w) :
    Calls Tryd.prog 11 #[.int .i64 n] w fun e w' => e = .returned (.bool true) ∧ Kept w w' := by
  clear w0
  have HT := Lib.hid ht
  have HR := Lib.hid hr
  clear ht hr
  have hb : -19999 ≤ n.tmod 20000 ∧ n.tmod 20000 ≤ 19999 := by
    have h2 : (n.tmod 20000).natAbs < 20000 := by rw [Int.natAbs_tmod]; exact Nat.mod_lt _ (by decide)
    omega
  generalize hx : n.tmod 20000 = x at *
  obtain ⟨x0, x1⟩ := hb
  obtain ⟨m, hm⟩ : ∃ m : Nat, 1 + x % 20000 = (m : Int) := ⟨(1 + x % 20000).toNat, by omega⟩
  have m0 : 1 ≤ m := by omega
  have m1 : m ≤ 20000 := by omega
  go_enter Tryd.func11, Tryd.ntmps11
  go_wp2_with (fail)
  first | rw [hm] | skip
  refine (roman_in m _ m0 m1 HR.out).mono ?_
  rintro e w1 ⟨rfl, k1⟩
  have hlen := romanL_length m m1
  have Hsum := Lib.hid (sumW_roman m)
  generalize romanL m = L at *
  obtain ⟨s, hs⟩ : ∃ s : ByteArray, (⟨L.toArray⟩ : ByteArray) = s := ⟨_, rfl⟩
  rw [hs]
  have hsl : s.data.toList = L := by rw [← hs]
  have hsz : s.size = L.length := by rw [Lib.size_eq, hsl]
  have s32 : s.size ≤ 32 := by omega
  have Hsl := Lib.hid hsl
  have Hsz := Lib.hid hsz
  have Hx := Lib.hid hx
  have K1 := Lib.hid k1
  clear hs hsl hsz hx k1 hlen
  have hm' := Lib.hid hm
  clear hm
  go_wp2
  go_loopw [4, 5] (fun v i wr => ∃ (k : Nat) (u : Int), k ≤ s.size ∧ i = .int .i64 k ∧ v = .int .i64 u ∧ Hid (u + sumW (L.drop k) = m) ∧ wr = w1) (fun _ i _ => s.size - (intOf i).toNat)
  case atStart => exact ⟨0, 0, by omega, rfl, rfl, Lib.hid (by rw [Int.zero_add]; exact Hsum.out), rfl⟩
  case round =>
    obtain ⟨k, u, hk, rfl, rfl, hu, rfl⟩ := hrel
    have hub : -100000 ≤ u ∧ u ≤ 100000 := by
      have h1 := sumW_bd (L.drop k)
      have h2 : (L.drop k).length ≤ 32 := by rw [List.length_drop, ← Hsz.out]; omega
      have := hu.out
      omega
    obtain ⟨u0, u1⟩ := hub
    by_cases hlt : k < s.size
    · have hat := at_list s k hlt
      rw [Hsl.out] at hat
      obtain ⟨c0, c1⟩ := worth_bd (s[k]'hlt)
      by_cases h2 : k + 1 < s.size
      · have hat2 := at_list s (k + 1) h2
        rw [Hsl.out] at hat2
        obtain ⟨d0, d1⟩ := worth_bd (s[k + 1]'h2)
        obtain ⟨e1, e2⟩ := drop_two hat hat2
        have hs2 := hu.out
        rw [e1, sumW, ← e2] at hs2
        have Hs2 := Lib.hid hs2
        have hk2 : decide ((k : Int) + 1 < (s.size : Int)) = true := by simp; omega
        have hw := fun w => Lib.hid (worth_any (s[k]'hlt) w)
        have hw2 := fun w => Lib.hid (worth_any (s[k + 1]'h2) w)
        clear hat hat2 e1 e2 hs2
        by_cases hcd : worthOf (s[k]'hlt) < worthOf (s[k + 1]'h2)
        all_goals
          have Hcd := Lib.hid hcd
          go_wp2_with (fail)
          refine (hw _).out.mono ?_
          rintro e w2 ⟨rfl, rfl⟩
          go_wp2_with (fail)
          refine (hw2 _).out.mono ?_
          rintro e w2 ⟨rfl, rfl⟩
          go_wp2
          go_roundw
          case rel => exact ⟨k + 1, _, by omega, by go_num, rfl, Lib.hid (by have h := Hs2.out; (first | rw [if_pos Hcd.out] at h | rw [if_neg (Int.not_lt.2 Hcd.out)] at h); omega), trivial⟩
          case measure => simp [intOf]; omega
      · obtain ⟨e1, e2⟩ := drop_one hat (by rw [← Hsz.out]; omega)
        have hs2 := hu.out
        rw [e1, sumW] at hs2
        have Hs2 := Lib.hid hs2
        have He2 := Lib.hid e2
        have hk2 : decide ((k : Int) + 1 < (s.size : Int)) = false := by simp; omega
        have hw := fun w => Lib.hid (worth_any (s[k]'hlt) w)
        clear hat e1 e2 hs2
        go_wp2_with (fail)
        refine (hw _).out.mono ?_
        rintro e w2 ⟨rfl, rfl⟩
        go_wp2
        go_roundw
        case rel => exact ⟨k + 1, _, by omega, by go_num, rfl, Lib.hid (by rw [He2.out]; have h := Hs2.out; simp only [sumW]; omega), trivial⟩
        case measure => simp [intOf]; omega
    · have hu' : u = (m : Int) := by
        have h := hu.out
        rw [List.drop_of_length_le (by rw [← Hsz.out]; omega)] at h
        simpa [sumW] using h
      subst hu'
      go_wp2_with (go_at_call 21; refine (knows_any _ (HT.out.kept K1.out)).mono ?_; rintro e u9 ⟨rfl, k9⟩)
      go_ret
      exact ⟨ret_bool (by first | rfl | simp), K1.out.trans k9⟩
end Go.Proofs.YtcdblgfaojejnaaDoor
