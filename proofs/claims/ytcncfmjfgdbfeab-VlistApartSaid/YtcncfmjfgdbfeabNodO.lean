/- the document's Good is the code's right. -/
import Derived.Test.YtcncfmjfgdbfeabNodN
namespace Go.Proofs.Ytcncfmjfgdbfeab
open Go.RowKit

theorem empty_iff (t : ByteArray) : (t.toList == (ByteArray.mk #[]).toList) = true ↔ t = ByteArray.mk #[] := by
  constructor
  · intro h
    rcases Decidable.em (t = ByteArray.mk #[]) with h1 | h1
    · exact h1
    · rw [ba_ne h1] at h; cases h
  · rintro rfl; exact ba_eq _
theorem m1 (n : Nod) : rGlyph1 n = charB (kn 1 n) := by
  obtain ⟨k0, font, char, wd, ht, dp, shift, nat, str, shr, so, sho, sign, ord, num, den, pen, sub, text⟩ := n
  rw [Bool.eq_iff_iff]
  simp only [rGlyph1, charB, glyphB, onlyB, bareN, kn, noText, Nod.mk.injEq, Bool.and_eq_true, Bool.not_eq_true', decide_eq_true_eq, decide_eq_false_iff_not, empty_iff, true_and, and_true]
  constructor
  · intro h; simp_all <;> omega
  · intro h; simp_all <;> omega
theorem m2 (n : Nod) : rGlyph2 n = ligB (kn 2 n) := by
  obtain ⟨k0, font, char, wd, ht, dp, shift, nat, str, shr, so, sho, sign, ord, num, den, pen, sub, text⟩ := n
  rw [Bool.eq_iff_iff]
  simp only [rGlyph2, ligB, glyphB, onlyB, bareN, kn, Nod.mk.injEq, Bool.and_eq_true, Bool.not_eq_true', decide_eq_true_eq, decide_eq_false_iff_not, true_and, and_true]
  constructor
  · intro h; simp_all <;> omega
  · intro h; simp_all <;> omega
theorem m7 (n : Nod) : rSkip n = skipB (kn 7 n) := by
  obtain ⟨k0, font, char, wd, ht, dp, shift, nat, str, shr, so, sho, sign, ord, num, den, pen, sub, text⟩ := n
  have e : (errG (glueB nat str shr so sho) == 0) = glueB nat str shr so sho := by cases glueB nat str shr so sho <;> rfl
  rw [Bool.eq_iff_iff]
  simp only [rSkip, skipB, gluedB, onlyB, kn, e, Nod.mk.injEq, Bool.and_eq_true, decide_eq_true_eq, true_and]
theorem m8 (n : Nod) : rKern n = kernB (kn 8 n) := by
  obtain ⟨k0, font, char, wd, ht, dp, shift, nat, str, shr, so, sho, sign, ord, num, den, pen, sub, text⟩ := n
  rw [Bool.eq_iff_iff]
  simp only [rKern, kernB, onlyB, kn, Nod.mk.injEq, Bool.and_eq_true, decide_eq_true_eq, true_and]
theorem m9 (n : Nod) : rPen n = penB (kn 9 n) := by
  obtain ⟨k0, font, char, wd, ht, dp, shift, nat, str, shr, so, sho, sign, ord, num, den, pen, sub, text⟩ := n
  rw [Bool.eq_iff_iff]
  simp only [rPen, penB, pricedB, onlyB, kn, Nod.mk.injEq, Bool.and_eq_true, decide_eq_true_eq, true_and]
theorem mMsg (k : Int) (n : Nod) : rMsg k n = msgB (kn k n) := by
  obtain ⟨k0, font, char, wd, ht, dp, shift, nat, str, shr, so, sho, sign, ord, num, den, pen, sub, text⟩ := n
  rw [Bool.eq_iff_iff]
  simp only [rMsg, msgB, onlyB, kn, Nod.mk.injEq, Bool.and_eq_true, decide_eq_true_eq, true_and, and_true]
theorem mMath (k : Int) (n : Nod) : rMath k n = mathB (kn k n) := by
  obtain ⟨k0, font, char, wd, ht, dp, shift, nat, str, shr, so, sho, sign, ord, num, den, pen, sub, text⟩ := n
  rw [Bool.eq_iff_iff]
  simp only [rMath, mathB, onlyB, kn, Nod.mk.injEq, Bool.and_eq_true, decide_eq_true_eq, true_and]
theorem mBare (k : Int) (n : Nod) : rBare k n = bareB (kn k n) := by
  obtain ⟨k0, font, char, wd, ht, dp, shift, nat, str, shr, so, sho, sign, ord, num, den, pen, sub, text⟩ := n
  rw [Bool.eq_iff_iff]
  simp only [rBare, bareB, zeroN, onlyB, kn, Nod.mk.injEq, decide_eq_true_eq, true_and]
theorem m13 (n : Nod) : rIns n = insB (kn 13 n) := by
  obtain ⟨k0, font, char, wd, ht, dp, shift, nat, str, shr, so, sho, sign, ord, num, den, pen, sub, text⟩ := n
  have e : (errG (glueB nat str shr so sho) == 0) = glueB nat str shr so sho := by cases glueB nat str shr so sho <;> rfl
  rw [Bool.eq_iff_iff]
  simp only [rIns, insB, d2B, pricedB, gluedB, onlyB, kn, e, Nod.mk.injEq, Bool.and_eq_true, decide_eq_true_eq, true_and]
  constructor
  · intro h; simp_all
  · intro h; simp_all
theorem m3 (n : Nod) : rRule n = ruleB (kn 3 n) := by
  obtain ⟨k0, font, char, wd, ht, dp, shift, nat, str, shr, so, sho, sign, ord, num, den, pen, sub, text⟩ := n
  by_cases h : 0 ≤ sub ∧ sub ≤ 3
  · obtain rfl | rfl | rfl | rfl : sub = 0 ∨ sub = 1 ∨ sub = 2 ∨ sub = 3 := by omega
    all_goals
      rw [Bool.eq_iff_iff]
      simp only [rRule, ruleB, kn]
      generalize d3B wd ht dp = D
      simp [ownN, onlyB, bareN, Nod.mk.injEq]
    all_goals first
      | done
      | (constructor <;> intro h <;> simp_all; done)
  · have e1 : rRule ⟨k0, font, char, wd, ht, dp, shift, nat, str, shr, so, sho, sign, ord, num, den, pen, sub, text⟩ = false := by
      rw [← Bool.not_eq_true]
      simp only [rRule, Bool.and_eq_true, Bool.not_eq_true', decide_eq_false_iff_not]
      omega
    have e2 : ruleB (kn 3 ⟨k0, font, char, wd, ht, dp, shift, nat, str, shr, so, sho, sign, ord, num, den, pen, sub, text⟩) = false := by
      rw [← Bool.not_eq_true]
      simp only [ruleB, kn, Bool.and_eq_true, decide_eq_true_eq]
      omega
    rw [e1, e2]
theorem m4 (k : Int) (n : Nod) : rBox k n = boxB (kn k n) := by
  obtain ⟨k0, font, char, wd, ht, dp, shift, nat, str, shr, so, sho, sign, ord, num, den, pen, sub, text⟩ := n
  have e4 : d4B wd ht dp shift = (d3B wd ht dp && dimB shift) := rfl
  by_cases h0 : sign = 0
  · subst h0
    rw [Bool.eq_iff_iff]
    simp [rBox, boxB, setB, onlyB, bareN, kn, e4, Nod.mk.injEq]
    constructor <;> intro h <;> simp_all
  · by_cases h1 : sign = 1
    · subst h1
      rw [Bool.eq_iff_iff]
      simp [rBox, boxB, setB, onlyB, bareN, kn, e4, Nod.mk.injEq]
      constructor <;> intro h <;> simp_all <;> omega
    · by_cases h2 : sign = 2
      · subst h2
        rw [Bool.eq_iff_iff]
        simp [rBox, boxB, setB, onlyB, bareN, kn, e4, Nod.mk.injEq]
        constructor <;> intro h <;> simp_all <;> omega
      · rw [Bool.eq_iff_iff]
        simp [rBox, boxB, setB, kn, h0, h1, h2]
theorem goodk (n : Nod) (w : World) (k : Int) (r : Bool) (hr : r = rightB (kn k n)) (hk : n.kind = k) (h : Calls Try.prog 70 #[nodV (kn k n)] w fun e w' => e = .returned (.bool r) ∧ Kept w w') :
    Calls Try.prog 70 #[nodV n] w fun e w' => e = .returned (.bool (rightB n)) ∧ Kept w w' := by
  have e : kn k n = n := by
    obtain ⟨k0, font, char, wd, ht, dp, shift, nat, str, shr, so, sho, sign, ord, num, den, pen, sub, text⟩ := n
    simp only at hk
    rw [hk]
  rw [e] at hr h
  rw [← hr]
  exact h
theorem good_any (n : Nod) (w : World) :
    Calls Try.prog 70 #[nodV n] w fun e w' => e = .returned (.bool (rightB n)) ∧ Kept w w' := by
  by_cases hk : n.kind < 1 ∨ 17 < n.kind
  · rw [rightB_no n hk]; exact good_no n w hk
  · by_cases h1 : n.kind = 1
    · exact goodk n w 1 _ ((m1 n).trans rfl) h1 (good1 n w)
    by_cases h2 : n.kind = 2
    · exact goodk n w 2 _ ((m2 n).trans rfl) h2 (good2 n w)
    by_cases h3 : n.kind = 3
    · exact goodk n w 3 _ ((m3 n).trans rfl) h3 (good3 n w)
    by_cases h4 : n.kind = 4
    · exact goodk n w 4 _ ((m4 4 n).trans rfl) h4 (good4 n w)
    by_cases h5 : n.kind = 5
    · exact goodk n w 5 _ ((m4 5 n).trans rfl) h5 (good5 n w)
    by_cases h6 : n.kind = 6
    · exact goodk n w 6 _ ((mBare 6 n).trans rfl) h6 (good6 n w)
    by_cases h7 : n.kind = 7
    · exact goodk n w 7 _ ((m7 n).trans rfl) h7 (good7 n w)
    by_cases h8 : n.kind = 8
    · exact goodk n w 8 _ ((m8 n).trans rfl) h8 (good8 n w)
    by_cases h9 : n.kind = 9
    · exact goodk n w 9 _ ((m9 n).trans rfl) h9 (good9 n w)
    by_cases h10 : n.kind = 10
    · exact goodk n w 10 _ ((mBare 10 n).trans rfl) h10 (good10 n w)
    by_cases h11 : n.kind = 11
    · exact goodk n w 11 _ ((mBare 11 n).trans rfl) h11 (good11 n w)
    by_cases h12 : n.kind = 12
    · exact goodk n w 12 _ ((mMsg 12 n).trans rfl) h12 (good12 n w)
    by_cases h13 : n.kind = 13
    · exact goodk n w 13 _ ((m13 n).trans rfl) h13 (good13 n w)
    by_cases h14 : n.kind = 14
    · exact goodk n w 14 _ ((mMsg 14 n).trans rfl) h14 (good14 n w)
    by_cases h15 : n.kind = 15
    · exact goodk n w 15 _ ((mMath 15 n).trans rfl) h15 (good15 n w)
    by_cases h16 : n.kind = 16
    · exact goodk n w 16 _ ((mMath 16 n).trans rfl) h16 (good16 n w)
    by_cases h17 : n.kind = 17
    · exact goodk n w 17 _ ((mBare 17 n).trans rfl) h17 (good17 n w)
    omega
end Go.Proofs.Ytcncfmjfgdbfeab
