/- Badness: plain mathematics: P104 and P112. -/
import Derived.Test.YtcikgaflnhpklaaDoorOvers
namespace Go.Proofs.YtcikgaflnhpklaaDoor

/-- 297 t / s, as near as P104 says; of t and s from 1 on -/
def ratioR (t s : Int) : Int := if t ≤ 7230584 then 297 * t / s else if 1663497 ≤ s then t / (s / 297) else t
/-- the badness of a ratio -/
def ofRatio (r : Int) : Int := if 1290 < r then 10000 else (r * r * r + 131072) / 262144
def badR (t s : Int) : Int := if t = 0 then 0 else if s < 1 then 10000 else ofRatio (ratioR t s)
def badV (t s : Int) : Int := if fitB t && fitB s then (if t < 0 then 0 else badR t s) else 0
def badE (t s : Int) : Int := if fitB t && fitB s then (if t < 0 then 1 else 0) else 11

theorem div_anti {a b c : Int} (h : 0 ≤ a) (hb : 0 < b) (hbc : b ≤ c) : a / c ≤ a / b := by
  refine Int.le_ediv_of_mul_le hb ?_
  have h1 : a / c * b ≤ a / c * c := Int.mul_le_mul_of_nonneg_left hbc (Int.ediv_nonneg h (by omega))
  have h2 := Int.ediv_mul_le a (b := c) (by omega)
  omega
theorem ratioR_nonneg {t s : Int} (h : 0 ≤ t) (hs : 1 ≤ s) : 0 ≤ ratioR t s := by
  unfold ratioR
  split
  · exact Int.ediv_nonneg (by omega) (by omega)
  · split
    · exact Int.ediv_nonneg (by omega) (by omega)
    · omega
theorem cube_le {a b : Int} (h : 0 ≤ a) (hab : a ≤ b) : a * a * a ≤ b * b * b :=
  Int.mul_le_mul (Int.mul_le_mul hab hab h (by omega)) hab h (Int.mul_nonneg (by omega) (by omega))
theorem cube_top {r : Int} (h : 0 ≤ r) (h' : r ≤ 1290) : 0 ≤ r * r * r ∧ r * r * r ≤ 2146689000 := by
  have a := cube_le (Int.le_refl 0) h
  have b := cube_le h h'
  omega
theorem sq_top {r : Int} (h : 0 ≤ r) (h' : r ≤ 1290) : 0 ≤ r * r ∧ r * r ≤ 1664100 := by
  have a := Int.mul_nonneg h h
  have b := Int.mul_le_mul h' h' h (by omega)
  omega
theorem ofRatio_bd {r : Int} (h : 0 ≤ r) : 0 ≤ ofRatio r ∧ ofRatio r ≤ 10000 := by
  unfold ofRatio; split
  · omega
  · have := cube_top h (by omega)
    omega
theorem ofRatio_mono {a b : Int} (h : 0 ≤ a) (hab : a ≤ b) : ofRatio a ≤ ofRatio b := by
  by_cases hb : 1290 < b
  · rw [show ofRatio b = 10000 from by simp [ofRatio, hb]]
    exact (ofRatio_bd h).2
  · unfold ofRatio
    rw [if_neg (by omega), if_neg hb]
    have := cube_le h hab
    omega
theorem ofRatio_zero {r : Int} (h : 0 ≤ r) : (ofRatio r = 0) ↔ r ≤ 50 := by
  constructor
  · intro hz
    by_cases hr : r ≤ 50
    · exact hr
    · have : ofRatio 51 ≤ ofRatio r := ofRatio_mono (by omega) (by omega)
      have : ofRatio 51 = 1 := by decide
      omega
  · intro hr
    have : ofRatio r ≤ ofRatio 50 := ofRatio_mono h hr
    have : ofRatio 50 = 0 := by decide
    have := (ofRatio_bd h).1
    omega
theorem ofRatio_top {r : Int} (h : 1290 < r) : ofRatio r = 10000 := by simp [ofRatio, h]

/-- the ratio grows with t, up to 1291 -/
theorem ratio_t {t u s : Int} (h : 0 ≤ t) (htu : t ≤ u) (hs : 1 ≤ s) : ratioR t s ≤ ratioR u s ∨ 1290 < ratioR u s := by
  unfold ratioR
  by_cases a : t ≤ 7230584
  · rw [if_pos a]
    by_cases b : u ≤ 7230584
    · rw [if_pos b]; left; exact Int.ediv_le_ediv (by omega) (by omega)
    · rw [if_neg b]
      by_cases c : 1663497 ≤ s
      · rw [if_pos c]; left
        have hq : 0 < s / 297 := by omega
        have e1 : 297 * t / s ≤ 297 * t / (297 * (s / 297)) := div_anti (by omega) (by omega) (by omega)
        rw [Int.mul_ediv_mul_of_pos _ _ (by omega)] at e1
        exact Int.le_trans e1 (Int.ediv_le_ediv hq htu)
      · rw [if_neg c]; right; omega
  · rw [if_neg a, if_neg (show ¬ u ≤ 7230584 by omega)]
    by_cases c : 1663497 ≤ s
    · rw [if_pos c, if_pos c]; left; exact Int.ediv_le_ediv (by omega) htu
    · rw [if_neg c, if_neg c]; left; exact htu
theorem ratio_s {t s u : Int} (h : 0 ≤ t) (hs : 1 ≤ s) (hsu : s ≤ u) : ratioR t u ≤ ratioR t s ∨ 1290 < ratioR t s := by
  unfold ratioR
  by_cases a : t ≤ 7230584
  · rw [if_pos a, if_pos a]; left
    exact div_anti (by omega) (by omega) hsu
  · rw [if_neg a, if_neg a]
    by_cases c : 1663497 ≤ s
    · rw [if_pos c, if_pos (by omega)]; left
      exact div_anti (by omega) (by omega) (Int.ediv_le_ediv (by omega) hsu)
    · rw [if_neg c]; right; omega

theorem badR_bd {t s : Int} (h : 0 ≤ t) : 0 ≤ badR t s ∧ badR t s ≤ 10000 := by
  unfold badR; split
  · omega
  · split
    · omega
    · exact ofRatio_bd (ratioR_nonneg h (by omega))
theorem badR_t {t u s : Int} (h : 0 ≤ t) (htu : t ≤ u) : badR t s ≤ badR u s := by
  have hu := badR_bd (t := u) (s := s) (by omega)
  unfold badR at *
  by_cases a : t = 0
  · rw [if_pos a]; omega
  · have a' : ¬ u = 0 := by omega
    simp only [a, a', if_false] at *
    by_cases b : s < 1
    · simp only [b, if_true]; omega
    · simp only [b, if_false]
      rcases ratio_t h htu (by omega : 1 ≤ s) with c | c
      · exact ofRatio_mono (ratioR_nonneg h (by omega)) c
      · rw [ofRatio_top c]; exact (ofRatio_bd (ratioR_nonneg h (by omega))).2
theorem badR_s {t s u : Int} (h : 0 ≤ t) (hsu : s ≤ u) : badR t u ≤ badR t s := by
  have hu := badR_bd (t := t) (s := u) h
  unfold badR at *
  by_cases a : t = 0
  · rw [if_pos a, if_pos a]; omega
  · simp only [a, if_false] at *
    by_cases b : s < 1
    · simp only [b, if_true]; omega
    · have b' : ¬ u < 1 := by omega
      simp only [b, b', if_false]
      rcases ratio_s h (by omega : 1 ≤ s) hsu with c | c
      · exact ofRatio_mono (ratioR_nonneg h (by omega)) c
      · rw [ofRatio_top c]; exact (ofRatio_bd (ratioR_nonneg (s := u) h (by omega))).2
theorem badR_same {t : Int} (h : 0 < t) : badR t t = 100 := by
  have hr : ratioR t t = 297 := by
    unfold ratioR
    by_cases a : t ≤ 7230584
    · rw [if_pos a, Int.mul_ediv_cancel _ (by omega)]
    · rw [if_neg a, if_pos (by omega)]
      rw [Int.ediv_eq_iff_of_pos (by omega)]
      omega
  unfold badR
  rw [if_neg (by omega), if_neg (by omega), hr]
  decide
end Go.Proofs.YtcikgaflnhpklaaDoor
