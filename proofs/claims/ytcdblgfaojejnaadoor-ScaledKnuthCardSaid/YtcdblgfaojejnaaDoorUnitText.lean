/- Texts of digits, a point, digits and a unit: what Parse and Dimen make of them. -/
import Derived.Test.YtcdblgfaojejnaaDoorDimen
namespace Go.Proofs.YtcdblgfaojejnaaDoor

theorem digs_app {D r : List UInt8} (hD : ∀ c ∈ D, isDig c = true) (hr : ∀ c s, r = c :: s → isDig c = false) : digs (D ++ r) = D ∧ rest (D ++ r) = r := by
  have h1 : r.takeWhile isDig = [] := by
    cases r with
    | nil => rfl
    | cons c s => rw [List.takeWhile_cons, hr c s rfl]; rfl
  have h2 : digs (D ++ r) = D := by
    unfold digs
    rw [List.takeWhile_append_of_pos hD, h1, List.append_nil]
  refine ⟨h2, ?_⟩
  rw [← drop_digs, h2, List.drop_left]
theorem text_facts {D P u : List UInt8} (hD : ∀ c ∈ D, isDig c = true) (hD0 : 0 < D.length) (hP : ∀ c ∈ P, isDig c = true) (hu : ∀ c s, u = c :: s → isDig c = false) :
    digs (D ++ 46 :: (P ++ u)) = D ∧ numBehind (D ++ 46 :: (P ++ u)) = P ∧ numLeft (D ++ 46 :: (P ++ u)) = u ∧ numOk (D ++ 46 :: (P ++ u)) = true ∧ minusOf (D ++ 46 :: (P ++ u)) = false := by
  obtain ⟨a1, a2⟩ := digs_app (r := 46 :: (P ++ u)) hD (fun c s e => by injection e with e1 _; rw [← e1]; decide)
  obtain ⟨b1, b2⟩ := digs_app (r := u) hP hu
  have hp : pointed (D ++ 46 :: (P ++ u)) = true := by unfold pointed; rw [a2]; simp [Lib.hasPrefix, List.isPrefixOf]
  have ht : Lib.trimPrefix (rest (D ++ 46 :: (P ++ u))) [46] = P ++ u := by
    unfold Lib.trimPrefix
    rw [show Lib.hasPrefix (rest (D ++ 46 :: (P ++ u))) [46] = true from hp, if_pos rfl, a2]; rfl
  refine ⟨a1, by unfold numBehind; rw [hp, if_pos rfl, ht, b1], by unfold numLeft; rw [hp, if_pos rfl, ht, b2], ?_, ?_⟩
  · unfold numOk; rw [a1]
    cases D with
    | nil => simp at hD0
    | cons c s => rfl
  · cases D with
    | nil => simp at hD0
    | cons c s =>
      have hc := hD c (by simp)
      unfold minusOf Lib.hasPrefix
      simp only [List.cons_append, List.isPrefixOf, Bool.and_eq_false_imp]
      intro h
      rw [beq_iff_eq] at h
      rw [← h] at hc
      revert hc; decide
def sizeDP (D P : List UInt8) : Int := 65536 * wholeN D + fracN P
theorem after_plain {l : List UInt8} (h : minusOf l = false) : afterSign l = l := by
  unfold afterSign Lib.trimPrefix; rw [show Lib.hasPrefix l [45] = false from h, if_neg Bool.false_ne_true]
theorem minus_cons (l : List UInt8) : minusOf (45 :: l) = true ∧ afterSign (45 :: l) = l := by
  have h : minusOf (45 :: l) = true := by unfold minusOf Lib.hasPrefix; simp [List.isPrefixOf]
  refine ⟨h, ?_⟩
  unfold afterSign Lib.trimPrefix; rw [show Lib.hasPrefix (45 :: l) [45] = true from h, if_pos rfl]; rfl
theorem parse_text {D P : List UInt8} (hD : ∀ c ∈ D, isDig c = true) (hD0 : 0 < D.length) (hP : ∀ c ∈ P, isDig c = true) :
    parseV (D ++ 46 :: P) = dimV (sizeDP D P) ∧ parseE (D ++ 46 :: P) = dimE (sizeDP D P) := by
  obtain ⟨h1, h2, h3, h4, h5⟩ := text_facts (u := []) hD hD0 hP (fun c s e => by cases e)
  rw [List.append_nil] at h1 h2 h3 h4 h5
  have ha := after_plain h5
  have hok : parseOk (D ++ 46 :: P) = true := by unfold parseOk; rw [ha, h4, h3]; rfl
  have hs : sizeOfText (D ++ 46 :: P) = sizeDP D P := by unfold sizeOfText sizeDP; rw [ha, h1, h2]
  unfold parseV parseE
  rw [hok, hs, h5]
  exact ⟨rfl, rfl⟩
theorem unit_head : ∀ u ∈ unitL, ∀ c s, u.name = c :: s → isDig c = false := by
  intro u hu c s e
  simp only [unitL, List.mem_cons, List.not_mem_nil, or_false] at hu
  rcases hu with rfl | rfl | rfl | rfl | rfl | rfl | rfl | rfl | rfl <;> (injection e with e1 _; rw [← e1]; decide)
theorem unit_own' : ∀ u ∈ unitL, unitOf u.name = some u := by
  intro u hu
  simp only [unitL, List.mem_cons, List.not_mem_nil, or_false] at hu
  rcases hu with rfl | rfl | rfl | rfl | rfl | rfl | rfl | rfl | rfl <;> rfl
theorem dimen_text {D P : List UInt8} {u : Un} (hD : ∀ c ∈ D, isDig c = true) (hD0 : 0 < D.length) (hP : ∀ c ∈ P, isDig c = true) (hu : u ∈ unitL) (hd : u.d ≠ 0) :
    (dimenV (D ++ 46 :: (P ++ u.name)) = dimV (u.n * sizeDP D P / u.d) ∧ dimenE (D ++ 46 :: (P ++ u.name)) = dimE (u.n * sizeDP D P / u.d)) ∧
    (dimenV (45 :: (D ++ 46 :: (P ++ u.name))) = dimV (-(u.n * sizeDP D P / u.d)) ∧ dimenE (45 :: (D ++ 46 :: (P ++ u.name))) = dimE (u.n * sizeDP D P / u.d)) := by
  obtain ⟨h1, h2, h3, h4, h5⟩ := text_facts (u := u.name) hD hD0 hP (unit_head u hu)
  have ho := unit_own' u hu
  have h2l := unit_two u hu
  have key : ∀ l : List UInt8, afterSign l = D ++ 46 :: (P ++ u.name) → dimenOk l = true ∧ dimSize l = u.n * sizeDP D P / u.d := by
    intro l hl
    have e1 : leftOf l = u.name := by unfold leftOf; rw [hl, h3]
    refine ⟨?_, ?_⟩
    · unfold dimenOk; rw [hl, h4, e1, ho]
      show (true && (u.name.drop 2).isEmpty) = true
      rw [List.drop_of_length_le (by omega)]; rfl
    · unfold dimSize; rw [e1, ho]
      show (if u.d = 0 then _ else u.n * sizeOfText l / u.d) = _
      rw [if_neg hd]; unfold sizeOfText sizeDP; rw [hl, h1, h2]
  obtain ⟨k1, k2⟩ := key _ (after_plain h5)
  obtain ⟨m1, m2⟩ := minus_cons (D ++ 46 :: (P ++ u.name))
  obtain ⟨k3, k4⟩ := key _ m2
  unfold dimenV dimenE
  rw [k1, k2, k3, k4, h5, m1]
  exact ⟨⟨rfl, rfl⟩, rfl, rfl⟩
theorem ratio_mono {n1 d1 n2 d2 S : Int} (hS : 0 ≤ S) (h1 : 0 < d1) (h2 : 0 < d2) (_hn2 : 0 ≤ n2) (h : n2 * d1 ≤ n1 * d2) : n2 * S / d2 ≤ n1 * S / d1 := by
  refine Int.le_ediv_of_mul_le h1 ?_
  have hq : n2 * S / d2 * d2 ≤ n2 * S := Int.ediv_mul_le _ (by omega)
  have a : n2 * S / d2 * d2 * d1 ≤ n2 * S * d1 := Int.mul_le_mul_of_nonneg_right hq (by omega)
  have b : n2 * d1 * S ≤ n1 * d2 * S := Int.mul_le_mul_of_nonneg_right h hS
  have c : n2 * S / d2 * d1 * d2 ≤ n1 * S * d2 := by
    rw [Int.mul_right_comm (n2 * S / d2) d1 d2, Int.mul_right_comm n1 S d2]
    rw [Int.mul_right_comm n2 S d1] at a
    omega
  exact Int.le_of_mul_le_mul_right c h2
end Go.Proofs.YtcdblgfaojejnaaDoor
