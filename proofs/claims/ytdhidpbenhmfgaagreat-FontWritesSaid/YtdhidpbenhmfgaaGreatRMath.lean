/- What is read of bytes: plain mathematics; what is written is read as it was. -/
import Derived.Test.YtdhidpbenhmfgaaGreatWMath
import Derived.Test.YtdhidpbenhmfgaaGreatCMetr
import Derived.Test.YtdhidpbenhmfgaaGreatCRead2
namespace Go.Proofs.YtdhidpbenhmfgaaGreat
open Go.RowKit

theorem wordsAt_cons (bs : List Int) (k n : Nat) : wordsAt bs k (n + 1) = wordS bs k :: wordsAt bs (k + 4) n := by
  unfold wordsAt
  rw [List.range_succ_eq_map, List.map_cons, List.map_map]
  congr 1
  apply List.map_congr_left
  intro i _
  show wordS bs (k + 4 * (i + 1)) = wordS bs (k + 4 + 4 * i)
  rw [show k + 4 * (i + 1) = k + 4 + 4 * i by omega]
theorem wordS_app (pre : List Int) (s : St) (post : List Int) (k : Nat) (hk : pre.length = k) : wordS (pre ++ (stL s ++ post)) k = s := by
  subst hk
  obtain ⟨a, b, c, d⟩ := s
  simp [wordS, stL]
/-- the words of a table among other bytes -/
theorem wordsAt_seg {α : Type} (g : α → St) (l : List α) : ∀ (pre post : List Int) (k n : Nat), pre.length = k → l.length = n → wordsAt (pre ++ ((l.flatMap fun x => stL (g x)) ++ post)) k n = l.map g := by
  induction l with
  | nil => intro pre post k n _ hn; subst hn; rfl
  | cons x l ih =>
    intro pre post k n hk hn
    obtain ⟨m, rfl⟩ : ∃ m, n = m + 1 := ⟨l.length, by simpa using hn.symm⟩
    rw [wordsAt_cons, List.flatMap_cons, List.append_assoc, List.map_cons]
    congr 1
    · exact wordS_app _ _ _ _ hk
    · rw [← List.append_assoc pre]
      exact ih _ _ _ _ (by simp [stL, hk]) (by simpa using hn)
theorem uns_num {n : Int} (h0 : 0 ≤ n) (h1 : n < 4294967296) : unsV (numS n) = n := by unfold unsV numS; dsimp only; omega
theorem sig_num {n : Int} (h0 : -2147483648 ≤ n) (h1 : n < 2147483648) : sigV (numS n) = n := by
  unfold sigV unsV numS; dsimp only; split <;> omega
theorem sorted_at {l : List Int} (hs : l.Pairwise (· ≤ ·)) {n : Int} (h : l.contains n = true) : l[l.countP (· < n)]?.getD 0 = n := by
  induction l with
  | nil => simp at h
  | cons x l ih =>
    rw [List.pairwise_cons] at hs
    rw [List.countP_cons]
    by_cases hx : x < n
    · have hc : l.contains n = true := by
        have h2 : n ∈ x :: l := by simpa using h
        rcases List.mem_cons.1 h2 with rfl | h3
        · omega
        · simpa using h3
      simp only [hx, decide_true, if_true, List.getElem?_cons_succ]
      exact ih hs.2 hc
    · have h2 : n ∈ x :: l := by simpa using h
      have hxn : x = n := by
        rcases List.mem_cons.1 h2 with rfl | h3
        · rfl
        · have := hs.1 n h3; omega
      have h0 : l.countP (fun y => decide (y < n)) = 0 := by
        rw [List.countP_eq_zero]
        intro y hy
        have := hs.1 y hy
        simp; omega
      rw [h0]
      simp [hxn]
theorem place_get {l : List Int} (hs : l.Pairwise (· ≤ ·)) {n : Int} (h : n ∈ l ∨ n = 0) : (0 :: l)[(placeL l n).toNat]?.getD 0 = n := by
  unfold placeL
  split
  · rename_i hc
    rw [show ((l.countP (· < n) : Nat) + 1 : Int).toNat = l.countP (· < n) + 1 by omega, List.getElem?_cons_succ]
    exact sorted_at hs hc
  · rename_i hc
    rcases h with h | rfl
    · exact absurd (by simpa using h) hc
    · rfl
theorem place_bd {l : List Int} {n : Int} : 0 ≤ placeL l n ∧ placeL l n ≤ l.length := by
  unfold placeL
  split
  · rename_i hc
    have := count_lt hc
    omega
  · omega
theorem place_pos {l : List Int} {n : Int} (h : n ∈ l) : 0 < placeL l n := by
  unfold placeL
  rw [if_pos (by simpa using h)]
  omega
/-- a character's word is read as it was written -/
theorem met_back {x0 x1 x2 x3 : List Int} {m : Met} (s0 : x0.Pairwise (· ≤ ·)) (s1 : x1.Pairwise (· ≤ ·)) (s2 : x2.Pairwise (· ≤ ·)) (s3 : x3.Pairwise (· ≤ ·))
    (l2 : x2.length ≤ 15) (h : m = ⟨0, 0, 0, 0, -1, 0⟩ ∨ ((m.w ∈ x0 ∧ (m.h ∈ x1 ∨ m.h = 0) ∧ (m.d ∈ x2 ∨ m.d = 0) ∧ (m.it ∈ x3 ∨ m.it = 0)) ∧ (0 ≤ m.tag ∧ m.tag ≤ 3) ∧ (m.tag = 0 → m.rest = 0))) :
    metOk (x0.length + 1) (x1.length + 1) (x2.length + 1) (x3.length + 1) (metS x0 x1 x2 x3 m) = true ∧ metR (0 :: x0) (0 :: x1) (0 :: x2) (0 :: x3) (metS x0 x1 x2 x3 m) = m := by
  rcases h with rfl | ⟨⟨hw, hh, hd, hi⟩, ht, hr⟩
  · simp [metS, metOk, metR]
  · obtain ⟨w, h, d, it, tag, rest⟩ := m
    dsimp only at *
    have p0 := place_pos hw
    have b0 := place_bd (l := x0) (n := w)
    have b1 := place_bd (l := x1) (n := h)
    have b2 := place_bd (l := x2) (n := d)
    have b3 := place_bd (l := x3) (n := it)
    have g0 := place_get s0 (.inl hw)
    have g1 := place_get s1 hh
    have g2 := place_get s2 hd
    have g3 := place_get s3 hi
    have hm : metS x0 x1 x2 x3 ⟨w, h, d, it, tag, rest⟩ = ⟨placeL x0 w, placeL x1 h * 16 + placeL x2 d, placeL x3 it * 4 + tag, rest⟩ := by
      unfold metS; rw [if_neg (by dsimp only; omega)]
    rw [hm]
    generalize placeL x0 w = q0 at *
    generalize placeL x1 h = q1 at *
    generalize placeL x2 d = q2 at *
    generalize placeL x3 it = q3 at *
    have e1 : (q1 * 16 + q2) / 16 = q1 := by omega
    have e2 : (q1 * 16 + q2) % 16 = q2 := by omega
    have e3 : (q3 * 4 + tag) / 4 = q3 := by omega
    have e4 : (q3 * 4 + tag) % 4 = tag := by omega
    constructor
    · unfold metOk
      dsimp only
      rw [e1, e2, e3, Bool.or_eq_true]
      exact .inr (decide_eq_true ⟨by omega, by omega, by omega, by omega⟩)
    · unfold metR
      dsimp only
      rw [e1, e2, e3, e4, if_neg (by omega), g0, g1, g2, g3]
      by_cases h0 : tag = 0
      · rw [if_pos h0, hr h0]
      · rw [if_neg h0]
def trimR (l : List Met) : List Met := (l.reverse.dropWhile (·.tag == -1)).reverse
def trimL (l : List Met) : List Met := (trimR l).dropWhile (·.tag == -1)
def trimF (first : Int) (l : List Met) : Int := match trimL l with | [] => 0 | _ :: _ => first + ((trimR l).takeWhile (·.tag == -1)).length
theorem drop_all {l r : List Met} {p : Met → Bool} (h : ∀ m ∈ l, p m = true) (hr : ∀ m t, r = m :: t → p m = false) : (l ++ r).dropWhile p = r := by
  induction l with
  | nil =>
    cases r with
    | nil => rfl
    | cons m t => simp [hr m t rfl]
  | cons x l ih =>
    rw [List.cons_append, List.dropWhile_cons, if_pos (h x (by simp))]
    exact ih fun m hm => h m (by simp [hm])
theorem take_all {l r : List Met} {p : Met → Bool} (h : ∀ m ∈ l, p m = true) (hr : ∀ m t, r = m :: t → p m = false) : (l ++ r).takeWhile p = l := by
  induction l with
  | nil =>
    cases r with
    | nil => rfl
    | cons m t => simp [hr m t rfl]
  | cons x l ih =>
    rw [List.cons_append, List.takeWhile_cons, if_pos (h x (by simp))]
    rw [ih fun m hm => h m (by simp [hm])]
/-- what the loops of trimmed come to -/
theorem trim_of {L : List Met} {i j : Nat} (hij : i ≤ j) (hj : j ≤ L.length) (h1 : ∀ k, ∀ h : k < L.length, j ≤ k → L[k].tag = -1) (h0 : ∀ k, ∀ h : k < i, (L[k]'(by omega)).tag = -1)
    (hl : ∀ h : 0 < j, (L[j - 1]'(by omega)).tag ≠ -1) (hf : ∀ h : i < j, (L[i]'(by omega)).tag ≠ -1) :
    trimR L = L.take j ∧ trimL L = (L.take j).drop i ∧ ((L.take j).takeWhile (·.tag == -1)).length = i := by
  have e1 : L = L.take j ++ L.drop j := (List.take_append_drop j L).symm
  have er : trimR L = L.take j := by
    unfold trimR
    rw [congrArg List.reverse e1, List.reverse_append, drop_all]
    · rw [List.reverse_reverse]
    · intro m hm
      rw [List.mem_reverse] at hm
      obtain ⟨k, hk, rfl⟩ := List.mem_iff_getElem.1 hm
      rw [List.getElem_drop]
      simp only [List.length_drop] at hk
      rw [h1 (j + k) (by omega) (by omega)]
      rfl
    · intro m t ht
      have hj0 : 0 < j := by
        rcases Nat.eq_zero_or_pos j with rfl | h
        · simp at ht
        · exact h
      have hm : (L.take j).getLast? = some m := by rw [← List.head?_reverse, ht]; rfl
      rw [List.getLast?_eq_getElem?, List.length_take, Nat.min_eq_left hj, List.getElem?_take, if_pos (by omega), List.getElem?_eq_getElem (by omega)] at hm
      rw [← Option.some.inj hm]
      simpa using hl hj0
  have hlen : (L.take j).length = j := by rw [List.length_take]; omega
  have e2 : L.take j = (L.take j).take i ++ (L.take j).drop i := (List.take_append_drop i _).symm
  have ha : ∀ m ∈ (L.take j).take i, (m.tag == -1) = true := by
    intro m hm
    obtain ⟨k, hk, rfl⟩ := List.mem_iff_getElem.1 hm
    simp only [List.length_take] at hk
    rw [List.getElem_take, List.getElem_take, h0 k (by omega)]
    rfl
  have hb : ∀ m t, (L.take j).drop i = m :: t → (m.tag == -1) = false := by
    intro m t ht
    have hlt : i < j := by
      rcases Nat.lt_or_ge i j with h | h
      · exact h
      · rw [List.drop_eq_nil_of_le (by omega)] at ht; cases ht
    have hm : ((L.take j).drop i)[0]? = some m := by rw [ht]; rfl
    rw [List.getElem?_drop, List.getElem?_take, if_pos (by omega), List.getElem?_eq_getElem (by omega)] at hm
    rw [← Option.some.inj hm]
    simpa using hf hlt
  refine ⟨er, ?_, ?_⟩
  · unfold trimL
    rw [er]
    exact (congrArg (List.dropWhile _) e2).trans (drop_all ha hb)
  · have := (congrArg (List.takeWhile (fun m : Met => m.tag == -1)) e2).trans (take_all ha hb)
    rw [this]
    simp only [List.length_take]
    omega
/-- nothing falls away where both ends are there -/
theorem trim_same {L : List Met} (h : L ≠ [] → ∀ m, (L[0]? = some m ∨ L[L.length - 1]? = some m) → m.tag ≠ -1) (first : Int) (h0 : L = [] → first = 0) : trimL L = L ∧ trimF first L = first := by
  by_cases he : L = []
  · subst he; rw [h0 rfl]; exact ⟨rfl, rfl⟩
  · have hp : 0 < L.length := List.length_pos_iff.2 he
    obtain ⟨a, b, c⟩ := trim_of (L := L) (i := 0) (j := L.length) (by omega) (by omega) (fun k h h' => by omega) (fun k h => by omega) (fun _ => h he _ (.inr (List.getElem?_eq_getElem (by omega)))) (fun _ => h he _ (.inl (List.getElem?_eq_getElem hp)))
    rw [List.take_length] at a b c
    rw [List.drop_zero] at b
    refine ⟨b, ?_⟩
    unfold trimF
    rw [a, b]
    cases L with
    | nil => exact absurd rfl he
    | cons m t => dsimp only; rw [c]; omega
def sigs (bs : List Int) (k n : Nat) : List Int := (wordsAt bs k n).map sigV
def zeroFirst (l : List Int) : Bool := match l with | z :: _ => z == 0 | [] => false
def nC (bs : List Int) : Nat := (hv bs 6 - hv bs 4 + 1).toNat
def oC (bs : List Int) : Nat := 24 + 4 * (hv bs 2).toNat
def oW (bs : List Int) : Nat := oC bs + 4 * nC bs
def oH (bs : List Int) : Nat := oW bs + 4 * (hv bs 8).toNat
def oD (bs : List Int) : Nat := oH bs + 4 * (hv bs 10).toNat
def oI (bs : List Int) : Nat := oD bs + 4 * (hv bs 12).toNat
def oS (bs : List Int) : Nat := oI bs + 4 * (hv bs 14).toNat
def oK (bs : List Int) : Nat := oS bs + 4 * (hv bs 16).toNat
def oP (bs : List Int) : Nat := oK bs + 4 * (hv bs 18).toNat
def oQ (bs : List Int) : Nat := oP bs + 4 * (hv bs 20).toNat
def rW (bs : List Int) : List Int := sigs bs (oW bs) (hv bs 8).toNat
def rH (bs : List Int) : List Int := sigs bs (oH bs) (hv bs 10).toNat
def rD (bs : List Int) : List Int := sigs bs (oD bs) (hv bs 12).toNat
def rI (bs : List Int) : List Int := sigs bs (oI bs) (hv bs 14).toNat
def zerosB (bs : List Int) : Bool := zeroFirst (rW bs) && (zeroFirst (rH bs) && (zeroFirst (rD bs) && zeroFirst (rI bs)))
def chW (bs : List Int) : List St := wordsAt bs (oC bs) (nC bs)
def metsB (bs : List Int) : Bool := (chW bs).all (metOk (hv bs 8).toNat (hv bs 10).toNat (hv bs 12).toNat (hv bs 14).toNat)
def rMets (bs : List Int) : List Met := (chW bs).map (metR (rW bs) (rH bs) (rD bs) (rI bs))
/-- the font that is read -/
def readF (bs : List Int) : Fnt := ⟨unsV (wordS bs 24), unsV (wordS bs 28), trimF (hv bs 4) (rMets bs), trimL (rMets bs), wordsAt bs (oS bs) (hv bs 16).toNat, sigs bs (oK bs) (hv bs 18).toNat, wordsAt bs (oP bs) (hv bs 20).toNat, sigs bs (oQ bs) (hv bs 22).toNat⟩
theorem hv_seg (c : Cnt) (post : List Int) (hok : ∀ k < 12, 0 ≤ cget c k ∧ cget c k ≤ 32767) : ∀ i < 12, hv (cntL c 12 ++ post) (2 * i) = cget c i := by
  have e : cntL c 12 = halfL (cget c 0) ++ (halfL (cget c 1) ++ (halfL (cget c 2) ++ (halfL (cget c 3) ++ (halfL (cget c 4) ++ (halfL (cget c 5) ++ (halfL (cget c 6) ++ (halfL (cget c 7) ++ (halfL (cget c 8) ++ (halfL (cget c 9) ++ (halfL (cget c 10) ++ halfL (cget c 11))))))))))) := by
    simp [cntL, show List.range 12 = [0, 1, 2, 3, 4, 5, 6, 7, 8, 9, 10, 11] from rfl]
  intro i hi
  have h := hok i hi
  rw [e]
  match i, hi with
  | 0, _ => simp [hv, halfL]; omega
  | 1, _ => simp [hv, halfL]; omega
  | 2, _ => simp [hv, halfL]; omega
  | 3, _ => simp [hv, halfL]; omega
  | 4, _ => simp [hv, halfL]; omega
  | 5, _ => simp [hv, halfL]; omega
  | 6, _ => simp [hv, halfL]; omega
  | 7, _ => simp [hv, halfL]; omega
  | 8, _ => simp [hv, halfL]; omega
  | 9, _ => simp [hv, halfL]; omega
  | 10, _ => simp [hv, halfL]; omega
  | 11, _ => simp [hv, halfL]; omega
theorem map_sig {l : List Int} (h : ∀ x ∈ l, -2147483648 ≤ x ∧ x < 2147483648) : (l.map numS).map sigV = l := by
  rw [List.map_map]
  conv => rhs; rw [← List.map_id l]
  exact List.map_congr_left fun x hx => sig_num (h x hx).1 (h x hx).2
/-- what is written is read as it was -/
theorem read_back (F : Fnt) (x0 x1 x2 x3 : List Int) (c : Cnt) (bs : List Int) (hc : c = cntOf F ((0 :: x0).length : Nat) ((0 :: x1).length : Nat) ((0 :: x2).length : Nat) ((0 :: x3).length : Nat))
    (hb : bs = cntL c 12 ++ (numsL [F.check, F.design] ++ ((F.chars.flatMap fun m => stL (metS x0 x1 x2 x3 m)) ++ (numsL (0 :: x0) ++ (numsL (0 :: x1) ++ (numsL (0 :: x2) ++ (numsL (0 :: x3) ++ (stsL F.steps ++ (numsL F.kerns ++ (stsL F.pieces ++ (numsL F.params ++ [])))))))))))
    (hok : ∀ k < 12, 0 ≤ cget c k ∧ cget c k ≤ 32767) (hf : 0 ≤ F.first ∧ F.first ≤ 255) (hn : (F.chars.length : Int) ≤ 256 - F.first)
    (hck : 0 ≤ F.check ∧ F.check < 4294967296) (hde : 0 ≤ F.design ∧ F.design < 4294967296)
    (r0 : ∀ x ∈ x0, -2147483648 ≤ x ∧ x < 2147483648) (r1 : ∀ x ∈ x1, -2147483648 ≤ x ∧ x < 2147483648) (r2 : ∀ x ∈ x2, -2147483648 ≤ x ∧ x < 2147483648) (r3 : ∀ x ∈ x3, -2147483648 ≤ x ∧ x < 2147483648)
    (rk : ∀ x ∈ F.kerns, -2147483648 ≤ x ∧ x < 2147483648) (rp : ∀ x ∈ F.params, -2147483648 ≤ x ∧ x < 2147483648)
    (hm : ∀ m ∈ F.chars, metOk (x0.length + 1) (x1.length + 1) (x2.length + 1) (x3.length + 1) (metS x0 x1 x2 x3 m) = true ∧ metR (0 :: x0) (0 :: x1) (0 :: x2) (0 :: x3) (metS x0 x1 x2 x3 m) = m)
    (ht : F.chars ≠ [] → ∀ m, (F.chars[0]? = some m ∨ F.chars[F.chars.length - 1]? = some m) → m.tag ≠ -1) (he : F.chars = [] → F.first = 0) :
    (countsB bs = true ∧ zerosB bs = true ∧ metsB bs = true) ∧ readF bs = F := by
  have hs := hv_seg c (numsL [F.check, F.design] ++ ((F.chars.flatMap fun m => stL (metS x0 x1 x2 x3 m)) ++ (numsL (0 :: x0) ++ (numsL (0 :: x1) ++ (numsL (0 :: x2) ++ (numsL (0 :: x3) ++ (stsL F.steps ++ (numsL F.kerns ++ (stsL F.pieces ++ (numsL F.params ++ [])))))))))) hok
  rw [← hb] at hs
  have v0 : hv bs 0 = c.lf := hs 0 (by omega)
  have v1 : hv bs 2 = 2 := (hs 1 (by omega)).trans (by rw [hc]; rfl)
  have v2 : hv bs 4 = if F.chars.length = 0 then 1 else F.first := (hs 2 (by omega)).trans (by rw [hc]; rfl)
  have v3 : hv bs 6 = if F.chars.length = 0 then 0 else F.first + F.chars.length - 1 := (hs 3 (by omega)).trans (by rw [hc]; rfl)
  have v4 : hv bs 8 = ((0 :: x0).length : Nat) := (hs 4 (by omega)).trans (by rw [hc]; rfl)
  have v5 : hv bs 10 = ((0 :: x1).length : Nat) := (hs 5 (by omega)).trans (by rw [hc]; rfl)
  have v6 : hv bs 12 = ((0 :: x2).length : Nat) := (hs 6 (by omega)).trans (by rw [hc]; rfl)
  have v7 : hv bs 14 = ((0 :: x3).length : Nat) := (hs 7 (by omega)).trans (by rw [hc]; rfl)
  have v8 : hv bs 16 = F.steps.length := (hs 8 (by omega)).trans (by rw [hc]; rfl)
  have v9 : hv bs 18 = F.kerns.length := (hs 9 (by omega)).trans (by rw [hc]; rfl)
  have v10 : hv bs 20 = F.pieces.length := (hs 10 (by omega)).trans (by rw [hc]; rfl)
  have v11 : hv bs 22 = F.params.length := (hs 11 (by omega)).trans (by rw [hc]; rfl)
  have vlf : c.lf = wordsC c := by rw [hc]; rfl
  have hwc : wordsC c = 8 + F.chars.length + (0 :: x0).length + (0 :: x1).length + (0 :: x2).length + (0 :: x3).length + F.steps.length + F.kerns.length + F.pieces.length + F.params.length := by
    rw [hc]; unfold wordsC charsC cntOf cnt0; dsimp only; split <;> omega
  have nc : nC bs = F.chars.length := by unfold nC; rw [v2, v3]; split <;> omega
  have c0 : oC bs = 32 := by unfold oC; rw [v1]; rfl
  have hlen : bs.length = 4 * (8 + F.chars.length + (0 :: x0).length + (0 :: x1).length + (0 :: x2).length + (0 :: x3).length + F.steps.length + F.kerns.length + F.pieces.length + F.params.length) := by
    rw [hb]
    simp only [List.length_append, numsL, stsL, flat_len, cntL_len, List.length_nil, List.length_cons]
    omega
  have hcb : cntB bs = c := by
    unfold cntB
    obtain ⟨a0, a1, a2, a3, a4, a5, a6, a7, a8, a9, a10, a11⟩ := c
    simp only [Cnt.mk.injEq]
    exact ⟨hs 0 (by omega), hs 1 (by omega), hs 2 (by omega), hs 3 (by omega), hs 4 (by omega), hs 5 (by omega), hs 6 (by omega), hs 7 (by omega), hs 8 (by omega), hs 9 (by omega), hs 10 (by omega), hs 11 (by omega)⟩
  have h1 : countsB bs = true := by
    rw [countsB_yes, hcb]
    · refine decide_eq_true ⟨by rw [vlf, hwc, hlen]; omega, vlf, by rw [hc]; show (2 : Int) ≤ 2; omega, ?_, ?_⟩
      · rw [hc]; show (if F.chars.length = 0 then (1 : Int) else F.first) ≤ (if F.chars.length = 0 then (0 : Int) else F.first + F.chars.length - 1) + 1; split <;> omega
      · rw [hc]; show (if F.chars.length = 0 then (0 : Int) else F.first + F.chars.length - 1) < 256; split <;> omega
    · intro i hi
      unfold halfOk
      rw [hs i hi]
      exact decide_eq_true ⟨by rw [hlen]; omega, (hok i hi).2⟩
  -- the tables
  obtain ⟨p0, hp0⟩ : ∃ p, p = cntL c 12 := ⟨_, rfl⟩
  have q0 : p0.length = 24 := by rw [hp0, cntL_len]
  rw [← hp0] at hb
  have t0 : wordsAt bs 24 2 = [F.check, F.design].map numS := by rw [hb]; exact wordsAt_seg numS _ _ _ _ _ q0 rfl
  rw [← List.append_assoc] at hb
  obtain ⟨p1, hp1⟩ : ∃ p, p = p0 ++ numsL [F.check, F.design] := ⟨_, rfl⟩
  have q1 : p1.length = 32 := by rw [hp1, List.length_append, q0]; rfl
  rw [← hp1] at hb
  have t1 : chW bs = F.chars.map (metS x0 x1 x2 x3) := by unfold chW; rw [c0, nc, hb]; exact wordsAt_seg _ _ _ _ _ _ q1 rfl
  have o1 : oW bs = 32 + 4 * F.chars.length := by unfold oW; rw [c0, nc]
  rw [← List.append_assoc] at hb
  obtain ⟨p2, hp2⟩ : ∃ p, p = p1 ++ F.chars.flatMap fun m => stL (metS x0 x1 x2 x3 m) := ⟨_, rfl⟩
  have q2 : p2.length = oW bs := by rw [hp2, List.length_append, q1, flat_len, o1]
  rw [← hp2] at hb
  have t2 : rW bs = 0 :: x0 := by
    unfold rW sigs
    rw [v4, Int.toNat_natCast, show wordsAt bs (oW bs) (0 :: x0).length = (0 :: x0).map numS from by generalize oW bs = k at *; rw [hb]; exact wordsAt_seg numS _ _ _ _ _ q2 rfl]
    exact map_sig fun x hx => (List.mem_cons.1 hx).elim (fun e => by omega) (r0 x)
  have o2 : oH bs = oW bs + 4 * (0 :: x0).length := by unfold oH; rw [v4]; rfl
  rw [← List.append_assoc] at hb
  obtain ⟨p3, hp3⟩ : ∃ p, p = p2 ++ numsL (0 :: x0) := ⟨_, rfl⟩
  have q3 : p3.length = oH bs := by rw [hp3, List.length_append, q2, numsL, flat_len, o2]
  rw [← hp3] at hb
  have t3 : rH bs = 0 :: x1 := by
    unfold rH sigs
    rw [v5, Int.toNat_natCast, show wordsAt bs (oH bs) (0 :: x1).length = (0 :: x1).map numS from by generalize oH bs = k at *; rw [hb]; exact wordsAt_seg numS _ _ _ _ _ q3 rfl]
    exact map_sig fun x hx => (List.mem_cons.1 hx).elim (fun e => by omega) (r1 x)
  have o3 : oD bs = oH bs + 4 * (0 :: x1).length := by unfold oD; rw [v5]; rfl
  rw [← List.append_assoc] at hb
  obtain ⟨p4, hp4⟩ : ∃ p, p = p3 ++ numsL (0 :: x1) := ⟨_, rfl⟩
  have q4 : p4.length = oD bs := by rw [hp4, List.length_append, q3, numsL, flat_len, o3]
  rw [← hp4] at hb
  have t4 : rD bs = 0 :: x2 := by
    unfold rD sigs
    rw [v6, Int.toNat_natCast, show wordsAt bs (oD bs) (0 :: x2).length = (0 :: x2).map numS from by generalize oD bs = k at *; rw [hb]; exact wordsAt_seg numS _ _ _ _ _ q4 rfl]
    exact map_sig fun x hx => (List.mem_cons.1 hx).elim (fun e => by omega) (r2 x)
  have o4 : oI bs = oD bs + 4 * (0 :: x2).length := by unfold oI; rw [v6]; rfl
  rw [← List.append_assoc] at hb
  obtain ⟨p5, hp5⟩ : ∃ p, p = p4 ++ numsL (0 :: x2) := ⟨_, rfl⟩
  have q5 : p5.length = oI bs := by rw [hp5, List.length_append, q4, numsL, flat_len, o4]
  rw [← hp5] at hb
  have t5 : rI bs = 0 :: x3 := by
    unfold rI sigs
    rw [v7, Int.toNat_natCast, show wordsAt bs (oI bs) (0 :: x3).length = (0 :: x3).map numS from by generalize oI bs = k at *; rw [hb]; exact wordsAt_seg numS _ _ _ _ _ q5 rfl]
    exact map_sig fun x hx => (List.mem_cons.1 hx).elim (fun e => by omega) (r3 x)
  have o5 : oS bs = oI bs + 4 * (0 :: x3).length := by unfold oS; rw [v7]; rfl
  rw [← List.append_assoc] at hb
  obtain ⟨p6, hp6⟩ : ∃ p, p = p5 ++ numsL (0 :: x3) := ⟨_, rfl⟩
  have q6 : p6.length = oS bs := by rw [hp6, List.length_append, q5, numsL, flat_len, o5]
  rw [← hp6] at hb
  have t6 : wordsAt bs (oS bs) (hv bs 16).toNat = F.steps := by
    rw [v8, Int.toNat_natCast, show wordsAt bs (oS bs) F.steps.length = F.steps.map idS from by generalize oS bs = k at *; rw [hb]; exact wordsAt_seg idS _ _ _ _ _ q6 rfl]
    exact List.map_id _
  have o6 : oK bs = oS bs + 4 * F.steps.length := by unfold oK; rw [v8]; rfl
  rw [← List.append_assoc] at hb
  obtain ⟨p7, hp7⟩ : ∃ p, p = p6 ++ stsL F.steps := ⟨_, rfl⟩
  have q7 : p7.length = oK bs := by rw [hp7, List.length_append, q6, stsL, flat_len, o6]
  rw [← hp7] at hb
  have t7 : sigs bs (oK bs) (hv bs 18).toNat = F.kerns := by
    unfold sigs
    rw [v9, Int.toNat_natCast, show wordsAt bs (oK bs) F.kerns.length = F.kerns.map numS from by generalize oK bs = k at *; rw [hb]; exact wordsAt_seg numS _ _ _ _ _ q7 rfl]
    exact map_sig rk
  have o7 : oP bs = oK bs + 4 * F.kerns.length := by unfold oP; rw [v9]; rfl
  rw [← List.append_assoc] at hb
  obtain ⟨p8, hp8⟩ : ∃ p, p = p7 ++ numsL F.kerns := ⟨_, rfl⟩
  have q8 : p8.length = oP bs := by rw [hp8, List.length_append, q7, numsL, flat_len, o7]
  rw [← hp8] at hb
  have t8 : wordsAt bs (oP bs) (hv bs 20).toNat = F.pieces := by
    rw [v10, Int.toNat_natCast, show wordsAt bs (oP bs) F.pieces.length = F.pieces.map idS from by generalize oP bs = k at *; rw [hb]; exact wordsAt_seg idS _ _ _ _ _ q8 rfl]
    exact List.map_id _
  have o8 : oQ bs = oP bs + 4 * F.pieces.length := by unfold oQ; rw [v10]; rfl
  rw [← List.append_assoc] at hb
  obtain ⟨p9, hp9⟩ : ∃ p, p = p8 ++ stsL F.pieces := ⟨_, rfl⟩
  have q9 : p9.length = oQ bs := by rw [hp9, List.length_append, q8, stsL, flat_len, o8]
  rw [← hp9] at hb
  have t9 : sigs bs (oQ bs) (hv bs 22).toNat = F.params := by
    unfold sigs
    rw [v11, Int.toNat_natCast, show wordsAt bs (oQ bs) F.params.length = F.params.map numS from by generalize oQ bs = k at *; rw [hb]; exact wordsAt_seg numS _ _ _ _ _ q9 rfl]
    exact map_sig rp
  have hmet : rMets bs = F.chars := by
    unfold rMets
    rw [t1, t2, t3, t4, t5, List.map_map]
    conv => rhs; rw [← List.map_id F.chars]
    exact List.map_congr_left fun m h => (hm m h).2
  have hz : zerosB bs = true := by unfold zerosB; rw [t2, t3, t4, t5]; rfl
  have hms : metsB bs = true := by
    unfold metsB
    rw [t1, List.all_map, v4, v5, v6, v7, List.all_eq_true]
    exact fun m h => (hm m h).1
  refine ⟨⟨h1, hz, hms⟩, ?_⟩
  have hlast : wordS bs 24 = numS F.check ∧ wordS bs 28 = numS F.design := by
    rw [wordsAt_cons, wordsAt_cons] at t0
    simp only [List.map_cons, List.cons.injEq] at t0
    exact ⟨t0.1, t0.2.1⟩
  have hv2 : F.chars ≠ [] → hv bs 4 = F.first := fun h => by rw [v2, if_neg (by intro e; exact h (List.length_eq_zero_iff.1 e))]
  have htr : trimL F.chars = F.chars ∧ trimF (hv bs 4) F.chars = F.first := by
    by_cases h : F.chars = []
    · rw [h, he h]; exact ⟨rfl, rfl⟩
    · rw [hv2 h]
      exact trim_same ht _ fun e => absurd e h
  unfold readF
  rw [hlast.1, hlast.2, hmet, t6, t7, t8, t9, htr.1, htr.2, uns_num hck.1 hck.2, uns_num hde.1 hde.2]

def readB (bs : List Int) : Bool := countsB bs && (zerosB bs && (metsB bs && fontB (readF bs)))
theorem fix_bd {x : Int} (h : fixB x = true) : -2147483648 ≤ x ∧ x < 2147483648 := by have := fixB_yes h; omega
theorem font_split {F : Fnt} (h : fontE F = 0) : boundedB F = true ∧ numberedB F = true ∧ charsRB F = true := by
  unfold fontE at h
  split at h
  · rename_i hb
    rw [fontB_eq] at hb
    unfold cfontB at hb
    simp only [Bool.and_eq_true] at hb
    exact ⟨hb.1, hb.2.1, hb.2.2.1⟩
  · cases h
theorem compact_has {l : List Int} {x : Int} (h : x ∈ l) : x ∈ Lib.compact l := by
  have key : ∀ j, ∀ hj : j < l.length, l[j] = x → x ∈ Lib.compact l := by
    intro j
    induction j with
    | zero =>
      intro hj e
      unfold Lib.compact Lib.compactUpTo
      exact List.mem_map.2 ⟨0, List.mem_filter.2 ⟨List.mem_range.2 hj, by simp [Lib.keeps]⟩, by simp [hj, e]⟩
    | succ j ih =>
      intro hj e
      by_cases hp : l[j]'(by omega) = x
      · exact ih (by omega) hp
      · unfold Lib.compact Lib.compactUpTo
        have hne : ¬ x = l[j]'(by omega) := fun q => hp q.symm
        exact List.mem_map.2 ⟨j + 1, List.mem_filter.2 ⟨List.mem_range.2 hj, by simp [Lib.keeps, hj, show j < l.length by omega, e, hne]⟩, by simp [hj, e]⟩
  obtain ⟨j, hj, e⟩ := List.mem_iff_getElem.1 h
  exact key j hj e
theorem rising_has {xs : List Int} {x : Int} (h : x ∈ xs) : x ∈ risingL xs := compact_has (List.mem_mergeSort.2 h)
/-- what is written is read as it was -/
theorem read_write {F : Fnt} (hw : F.wf) (h : fontE F = 0) (hs : sizesB F = true) : readB (writeL F) = true ∧ readF (writeL F) = F := by
  obtain ⟨h1, h2, h3⟩ := font_split h
  unfold boundedB at h1
  rw [decide_eq_true_eq] at h1
  unfold numberedB at h2
  rw [Bool.and_eq_true, Bool.and_eq_true, decide_eq_true_eq, List.all_eq_true] at h2
  unfold sizesB at hs
  rw [decide_eq_true_eq] at hs
  simp only [List.length_cons] at hs
  have hall := List.all_eq_true.1 (charsR_all h3)
  have hch : ∀ m ∈ F.chars, m = ⟨0, 0, 0, 0, -1, 0⟩ ∨ ((fixB m.w = true ∧ fixB m.h = true ∧ fixB m.d = true ∧ fixB m.it = true) ∧ restB F m = true) := fun m hm => by
    have := hall m hm
    unfold charRB at this
    split at this
    · exact .inl (of_decide_eq_true this)
    · simp only [Bool.and_eq_true, List.all_cons, List.all_nil] at this
      exact .inr ⟨⟨this.1.1, this.1.2.1, this.1.2.2.1, this.1.2.2.2.1⟩, this.2⟩
  have hin : ∀ m ∈ F.chars, ¬ m.tag = -1 → m ∈ thereL F.chars := fun m hm ht => List.mem_filter.2 ⟨hm, by simpa using ht⟩
  have hfix : ∀ m ∈ thereL F.chars, fixB m.w = true ∧ fixB m.h = true ∧ fixB m.d = true ∧ fixB m.it = true := fun m hm => by
    obtain ⟨h4, h5⟩ := List.mem_filter.1 hm
    rcases hch m h4 with rfl | h6
    · cases h5
    · exact h6.1
  have hz : ∀ {xs : List Int} {x : Int}, x ∈ xs → x ∈ noZero (risingL xs) ∨ x = 0 := fun {xs x} hx => by
    by_cases h0 : x = 0
    · exact .inr h0
    · exact .inl (List.mem_filter.2 ⟨rising_has hx, by simpa using h0⟩)
  have key := read_back F (tW F) (tH F) (tD F) (tI F) (wCnt F) (writeL F) rfl (by unfold writeL; simp only [List.append_assoc, List.append_nil]; rfl) (wCnt_ok ⟨h1.1, by omega⟩ h1.2.2.1 hs.2.2.2.2) ⟨h1.1, by omega⟩ h1.2.2.1 ⟨hw.check.1, by have := hw.check.2; omega⟩ ⟨by omega, by omega⟩
    (fun x hx => by obtain ⟨m, hm, rfl⟩ := List.mem_map.1 (rising_mem hx); exact fix_bd (hfix m hm).1)
    (fun x hx => by obtain ⟨m, hm, rfl⟩ := List.mem_map.1 (rising_mem (noZero_mem hx)); exact fix_bd (hfix m hm).2.1)
    (fun x hx => by obtain ⟨m, hm, rfl⟩ := List.mem_map.1 (rising_mem (noZero_mem hx)); exact fix_bd (hfix m hm).2.2.1)
    (fun x hx => by obtain ⟨m, hm, rfl⟩ := List.mem_map.1 (rising_mem (noZero_mem hx)); exact fix_bd (hfix m hm).2.2.2)
    (fun x hx => fix_bd (h2.2.1 x hx))
    (fun x hx => by
      have h5 := h2.2.2
      cases hp : F.params with
      | nil => rw [hp] at hx; cases hx
      | cons p ps =>
        rw [hp] at hx h5
        unfold cparsB at h5
        rw [Bool.and_eq_true, decide_eq_true_eq, List.all_eq_true] at h5
        rcases List.mem_cons.1 hx with rfl | hx
        · omega
        · exact fix_bd (h5.2 x hx))
    (fun m hm => met_back (rising_sorted _) (noZero_sorted (rising_sorted _)) (noZero_sorted (rising_sorted _)) (noZero_sorted (rising_sorted _)) (by omega) (by
      rcases hch m hm with e | ⟨h5, h6⟩
      · exact .inl e
      · right
        have ht : 0 ≤ m.tag ∧ m.tag ≤ 3 ∧ (m.tag = 0 → m.rest = 0) := by
          unfold restB at h6
          rw [Bool.and_eq_true] at h6
          have h7 := h6.2
          split at h7
          · rename_i e; rw [e]; exact ⟨by omega, by omega, fun _ => by simpa using h7⟩
          · split at h7
            · omega
            · split at h7
              · omega
              · split at h7
                · omega
                · cases h7
        have hm' := hin m hm (by omega)
        exact ⟨⟨rising_has (List.mem_map.2 ⟨m, hm', rfl⟩), hz (List.mem_map.2 ⟨m, hm', rfl⟩), hz (List.mem_map.2 ⟨m, hm', rfl⟩), hz (List.mem_map.2 ⟨m, hm', rfl⟩)⟩, ⟨ht.1, ht.2.1⟩, ht.2.2⟩))
    (fun hne m hmm => by
      have hp : 0 < F.chars.length := List.length_pos_iff.2 hne
      rw [charsR_cons hp, Bool.and_eq_true, decide_eq_true_eq] at h3
      rcases hmm with e | e
      · rw [List.getElem?_eq_getElem hp] at e; rw [← Option.some.inj e]; exact h3.1.1
      · rw [List.getElem?_eq_getElem (by omega)] at e; rw [← Option.some.inj e]; exact h3.1.2)
    (fun e => by
      unfold charsRB at h3
      rw [e] at h3
      simpa using h3)
  refine ⟨?_, key.2⟩
  unfold readB
  rw [key.1.1, key.1.2.1, key.1.2.2, key.2]
  unfold fontE at h
  split at h
  · assumption
  · cases h
end Go.Proofs.YtdhidpbenhmfgaaGreat
