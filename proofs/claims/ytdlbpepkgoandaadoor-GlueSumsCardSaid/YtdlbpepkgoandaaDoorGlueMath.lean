/- What glue's sums and products come to: they commute, associate where nothing is below 0; twice is the sum of both; a product divided. -/
import Derived.Test.YtdlbpepkgoandaaDoorTimesOver
namespace Go.Proofs.YtdlbpepkgoandaaDoor
open Go.RowKit

theorem ok_cases {g : Gl} (h : g.okB = true) : (-1073741823 ≤ g.nat ∧ g.nat ≤ 1073741823) ∧ (-1073741823 ≤ g.st ∧ g.st ≤ 1073741823) ∧ (-1073741823 ≤ g.sh ∧ g.sh ≤ 1073741823) ∧ (0 ≤ g.so ∧ g.so < 4) ∧ (0 ≤ g.ho ∧ g.ho < 4) := by
  unfold Gl.okB rightB at h
  simp only [Bool.and_eq_true] at h
  exact ⟨dimB_yes h.1, dimB_yes h.2.1.1, dimB_yes h.2.2.1, ordB_yes h.2.1.2, ordB_yes h.2.2.2⟩
theorem ok_of {g : Gl} (h0 : -1073741823 ≤ g.nat ∧ g.nat ≤ 1073741823) (h1 : -1073741823 ≤ g.st ∧ g.st ≤ 1073741823) (h2 : -1073741823 ≤ g.sh ∧ g.sh ≤ 1073741823) (h3 : 0 ≤ g.so ∧ g.so < 4) (h4 : 0 ≤ g.ho ∧ g.ho < 4) : g.okB = true := by
  unfold Gl.okB rightB dimB ordB
  simp [h0, h1, h2, h3, h4]

theorem fit_dim {a : Int} (h : -1073741823 ≤ a ∧ a ≤ 1073741823) : fitB a = true := by
  unfold fitB
  simp; omega

theorem addE_dim {a b : Int} (ha : -1073741823 ≤ a ∧ a ≤ 1073741823) (hb : -1073741823 ≤ b ∧ b ≤ 1073741823) : addE a b = if -1073741823 ≤ a + b ∧ a + b ≤ 1073741823 then 0 else 20 := by
  unfold addE dimE greatB
  rw [fit_dim ha, fit_dim hb]
  by_cases h : -1073741823 ≤ a + b ∧ a + b ≤ 1073741823
  · simp [h]
  · simp [h]
theorem addV_dim {a b : Int} (ha : -1073741823 ≤ a ∧ a ≤ 1073741823) (hb : -1073741823 ≤ b ∧ b ≤ 1073741823) : addV a b = if -1073741823 ≤ a + b ∧ a + b ≤ 1073741823 then a + b else 0 := by
  unfold addV dimV greatB
  rw [fit_dim ha, fit_dim hb]
  by_cases h : -1073741823 ≤ a + b ∧ a + b ≤ 1073741823
  · simp [h]
  · simp [h]

theorem addV_comm (a b : Int) : addV a b = addV b a := by unfold addV; rw [Bool.and_comm, Int.add_comm]
theorem addE_comm (a b : Int) : addE a b = addE b a := by unfold addE; rw [Bool.and_comm, Int.add_comm]
theorem pN_comm (a x b y : Int) : pN a x b y = pN b y a x := by
  unfold pN
  by_cases h0 : a = 0
  · by_cases h1 : b = 0
    · simp [h0, h1]
    · simp [h0, h1]
  · by_cases h1 : b = 0
    · simp [h0, h1]
    · rw [if_neg h0, if_neg h1, if_neg h1, if_neg h0, addV_comm]
      by_cases h2 : x < y
      · rw [if_pos h2, if_neg (by omega), if_pos h2]
      · simp [h2]
theorem pE_comm (a x b y : Int) : pE a x b y = pE b y a x := by
  unfold pE
  by_cases h0 : a = 0
  · by_cases h1 : b = 0
    · simp [h0, h1]
    · simp [h0, h1]
  · by_cases h1 : b = 0
    · simp [h0, h1]
    · rw [if_neg h0, if_neg h1, if_neg h1, if_neg h0, addE_comm]
      by_cases h2 : x < y
      · rw [if_pos h2, if_neg (by omega), if_pos h2]
      · simp [h2]
theorem pO_comm (a x b y : Int) : tidyO (pN a x b y) (pO a x b y) = tidyO (pN b y a x) (pO b y a x) := by
  rw [pN_comm b y a x]
  by_cases h0 : a = 0
  · by_cases h1 : b = 0
    · have : pN a x b y = 0 := by simp [pN, h0, h1]
      simp [tidyO, this]
    · simp [pO, h0, h1]
  · by_cases h1 : b = 0
    · simp [pO, h0, h1]
    · have : pO a x b y = pO b y a x := by
        unfold pO
        rw [if_neg h0, if_neg h1, if_neg h1, if_neg h0]
        by_cases h2 : x < y
        · rw [if_pos h2, if_neg (by omega)]
        · rw [if_neg h2]
          split <;> omega
      rw [this]

theorem plusE_comm (a b : Gl) : plusE a b = plusE b a := by
  unfold plusE
  rw [Bool.and_comm, addE_comm, pE_comm, pE_comm a.sh]
theorem plusG_comm (a b : Gl) : plusG a b = plusG b a := by
  unfold plusG
  rw [plusE_comm, addV_comm a.nat, pO_comm a.st, pO_comm a.sh, pN_comm a.st, pN_comm a.sh]

/-- twice -/
theorem ts2V {x : Int} (h : -1073741823 ≤ x ∧ x ≤ 1073741823) : tsE 2 x = (if x = 0 then 0 else addE x x) ∧ tsV 2 x = (if x = 0 then 0 else addV x x) := by
  have h2 : fitB 2 = true := by decide
  have h0 : fitB 0 = true := by decide
  unfold tsE tsV timesE timesV
  rw [h2, fit_dim h, h0, addE_dim h h, addV_dim h h]
  have e : 2 * x + 0 = x + x := by omega
  unfold dimE dimV greatB
  rw [e]
  by_cases hx : x = 0
  · simp [hx]
  · by_cases hr : -1073741823 ≤ x + x ∧ x + x ≤ 1073741823
    · simp [hx, hr]
    · simp [hx, hr]

theorem okB_and {g : Gl} : (g.okB && g.okB) = g.okB := by cases g.okB <;> rfl

theorem twice (a : Gl) : plusE a a = timesGE a 2 ∧ plusG a a = timesG a 2 := by
  cases h : a.okB
  · have e1 : plusE a a = 30 := by simp [plusE, h]
    have e2 : timesGE a 2 = 30 := by simp [timesGE, eachE, h]
    refine ⟨by rw [e1, e2], ?_⟩
    unfold timesGE at e2
    unfold plusG timesG eachG
    rw [e1, e2]
    rfl
  · obtain ⟨h0, h1, h2, h3, h4⟩ := ok_cases h
    obtain ⟨a0, b0⟩ := ts2V h0
    obtain ⟨a1, b1⟩ := ts2V h1
    obtain ⟨a2, b2⟩ := ts2V h2
    have n0 : addE a.nat a.nat = if a.nat = 0 then 0 else addE a.nat a.nat := by
      by_cases hz : a.nat = 0
      · rw [if_pos hz, hz]; decide
      · rw [if_neg hz]
    have n1 : addV a.nat a.nat = if a.nat = 0 then 0 else addV a.nat a.nat := by
      by_cases hz : a.nat = 0
      · rw [if_pos hz, hz]; decide
      · rw [if_neg hz]
    have p1 : ∀ x o, pE x o x o = if x = 0 then 0 else addE x x := fun x o => by
      unfold pE; by_cases hx : x = 0 <;> simp [hx]
    have p2 : ∀ x o, pN x o x o = if x = 0 then 0 else addV x x := fun x o => by
      unfold pN; by_cases hx : x = 0 <;> simp [hx]
    have p3 : ∀ x o, pO x o x o = o := fun x o => by
      unfold pO; by_cases hx : x = 0 <;> simp [hx]
    have tE : ∀ x, (tsE 2 x = 0 ∨ tsE 2 x = 20) := fun x => by
      unfold tsE; split
      · exact .inl rfl
      · split
        · exact .inl rfl
        · exact .inr rfl
    have eE : plusE a a = timesGE a 2 := by
      unfold plusE timesGE eachE
      rw [okB_and, h, if_pos rfl, if_pos rfl, n0, p1, p1, ← a0, ← a1, ← a2]
      rcases tE a.nat with c0 | c0 <;> rcases tE a.st with c1 | c1 <;> rcases tE a.sh with c2 | c2 <;> simp [c0, c1, c2]
    refine ⟨eE, ?_⟩
    have eE' : eachE a (tsE 2) = plusE a a := eE.symm
    unfold plusG timesG eachG
    rw [eE', n1, p2, p2, p3, p3, ← b0, ← b1, ← b2]

/-- a product divided -/
theorem tsE_zero {n x : Int} (_hx : -1073741823 ≤ x ∧ x ≤ 1073741823) (h : tsE n x = 0) : x = 0 ∧ tsV n x = 0 ∨ x ≠ 0 ∧ tsV n x = n * x ∧ -1073741823 ≤ n * x ∧ n * x ≤ 1073741823 := by
  by_cases h0 : x = 0
  · left; exact ⟨h0, by simp [tsV, h0]⟩
  · right
    have hE : timesE n x 0 = 0 := by
      unfold tsE at h
      rw [if_neg h0] at h
      split at h
      · assumption
      · cases h
    have hV : tsV n x = timesV n x 0 := by simp [tsV, h0, hE]
    unfold timesE at hE
    unfold timesV at hV
    split at hE
    · rename_i hf
      rw [if_pos hf] at hV
      unfold dimE at hE
      split at hE
      · cases hE
      · rename_i hg
        have hg : greatB (n * x + 0) = false := by simpa using hg
        have := great_no hg
        unfold dimV at hV
        rw [hg] at hV
        exact ⟨h0, by rw [hV]; simp, by omega, by omega⟩
    · cases hE

theorem ts1 {x : Int} (hx : -1073741823 ≤ x ∧ x ≤ 1073741823) : tsE 1 x = 0 ∧ tsV 1 x = x := by
  have h2 : fitB 1 = true := by decide
  have h0 : fitB 0 = true := by decide
  by_cases h : x = 0
  · simp [tsE, tsV, h]
  · have hE : timesE 1 x 0 = 0 := by
      unfold timesE dimE greatB
      rw [h2, fit_dim hx, h0]
      simp; omega
    have hV : timesV 1 x 0 = x := by
      unfold timesV dimV greatB
      rw [h2, fit_dim hx, h0]
      simp; omega
    simp [tsE, tsV, h, hE, hV]

theorem dim_mul {n x : Int} (hn : n ≠ 0) : (n * x).tdiv n = x := Int.mul_tdiv_cancel_left _ hn

theorem ts_back {n x : Int} (hn : n ≠ 0) (hx : -1073741823 ≤ x ∧ x ≤ 1073741823) (h : tsE n x = 0) : (-1073741823 ≤ tsV n x ∧ tsV n x ≤ 1073741823) ∧ osV n (tsV n x) = x ∧ (tsV n x = 0 ↔ x = 0) := by
  rcases tsE_zero hx h with ⟨h0, h1⟩ | ⟨h0, h1, h2, h3⟩
  · rw [h1, h0]; simp [osV]
  · rw [h1]
    refine ⟨⟨h2, h3⟩, ?_, ?_⟩
    · unfold osV; rw [if_neg hn, dim_mul hn]
    · simp [hn, h0]

theorem divided (a : Gl) (n : Int) (hn : n ≠ 0) (h : timesGE a n = 0) : overGE (timesG a n) n = 0 ∧ timesGE a 1 = 0 ∧ overG (timesG a n) n = timesG a 1 := by
  have hok : a.okB = true := by
    cases hk : a.okB
    · have e2 : timesGE a n = 30 := by simp [timesGE, eachE, hk]
      rw [e2] at h; cases h
    · rfl
  obtain ⟨h0, h1, h2, h3, h4⟩ := ok_cases hok
  have hz := h
  unfold timesGE eachE at h
  rw [if_pos hok] at h
  have t0 : tsE n a.nat = 0 := by
    split at h
    · rename_i hh; exact absurd h hh
    · rename_i hh; exact Decidable.not_not.1 hh
  rw [if_neg (by simp [t0])] at h
  have t1 : tsE n a.st = 0 := by
    split at h
    · rename_i hh; exact absurd h hh
    · rename_i hh; exact Decidable.not_not.1 hh
  rw [if_neg (by simp [t1])] at h
  have t2 : tsE n a.sh = 0 := h
  obtain ⟨d0, v0, z0⟩ := ts_back hn h0 t0
  obtain ⟨d1, v1, z1⟩ := ts_back hn h1 t1
  obtain ⟨d2, v2, z2⟩ := ts_back hn h2 t2
  obtain ⟨o0, w0⟩ := ts1 h0
  obtain ⟨o1, w1⟩ := ts1 h1
  obtain ⟨o2, w2⟩ := ts1 h2
  have hG : timesG a n = ⟨tsV n a.nat, tsV n a.st, tsV n a.sh, tidyO (tsV n a.st) a.so, tidyO (tsV n a.sh) a.ho⟩ := by
    unfold timesGE at hz
    unfold timesG eachG
    rw [if_pos hz]
  have hG1 : timesGE a 1 = 0 := by unfold timesGE eachE; rw [if_pos hok]; simp [o0, o1, o2]
  have hV1 : timesG a 1 = ⟨a.nat, a.st, a.sh, tidyO a.st a.so, tidyO a.sh a.ho⟩ := by
    have hG1' := hG1
    unfold timesGE at hG1'
    unfold timesG eachG
    rw [if_pos hG1', w0, w1, w2]
  have tb : ∀ x o : Int, 0 ≤ o ∧ o < 4 → 0 ≤ tidyO x o ∧ tidyO x o < 4 := fun x o ho => by unfold tidyO; split <;> omega
  have hok2 : (timesG a n).okB = true := by rw [hG]; exact ok_of d0 d1 d2 (tb _ _ h3) (tb _ _ h4)
  have hO : overGE (timesG a n) n = 0 := by unfold overGE eachE; rw [if_pos hok2]; simp [osE, hn]
  refine ⟨hO, hG1, ?_⟩
  rw [hV1]
  unfold overGE at hO
  unfold overG eachG
  rw [if_pos hO, hG]
  simp only [v0, v1, v2]
  have tt : ∀ x y o : Int, (y = 0 ↔ x = 0) → tidyO x (tidyO y o) = tidyO x o := fun x y o hi => by
    unfold tidyO
    by_cases hx : x = 0
    · simp [hx]
    · rw [if_neg hx, if_neg hx, if_neg (fun hy => hx (hi.1 hy))]
  rw [tt _ _ _ z1, tt _ _ _ z2]

/-- a sum whose parts are all right -/
structure Sums (a b s : Gl) : Prop where
  okA : a.okB = true
  okC : b.okB = true
  nat : s.nat = a.nat + b.nat
  n : -1073741823 ≤ a.nat + b.nat ∧ a.nat + b.nat ≤ 1073741823
  st : s.st = pN a.st a.so b.st b.so
  sh : s.sh = pN a.sh a.ho b.sh b.ho
  so : s.so = tidyO (pN a.st a.so b.st b.so) (pO a.st a.so b.st b.so)
  ho : s.ho = tidyO (pN a.sh a.ho b.sh b.ho) (pO a.sh a.ho b.sh b.ho)
  e1 : pE a.st a.so b.st b.so = 0
  e2 : pE a.sh a.ho b.sh b.ho = 0

theorem sums_of {a b : Gl} (h : plusE a b = 0) : Sums a b (plusG a b) := by
  have hg : plusG a b = ⟨addV a.nat b.nat, pN a.st a.so b.st b.so, pN a.sh a.ho b.sh b.ho, tidyO (pN a.st a.so b.st b.so) (pO a.st a.so b.st b.so), tidyO (pN a.sh a.ho b.sh b.ho) (pO a.sh a.ho b.sh b.ho)⟩ := by
    unfold plusG; rw [if_pos h]
  unfold plusE at h
  split at h
  · rename_i hok
    obtain ⟨hA, hB⟩ := Bool.and_eq_true_iff.1 hok
    split at h
    · rename_i he
      obtain ⟨e0, e1, e2⟩ := he
      have hv := addV_dim (ok_cases hA).1 (ok_cases hB).1
      rw [addE_dim (ok_cases hA).1 (ok_cases hB).1] at e0
      split at e0
      · rename_i hr
        rw [if_pos hr] at hv
        rw [hg]
        exact ⟨hA, hB, hv, hr, rfl, rfl, rfl, rfl, e1, e2⟩
      · cases e0
    · cases h
  · cases h

/-- flexes' sums where nothing is below 0 -/
def qN (a x b y : Int) : Int := if a = 0 then b else if b = 0 then a else if x < y then b else if y < x then a else a + b
theorem pN_q {a x b y : Int} (ha : -1073741823 ≤ a ∧ a ≤ 1073741823) (hb : -1073741823 ≤ b ∧ b ≤ 1073741823) (h : pE a x b y = 0) : pN a x b y = qN a x b y := by
  unfold pN qN
  unfold pE at h
  by_cases h0 : a = 0
  · simp [h0]
  · by_cases h1 : b = 0
    · simp [h0, h1]
    · rw [if_neg h0, if_neg h1] at h
      by_cases h2 : x < y
      · simp [h0, h1, h2]
      · by_cases h3 : y < x
        · simp [h0, h1, h2, h3]
        · rw [if_neg h2, if_neg h3, addE_dim ha hb] at h
          split at h
          · rename_i hr
            simp [h0, h1, h2, h3, addV_dim ha hb, hr]
          · cases h
theorem q_lt {a x b y : Int} (ha : a ≠ 0) (hb : b ≠ 0) (h : x < y) : qN a x b y = b ∧ pO a x b y = y := by
  unfold qN pO; simp [ha, hb, h]
theorem q_gt {a x b y : Int} (ha : a ≠ 0) (hb : b ≠ 0) (h : y < x) : qN a x b y = a ∧ pO a x b y = x := by
  have h' : ¬ x < y := by omega
  unfold qN pO; simp [ha, hb, h, h']
theorem q_eq {a x b : Int} (ha : a ≠ 0) (hb : b ≠ 0) : qN a x b x = a + b ∧ pO a x b x = x := by
  unfold qN pO; simp [ha, hb]
theorem q_l {x b y : Int} : qN 0 x b y = b ∧ pO 0 x b y = y := by unfold qN pO; simp
theorem q_r {a x y : Int} (ha : a ≠ 0) : qN a x 0 y = a ∧ pO a x 0 y = x := by unfold qN pO; simp [ha]
theorem tidy_ne {a o : Int} (ha : a ≠ 0) : tidyO a o = o := by unfold tidyO; simp [ha]
theorem q_tidy {a x b y : Int} : qN a (tidyO a x) b y = qN a x b y ∧ tidyO (qN a x b y) (pO a (tidyO a x) b y) = tidyO (qN a x b y) (pO a x b y) := by
  by_cases ha : a = 0
  · subst ha; simp [q_l.1, q_l.2]
  · rw [tidy_ne ha]; exact ⟨rfl, rfl⟩
theorem q_tidy' {a x b y : Int} : qN a x b (tidyO b y) = qN a x b y ∧ tidyO (qN a x b y) (pO a x b (tidyO b y)) = tidyO (qN a x b y) (pO a x b y) := by
  by_cases hb : b = 0
  · subst hb
    by_cases ha : a = 0
    · subst ha; simp [q_l.1, tidyO]
    · simp [(q_r ha).1, (q_r ha).2]
  · rw [tidy_ne hb]; exact ⟨rfl, rfl⟩
theorem q_assoc (a x b y c z : Int) (ha : 0 ≤ a) (hb : 0 ≤ b) (hc : 0 ≤ c) :
    qN (qN a x b y) (tidyO (qN a x b y) (pO a x b y)) c z = qN a x (qN b y c z) (tidyO (qN b y c z) (pO b y c z)) ∧
    tidyO (qN (qN a x b y) (tidyO (qN a x b y) (pO a x b y)) c z) (pO (qN a x b y) (tidyO (qN a x b y) (pO a x b y)) c z) = tidyO (qN a x (qN b y c z) (tidyO (qN b y c z) (pO b y c z))) (pO a x (qN b y c z) (tidyO (qN b y c z) (pO b y c z))) := by
  rw [q_tidy.1, q_tidy'.1, q_tidy.2, q_tidy'.2]
  by_cases a0 : a = 0
  · subst a0; rw [q_l.1, q_l.2, q_l.1, q_l.2]; exact ⟨rfl, rfl⟩
  · by_cases b0 : b = 0
    · subst b0; rw [(q_r a0).1, (q_r a0).2, q_l.1, q_l.2]; exact ⟨rfl, rfl⟩
    · by_cases c0 : c = 0
      · subst c0
        rw [(q_r b0).1, (q_r b0).2]
        have hq : qN a x b y ≠ 0 := by unfold qN; rw [if_neg a0, if_neg b0]; split <;> (try split) <;> omega
        rw [(q_r hq).1, (q_r hq).2]; exact ⟨rfl, rfl⟩
      · have ab : a + b ≠ 0 := by omega
        have bc : b + c ≠ 0 := by omega
        have key : qN (qN a x b y) (pO a x b y) c z = qN a x (qN b y c z) (pO b y c z) ∧ pO (qN a x b y) (pO a x b y) c z = pO a x (qN b y c z) (pO b y c z) := by
          rcases Int.lt_trichotomy x y with h | rfl | h
          · rw [(q_lt a0 b0 h).1, (q_lt a0 b0 h).2]
            rcases Int.lt_trichotomy y z with k | rfl | k
            · rw [(q_lt b0 c0 k).1, (q_lt b0 c0 k).2, (q_lt a0 c0 (by omega)).1, (q_lt a0 c0 (by omega)).2]; exact ⟨rfl, rfl⟩
            · rw [(q_eq b0 c0).1, (q_eq b0 c0).2, (q_lt a0 bc h).1, (q_lt a0 bc h).2]; exact ⟨rfl, rfl⟩
            · rw [(q_gt b0 c0 k).1, (q_gt b0 c0 k).2, (q_lt a0 b0 h).1, (q_lt a0 b0 h).2]; exact ⟨rfl, rfl⟩
          · rw [(q_eq a0 b0).1, (q_eq a0 b0).2]
            rcases Int.lt_trichotomy x z with k | rfl | k
            · rw [(q_lt b0 c0 k).1, (q_lt b0 c0 k).2, (q_lt a0 c0 k).1, (q_lt a0 c0 k).2, (q_lt ab c0 k).1, (q_lt ab c0 k).2]; exact ⟨rfl, rfl⟩
            · rw [(q_eq b0 c0).1, (q_eq b0 c0).2, (q_eq a0 bc).1, (q_eq a0 bc).2, (q_eq ab c0).1, (q_eq ab c0).2]; exact ⟨by omega, rfl⟩
            · rw [(q_gt b0 c0 k).1, (q_gt b0 c0 k).2, (q_eq a0 b0).1, (q_eq a0 b0).2, (q_gt ab c0 k).1, (q_gt ab c0 k).2]; exact ⟨rfl, rfl⟩
          · rw [(q_gt a0 b0 h).1, (q_gt a0 b0 h).2]
            rcases Int.lt_trichotomy y z with k | rfl | k
            · rw [(q_lt b0 c0 k).1, (q_lt b0 c0 k).2]; exact ⟨rfl, rfl⟩
            · rw [(q_eq b0 c0).1, (q_eq b0 c0).2, (q_gt a0 bc h).1, (q_gt a0 bc h).2, (q_gt a0 c0 h).1, (q_gt a0 c0 h).2]; exact ⟨rfl, rfl⟩
            · rw [(q_gt b0 c0 k).1, (q_gt b0 c0 k).2, (q_gt a0 b0 h).1, (q_gt a0 b0 h).2, (q_gt a0 c0 (by omega)).1, (q_gt a0 c0 (by omega)).2]; exact ⟨rfl, rfl⟩
        rw [key.1, key.2]; exact ⟨rfl, rfl⟩

theorem q_nonneg {a x b y : Int} (ha : 0 ≤ a) (hb : 0 ≤ b) : 0 ≤ qN a x b y := by
  unfold qN; split
  · omega
  · split
    · omega
    · split
      · omega
      · split <;> omega

theorem assoc (a b c : Gl) (na : 0 ≤ a.st ∧ 0 ≤ a.sh) (nb : 0 ≤ b.st ∧ 0 ≤ b.sh) (nc : 0 ≤ c.st ∧ 0 ≤ c.sh) (h1 : plusE a b = 0) (h2 : plusE b c = 0)
    (h3 : plusE (plusG a b) c = 0) (h4 : plusE a (plusG b c) = 0) : plusG (plusG a b) c = plusG a (plusG b c) := by
  have s1 := sums_of h1
  have s2 := sums_of h2
  have s3 := sums_of h3
  have s4 := sums_of h4
  obtain ⟨a0, a1, a2, _, _⟩ := ok_cases s1.okA
  obtain ⟨b0, b1, b2, _, _⟩ := ok_cases s1.okC
  obtain ⟨c0, c1, c2, _, _⟩ := ok_cases s2.okC
  obtain ⟨d0, d1, d2, _, _⟩ := ok_cases s3.okA
  obtain ⟨e0, e1, e2, _, _⟩ := ok_cases s4.okC
  have q1 := pN_q a1 b1 s1.e1
  have q1' := pN_q a2 b2 s1.e2
  have q2 := pN_q b1 c1 s2.e1
  have q2' := pN_q b2 c2 s2.e2
  have q3 := pN_q d1 c1 s3.e1
  have q3' := pN_q d2 c2 s3.e2
  have q4 := pN_q a1 e1 s4.e1
  have q4' := pN_q a2 e2 s4.e2
  have k1 := q_assoc a.st a.so b.st b.so c.st c.so na.1 nb.1 nc.1
  have k2 := q_assoc a.sh a.ho b.sh b.ho c.sh c.ho na.2 nb.2 nc.2
  have n3 := s3.nat
  have n4 := s4.nat
  have t3 := s3.st
  have t4 := s4.st
  have u3 := s3.sh
  have u4 := s4.sh
  have v3 := s3.so
  have v4 := s4.so
  have x3 := s3.ho
  have x4 := s4.ho
  rw [s1.nat] at n3
  rw [s2.nat] at n4
  rw [q3] at t3 v3
  rw [q3'] at u3 x3
  rw [q4] at t4 v4
  rw [q4'] at u4 x4
  rw [s1.st, s1.so, q1] at t3 v3
  rw [s1.sh, s1.ho, q1'] at u3 x3
  rw [s2.st, s2.so, q2] at t4 v4
  rw [s2.sh, s2.ho, q2'] at u4 x4
  generalize plusG (plusG a b) c = L at *
  generalize plusG a (plusG b c) = R at *
  have f0 : L.nat = R.nat := by omega
  have f1 : L.st = R.st := by rw [t3, t4, k1.1]
  have f2 : L.sh = R.sh := by rw [u3, u4, k2.1]
  have f3 : L.so = R.so := by rw [v3, v4, k1.2]
  have f4 : L.ho = R.ho := by rw [x3, x4, k2.2]
  obtain ⟨l0, l1, l2, l3, l4⟩ := L
  obtain ⟨r0, r1, r2, r3, r4⟩ := R
  simp only at f0 f1 f2 f3 f4
  rw [f0, f1, f2, f3, f4]
end Go.Proofs.YtdlbpepkgoandaaDoor
