/- Chains of greater characters: which end, and in how many steps. -/
import Derived.Test.YtdhidpbenhmfgaaGreatCLoops
namespace Go.Proofs.YtdhidpbenhmfgaaGreat

theorem pigeon : ∀ (n t : Nat) (f : Nat → Nat), (∀ s < t, f s < n) → (∀ s u, s < t → u < t → f s = f u → s = u) → t ≤ n
  | 0, t, f, h, _ => by
    rcases Nat.eq_zero_or_pos t with h0 | h0
    · omega
    · exact absurd (h 0 h0) (Nat.not_lt_zero _)
  | n + 1, t, f, h, hi => by
    by_cases he : ∃ s, s < t ∧ f s = n
    · obtain ⟨s0, hs0, hn⟩ := he
      have := pigeon n (t - 1) (fun s => if s = s0 then f (t - 1) else f s) (fun s hs => by
        split
        · rename_i e
          have h1 := h (t - 1) (by omega)
          have h2 : f (t - 1) ≠ n := fun e2 => by
            have := hi (t - 1) s0 (by omega) hs0 (by rw [e2, hn])
            omega
          omega
        · rename_i e
          have h1 := h s (by omega)
          have h2 : f s ≠ n := fun e2 => e (hi s s0 (by omega) hs0 (by rw [e2, hn]))
          omega) (fun s u hs hu e => by
        split at e
        · split at e
          · omega
          · have := hi _ _ (by omega) (by omega) e; omega
        · split at e
          · have := hi _ _ (by omega) (by omega) e; omega
          · exact hi _ _ (by omega) (by omega) e)
      omega
    · have := pigeon n t f (fun s hs => by
        have h1 := h s hs
        have h2 : f s ≠ n := fun e => he ⟨s, hs, e⟩
        omega) hi
      omega

def tagAt (F : Fnt) (i : Nat) : Int := match F.chars[i]? with | some m => m.tag | none => 0
def nx (F : Fnt) (i : Nat) : Nat := match F.chars[i]? with | some m => (m.rest - F.first).toNat | none => 0
theorem tagAt_of {F : Fnt} {i : Nat} (h : i < F.chars.length) : tagAt F i = F.chars[i].tag := by unfold tagAt; rw [List.getElem?_eq_getElem h]
theorem nx_of {F : Fnt} {i : Nat} (h : i < F.chars.length) : nx F i = (F.chars[i].rest - F.first).toNat := by unfold nx; rw [List.getElem?_eq_getElem h]
/-- whoever tells a greater one tells one that is there -/
def Told (F : Fnt) : Prop := ∀ i, ∀ h : i < F.chars.length, F.chars[i].tag = 2 → nx F i < F.chars.length ∧ F.chars[i].rest = F.first + nx F i ∧ 0 ≤ F.chars[i].rest ∧ F.chars[i].rest < 256 ∧ thereAt F F.chars[i].rest = some (nx F i)

def endsAt (F : Fnt) : Nat → Nat → Prop
  | 0, i => ¬ tagAt F i = 2
  | t + 1, i => tagAt F i = 2 ∧ endsAt F t (nx F i)
def Ends (F : Fnt) (i : Nat) : Prop := ∃ t, endsAt F t i
def stepsTo (F : Fnt) : Nat → Nat → Nat → Prop
  | 0, i, x => i = x
  | t + 1, i, x => tagAt F i = 2 ∧ stepsTo F t (nx F i) x

section
variable {F : Fnt}
theorem ends_one : ∀ {a b i : Nat}, endsAt F a i → endsAt F b i → a = b
  | 0, 0, _, _, _ => rfl
  | 0, b + 1, _, h, k => absurd k.1 h
  | a + 1, 0, _, h, k => absurd h.1 k
  | a + 1, b + 1, _, h, k => by rw [ends_one h.2 k.2]
theorem steps_fore : ∀ {r j x t : Nat}, stepsTo F r j x → endsAt F t x → endsAt F (t + r) j
  | 0, _, _, _, h, k => by obtain rfl : _ = _ := h; exact k
  | r + 1, _, _, _, h, k => ⟨h.1, steps_fore h.2 k⟩
theorem steps_back : ∀ {r j x t : Nat}, stepsTo F r j x → endsAt F t j → r ≤ t ∧ endsAt F (t - r) x
  | 0, _, _, _, h, k => by obtain rfl : _ = _ := h; exact ⟨Nat.zero_le _, k⟩
  | r + 1, _, _, 0, h, k => absurd h.1 k
  | r + 1, _, _, t + 1, h, k => by
    obtain ⟨h1, h2⟩ := steps_back h.2 k.2
    exact ⟨by omega, by rw [show t + 1 - (r + 1) = t - r by omega]; exact h2⟩
theorem steps_more : ∀ {r j x : Nat}, stepsTo F r j x → tagAt F x = 2 → stepsTo F (r + 1) j (nx F x)
  | 0, _, _, h, k => by obtain rfl : _ = _ := h; exact ⟨k, rfl⟩
  | r + 1, _, _, h, k => ⟨h.1, steps_more h.2 k⟩
theorem steps_ends {r j x : Nat} (h : stepsTo F r j x) : Ends F j ↔ Ends F x :=
  ⟨fun ⟨_, k⟩ => ⟨_, (steps_back h k).2⟩, fun ⟨_, k⟩ => ⟨_, steps_fore h k⟩⟩
theorem no_round {r x : Nat} (h : stepsTo F r x x) (hr : 0 < r) : ¬ Ends F x := fun ⟨t, k⟩ => by
  obtain ⟨h1, h2⟩ := steps_back h k
  have := ends_one k h2
  omega

theorem chain_ends (V : Told F) : ∀ {m i : Nat}, i < F.chars.length → (chainB F m i = true ↔ ∃ t, t < m ∧ endsAt F t i)
  | 0, i, _ => by simp [chainB]
  | m + 1, i, hi => by
    by_cases ht : F.chars[i].tag = 2
    · obtain ⟨h1, _, _, _, h2⟩ := V i hi ht
      rw [chain_some hi ht h2, chain_ends V h1]
      constructor
      · rintro ⟨t, ht1, he⟩
        exact ⟨t + 1, by omega, by rw [tagAt_of hi]; exact ht, he⟩
      · rintro ⟨t, ht1, he⟩
        cases t with
        | zero => exact absurd (by rw [tagAt_of hi]; exact ht) he
        | succ t => exact ⟨t, by omega, he.2⟩
    · rw [chain_stop hi ht]
      exact ⟨fun _ => ⟨0, by omega, by show ¬ tagAt F i = 2; rw [tagAt_of hi]; exact ht⟩, fun _ => rfl⟩

def pth (F : Fnt) (i : Nat) : Nat → Nat
  | 0 => i
  | s + 1 => nx F (pth F i s)
theorem pth_ends (V : Told F) {t i : Nat} (h : endsAt F t i) (hi : i < F.chars.length) : ∀ s, s ≤ t → endsAt F (t - s) (pth F i s) ∧ pth F i s < F.chars.length
  | 0, _ => ⟨h, hi⟩
  | s + 1, hs => by
    obtain ⟨h1, h2⟩ := pth_ends V h hi s (by omega)
    obtain ⟨u, hu⟩ : ∃ u, t - s = u + 1 := ⟨t - s - 1, by omega⟩
    rw [hu] at h1
    have ht : F.chars[pth F i s].tag = 2 := by rw [← tagAt_of h2]; exact h1.1
    exact ⟨by rw [show t - (s + 1) = u by omega]; exact h1.2, (V _ h2 ht).1⟩
theorem ends_soon (V : Told F) {t i : Nat} (h : endsAt F t i) (hi : i < F.chars.length) : t < F.chars.length := by
  have := pigeon F.chars.length (t + 1) (pth F i) (fun s hs => (pth_ends V h hi s (by omega)).2) (fun s u hs hu e => by
    have h1 := (pth_ends V h hi s (by omega)).1
    have h2 := (pth_ends V h hi u (by omega)).1
    rw [← e] at h2
    have := ends_one h1 h2
    omega)
  omega
theorem chain_iff (V : Told F) {i : Nat} (hi : i < F.chars.length) : chainB F (F.chars.length + 1) i = true ↔ Ends F i := by
  rw [chain_ends V hi]
  exact ⟨fun ⟨t, _, h⟩ => ⟨t, h⟩, fun ⟨t, h⟩ => ⟨t, by have := ends_soon V h hi; omega, h⟩⟩
end

def chainsB (F : Fnt) : Bool := (List.range F.chars.length).all fun i => chainB F (F.chars.length + 1) i
theorem chains_no {F : Fnt} (V : Told F) {i : Nat} (hi : i < F.chars.length) (h : ¬ Ends F i) : chainsB F = false := by
  refine range_no hi ?_
  rw [← Bool.not_eq_true, chain_iff V hi]
  exact h
theorem chains_yes {F : Fnt} (V : Told F) (h : ∀ i < F.chars.length, Ends F i) : chainsB F = true :=
  range_yes fun i hi => (chain_iff V hi).2 (h i hi)
theorem told_of {F : Fnt} (h : charsAll F = true) : Told F := fun i hi ht => by
  have h1 := List.all_eq_true.1 h _ (List.getElem_mem hi)
  unfold charRB at h1
  rw [if_neg (by omega), Bool.and_eq_true] at h1
  have h2 := h1.2
  unfold restB at h2
  rw [if_neg (by omega), if_neg (by omega), if_pos ht, Bool.and_eq_true, decide_eq_true_eq] at h2
  obtain ⟨⟨h3, h4⟩, h5⟩ := h2
  unfold thB at h5
  cases hth : thereAt F F.chars[i].rest with
  | none => rw [hth] at h5; cases h5
  | some k =>
    have hk := there_lt hth
    have e : F.first ≤ F.chars[i].rest ∧ k = (F.chars[i].rest - F.first).toNat := by
      unfold thereAt at hth
      split at hth
      · rename_i hc
        split at hth
        · split at hth
          · cases hth; exact ⟨hc.1, rfl⟩
          · cases hth
        · cases hth
      · cases hth
    have e2 : nx F i = k := by rw [nx_of hi, e.2]
    rw [e2]
    exact ⟨hk, by omega, h3, h4, rfl⟩

/-- the marks behind some rounds, amid a chain's walk -/
structure Marked (F : Fnt) (k x : Nat) (met : Nat → Int) : Prop where
  at' : ∃ r, stepsTo F r k x
  lt : x < F.chars.length
  marks : ∀ j < 256, met j = 0 ∨ (1 ≤ met j ∧ met j ≤ k ∧ Ends F j) ∨ (met j = k + 1 ∧ tagAt F j = 2 ∧ ∃ r, 0 < r ∧ stepsTo F r j x)
structure Marks (F : Fnt) (k : Nat) (met : Nat → Int) : Prop where
  past : ∀ j < k, Ends F j
  marks : ∀ j < 256, met j = 0 ∨ (1 ≤ met j ∧ met j ≤ k ∧ Ends F j)
def setF (met : Nat → Int) (x : Nat) (v : Int) : Nat → Int := fun j => if j = x then v else met j
def zeros (met : Nat → Int) : Nat := (List.range 256).countP fun j => met j == 0

theorem Marks.start {F : Fnt} {k : Nat} {met : Nat → Int} (h : Marks F k met) (hk : k < F.chars.length) : Marked F k k met :=
  ⟨⟨0, rfl⟩, hk, fun j hj => (h.marks j hj).elim .inl fun q => .inr (.inl q)⟩
theorem Marked.go {F : Fnt} {k x : Nat} {met : Nat → Int} (V : Told F) (h : Marked F k x met) (ht : tagAt F x = 2) (_h0 : met x = 0) : Marked F k (nx F x) (setF met x (k + 1)) := by
  obtain ⟨⟨r, hr⟩, hx, hm⟩ := h
  refine ⟨⟨r + 1, steps_more hr ht⟩, (V x hx (by rw [← tagAt_of hx]; exact ht)).1, fun j hj => ?_⟩
  unfold setF
  split
  · rename_i e
    subst e
    exact .inr (.inr ⟨rfl, ht, 1, by omega, ht, rfl⟩)
  · rcases hm j hj with q | q | ⟨q1, q2, r', hr', q3⟩
    · exact .inl q
    · exact .inr (.inl q)
    · exact .inr (.inr ⟨q1, q2, r' + 1, by omega, steps_more q3 ht⟩)
theorem Marked.end {F : Fnt} {k x : Nat} {met : Nat → Int} (h : Marked F k x met) (hp : ∀ j < k, Ends F j) (he : Ends F x) : Marks F (k + 1) met := by
  obtain ⟨⟨r, hr⟩, hx, hm⟩ := h
  refine ⟨fun j hj => ?_, fun j hj => ?_⟩
  · by_cases e : j = k
    · subst e; exact (steps_ends hr).2 he
    · exact hp j (by omega)
  · rcases hm j hj with q | ⟨q1, q2, q3⟩ | ⟨q1, q2, r', hr', q3⟩
    · exact .inl q
    · exact .inr ⟨q1, by omega, q3⟩
    · exact .inr ⟨by omega, by omega, (steps_ends q3).2 he⟩
theorem Marked.round {F : Fnt} {k x : Nat} {met : Nat → Int} (h : Marked F k x met) (hx : x < 256) (hm : met x = k + 1) : ¬ Ends F k := by
  obtain ⟨⟨r, hr⟩, _, hms⟩ := h
  rcases hms x hx with q | ⟨q1, q2, q3⟩ | ⟨q1, q2, r', hr', q3⟩
  · omega
  · omega
  · rw [steps_ends hr]; exact no_round q3 hr'
theorem Marked.old {F : Fnt} {k x : Nat} {met : Nat → Int} (h : Marked F k x met) (hx : x < 256) (hm : ¬ met x = k + 1) (h0 : ¬ met x = 0) : Ends F x := by
  rcases h.marks x hx with q | ⟨q1, q2, q3⟩ | ⟨q1, q2, r', hr', q3⟩
  · omega
  · exact q3
  · omega
theorem Marked.plain {F : Fnt} {k x : Nat} {met : Nat → Int} (h : Marked F k x met) (hx : x < 256) (ht : ¬ tagAt F x = 2) : ¬ met x = k + 1 ∧ Ends F x := by
  refine ⟨fun e => ?_, 0, ht⟩
  rcases h.marks x hx with q | ⟨q1, q2, q3⟩ | ⟨q1, q2, r', hr', q3⟩
  · omega
  · omega
  · exact ht q2
theorem Marked.bd {F : Fnt} {k x : Nat} {met : Nat → Int} (h : Marked F k x met) (hk : k < 256) (hx : x < 256) : 0 ≤ met x ∧ met x ≤ 256 := by
  rcases h.marks x hx with q | ⟨q1, q2, q3⟩ | ⟨q1, q2, r', hr', q3⟩ <;> omega
theorem zeros_less {met : Nat → Int} {x : Nat} {v : Int} (hx : x < 256) (h0 : met x = 0) (hv : ¬ v = 0) : zeros (setF met x v) < zeros met := by
  unfold zeros
  have key : ∀ n, (List.range n).countP (fun j => setF met x v j == 0) + (if x < n then 1 else 0) = (List.range n).countP (fun j => met j == 0) := by
    intro n
    induction n with
    | zero => simp
    | succ n ih =>
      rw [List.range_succ, List.countP_append, List.countP_append]
      simp only [List.countP_singleton]
      by_cases e : n = x
      · subst e
        simp only [Nat.lt_irrefl, if_false, Nat.add_zero] at ih
        have e1 : (setF met n v n == 0) = false := by unfold setF; rw [if_pos rfl]; simpa using hv
        have e2 : (met n == 0) = true := by simpa using h0
        rw [e1, e2, ih]
        simp
      · have e1 : setF met x v n = met n := by unfold setF; rw [if_neg e]
        rw [e1]
        have e3 : (if x < n + 1 then 1 else 0) = (if x < n then 1 else 0) := by
          by_cases hn : x < n
          · rw [if_pos hn, if_pos (by omega)]
          · rw [if_neg hn, if_neg (by omega)]
        rw [e3]
        omega
  have := key 256
  rw [if_pos hx] at this
  omega
end Go.Proofs.YtdhidpbenhmfgaaGreat
