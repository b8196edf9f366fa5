/- The digits as bytes and as numbers; what is printed, read again. -/
import Derived.Test.YtcdblgfaojejnaaDoorKnuthMath
import Derived.Test.YtcdblgfaojejnaaDoorPad
import Derived.Test.YtcdblgfaojejnaaDoorUnitText
namespace Go.Proofs.YtcdblgfaojejnaaDoor

theorem chr_toNat {c : Nat} (h : c ≤ 9) : ((digC c).toNat : Int) - 48 = c := by
  unfold digC; rw [UInt8.toNat_ofNat']; omega
theorem fracA_map {l : List Nat} (h : ∀ c ∈ l, c ≤ 9) : fracA (l.map digC) = (nfa l : Int) := by
  induction l with
  | nil => rfl
  | cons c l ih =>
    have hc := h c (by simp)
    have hi := ih (fun d hd => h d (by simp [hd]))
    unfold fracA nfa at *
    rw [List.map_cons, List.foldr_cons, hi, chr_toNat hc, List.foldr_cons]
    omega
theorem fracN_map {l : List Nat} (h : ∀ c ∈ l, c ≤ 9) (hl : l.length ≤ 17) : fracN (l.map digC) = (nfn l : Int) := by
  unfold fracN nfn
  rw [List.take_of_length_le (by simpa using hl), fracA_map h]
  omega
theorem fracDigits_map (n : Nat) : ∀ x d : Nat, (65536 < d → 17232 ≤ x) → fracDigits n (x : Int) (d : Int) = (nfd n x d).map digC := by
  induction n with
  | zero => intros; rfl
  | succ n ih =>
    intro x d hxd
    have hy : stepY (x : Int) (d : Int) = (nY x d : Int) := by
      unfold stepY nY
      by_cases h : 65536 < d
      · rw [if_pos (by omega), if_pos h]; have := hxd h; omega
      · rw [if_neg (by omega), if_neg h]
    have hdg : UInt8.ofNat (48 + stepY (x : Int) (d : Int) / 65536).toNat = digC (nY x d / 65536) := by
      rw [hy]; unfold digC; congr 1
    rw [fracDigits, nfd, hdg, hy]
    rw [List.map_cons]
    congr 1
    by_cases h : nY x d % 65536 ≤ d
    · rw [if_pos (by omega), if_pos h]; rfl
    · rw [if_neg (by omega), if_neg h]
      have := ih (10 * (nY x d % 65536)) (10 * d) (by omega)
      rw [← this]
      congr 1 <;> omega
theorem fracOf_map (g : Nat) : fracOf (g : Int) = (npr g).map digC := by
  unfold fracOf npr
  have := fracDigits_map 5 (10 * g + 5) 10 (by omega)
  rw [← this]
  congr 1
theorem okA_out {f : Nat} (h : f < 65536) : nfn (npr f) = f ∧ 1 ≤ (npr f).length ∧ (npr f).length ≤ 5 ∧ ∀ c ∈ npr f, c ≤ 9 := by
  have := okA_at f h
  unfold okA at this
  simp only [Bool.and_eq_true, beq_iff_eq, Nat.ble_eq, List.all_eq_true] at this
  exact ⟨this.1.1.1, this.1.2, this.1.1.2, this.2⟩
theorem fracOf_back {f : Nat} (h : f < 65536) : fracN (fracOf (f : Int)) = f ∧ 1 ≤ (fracOf (f : Int)).length ∧ (fracOf (f : Int)).length ≤ 5 ∧ ∀ c ∈ fracOf (f : Int), isDig c = true := by
  obtain ⟨h1, h2, h3, h4⟩ := okA_out h
  rw [fracOf_map, fracN_map h4 (by omega), h1, List.length_map]
  refine ⟨rfl, h2, h3, ?_⟩
  intro c hc
  rw [List.mem_map] at hc
  obtain ⟨d, hd, rfl⟩ := hc
  exact digC_dig (by have := h4 d hd; omega)

theorem npd_dig (d : Nat) : ∀ k, (∀ c ∈ npd d k, c ≤ 9) ∧ (npd d k).length = d := by
  induction d with
  | zero => intro k; exact ⟨fun c hc => (by cases hc), rfl⟩
  | succ d ih =>
    intro k
    obtain ⟨h1, h2⟩ := ih (k / 10)
    refine ⟨?_, by rw [npd, List.length_append, h2]; rfl⟩
    intro c hc
    rw [npd, List.mem_append] at hc
    rcases hc with hc | hc
    · exact h1 c hc
    · simp at hc; omega
theorem npd_zero (d : Nat) : (npd d 0).map digC = List.replicate d 48 := by
  induction d with
  | zero => rfl
  | succ d ih => rw [npd, List.map_append, ih, List.replicate_succ']; rfl
theorem padL_npd (d : Nat) : ∀ k, 1 ≤ d → k < 10 ^ d → padL k d = (npd d k).map digC ∧ (Lib.decDigits k).length ≤ d := by
  induction d with
  | zero => intro k h; omega
  | succ d ih =>
    intro k _ hk
    by_cases h : k < 10
    · unfold padL
      rw [dec_low h, npd, List.map_append, Nat.div_eq_of_lt h, npd_zero, Nat.mod_eq_of_lt h]
      exact ⟨rfl, by simp⟩
    · have hd : 1 ≤ d := by
        cases d with
        | zero => simp at hk; omega
        | succ d => omega
      have hk' : k / 10 < 10 ^ d := by
        rw [Nat.pow_succ] at hk
        exact Nat.div_lt_of_lt_mul (by rw [Nat.mul_comm]; exact hk)
      obtain ⟨h1, h2⟩ := ih (k / 10) hd hk'
      unfold padL at *
      rw [dec_high h, npd, List.map_append, ← h1, List.length_append]
      refine ⟨?_, by simp; omega⟩
      rw [show d + 1 - ((Lib.decDigits (k / 10)).length + [digC (k % 10)].length) = d - (Lib.decDigits (k / 10)).length from by simp, List.append_assoc]
      rfl
/-- no shorter decimal has it -/
theorem no_shorter {f d k : Nat} (hf : f < 65536) (hd : 1 ≤ d) (hk : k < 10 ^ d) (hl : d + 1 = (fracOf (f : Int)).length) : fracN (padL k d) ≠ (f : Int) := by
  intro he
  have h5 := (fracOf_back hf).2.2.1
  obtain ⟨h1, h2⟩ := npd_dig d k
  rw [(padL_npd d k hd hk).1, fracN_map h1 (by omega)] at he
  have hb := okB_at d k hd (by omega) hk
  unfold okB at hb
  rw [Nat.ble_eq, show nfn (npd d k) = f from by omega] at hb
  rw [fracOf_map, List.length_map] at hl
  omega
theorem wholeN_dec (u : Nat) : u ≤ 2147483647 → wholeN (Lib.decDigits u) = u := by
  induction u using Nat.strongRecOn with
  | ind u ih =>
    intro hu
    by_cases h : u < 10
    · rw [dec_low h]
      have := chr_toNat (c := u) (by omega)
      unfold wholeN
      simp only [List.foldl_cons, List.foldl_nil]
      omega
    · rw [dec_high h, wholeN_snoc, ih _ (by omega) (by omega), chr_toNat (by omega)]
      omega
end Go.Proofs.YtcdblgfaojejnaaDoor
