/- Digits at a text's beginning, their worth as a whole number and as decimals: plain mathematics on lists of bytes. -/
import Derived.Test.YtcikgaflnhpklaaDoorBase
import Derived.Lib.Strings
import Derived.Lib.IndexBytes
namespace Go.Proofs.YtcikgaflnhpklaaDoor

def isDig (c : UInt8) : Bool := decide (48 ≤ c.toNat ∧ c.toNat ≤ 57)
/-- the digits at the beginning -/
def digs (l : List UInt8) : List UInt8 := l.takeWhile isDig
/-- what stands behind them -/
def rest (l : List UInt8) : List UInt8 := l.dropWhile isDig

theorem tw_self {l : List UInt8} (h : ∀ c ∈ l, isDig c = true) : l.takeWhile isDig = l := by
  induction l with
  | nil => rfl
  | cons c l ih => rw [List.takeWhile_cons, h c (by simp), if_pos rfl, ih (fun d hd => h d (by simp [hd]))]
theorem digs_stop {l : List UInt8} {k : Nat} {c : UInt8} (h : (l.take k).all isDig = true) (hk : l[k]? = some c) (hc : isDig c = false) : digs l = l.take k := by
  have hlt : k < l.length := (List.getElem?_eq_some_iff.1 hk).1
  have e : l = l.take k ++ (c :: l.drop (k + 1)) := by
    have hc' : l[k] = c := (List.getElem?_eq_some_iff.1 hk).2
    rw [← hc', ← List.drop_eq_getElem_cons hlt, List.take_append_drop]
  unfold digs
  have h2 : (l.take k).takeWhile isDig = l.take k := tw_self (List.all_eq_true.1 h)
  conv => lhs; rw [e]
  rw [List.takeWhile_append_of_pos (by simpa [List.all_eq_true] using h)]
  simp [hc]
theorem digs_all {l : List UInt8} (h : l.all isDig = true) : digs l = l := tw_self (List.all_eq_true.1 h)
theorem all_snoc {l : List UInt8} {k : Nat} {c : UInt8} (h : (l.take k).all isDig = true) (hk : l[k]? = some c) (hc : isDig c = true) : (l.take (k + 1)).all isDig = true := by
  rw [List.take_add_one, hk, List.all_append, h]
  simp [hc]
theorem digs_length_le (l : List UInt8) : (digs l).length ≤ l.length := by
  unfold digs; exact (List.takeWhile_prefix _).length_le
theorem digs_all_dig (l : List UInt8) : ∀ c ∈ digs l, isDig c = true := fun c h => by
  unfold digs at h; exact (List.all_eq_true.1 List.all_takeWhile) c h
theorem drop_digs (l : List UInt8) : l.drop (digs l).length = rest l := by
  have h : l = digs l ++ rest l := (List.takeWhile_append_dropWhile (p := isDig) (l := l)).symm
  conv => lhs; rw [h]
  rw [show (digs l ++ rest l).drop (digs (digs l ++ rest l)).length = (digs l ++ rest l).drop (digs l).length from by rw [← h]]
  simp

/-- the whole number: it stops to grow at 2^31 -/
def wholeN (l : List UInt8) : Int := l.foldl (fun n c => min (10 * n + ((c.toNat : Int) - 48)) 2147483648) 0
theorem wholeN_snoc (l : List UInt8) (c : UInt8) : wholeN (l ++ [c]) = min (10 * wholeN l + ((c.toNat : Int) - 48)) 2147483648 := by
  unfold wholeN; rw [List.foldl_append]; rfl
theorem wholeN_bd (l : List UInt8) (h : ∀ c ∈ l, isDig c = true) : 0 ≤ wholeN l ∧ wholeN l ≤ 2147483648 := by
  unfold wholeN
  have H : ∀ (m : List UInt8) (n : Int), (∀ c ∈ m, isDig c = true) → 0 ≤ n ∧ n ≤ 2147483648 → 0 ≤ m.foldl (fun n c => min (10 * n + ((c.toNat : Int) - 48)) 2147483648) n ∧ m.foldl (fun n c => min (10 * n + ((c.toNat : Int) - 48)) 2147483648) n ≤ 2147483648 := by
    intro m
    induction m with
    | nil => intro n _ h; exact h
    | cons c m ih =>
      intro n hm hn
      have hc := hm c (by simp)
      simp [isDig] at hc
      exact ih _ (fun d hd => hm d (by simp [hd])) (by dsimp only; omega)
  exact H l 0 h (by omega)

/-- decimals: the last digit first, of at most 17 -/
def fracA (l : List UInt8) : Int := l.foldr (fun c a => (a + 131072 * ((c.toNat : Int) - 48)) / 10) 0
def fracN (l : List UInt8) : Int := (fracA (l.take 17) + 1) / 2
theorem fracA_bd (l : List UInt8) (h : ∀ c ∈ l, isDig c = true) : 0 ≤ fracA l ∧ fracA l ≤ 131071 := by
  induction l with
  | nil => simp [fracA]
  | cons c l ih =>
    have hc := h c (by simp)
    simp [isDig] at hc
    have := ih (fun d hd => h d (by simp [hd]))
    simp only [fracA, List.foldr_cons] at this ⊢
    omega
theorem fracN_bd (l : List UInt8) (h : ∀ c ∈ l, isDig c = true) : 0 ≤ fracN l ∧ fracN l ≤ 65536 := by
  have := fracA_bd (l.take 17) (fun c hc => h c (List.mem_of_mem_take hc))
  unfold fracN; omega
end Go.Proofs.YtcikgaflnhpklaaDoor
