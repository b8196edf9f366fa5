/- Roman numbers: plain mathematics. -/
import Derived.Test.YtcdblgfaojejnaaDoorBase
namespace Go.Proofs.YtcdblgfaojejnaaDoor

/-- numbers that have letters of their own -/
def romanTab : List (Nat × List UInt8) := [(1000, [109]), (900, [99, 109]), (500, [100]), (400, [99, 100]), (100, [99]), (90, [120, 99]), (50, [108]), (40, [120, 108]), (10, [120]), (9, [105, 120]), (5, [118]), (4, [105, 118]), (1, [105])]
def greedy : List (Nat × List UInt8) → Nat → List UInt8
  | [], _ => []
  | (v, l) :: r, n => (List.replicate (n / v) l).flatten ++ greedy r (n % v)
theorem greedy_more {v : Nat} {l : List UInt8} {r : List (Nat × List UInt8)} {n : Nat} (hv : 0 < v) (h : v ≤ n) : greedy ((v, l) :: r) n = l ++ greedy ((v, l) :: r) (n - v) := by
  have e1 : n / v = (n - v) / v + 1 := by rw [Nat.div_eq_sub_div hv h]
  have e2 : n % v = (n - v) % v := Nat.mod_eq_sub_mod h
  simp only [greedy]
  rw [e1, e2, List.replicate_succ, List.flatten_cons, List.append_assoc]
theorem greedy_next {v : Nat} {l : List UInt8} {r : List (Nat × List UInt8)} {n : Nat} (h : n < v) : greedy ((v, l) :: r) n = greedy r n := by
  simp only [greedy]
  rw [Nat.div_eq_of_lt h, Nat.mod_eq_of_lt h]
  rfl
def romanL (n : Nat) : List UInt8 := greedy romanTab n
theorem romanL_thousand (n : Nat) : romanL n = List.replicate (n / 1000) 109 ++ greedy romanTab.tail (n % 1000) := by
  show (List.replicate (n / 1000) [109]).flatten ++ greedy romanTab.tail (n % 1000) = _
  congr 1
  generalize n / 1000 = k
  induction k with
  | zero => rfl
  | succ k ih => rw [List.replicate_succ, List.flatten_cons, ih, List.replicate_succ]; rfl

/-- one place: its ones, fives and tens, as the document has them -/
def place : Nat → List UInt8 → List UInt8 → List UInt8 → List UInt8
  | 0, _, _, _ => []
  | 1, a, _, _ => a
  | 2, a, _, _ => a ++ a
  | 3, a, _, _ => a ++ (a ++ a)
  | 4, a, b, _ => a ++ b
  | 5, _, b, _ => b
  | 6, a, b, _ => b ++ a
  | 7, a, b, _ => b ++ (a ++ a)
  | 8, a, b, _ => b ++ (a ++ (a ++ a))
  | _, a, _, c => a ++ c
def below1000 (n : Nat) : List UInt8 := place (n / 100 % 10) [99] [100] [109] ++ place (n / 10 % 10) [120] [108] [99] ++ place (n % 10) [105] [118] [120]
theorem greedy_below : ∀ n : Fin 1000, greedy romanTab.tail n.val = below1000 n.val := by decide +kernel
theorem romanL_places (n : Nat) : romanL n = List.replicate (n / 1000) 109 ++ below1000 n := by
  rw [romanL_thousand, greedy_below ⟨n % 1000, Nat.mod_lt _ (by decide)⟩]
  unfold below1000
  rw [show n % 1000 / 100 % 10 = n / 100 % 10 from by omega, show n % 1000 / 10 % 10 = n / 10 % 10 from by omega, show n % 1000 % 10 = n % 10 from by omega]

/-- what a letter is worth -/
def worthOf (c : UInt8) : Int :=
  if c = 109 then 1000 else if c = 100 then 500 else if c = 99 then 100 else if c = 108 then 50 else if c = 120 then 10 else if c = 118 then 5 else if c = 105 then 1 else 0
def sumW : List UInt8 → Int
  | [] => 0
  | [c] => worthOf c
  | c :: d :: r => (if worthOf c < worthOf d then -worthOf c else worthOf c) + sumW (d :: r)
theorem worth_bd (c : UInt8) : 0 ≤ worthOf c ∧ worthOf c ≤ 1000 := by
  unfold worthOf; repeat' split
  all_goals omega
theorem sumW_below : ∀ n : Fin 1000, sumW (greedy romanTab.tail n.val) = n.val := by decide +kernel
theorem sumW_m (l : List UInt8) : sumW (109 :: l) = 1000 + sumW l := by
  cases l with
  | nil => decide
  | cons d r =>
    have := (worth_bd d).2
    have hm : worthOf 109 = 1000 := by decide
    rw [sumW, hm, if_neg (by omega)]
theorem sumW_roman (n : Nat) : sumW (romanL n) = n := by
  rw [romanL_thousand]
  have h : ∀ k, sumW (List.replicate k 109 ++ greedy romanTab.tail (n % 1000)) = 1000 * k + ((n % 1000 : Nat) : Int) := by
    intro k
    induction k with
    | zero => rw [List.replicate_zero, List.nil_append, sumW_below ⟨n % 1000, Nat.mod_lt _ (by decide)⟩]; simp
    | succ k ih => rw [List.replicate_succ, List.cons_append, sumW_m, ih]; omega
  rw [h]; omega
theorem romanL_length (n : Nat) (h : n ≤ 20000) : (romanL n).length ≤ 32 := by
  rw [romanL_thousand, List.length_append, List.length_replicate]
  have hb : ∀ m : Fin 1000, (greedy romanTab.tail m.val).length ≤ 12 := by decide +kernel
  have := hb ⟨n % 1000, Nat.mod_lt _ (by decide)⟩
  simp only at this
  omega
end Go.Proofs.YtcdblgfaojejnaaDoor
