/- Knuth's simple program: what is printed is read as it was, and no shorter decimal is: the 65536 fractions, one by one, by the kernel. -/
import Derived.Test.YtcdblgfaojejnaaDoorPrintMath
import Derived.Test.YtcdblgfaojejnaaDoorDigitsMath
namespace Go.Proofs.YtcdblgfaojejnaaDoor

def nY (x d : Nat) : Nat := if 65536 < d then x - 17232 else x
def nfd : Nat → Nat → Nat → List Nat
  | 0, _, _ => []
  | n + 1, x, d => nY x d / 65536 :: if nY x d % 65536 ≤ d then [] else nfd n (10 * (nY x d % 65536)) (10 * d)
def nfa (l : List Nat) : Nat := l.foldr (fun c a => (a + 131072 * c) / 10) 0
def nfn (l : List Nat) : Nat := (nfa l + 1) / 2
def npr (f : Nat) : List Nat := nfd 5 (10 * f + 5) 10
def okA (f : Nat) : Bool := nfn (npr f) == f && Nat.ble (npr f).length 5 && Nat.ble 1 (npr f).length && (npr f).all (fun c => Nat.ble c 9)
/-- k with d digits -/
def npd : Nat → Nat → List Nat
  | 0, _ => []
  | d + 1, k => npd d (k / 10) ++ [k % 10]
def okB (d k : Nat) : Bool := Nat.ble (npr (nfn (npd d k))).length d

def chk : Nat → Nat → Bool
  | 0, f => okA f
  | d + 1, f => chk d (2 * f) && chk d (2 * f + 1)
theorem chk_sound (d : Nat) : ∀ f, chk d f = true → ∀ g, f * 2 ^ d ≤ g → g < (f + 1) * 2 ^ d → okA g = true := by
  induction d with
  | zero =>
    intro f h g h1 h2
    obtain rfl : g = f := by omega
    exact h
  | succ d ih =>
    intro f h g h1 h2
    rw [chk, Bool.and_eq_true] at h
    rw [Nat.pow_succ] at h1 h2
    by_cases hg : g < (2 * f + 1) * 2 ^ d
    · exact ih _ h.1 g (by rw [Nat.mul_comm 2 f, Nat.mul_assoc, Nat.mul_comm 2]; exact h1) hg
    · refine ih _ h.2 g (by omega) ?_
      rw [show (2 * f + 1 + 1) * 2 ^ d = (f + 1) * (2 ^ d * 2) from by rw [show 2 * f + 1 + 1 = (f + 1) * 2 from by omega, Nat.mul_assoc, Nat.mul_comm 2]]
      exact h2
theorem chk0 : chk 11 0 = true := by decide +kernel
theorem chk1 : chk 11 1 = true := by decide +kernel
theorem chk2 : chk 11 2 = true := by decide +kernel
theorem chk3 : chk 11 3 = true := by decide +kernel
theorem chk4 : chk 11 4 = true := by decide +kernel
theorem chk5 : chk 11 5 = true := by decide +kernel
theorem chk6 : chk 11 6 = true := by decide +kernel
theorem chk7 : chk 11 7 = true := by decide +kernel
theorem chk8 : chk 11 8 = true := by decide +kernel
theorem chk9 : chk 11 9 = true := by decide +kernel
theorem chk10 : chk 11 10 = true := by decide +kernel
theorem chk11 : chk 11 11 = true := by decide +kernel
theorem chk12 : chk 11 12 = true := by decide +kernel
theorem chk13 : chk 11 13 = true := by decide +kernel
theorem chk14 : chk 11 14 = true := by decide +kernel
theorem chk15 : chk 11 15 = true := by decide +kernel
theorem chk16 : chk 11 16 = true := by decide +kernel
theorem chk17 : chk 11 17 = true := by decide +kernel
theorem chk18 : chk 11 18 = true := by decide +kernel
theorem chk19 : chk 11 19 = true := by decide +kernel
theorem chk20 : chk 11 20 = true := by decide +kernel
theorem chk21 : chk 11 21 = true := by decide +kernel
theorem chk22 : chk 11 22 = true := by decide +kernel
theorem chk23 : chk 11 23 = true := by decide +kernel
theorem chk24 : chk 11 24 = true := by decide +kernel
theorem chk25 : chk 11 25 = true := by decide +kernel
theorem chk26 : chk 11 26 = true := by decide +kernel
theorem chk27 : chk 11 27 = true := by decide +kernel
theorem chk28 : chk 11 28 = true := by decide +kernel
theorem chk29 : chk 11 29 = true := by decide +kernel
theorem chk30 : chk 11 30 = true := by decide +kernel
theorem chk31 : chk 11 31 = true := by decide +kernel
theorem chk_all (i : Nat) (h : i < 32) : chk 11 i = true := by
  have h' : i = 0 ∨ i = 1 ∨ i = 2 ∨ i = 3 ∨ i = 4 ∨ i = 5 ∨ i = 6 ∨ i = 7 ∨ i = 8 ∨ i = 9 ∨ i = 10 ∨ i = 11 ∨ i = 12 ∨ i = 13 ∨ i = 14 ∨ i = 15 ∨ i = 16 ∨ i = 17 ∨ i = 18 ∨ i = 19 ∨ i = 20 ∨ i = 21 ∨ i = 22 ∨ i = 23 ∨ i = 24 ∨ i = 25 ∨ i = 26 ∨ i = 27 ∨ i = 28 ∨ i = 29 ∨ i = 30 ∨ i = 31 := by omega
  rcases h' with rfl | rfl | rfl | rfl | rfl | rfl | rfl | rfl | rfl | rfl | rfl | rfl | rfl | rfl | rfl | rfl | rfl | rfl | rfl | rfl | rfl | rfl | rfl | rfl | rfl | rfl | rfl | rfl | rfl | rfl | rfl | rfl
  · exact chk0
  · exact chk1
  · exact chk2
  · exact chk3
  · exact chk4
  · exact chk5
  · exact chk6
  · exact chk7
  · exact chk8
  · exact chk9
  · exact chk10
  · exact chk11
  · exact chk12
  · exact chk13
  · exact chk14
  · exact chk15
  · exact chk16
  · exact chk17
  · exact chk18
  · exact chk19
  · exact chk20
  · exact chk21
  · exact chk22
  · exact chk23
  · exact chk24
  · exact chk25
  · exact chk26
  · exact chk27
  · exact chk28
  · exact chk29
  · exact chk30
  · exact chk31
theorem okA_at (f : Nat) (h : f < 65536) : okA f = true :=
  chk_sound 11 (f / 2048) (chk_all _ (by omega)) f (by omega) (by omega)
set_option maxRecDepth 100000 in
theorem allB1 : ∀ k : Fin 10, okB 1 k.val = true := by decide +kernel
set_option maxRecDepth 100000 in
theorem allB2 : ∀ k : Fin 100, okB 2 k.val = true := by decide +kernel
set_option maxRecDepth 100000 in
theorem allB3 : ∀ a : Fin 10, ∀ k : Fin 100, okB 3 (100 * a.val + k.val) = true := by decide +kernel
set_option maxRecDepth 100000 in
theorem allB4a : ∀ a : Fin 25, ∀ k : Fin 100, okB 4 (100 * a.val + k.val) = true := by decide +kernel
set_option maxRecDepth 100000 in
theorem allB4b : ∀ a : Fin 25, ∀ k : Fin 100, okB 4 (2500 + 100 * a.val + k.val) = true := by decide +kernel
set_option maxRecDepth 100000 in
theorem allB4c : ∀ a : Fin 25, ∀ k : Fin 100, okB 4 (5000 + 100 * a.val + k.val) = true := by decide +kernel
set_option maxRecDepth 100000 in
theorem allB4d : ∀ a : Fin 25, ∀ k : Fin 100, okB 4 (7500 + 100 * a.val + k.val) = true := by decide +kernel
theorem okB_at (d k : Nat) (h1 : 1 ≤ d) (h4 : d ≤ 4) (hk : k < 10 ^ d) : okB d k = true := by
  have hd : d = 1 ∨ d = 2 ∨ d = 3 ∨ d = 4 := by omega
  rcases hd with rfl | rfl | rfl | rfl
  · exact allB1 ⟨k, by simpa using hk⟩
  · exact allB2 ⟨k, by simpa using hk⟩
  · have := allB3 ⟨k / 100, by omega⟩ ⟨k % 100, by omega⟩
    rw [show 100 * (k / 100) + k % 100 = k from by omega] at this
    exact this
  · by_cases a : k < 2500
    · have := allB4a ⟨k / 100, by omega⟩ ⟨k % 100, by omega⟩
      rw [show 100 * (k / 100) + k % 100 = k from by omega] at this
      exact this
    · by_cases b : k < 5000
      · have := allB4b ⟨(k - 2500) / 100, by omega⟩ ⟨(k - 2500) % 100, by omega⟩
        rw [show 2500 + 100 * ((k - 2500) / 100) + (k - 2500) % 100 = k from by omega] at this
        exact this
      · by_cases c : k < 7500
        · have := allB4c ⟨(k - 5000) / 100, by omega⟩ ⟨(k - 5000) % 100, by omega⟩
          rw [show 5000 + 100 * ((k - 5000) / 100) + (k - 5000) % 100 = k from by omega] at this
          exact this
        · have := allB4d ⟨(k - 7500) / 100, by omega⟩ ⟨(k - 7500) % 100, by omega⟩
          rw [show 7500 + 100 * ((k - 7500) / 100) + (k - 7500) % 100 = k from by omega] at this
          exact this
end Go.Proofs.YtcdblgfaojejnaaDoor
