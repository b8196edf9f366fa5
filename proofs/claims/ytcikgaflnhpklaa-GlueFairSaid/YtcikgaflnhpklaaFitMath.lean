/- What Fit comes to. -/
import Derived.Test.YtcikgaflnhpklaaGreatest
import Derived.Test.YtcikgaflnhpklaaGFit
namespace Go.Proofs.Ytcikgaflnhpklaa
open Go.RowKit

/-- totals of a row -/
structure Tot where
  nat : Int
  a0 : Int
  a1 : Int
  a2 : Int
  a3 : Int
  b0 : Int
  b1 : Int
  b2 : Int
  b3 : Int

def all4 (a b c d : Int) : Bool := inB a && (inB b && (inB c && inB d))
def fitOk (t : Tot) (x : Int) : Bool := inB x && (all4 t.a0 t.a1 t.a2 t.a3 && all4 t.b0 t.b1 t.b2 t.b3)
def pick4 (o : Int) (a b c d : Int) : Int := if o = 0 then a else if o = 1 then b else if o = 2 then c else d

structure Fitted where
  sign : Int
  order : Int
  num : Int
  den : Int
  err : Int

/-- how a row is set, to be so much wider -/
def fitT (t : Tot) (x : Int) : Fitted :=
  if fitOk t x then
    if x = 0 then ⟨0, 0, 0, 0, 0⟩
    else if 0 < x then
      (if tB t.a0 t.a1 t.a2 t.a3 4 then ⟨1, tO t.a1 t.a2 t.a3 4, x, pick4 (tO t.a1 t.a2 t.a3 4) t.a0 t.a1 t.a2 t.a3, 0⟩ else ⟨0, 0, 0, 0, 0⟩)
    else
      (if tB t.b0 t.b1 t.b2 t.b3 4 then
        ⟨2, tO t.b1 t.b2 t.b3 4, (if tO t.b1 t.b2 t.b3 4 = 0 ∧ t.b0 < -x then t.b0 else -x), pick4 (tO t.b1 t.b2 t.b3 4) t.b0 t.b1 t.b2 t.b3, 0⟩
      else ⟨0, 0, 0, 0, 0⟩)
  else ⟨0, 0, 0, 0, 11⟩

def Fitted.ret (f : Fitted) : Ending := .returned (.tuple #[.int .i64 f.sign, .int .i64 f.order, .int .i64 f.num, .int .i64 f.den, .int .i64 f.err])

/-- the greatest order with something, by cases -/
theorem top_cases (a b c d : Int) : (tB a b c d 4 = false ∧ a ≤ 0 ∧ b ≤ 0 ∧ c ≤ 0 ∧ d ≤ 0 ∧ tO b c d 4 = 0) ∨
    (tB a b c d 4 = true ∧ ((tO b c d 4 = 0 ∧ 0 < a ∧ b ≤ 0 ∧ c ≤ 0 ∧ d ≤ 0) ∨ (tO b c d 4 = 1 ∧ 0 < b ∧ c ≤ 0 ∧ d ≤ 0) ∨ (tO b c d 4 = 2 ∧ 0 < c ∧ d ≤ 0) ∨ (tO b c d 4 = 3 ∧ 0 < d))) := by
  by_cases hd : 0 < d
  · exact .inr ⟨by simp [tB, hd], .inr (.inr (.inr ⟨by simp [tO, hd], hd⟩))⟩
  · by_cases hc : 0 < c
    · exact .inr ⟨by simp [tB, hc], .inr (.inr (.inl ⟨by simp [tO, hd, hc], hc, by omega⟩))⟩
    · by_cases hb : 0 < b
      · exact .inr ⟨by simp [tB, hb], .inr (.inl ⟨by simp [tO, hd, hc, hb], hb, by omega, by omega⟩)⟩
      · by_cases ha : 0 < a
        · exact .inr ⟨by simp [tB, ha], .inl ⟨by simp [tO, hd, hc, hb], ha, by omega, by omega, by omega⟩⟩
        · exact .inl ⟨by simp [tB, hd, hc, hb, ha], by omega, by omega, by omega, by omega, by simp [tO, hd, hc, hb]⟩
end Go.Proofs.Ytcikgaflnhpklaa
