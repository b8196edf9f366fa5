/- nodes: a list that came in, whatever its address. -/
import Derived.Test.YtohbomeodcjenaaM41
import Derived.Test.YtohbomeodcjenaaLawBroken5
namespace Go.Proofs.Ytohbomeodcjenaa
open Go.RowKit

def totsA (d : Bool) (l : List Nod) (W : Wk) : Acc := bif d then sumA uprightV (colN l W) else sumA alongV (rowN l W)
def totsE (d : Bool) (l : List Nod) (W : Wk) : Int := bif d then sumE uprightV (colN l W) else sumE alongV (rowN l W)
theorem count_nil (w : World) : Calls Try.prog 47 #[.slice none 0 0] w fun e w' => e = .returned (.tuple #[.int .i64 0, .int .i64 0]) ∧ Kept w w' :=
  Run.closed (P := Try.prog) (by kernel_rfl) (args := [.slice none 0 0]) (Run.unpack 4096 72 0x1000d01100f00f00c00b00d00a00a00a009008008008002002001001004005002000008001001001003003003003007006005005005005005005005005005005005005005005005005005005005004004004004004004004004004004004004004004004004004004004003) 1000 (fun A => by kernel_rfl) w
theorem count_void (a : Addr) (c : Nat) (w : World) : Calls Try.prog 47 #[.slice (some a) 0 c] w fun e w' => e = .returned (.tuple #[.int .i64 0, .int .i64 0]) ∧ Kept w w' :=
  Run.closed (P := Try.prog) (by kernel_rfl) (args := [.slice (some a) 0 c]) (Run.unpack 4096 72 0x1000d01100f00f00c00b00d00a00a00a009008008008002002001001004005002000008001001001003003003003007006005005005005005005005005005005005005005005005005005005005004004004004004004004004004004004004004004004004004004004003) 1000 (fun A => by kernel_rfl) w
theorem down_nil (w : World) : Calls Try.prog 41 #[.slice none 0 0, .bool true] w fun e w' => e = .returned (.tuple #[totV acc0, .int .i64 0]) ∧ Kept w w' :=
  Run.closed (P := Try.prog) (by kernel_rfl) (args := [.slice none 0 0, .bool true]) (Run.unpack 4096 132 0x100100100100100100100100100100d00d00d00d00d00d00d00d00d01000d01c01d01c01c00e01c01c01901901900001901901901901901901901b01a00f01101701801601601401401401300a00a00a00200200100100400500200e00b00b00b00b00b00b00b00b00b00b00b00b00b00b00b00b00b00b00b009000009002002002004004004004008007006006006006006006006006006006006006006006006006006006006005005005005005005005005005005005005005005005005005005005004) 1000 (fun A => by kernel_rfl) w
theorem down_void (a : Addr) (c : Nat) (w : World) : Calls Try.prog 41 #[.slice (some a) 0 c, .bool true] w fun e w' => e = .returned (.tuple #[totV acc0, .int .i64 0]) ∧ Kept w w' :=
  Run.closed (P := Try.prog) (by kernel_rfl) (args := [.slice (some a) 0 c, .bool true]) (Run.unpack 4096 132 0x100100100100100100100100100100d00d00d00d00d00d00d00d00d01000d01c01d01c01c00e01c01c01901901900001901901901901901901901b01a00f01101701801601601401401401300a00a00a00200200100100400500200e00b00b00b00b00b00b00b00b00b00b00b00b00b00b00b00b00b00b00b009000009002002002004004004004008007006006006006006006006006006006006006006006006006006006006005005005005005005005005005005005005005005005005005005005004) 1000 (fun A => by kernel_rfl) w
theorem across_nil (w : World) : Calls Try.prog 41 #[.slice none 0 0, .bool false] w fun e w' => e = .returned (.tuple #[totV acc0, .int .i64 0]) ∧ Kept w w' :=
  Run.closed (P := Try.prog) (by kernel_rfl) (args := [.slice none 0 0, .bool false]) (Run.unpack 4096 132 0x100100100100100100100100100100d00d00d00d00d00d00d00d00d01000d01c01d01c01c00e01c01c01901901900001901901901901901901901b01a00f01101701801601601401401401300a00a00a00200200100100400500200e00b00b00b00b00b00b00b00b00b00b00b00b00b00b00b00b00b00b00b009000009002002002004004004004008007006006006006006006006006006006006006006006006006006006006005005005005005005005005005005005005005005005005005005005004) 1000 (fun A => by kernel_rfl) w
theorem across_void (a : Addr) (c : Nat) (w : World) : Calls Try.prog 41 #[.slice (some a) 0 c, .bool false] w fun e w' => e = .returned (.tuple #[totV acc0, .int .i64 0]) ∧ Kept w w' :=
  Run.closed (P := Try.prog) (by kernel_rfl) (args := [.slice (some a) 0 c, .bool false]) (Run.unpack 4096 132 0x100100100100100100100100100100d00d00d00d00d00d00d00d00d01000d01c01d01c01c00e01c01c01901901900001901901901901901901901b01a00f01101701801601601401401401300a00a00a00200200100100400500200e00b00b00b00b00b00b00b00b00b00b00b00b00b00b00b00b00b00b00b009000009002002002004004004004008007006006006006006006006006006006006006006006006006006006006005005005005005005005005005005005005005005005005005005005004) 1000 (fun A => by kernel_rfl) w
structure Lst (w : World) (A : Option Addr) (l : List Nod) (c bl ol : Nat) : Prop where
  ax : l.length = 0 ∨ A = some ⟨bl, ol, none⟩
  sat : ∀ w', Kept w w' → Sat w' [] [.row bl ol 19 l.length (rowOf l)] w'
  chk : ∀ w', Kept w w' → ∀ v, checkB l = v → Calls Try.prog 45 #[.slice A l.length c] w' fun e w2 => e = .returned (.int .i64 v) ∧ Kept w' w2
  cnt : ∀ w', Kept w w' → ∀ W, Good l W → Calls Try.prog 47 #[.slice A l.length c] w' fun e w2 => e = .returned (.tuple #[.int .i64 (countN l W : Int), .int .i64 0]) ∧ Kept w' w2
  tot : ∀ w', Kept w w' → ∀ W d, Good l W → Calls Try.prog 41 #[.slice A l.length c, .bool d] w' fun e w2 => e = .returned (.tuple #[totV (totsA d l W), .int .i64 (totsE d l W)]) ∧ Kept w' w2
theorem row_sat {w : World} {b o n sz : Nat} {f : Nat → List Value} (h : 0 < n → b < w.heap.size ∧ ∀ k, k < n → ∀ j v, (f k)[j]? = some v → w.cell? ⟨b, o + k * sz + j, none⟩ = some v) : Sat w [] [.row b o sz n f] w := by
  refine ⟨.refl _ _, fun e he => ?_, fun i j e e' hij hi hj => ?_⟩
  · rw [List.mem_singleton.1 he]
    exact fun hn => h hn
  · have q1 := (List.getElem?_eq_some_iff.1 hi).1
    have q2 := (List.getElem?_eq_some_iff.1 hj).1
    simp at q1 q2
    omega
theorem Kept.cell {w w' : World} (k : Kept w w') {b o : Nat} (h : b < w.heap.size) : w'.cell? ⟨b, o, none⟩ = w.cell? ⟨b, o, none⟩ := by
  unfold World.cell?
  rw [k.block b h]
theorem tots_down (l : List Nod) (bl ol cl : Nat) (W : Wk) (hG : Good l W) (d : Bool) (w : World) (hq : Sat w [] [.row bl ol 19 l.length (rowOf l)] w) :
    Calls Try.prog 41 #[.slice (some ⟨bl, ol, none⟩) l.length cl, .bool d] w fun e w' => e = .returned (.tuple #[totV (totsA d l W), .int .i64 (totsE d l W)]) ∧ Kept w w' := by
  cases d with
  | true => exact totDown_any l bl ol cl W hG w hq
  | false => exact totAcross_any l bl ol cl W hG w hq
theorem lst_row {w : World} {l : List Nod} {bl ol : Nat} (c : Nat) (h : 0 < l.length → bl < w.heap.size ∧ ∀ k, k < l.length → ∀ j v, (rowOf l k)[j]? = some v → w.cell? ⟨bl, ol + k * 19 + j, none⟩ = some v) : Lst w (some ⟨bl, ol, none⟩) l c bl ol := by
  have hs : ∀ w', Kept w w' → Sat w' [] [.row bl ol 19 l.length (rowOf l)] w' := fun w' k => row_sat fun hn => by
    obtain ⟨h1, h2⟩ := h hn
    exact ⟨Nat.lt_of_lt_of_le h1 k.size, fun q hq j v hv => (k.cell h1).trans (h2 q hq j v hv)⟩
  exact ⟨.inr rfl, hs, fun w' k v hv => checkv_any l bl ol c w' v hv (hs w' k), fun w' k W hG => goodCount_any l bl ol c W hG w' (hs w' k), fun w' k W d hG => tots_down l bl ol c W hG d w' (hs w' k)⟩
theorem tots_nil (d : Bool) (W : Wk) : totV (totsA d [] W) = totV acc0 ∧ totsE d [] W = 0 := by
  cases d <;> exact ⟨rfl, rfl⟩
theorem lst_nil (w : World) : Lst w none [] 0 0 0 :=
  ⟨.inl rfl, fun w' _ => row_sat fun h => absurd h (by simp), fun w' _ v hv => by subst hv; exact check_nil w', fun w' _ W _ => count_nil w', fun w' _ W d _ => by
    rw [(tots_nil d W).1, (tots_nil d W).2]
    cases d
    · exact across_nil w'
    · exact down_nil w'⟩
theorem lst_void (w : World) (p : Addr) (c : Nat) : Lst w (some p) [] c 0 0 :=
  ⟨.inl rfl, fun w' _ => row_sat fun h => absurd h (by simp), fun w' _ v hv => by subst hv; exact check_void p c w', fun w' _ W _ => count_void p c w', fun w' _ W d _ => by
    rw [(tots_nil d W).1, (tots_nil d W).2]
    cases d
    · exact across_void p c w'
    · exact down_void p c w'⟩
/-- however it came in -/
theorem lst_of (w : World) (A : Option Addr) (l : List Nod) (c : Nat) (hnil : A = none → l = [] ∧ c = 0)
    (hrow : ∀ a, A = some a → 0 < l.length → a.spot = none ∧ a.block < w.heap.size ∧ ∀ k, k < l.length → ∀ j v, (rowOf l k)[j]? = some v → w.cell? ⟨a.block, a.off + k * 19 + j, none⟩ = some v) : ∃ bl ol, Lst w A l c bl ol := by
  cases A with
  | none =>
    obtain ⟨rfl, rfl⟩ := hnil rfl
    exact ⟨0, 0, lst_nil w⟩
  | some p =>
    rcases Nat.eq_zero_or_pos l.length with h0 | h0
    · obtain rfl := List.length_eq_zero_iff.1 h0
      exact ⟨0, 0, lst_void w p c⟩
    · obtain ⟨h1, h2, h3⟩ := hrow p rfl h0
      obtain ⟨b, o, s⟩ := p
      simp only at h1 h2 h3
      subst h1
      exact ⟨b, o, lst_row c fun _ => ⟨h2, h3⟩⟩
/-! ### of both together -/
theorem colN_join {a b : List Nod} {A B : Wk} (ha : Good a A) (hb : Good b B) : colN (a ++ b) (mvW A a.length B) = colN a A ++ colN b B := itemsN_join ha hb
theorem tot_of {ns : List Nod} {v : Nod → Int} (h : sumE v ns = 0) : sumA v ns = { accN (skF ns) (skF ns).length with nat := wr (accN (skF ns) (skF ns).length).nat (natF v ns 0) } := by
  unfold sumE totE at h
  unfold sumA totA
  cases hd : dimB (wr (accN (skF ns) (skF ns).length).nat (natF v ns 0)) with
  | false => rw [hd] at h; cases h
  | true => rfl
theorem sum_join {x y : List Nod} {v : Nod → Int} (h1 : sumE v x = 0) (h2 : sumE v y = 0) (h3 : sumE v (x ++ y) = 0) : sumA v (x ++ y) = addA (sumA v x) (sumA v y) := by
  rw [tot_of h1, tot_of h2, tot_of h3, natF_join, skF_app, accN_join]
  simp only [addA]
  rw [wr_four]
theorem tots_join {a b : List Nod} {A B : Wk} {d : Bool} (ha : Good a A) (hb : Good b B) (h1 : totsE d a A = 0) (h2 : totsE d b B = 0) (h3 : totsE d (a ++ b) (mvW A a.length B) = 0) :
    totsA d (a ++ b) (mvW A a.length B) = addA (totsA d a A) (totsA d b B) := by
  cases d with
  | true =>
    simp only [totsE, cond_true] at h1 h2 h3
    simp only [totsA, cond_true]
    rw [colN_join ha hb] at h3 ⊢
    exact sum_join h1 h2 h3
  | false =>
    simp only [totsE, cond_false] at h1 h2 h3
    simp only [totsA, cond_false]
    rw [rowN_join ha hb] at h3 ⊢
    exact sum_join h1 h2 h3
end Go.Proofs.Ytohbomeodcjenaa
