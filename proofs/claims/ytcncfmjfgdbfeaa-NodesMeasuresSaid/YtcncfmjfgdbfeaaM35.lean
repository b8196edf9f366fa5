/- OpenNod LawBroken5 NodLst Fast15 NodFl NodFm. -/
import Derived.Test.YtcncfmjfgdbfeaaM34
import Derived.Test.YtcncfmjfgdbfeaaFast11
import Derived.Test.YtcncfmjfgdbfeaaM12
import Derived.Test.YtcncfmjfgdbfeaaM28
namespace Go.Proofs.Ytcncfmjfgdbfeaa
open Go.ChangeShapes Go.WideShapes Go.ChangeAt Go.RowKit Go.Deep
def strAt (P : Program) : Nat → TypeId → Nat → Bool
 | 0, _, _ => false
 | k + 1, t, j => match P.underlying t with
  | some .string => decide (j = 0) && decide (P.cellsOf t = 1)
  | some (.struct fs) => match fs.toList.find? fun f => decide (f.offset ≤ j) && decide (j < f.offset + P.cellsOf f.type) with
   | some f => strAt P k f.type (j - f.offset)
   | none => false
  | _ => false
section
variable {H : Type} {enc : TypeId × Value → H} {P : Program} {w : World} {base : Nat} {spare : Nat → Bool} {held : Bool}
theorem str_open : ∀ (k : Nat) {t : TypeId} {fuel : Nat} {cs : List Value} {x : DataW H × List MemPlace} {j : Nat}, DataW.trod enc P w base spare held fuel t cs = some x → strAt P k t j = true →
  ∃ s : ByteArray, cs[j]? = some (.string s) ∧ s.size ≤ maxLen := by
 intro k
 induction k with
 | zero => intro t fuel cs x j _ h; simp [strAt] at h
 | succ k ih =>
  intro t fuel cs x j hx h
  unfold strAt at h
  split at h
  ·rename_i ht
   simp only [Bool.and_eq_true, decide_eq_true_eq] at h
   obtain ⟨rfl, _⟩ := h
   obtain ⟨s, rfl, _, hs⟩ := DataW.trod_string ht hx
   exact ⟨s, rfl, hs⟩
  ·rename_i fs ht
   obtain ⟨ys, m, _, rfl, hlen, hyl, hf⟩ := DataW.trod_struct ht hx
   split at h
   ·rename_i f hff
    have hin := List.find?_some hff
    simp only [Bool.and_eq_true, decide_eq_true_eq] at hin
    obtain ⟨i, hi⟩ := List.mem_iff_getElem?.1 (List.mem_of_find?_eq_some hff)
    have hi' : fs[i]? = some f := by rw [← Array.getElem?_toList]; exact hi
    have hil : i < fs.size := (Array.getElem?_eq_some_iff.1 hi').1
    have hr := hf i f hi'
    rw [List.getElem?_eq_getElem (show i < ys.length by omega)] at hr
    obtain ⟨s, hs, hm⟩ := ih hr h
    rw [cut_get hin.1 hin.2] at hs
    exact ⟨s, hs, hm⟩
   cases h
  cases h
end
section
variable {H : Type} {enc : TypeId × Value → H} {w : World}
set_option maxRecDepth 100000 in
set_option maxHeartbeats 4000000 in
theorem open_nodes {r : Reach} {b0 : Nat} {v : Value} {d : DataW H} {p : List MemPlace} (hv : Value.okWide Try.prog w r b0 59 v) (h : DataW.Trod enc Try.prog w 0 (fun _ => true) true 59 v d p) :
  ∃ (A : Option Addr) (l : List Nod) (c : Nat), v = .slice A l.length c ∧ l.length ≤ c ∧ c ≤ maxLen ∧ (A = none → l = [] ∧ c = 0) ∧
   ∀ a, A = some a → 0 < l.length → a.spot = none ∧ a.block < w.heap.size ∧ ∀ k, k < l.length → ∀ j v, (rowOf l k)[j]? = some v → w.cell? ⟨a.block, a.off + k * 19 + j, none⟩ = some v := by
 obtain ⟨fuel, hf⟩ := h
 obtain ⟨a0, n0, c0, rfl⟩ := okWide_slice Try.underlying59 hv
 have hc1 : (Value.slice a0 n0 c0).cells.toList = [.slice a0 n0 c0] := rfl
 rw [hc1] at hf
 rcases open_slice Try.underlying59 hf with ⟨h1, _⟩ | ⟨a, len, cap, m, n, D, Pl, h1, _, hle, hcap, hm, _, hall⟩
 ·simp only [List.cons.injEq, and_true, Value.slice.injEq] at h1
  obtain ⟨rfl, rfl, rfl⟩ := h1
  exact ⟨none, [], 0, rfl, by simp, by simp, fun _ => ⟨rfl, rfl⟩, fun a h => by cases h⟩
 simp only [List.cons.injEq, and_true, Value.slice.injEq] at h1
 obtain ⟨rfl, rfl, rfl⟩ := h1
 simp only [if_true] at hm
 subst hm
 have hC : Try.prog.cellsOf 63 = 19 := by kernel_rfl
 have hform : ∀ k u, w.cell? (a.add k) = some u → w.cell? ⟨a.block, a.off + k, none⟩ = some u := by
  intro k u hk
  unfold Addr.add at hk
  split at hk
  ·rename_i h0
   subst h0
   have := World.cell?_spot hk
   obtain ⟨ab, ao, asp⟩ := a
   simp only at this
   subst this
   exact hk
  exact hk
 have hex : ∀ i, ∃ g : Nod, i < n0 → ∀ j v, (nodC g)[j]? = some v → w.cell? ⟨a.block, a.off + i * 19 + j, none⟩ = some v := by
  intro i
  by_cases hi : i < n0
  ·obtain ⟨cs', hc, ht'⟩ := hall i (by omega)
   rw [hC] at hc
   obtain ⟨_, hl, hat⟩ := World.cells?_some hc
   obtain ⟨z0, h0, _⟩ := kind_open 4 ht' (show kindAt Try.prog 4 63 0 = some .i64 by kernel_rfl)
   obtain ⟨z1, h1, _⟩ := kind_open 4 ht' (show kindAt Try.prog 4 63 1 = some .i64 by kernel_rfl)
   obtain ⟨z2, h2, _⟩ := kind_open 4 ht' (show kindAt Try.prog 4 63 2 = some .u8 by kernel_rfl)
   obtain ⟨z3, h3, _⟩ := kind_open 4 ht' (show kindAt Try.prog 4 63 3 = some .i64 by kernel_rfl)
   obtain ⟨z4, h4, _⟩ := kind_open 4 ht' (show kindAt Try.prog 4 63 4 = some .i64 by kernel_rfl)
   obtain ⟨z5, h5, _⟩ := kind_open 4 ht' (show kindAt Try.prog 4 63 5 = some .i64 by kernel_rfl)
   obtain ⟨z6, h6, _⟩ := kind_open 4 ht' (show kindAt Try.prog 4 63 6 = some .i64 by kernel_rfl)
   obtain ⟨z7, h7, _⟩ := kind_open 4 ht' (show kindAt Try.prog 4 63 7 = some .i64 by kernel_rfl)
   obtain ⟨z8, h8, _⟩ := kind_open 4 ht' (show kindAt Try.prog 4 63 8 = some .i64 by kernel_rfl)
   obtain ⟨z9, h9, _⟩ := kind_open 4 ht' (show kindAt Try.prog 4 63 9 = some .i64 by kernel_rfl)
   obtain ⟨z10, h10, _⟩ := kind_open 4 ht' (show kindAt Try.prog 4 63 10 = some .i64 by kernel_rfl)
   obtain ⟨z11, h11, _⟩ := kind_open 4 ht' (show kindAt Try.prog 4 63 11 = some .i64 by kernel_rfl)
   obtain ⟨z12, h12, _⟩ := kind_open 4 ht' (show kindAt Try.prog 4 63 12 = some .i64 by kernel_rfl)
   obtain ⟨z13, h13, _⟩ := kind_open 4 ht' (show kindAt Try.prog 4 63 13 = some .i64 by kernel_rfl)
   obtain ⟨z14, h14, _⟩ := kind_open 4 ht' (show kindAt Try.prog 4 63 14 = some .i64 by kernel_rfl)
   obtain ⟨z15, h15, _⟩ := kind_open 4 ht' (show kindAt Try.prog 4 63 15 = some .i64 by kernel_rfl)
   obtain ⟨z16, h16, _⟩ := kind_open 4 ht' (show kindAt Try.prog 4 63 16 = some .i64 by kernel_rfl)
   obtain ⟨z17, h17, _⟩ := kind_open 4 ht' (show kindAt Try.prog 4 63 17 = some .i64 by kernel_rfl)
   obtain ⟨s18, h18, _⟩ := str_open 4 ht' (show strAt Try.prog 4 63 18 = true by kernel_rfl)
   refine ⟨⟨z0, z1, z2, z3, z4, z5, z6, z7, z8, z9, z10, z11, z12, z13, z14, z15, z16, z17, s18⟩, fun _ j v hv => ?_⟩
   have hj : j < 19 := (List.getElem?_eq_some_iff.1 hv).1
   have hcv : cs'[j]? = some v := by
    rw [← hv]
    match j, hj with
    | 0, _ => exact h0
    | 1, _ => exact h1
    | 2, _ => exact h2
    | 3, _ => exact h3
    | 4, _ => exact h4
    | 5, _ => exact h5
    | 6, _ => exact h6
    | 7, _ => exact h7
    | 8, _ => exact h8
    | 9, _ => exact h9
    | 10, _ => exact h10
    | 11, _ => exact h11
    | 12, _ => exact h12
    | 13, _ => exact h13
    | 14, _ => exact h14
    | 15, _ => exact h15
    | 16, _ => exact h16
    | 17, _ => exact h17
    | 18, _ => exact h18
   have h9 := hat j (by omega)
   rw [Go.Deep.add_add, hcv] at h9
   have h10 := hform _ _ h9
   rw [Nat.add_assoc]
   exact h10
  exact ⟨zeroN, fun h => absurd h hi⟩
 obtain ⟨G, hG⟩ := Classical.axiomOfChoice hex
 have hlen : ((List.range n0).map G).length = n0 := by simp
 refine ⟨some a, (List.range n0).map G, m, by rw [hlen], by rw [hlen]; exact hle, hcap, (fun h => by cases h), fun a' ha h0 => ?_⟩
 obtain rfl : a = a' := Option.some.inj ha
 rw [hlen] at h0
 have hsp : a.spot = none := by
  obtain ⟨cs0, hc0, ht0⟩ := hall 0 (by omega)
  rw [hC] at hc0
  obtain ⟨_, hl0, hat0⟩ := World.cells?_some hc0
  have h00 := hat0 0 (by omega)
  rw [List.getElem?_eq_getElem (by omega)] at h00
  exact World.cell?_spot (a := a) h00
 refine ⟨hsp, ?_, fun k hk j v hv => ?_⟩
 ·have := hG 0 h0 0 _ rfl
  exact World.block_lt_of_cell? w ⟨a.block, a.off + 0 * 19 + 0, none⟩ this
 rw [hlen] at hk
 have e : rowOf ((List.range n0).map G) k = nodC (G k) := by simp [rowOf, nth, hk]
 rw [e] at hv
 exact hG k hk j v hv
end
end Go.Proofs.Ytcncfmjfgdbfeaa
namespace Go.Proofs.Ytcncfmjfgdbfeaa
open Go.RowKit
theorem checkv_any (l : List Nod) (bl ol cl : Nat) (w : World) (v : Int) (e : checkB l = v) (hq : Sat w [] [.row bl ol 19 l.length (rowOf l)] w) :
  Calls Try.prog 45 #[.slice (some ⟨bl, ol, none⟩) l.length cl] w fun e' w' => e' = .returned (.int .i64 v) ∧ Kept w w' := by
 rw [← e]; exact check_any l bl ol cl w hq
theorem ropensv_any (n : Nod) (w : World) (b : Bool) (e : enters n.kind = b) : Calls Try.prog 49 #[nodV n] w fun e w' => e = .returned (.bool b) ∧ Kept w w' := by
 rw [← e]; exact ropens_any n w
theorem rowOf_one (l : List Nod) (k : Nat) : ∀ u ∈ rowOf l k, u.oneCell' = true := by
 intro u hu
 simp only [rowOf, nodC, List.mem_cons, List.not_mem_nil, or_false] at hu
 rcases hu with rfl | rfl | rfl | rfl | rfl | rfl | rfl | rfl | rfl | rfl | rfl | rfl | rfl | rfl | rfl | rfl | rfl | rfl | rfl <;> rfl
theorem check_void (a : Addr) (c : Nat) (w : World) : Calls Try.prog 45 #[.slice (some a) 0 c] w fun e w' => e = .returned (.int .i64 0) ∧ Kept w w' :=
 Run.closed (P := Try.prog) kR (args := [.slice (some a) 0 c]) (Run.unpack 4096 49 0x8001001001003003003003007006005005005005005005005005005005005005005005005005005005005004004004004004004004004004004004004004004004004004004004003) 1000 (fun A => by kernel_rfl) w
end Go.Proofs.Ytcncfmjfgdbfeaa
namespace Go.Proofs.Ytcncfmjfgdbfeaa
open Go.RowKit
def totsA (d : Bool) (l : List Nod) (W : Wk) : Acc := bif d then sumA uprightV (colN l W) else sumA alongV (rowN l W)
def totsE (d : Bool) (l : List Nod) (W : Wk) : Int := bif d then sumE uprightV (colN l W) else sumE alongV (rowN l W)
theorem count_nil (w : World) : Calls Try.prog 47 #[.slice none 0 0] w fun e w' => e = .returned (.tuple #[.int .i64 0, .int .i64 0]) ∧ Kept w w' :=
 Run.closed (P := Try.prog) kR (args := [.slice none 0 0]) (Run.unpack 4096 72 0x1000d01100f00f00c00b00d00a00a00a009008008008002002001001004005002000008001001001003003003003007006005005005005005005005005005005005005005005005005005005005004004004004004004004004004004004004004004004004004004004003) 1000 (fun A => by kernel_rfl) w
theorem count_void (a : Addr) (c : Nat) (w : World) : Calls Try.prog 47 #[.slice (some a) 0 c] w fun e w' => e = .returned (.tuple #[.int .i64 0, .int .i64 0]) ∧ Kept w w' :=
 Run.closed (P := Try.prog) kR (args := [.slice (some a) 0 c]) (Run.unpack 4096 72 0x1000d01100f00f00c00b00d00a00a00a009008008008002002001001004005002000008001001001003003003003007006005005005005005005005005005005005005005005005005005005005004004004004004004004004004004004004004004004004004004004003) 1000 (fun A => by kernel_rfl) w
theorem down_nil (w : World) : Calls Try.prog 41 #[.slice none 0 0, .bool true] w fun e w' => e = .returned (.tuple #[totV acc0, .int .i64 0]) ∧ Kept w w' :=
 Run.closed (P := Try.prog) kR (args := [.slice none 0 0, .bool true]) (Run.unpack 4096 132 0x100100100100100100100100100100d00d00d00d00d00d00d00d00d01000d01c01d01c01c00e01c01c01901901900001901901901901901901901b01a00f01101701801601601401401401300a00a00a00200200100100400500200e00b00b00b00b00b00b00b00b00b00b00b00b00b00b00b00b00b00b00b009000009002002002004004004004008007006006006006006006006006006006006006006006006006006006006005005005005005005005005005005005005005005005005005005005004) 1000 (fun A => by kernel_rfl) w
theorem down_void (a : Addr) (c : Nat) (w : World) : Calls Try.prog 41 #[.slice (some a) 0 c, .bool true] w fun e w' => e = .returned (.tuple #[totV acc0, .int .i64 0]) ∧ Kept w w' :=
 Run.closed (P := Try.prog) kR (args := [.slice (some a) 0 c, .bool true]) (Run.unpack 4096 132 0x100100100100100100100100100100d00d00d00d00d00d00d00d00d01000d01c01d01c01c00e01c01c01901901900001901901901901901901901b01a00f01101701801601601401401401300a00a00a00200200100100400500200e00b00b00b00b00b00b00b00b00b00b00b00b00b00b00b00b00b00b00b009000009002002002004004004004008007006006006006006006006006006006006006006006006006006006006005005005005005005005005005005005005005005005005005005005004) 1000 (fun A => by kernel_rfl) w
theorem across_nil (w : World) : Calls Try.prog 41 #[.slice none 0 0, .bool false] w fun e w' => e = .returned (.tuple #[totV acc0, .int .i64 0]) ∧ Kept w w' :=
 Run.closed (P := Try.prog) kR (args := [.slice none 0 0, .bool false]) (Run.unpack 4096 132 0x100100100100100100100100100100d00d00d00d00d00d00d00d00d01000d01c01d01c01c00e01c01c01901901900001901901901901901901901b01a00f01101701801601601401401401300a00a00a00200200100100400500200e00b00b00b00b00b00b00b00b00b00b00b00b00b00b00b00b00b00b00b009000009002002002004004004004008007006006006006006006006006006006006006006006006006006006006005005005005005005005005005005005005005005005005005005005004) 1000 (fun A => by kernel_rfl) w
theorem across_void (a : Addr) (c : Nat) (w : World) : Calls Try.prog 41 #[.slice (some a) 0 c, .bool false] w fun e w' => e = .returned (.tuple #[totV acc0, .int .i64 0]) ∧ Kept w w' :=
 Run.closed (P := Try.prog) kR (args := [.slice (some a) 0 c, .bool false]) (Run.unpack 4096 132 0x100100100100100100100100100100d00d00d00d00d00d00d00d00d01000d01c01d01c01c00e01c01c01901901900001901901901901901901901b01a00f01101701801601601401401401300a00a00a00200200100100400500200e00b00b00b00b00b00b00b00b00b00b00b00b00b00b00b00b00b00b00b009000009002002002004004004004008007006006006006006006006006006006006006006006006006006006006005005005005005005005005005005005005005005005005005005005004) 1000 (fun A => by kernel_rfl) w
structure Lst (w : World) (A : Option Addr) (l : List Nod) (c bl ol : Nat) : Prop where
 ax : l.length = 0 ∨ A = some ⟨bl, ol, none⟩
 sat : ∀ w', Kept w w' → Sat w' [] [.row bl ol 19 l.length (rowOf l)] w'
 chk : ∀ w', Kept w w' → ∀ v, checkB l = v → Calls Try.prog 45 #[.slice A l.length c] w' fun e w2 => e = .returned (.int .i64 v) ∧ Kept w' w2
 cnt : ∀ w', Kept w w' → ∀ W, Good l W → Calls Try.prog 47 #[.slice A l.length c] w' fun e w2 => e = .returned (.tuple #[.int .i64 (countN l W : Int), .int .i64 0]) ∧ Kept w' w2
 tot : ∀ w', Kept w w' → ∀ W d, Good l W → Calls Try.prog 41 #[.slice A l.length c, .bool d] w' fun e w2 => e = .returned (.tuple #[totV (totsA d l W), .int .i64 (totsE d l W)]) ∧ Kept w' w2
theorem row_sat {w : World} {b o n sz : Nat} {f : Nat → List Value} (h : 0 < n → b < w.heap.size ∧ ∀ k, k < n → ∀ j v, (f k)[j]? = some v → w.cell? ⟨b, o + k * sz + j, none⟩ = some v) : Sat w [] [.row b o sz n f] w := by
 refine ⟨.refl _ _, fun e he => ?_, fun i j e e' hij hi hj => ?_⟩
 ·rw [List.mem_singleton.1 he]
  exact fun hn => h hn
 have q1 := (List.getElem?_eq_some_iff.1 hi).1
 have q2 := (List.getElem?_eq_some_iff.1 hj).1
 simp at q1 q2
 omega
theorem Kept.cell {w w' : World} (k : Kept w w') {b o : Nat} (h : b < w.heap.size) : w'.cell? ⟨b, o, none⟩ = w.cell? ⟨b, o, none⟩ := by
 unfold World.cell?
 rw [k.block b h]
theorem tots_down (l : List Nod) (bl ol cl : Nat) (W : Wk) (hG : Good l W) (d : Bool) (w : World) (hq : Sat w [] [.row bl ol 19 l.length (rowOf l)] w) :
  Calls Try.prog 41 #[.slice (some ⟨bl, ol, none⟩) l.length cl, .bool d] w fun e w' => e = .returned (.tuple #[totV (totsA d l W), .int .i64 (totsE d l W)]) ∧ Kept w w' := by
 cases d with
 | true => exact totDown_any l bl ol cl W hG w hq
 | false => exact totAcross_any l bl ol cl W hG w hq
theorem lst_row {w : World} {l : List Nod} {bl ol : Nat} (c : Nat) (h : 0 < l.length → bl < w.heap.size ∧ ∀ k, k < l.length → ∀ j v, (rowOf l k)[j]? = some v → w.cell? ⟨bl, ol + k * 19 + j, none⟩ = some v) : Lst w (some ⟨bl, ol, none⟩) l c bl ol := by
 have hs : ∀ w', Kept w w' → Sat w' [] [.row bl ol 19 l.length (rowOf l)] w' := fun w' k => row_sat fun hn => by
  obtain ⟨h1, h2⟩ := h hn
  exact ⟨Nat.lt_of_lt_of_le h1 k.size, fun q hq j v hv => (k.cell h1).trans (h2 q hq j v hv)⟩
 exact ⟨.inr rfl, hs, fun w' k v hv => checkv_any l bl ol c w' v hv (hs w' k), fun w' k W hG => goodCount_any l bl ol c W hG w' (hs w' k), fun w' k W d hG => tots_down l bl ol c W hG d w' (hs w' k)⟩
theorem tots_nil (d : Bool) (W : Wk) : totV (totsA d [] W) = totV acc0 ∧ totsE d [] W = 0 := by
 cases d <;> exact ⟨rfl, rfl⟩
theorem lst_nil (w : World) : Lst w none [] 0 0 0 :=
 ⟨.inl rfl, fun w' _ => row_sat fun h => absurd h (by simp), fun w' _ v hv => by subst hv; exact check_nil w', fun w' _ W _ => count_nil w', fun w' _ W d _ => by
  rw [(tots_nil d W).1, (tots_nil d W).2]
  cases d
  ·exact across_nil w'
  exact down_nil w'⟩
theorem lst_void (w : World) (p : Addr) (c : Nat) : Lst w (some p) [] c 0 0 :=
 ⟨.inl rfl, fun w' _ => row_sat fun h => absurd h (by simp), fun w' _ v hv => by subst hv; exact check_void p c w', fun w' _ W _ => count_void p c w', fun w' _ W d _ => by
  rw [(tots_nil d W).1, (tots_nil d W).2]
  cases d
  ·exact across_void p c w'
  exact down_void p c w'⟩
theorem lst_of (w : World) (A : Option Addr) (l : List Nod) (c : Nat) (hnil : A = none → l = [] ∧ c = 0)
  (hrow : ∀ a, A = some a → 0 < l.length → a.spot = none ∧ a.block < w.heap.size ∧ ∀ k, k < l.length → ∀ j v, (rowOf l k)[j]? = some v → w.cell? ⟨a.block, a.off + k * 19 + j, none⟩ = some v) : ∃ bl ol, Lst w A l c bl ol := by
 cases A with
 | none =>
  obtain ⟨rfl, rfl⟩ := hnil rfl
  exact ⟨0, 0, lst_nil w⟩
 | some p =>
  rcases Nat.eq_zero_or_pos l.length with h0 | h0
  ·obtain rfl := List.length_eq_zero_iff.1 h0
   exact ⟨0, 0, lst_void w p c⟩
  obtain ⟨h1, h2, h3⟩ := hrow p rfl h0
  obtain ⟨b, o, s⟩ := p
  simp only at h1 h2 h3
  subst h1
  exact ⟨b, o, lst_row c fun _ => ⟨h2, h3⟩⟩
/-! ### of both together -/
end Go.Proofs.Ytcncfmjfgdbfeaa
namespace Go.Proofs.Ytcncfmjfgdbfeaa
open Go.RowKit
noncomputable section
section
variable {P : Program}
theorem rowsL_eq {f g : Nat → List Value} {s t m : Nat} (h : ∀ q, q < m → f (s + q) = g (t + q)) : rowsL f s m = rowsL g t m := by
 induction m with
 | zero => simp [rowsL]
 | succ m ih => rw [rowsL_succ, rowsL_succ, ih (fun q hq => h q (by omega)), h m (by omega)]
theorem rowsL_two (f : Nat → List Value) (s m n : Nat) : rowsL f s (m + n) = rowsL f s m ++ rowsL f (s + m) n := by
 induction n with
 | zero => simp [rowsL]
 | succ n ih => rw [← Nat.add_assoc, rowsL_succ, ih, rowsL_succ, List.append_assoc, Nat.add_assoc]
theorem seg_run {T E : TypeId} {b o n c s e sz : Nat} {kk kl : IntKind} (w : World) (hT : P.underlying T = some (.slice E)) (hs : cellsN P E = some sz) (hse : s ≤ e) (hn : e ≤ c) :
  (sliceSem T (.slice (some ⟨b, o, none⟩) n c) (some (.int kk s)) (some (.int kl e)) none).run P w = .ok (.value (.slice (some (tailA b o s sz c)) (e - s) (c - s))) w := by
 have hu : (underlying T).run P w = .ok (.slice E) w := by simp [underlying, program, hT, Sem.run, Result.andThen]
 obtain ⟨i, hi, hsz⟩ := Option.map_eq_some_iff.1 hs
 have hz : (sizeOf E).run P w = .ok sz w := by simp [sizeOf, typeInfo, program, hi, hsz, Sem.run, Result.andThen]
 have hb : (Instr.sliceBounds true n c (some (.int kk s)) (some (.int kl e)) none).run P w = .ok (s, e, c) w := by
  have h0 : (0 : Int) ≤ s ∧ (s : Int) ≤ e := by omega
  have h1 : (0 : Int) ≤ e ∧ (e : Int) ≤ c := by omega
  simp [Instr.sliceBounds, Instr.sliceBound, asIntOf, h0, h1, hse, hn]
 unfold tailA
 by_cases he : c = s
 ·subst he
  simp [sliceSem, Instr.sliceAt, Instr.slice, hu, hz, hb, Result.andThen]
 simp [sliceSem, Instr.sliceAt, Instr.slice, hu, hz, hb, Result.andThen, he, add_addr]
end
section
variable {F : Fence} {mm : Nat} {P : Program} {fin : Fin} {w0 : World} {bs : List Nat} {st : St}
theorem g_anyW {X : Type} (s : Sem Next) (val : X → Value) (hp' : X → List HE) (h : headSem st = some s)
  (C : ∀ w, Sat w0 bs st.hp w → ∃ x w', s.run P w = .ok (.value (val x)) w' ∧ Sat w0 bs (hp' x) w')
  (g : ∀ x, Goal F mm P fin w0 bs (retSt st (val x) (hp' x))) : Goal F mm P fin w0 bs st := by
 refine ⟨fun hF a w hr hw => ?_⟩
 obtain ⟨x, w', hx, hs⟩ := C w hw
 have hg := g x
 obtain ⟨n, ds, ops, l, k, t, hp⟩ := st
 unfold headSem at h
 unfold retSt at hg
 simp only at h hr hw hg ⊢
 cases l with
 | nil => cases h
 | cons o rest =>
  simp only at h hg
  split at h
  ·rename_i hwn
   unfold wpListIn
   rw [hr.wanted hwn, if_pos rfl]
   refine ⟨fun f _ => hF.fn f, ?_⟩
   rw [Oper.semAt_eq _ _ _ (noDefer (opSem_noSel h)), hr.opSem h, hx]
   exact hg.out hF _ _ (hr.put _ _) hs
  cases h
def appSem (t ty : TypeId) (x y : Value) : Sem Next := do
 let v ← Builtin.append_ #[t, t] ty #[x, y]
 pure (.value v)
theorem app_of {t ty : TypeId} {x y v : Value} {w w' : World} (h : (Builtin.append_ #[t, t] ty #[x, y]).run P w = .ok v w') : (appSem t ty x y).run P w = .ok (.value v) w' := by
 simp [appSem, h, Result.andThen]
structure CopyX (w0 : World) (f : Nat → List Value) (s m sz : Nat) where
 b : Nat
 cap : Nat
 cs : List Value
 new : w0.heap.size ≤ b
 le : m ≤ cap
 len : cs.length = cap * sz
 row : cs.take (m * sz) = rowsL f s m
structure GrowX (w0 : World) (bs : List Nat) (f : Nat → List Value) (s m sz len : Nat) (cs : List Value) where
 b : Nat
 cap : Nat
 cs' : List Value
 new : w0.heap.size ≤ b ∨ b ∈ bs
 le : len + m ≤ cap
 len' : cs'.length = cap * sz
 row : cs'.take ((len + m) * sz) = cs.take (len * sz) ++ rowsL f s m
theorem appRow_run {t ty E : TypeId} {base : Option Addr} {i len cap sz m c s bx off n by_ j : Nat} {ax : Option Addr} {f : Nat → List Value} {cs : List Value} {hp : List HE} {w : World} (hw : Sat w0 bs hp w)
  (ht : P.underlying t = some (.slice E)) (hz : ∃ ti z, P.info? E = some ti ∧ ti.zero = some z ∧ ti.size = sz ∧ ti.bytes = by_ ∧ z.cells.size = sz) (hr : RowAt hp i base len cap sz cs E)
  (hj : hp[j]? = some (.row bx off sz n f)) (hf : ∀ k, (f k).length = sz) (hn1 : ∀ k, ∀ u ∈ f k, u.oneCell' = true) (hsm : s + m ≤ n) (hm : 0 < m) (hax : ax = some ⟨bx, off + s * sz, none⟩) (hbig : len + m ≤ 9223372036854775807) (hbytes : (len + m) * by_ ≤ 140737488355328) :
  ∃ (x : GrowX w0 bs f s m sz len cs) (w' : World), (appSem t ty (.slice base len cap) (.slice ax m c)).run P w = .ok (.value (.slice (some ⟨x.b, 0, none⟩) (len + m) x.cap)) w' ∧ Sat w0 bs (hp.set i (.obj true x.b x.cs' E)) w' := by
 obtain ⟨ti, z, hti, hzero, hsize, hby, hzs⟩ := hz
 subst hsize
 subst hby
 subst hax
 have hzc : ∀ k, (Builtin.zeroCells z.cells k).size = k * ti.size := fun k => by simp [Builtin.zeroCells, hzs]
 have hnl := rowsL_length hf s m
 have hnews : ∀ k v, (rowsL f s m)[k]? = some v → w.cell? (Addr.add ⟨bx, off + s * ti.size, none⟩ k) = some v := fun k v hv => by
  obtain ⟨q, r, h1, h2, h3⟩ := rowsL_get hf s m k v hv
  have := hw.rowcell hj (k := s + q) (by omega) h3
  rw [add_addr, h2]
  rw [show off + s * ti.size + (q * ti.size + r) = off + (s + q) * ti.size + r by rw [Nat.add_mul]; omega]
  exact this
 have hnone : ∀ u ∈ rowsL f s m, u.oneCell' = true := fun u hu => by
  obtain ⟨k, hk⟩ := List.mem_iff_getElem?.1 hu
  obtain ⟨q, r, _, _, h3⟩ := rowsL_get hf s m k u hk
  exact hn1 _ u (List.mem_of_getElem? h3)
 obtain ⟨hil, hrow⟩ := hr
 rcases hrow with ⟨rfl, rfl, rfl⟩ | ⟨b, rfl, hb, hlen, hle⟩
 ·have hrun := run_append_nil (P := P) (w := w) t ty E ti z ht hti hzero ⟨bx, off + s * ti.size, none⟩ m c (rowsL f s m) hnl hnews hm (by omega) (by rw [Nat.zero_add] at hbytes; omega)
  have hge := grownCap_ge w m 0 E
  refine ⟨⟨w.heap.size, grownCap w m 0 E, rowsL f s m ++ (Builtin.zeroCells z.cells (grownCap w m 0 E - m)).toList, .inl hw.kept.size, by omega, ?_, ?_⟩, _, (app_of hrun).trans (congrArg (fun q => Result.ok (Next.value (Value.slice (some ⟨w.heap.size, 0, none⟩) q (grownCap w m 0 E))) _) (Nat.zero_add m).symm), ?_⟩
  ·simp only [List.length_append, hnl, Array.length_toList, hzc]
   rw [← Nat.add_mul]
   congr 1
   omega
  ·rw [Nat.zero_mul, List.take_zero, List.nil_append, Nat.zero_add, ← hnl, List.take_left']
   rfl
  have := hw.swap i (rowsL f s m ++ (Builtin.zeroCells z.cells (grownCap w m 0 E - m)).toList) E
  have e : (rowsL f s m ++ (Builtin.zeroCells z.cells (grownCap w m 0 E - m)).toList).toArray = (rowsL f s m).toArray ++ Builtin.zeroCells z.cells (grownCap w m 0 E - m) := by simp
  rw [e] at this
  exact this
 by_cases hroom : len + m ≤ cap
 ·have hrun := run_append_room (P := P) (w := w) t ty E ti ht hti b len cap cs.toArray (hw.obj hb) ⟨bx, off + s * ti.size, none⟩ m c (rowsL f s m) hnl hnews hnone hroom (by
   have := Nat.mul_le_mul_right ti.size hroom
   rw [Nat.add_mul] at this
   simp only [List.size_toArray, hnl, hlen]
   omega)
  have hroom2 : len * ti.size + m * ti.size ≤ cap * ti.size := by rw [← Nat.add_mul]; exact Nat.mul_le_mul_right _ hroom
  have htl : (cs.take (len * ti.size)).length = len * ti.size := by rw [List.length_take, hlen]; omega
  refine ⟨⟨b, cap, cs.take (len * ti.size) ++ rowsL f s m ++ cs.drop (len * ti.size + (rowsL f s m).length), (hw.holds _ (List.mem_of_getElem? hb)).2 rfl, hroom, ?_, ?_⟩, _, app_of hrun, ?_⟩
  ·simp only [List.length_append, htl, List.length_drop, hnl, hlen]
   omega
  ·rw [Nat.add_mul, ← hnl, ← htl, ← List.length_append, List.take_left']
   rw [htl]
  refine hw.setObj hb rfl rfl rfl (by simp [World.setRow]) ?_ (fun k hk => ?_)
  ·exact setRow_heap w b cs.toArray _ E (0, 0) (hw.obj hb)
  simp only [World.setRow, Array.getElem?_modify]
  rw [if_neg (fun e => hk e.symm)]
 have holds : ∀ k v, (cs.take (len * ti.size))[k]? = some v → w.cell? (Addr.add ⟨b, 0, none⟩ k) = some v := fun k v hv => by
  rw [add_addr, Nat.zero_add]
  refine cell_obj (hw.obj hb) ?_
  rw [List.getElem?_take] at hv
  by_cases hk : k < len * ti.size
  ·rw [if_pos hk] at hv; exact hv
  rw [if_neg hk] at hv; cases hv
 have hlo : (cs.take (len * ti.size)).length = len * ti.size := by
  rw [List.length_take, hlen]
  exact Nat.min_eq_left (Nat.mul_le_mul_right _ hle)
 have hrun := run_append_grow (P := P) (w := w) t ty E ti z ht hti hzero ⟨b, 0, none⟩ len cap _ hlo holds ⟨bx, off + s * ti.size, none⟩ m c (rowsL f s m) hnl hnews (by omega) (by omega) (growslice_fits (by omega) hbytes)
 have hge := grownCap_ge w (len + m) cap E
 refine ⟨⟨w.heap.size, grownCap w (len + m) cap E, cs.take (len * ti.size) ++ rowsL f s m ++ (Builtin.zeroCells z.cells (grownCap w (len + m) cap E - (len + m))).toList, .inl hw.kept.size, hge, ?_, ?_⟩, _, app_of hrun, ?_⟩
 ·simp only [List.length_append, hlo, hnl, Array.length_toList, hzc]
  rw [← Nat.add_mul, ← Nat.add_mul]
  congr 1
  omega
 ·rw [Nat.add_mul, ← hnl, ← hlo, ← List.length_append, List.take_left']
  rw [hlo]
 have := hw.swap i (cs.take (len * ti.size) ++ rowsL f s m ++ (Builtin.zeroCells z.cells (grownCap w (len + m) cap E - (len + m))).toList) E
 have e : (cs.take (len * ti.size) ++ rowsL f s m ++ (Builtin.zeroCells z.cells (grownCap w (len + m) cap E - (len + m))).toList).toArray = (cs.take (len * ti.size)).toArray ++ (rowsL f s m).toArray ++ Builtin.zeroCells z.cells (grownCap w (len + m) cap E - (len + m)) := by simp
 rw [e] at this
 exact this
structure MadeX (w0 : World) (n sz : Nat) where
 b : Nat
 cs : List Value
 new : w0.heap.size ≤ b
 len : cs.length = n * sz
theorem rowAt_own {hp : List HE} {i b len cap sz : Nat} {cs : List Value} {E : TypeId} (h : hp[i]? = some (.obj true b cs E)) (hc : cs.length = cap * sz) (hl : len ≤ cap) : RowAt hp i (some ⟨b, 0, none⟩) len cap sz cs E :=
 ⟨(List.getElem?_eq_some_iff.1 h).1, .inr ⟨b, rfl, h, hc, hl⟩⟩
theorem Sat.moreRow {w w' : World} {hp : List HE} {b o sz n : Nat} {f : Nat → List Value} (h : Sat w0 bs hp w) (k : Sat w [] [.row b o sz n f] w') (hn : 0 < n → w.heap.size ≤ b) : Sat w0 bs (hp ++ [.row b o sz n f]) w' := by
 have h' := h.of_kept k.kept.kept
 refine ⟨h'.kept, fun e he => ?_, fun i j e e' hij hi hj ho hl => ?_⟩
 ·rcases List.mem_append.1 he with he | he
  ·exact h'.holds e he
  rw [List.mem_singleton.1 he]
  exact k.holds _ (List.mem_singleton.2 rfl)
 rcases Nat.lt_or_ge i hp.length with q | q
 ·rw [List.getElem?_append_left q] at hi
  rcases Nat.lt_or_ge j hp.length with q' | q'
  ·rw [List.getElem?_append_left q'] at hj
   exact h'.apart i j e e' hij hi hj ho hl
  rw [List.getElem?_append_right q'] at hj
  have e1 := List.mem_singleton.1 (List.mem_of_getElem? hj)
  subst e1
  have hlive : e.live := by
   cases e with
   | obj => trivial
   | row => cases ho
  have h1 := HE.holds_lt (h.holds e (List.mem_of_getElem? hi)) hlive
  have h2 := hn hl
  show e.blk ≠ b
  omega
 rw [List.getElem?_append_right q] at hi
 have e1 := List.mem_singleton.1 (List.mem_of_getElem? hi)
 subst e1
 cases ho
theorem Sat.oneRow {w w' : World} {b o sz n : Nat} {f : Nat → List Value} (k : Kept w w') (h : Sat w' [] [.row b o sz n f] w') : Sat w [] [.row b o sz n f] w' :=
 ⟨.of_kept k, fun e he => by
  have h1 := h.holds (.row b o sz n f) (List.mem_singleton.2 rfl)
  rw [List.mem_singleton.1 he]
  exact h1, h.apart⟩
end
end
end Go.Proofs.Ytcncfmjfgdbfeaa
namespace Go.Proofs.Ytcncfmjfgdbfeaa
open Go.RowKit
end Go.Proofs.Ytcncfmjfgdbfeaa
namespace Go.Proofs.Ytcncfmjfgdbfeaa
open Go.RowKit
structure NewL (w0 : World) (x : List Nod) where
 A : Option Addr
 c : Nat
 b : Nat
 ax : x.length = 0 ∨ A = some ⟨b, 0, none⟩
 nil : A = none → x = [] ∧ c = 0
 new : 0 < x.length → w0.heap.size ≤ b
theorem rows_seg {l : List Nod} {a b : Nat} : rowsL (rowOf l) a (b - a) = rowsL (rowOf (seg l a b)) 0 (b - a) := by
 have key : ∀ m, m ≤ b - a → rowsL (rowOf l) a m = rowsL (rowOf (seg l a b)) 0 m := by
  intro m
  induction m with
  | zero => intro _; simp [rowsL]
  | succ m ih =>
   intro hm
   rw [rowsL_succ, rowsL_succ, ih (by omega)]
   simp only [rowOf, Nat.zero_add]
   rw [seg_nth (by omega)]
 exact key _ (Nat.le_refl _)
theorem nodeLoad {l : List Nod} {bl ol k j : Nat} {w0 w : World} {bs : List Nat} {hp : List HE} (hw : Sat w0 bs hp w) (hj : hp[j]? = some (.row bl ol 19 l.length (rowOf l))) (hk : k < l.length) :
  (loadSem 63 (.pointer (some ⟨bl, ol + k * 19, none⟩))).run Try.prog w = .ok (.value (nodV (nth l k))) w :=
 Sat.rowload (T := 63) (i := j) (b := bl) (off := ol) (sz := 19) (n := l.length) (f := rowOf l) hw hj hk kR kR rfl
theorem kindLoad {l : List Nod} {bl ol k j : Nat} {w0 w : World} {bs : List Nat} {hp : List HE} (hw : Sat w0 bs hp w) (hj : hp[j]? = some (.row bl ol 19 l.length (rowOf l))) (hk : k < l.length) :
  (loadSem 3 (.pointer (some ⟨bl, ol + k * 19, none⟩))).run Try.prog w = .ok (.value (.int .i64 (nth l k).kind)) w :=
 Sat.rowload1 (T := 3) (i := j) (b := bl) (off := ol) (sz := 19) (n := l.length) (f := rowOf l) (j := 0) hw hj hk kR rfl
end Go.Proofs.Ytcncfmjfgdbfeaa
