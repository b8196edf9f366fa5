/- RMathW RParts RValues. -/
import Derived.Test.YtdhidpbenhmfgaaGreatWMath
import Derived.Test.YtdhidpbenhmfgaaGreatRMath
import Derived.Test.YtdhidpbenhmfgaaGreatCWords
import Derived.Maps.AppendAt
namespace Go.Proofs.YtdhidpbenhmfgaaGreat
open Go.RowKit

def bestStep (p : Int → Bool) (o : Option Int) (x : Int) : Option Int := if p x then (match o with | none => some x | some b => if x < b then some x else some b) else o
def bestL (p : Int → Bool) (l : List Int) : Option Int := l.foldl (bestStep p) none
theorem bestL_next {p : Int → Bool} {l : List Int} {i : Nat} (h : i < l.length) : bestL p (l.take (i + 1)) = bestStep p (bestL p (l.take i)) l[i] := by
  unfold bestL
  rw [List.take_succ_eq_append_getElem h, List.foldl_append]
  rfl
theorem best_step_no {p : Int → Bool} {o : Option Int} {x : Int} (h : p x = false) : bestStep p o x = o := by unfold bestStep; rw [h]; rfl
theorem best_step_first {p : Int → Bool} {x : Int} (h : p x = true) : bestStep p none x = some x := by unfold bestStep; rw [h]; rfl
theorem best_step_less {p : Int → Bool} {x b : Int} (h : p x = true) (hb : x < b) : bestStep p (some b) x = some x := by unfold bestStep; rw [h]; simp [hb]
theorem best_step_more {p : Int → Bool} {x b : Int} (hb : ¬ x < b) : bestStep p (some b) x = some b := by
  unfold bestStep
  cases p x
  · rfl
  · simp [hb]
/-- what it is: the least of those that count -/
def LeastOf (p : Int → Bool) (l : List Int) : Option Int → Prop
  | none => ∀ x ∈ l, p x = false
  | some b => b ∈ l ∧ p b = true ∧ ∀ x ∈ l, p x = true → b ≤ x
theorem least_fold (p : Int → Bool) (l : List Int) : ∀ (pre : List Int) (o : Option Int), LeastOf p pre o → LeastOf p (pre ++ l) (l.foldl (bestStep p) o) := by
  induction l with
  | nil => intro pre o h; rw [List.append_nil]; exact h
  | cons x l ih =>
    intro pre o h
    rw [List.foldl_cons, show pre ++ x :: l = (pre ++ [x]) ++ l by simp]
    refine ih _ _ ?_
    cases hp : p x with
    | false =>
      rw [best_step_no hp]
      cases o with
      | none =>
        intro y hy
        rcases List.mem_append.1 hy with hy | hy
        · exact h y hy
        · rw [List.mem_singleton] at hy; subst hy; exact hp
      | some b =>
        refine ⟨List.mem_append_left _ h.1, h.2.1, fun y hy hpy => ?_⟩
        rcases List.mem_append.1 hy with hy | hy
        · exact h.2.2 y hy hpy
        · rw [List.mem_singleton] at hy; subst hy; rw [hp] at hpy; cases hpy
    | true =>
      cases o with
      | none =>
        rw [best_step_first hp]
        refine ⟨by simp, hp, fun y hy hpy => ?_⟩
        rcases List.mem_append.1 hy with hy | hy
        · rw [h y hy] at hpy; cases hpy
        · rw [List.mem_singleton] at hy; omega
      | some b =>
        by_cases hb : x < b
        · rw [best_step_less hp hb]
          refine ⟨by simp, hp, fun y hy hpy => ?_⟩
          rcases List.mem_append.1 hy with hy | hy
          · have := h.2.2 y hy hpy; omega
          · rw [List.mem_singleton] at hy; omega
        · rw [best_step_more hb]
          refine ⟨List.mem_append_left _ h.1, h.2.1, fun y hy hpy => ?_⟩
          rcases List.mem_append.1 hy with hy | hy
          · exact h.2.2 y hy hpy
          · rw [List.mem_singleton] at hy; omega
theorem least_of (p : Int → Bool) (l : List Int) : LeastOf p l (bestL p l) := by
  have := least_fold p l [] none (by intro x hx; cases hx)
  rw [List.nil_append] at this
  exact this

/-- which count, behind the k-th -/
def pB (zero : Bool) (S : List Int) (k : Nat) (x : Int) : Bool := (decide (k = 0) || decide (S[k - 1]?.getD 0 < x)) && (!zero || !(x == 0))
theorem best_at {zero : Bool} {S l : List Int} (hS : S.Pairwise (· < ·)) (hm : ∀ x, x ∈ S ↔ x ∈ l ∧ (zero = true → x ≠ 0)) {k : Nat} (hk : k ≤ S.length) : bestL (pB zero S k) l = S[k]? := by
  have hlt : ∀ i j (hi : i < S.length) (hj : j < S.length), i < j → S[i] < S[j] := fun i j hi hj hij => List.pairwise_iff_getElem.1 hS i j hi hj hij
  have key : ∀ x, x ∈ l → (pB zero S k x = true ↔ ∃ j, ∃ h : j < S.length, k ≤ j ∧ S[j] = x) := by
    intro x hx
    have hz : (!zero || !(x == 0)) = true ↔ (zero = true → x ≠ 0) := by cases zero <;> simp
    unfold pB
    rw [Bool.and_eq_true, hz, Bool.or_eq_true, decide_eq_true_eq, decide_eq_true_eq]
    constructor
    · rintro ⟨h1, h2⟩
      obtain ⟨j, hj, e⟩ := List.mem_iff_getElem.1 ((hm x).2 ⟨hx, h2⟩)
      refine ⟨j, hj, ?_, e⟩
      rcases h1 with h1 | h1
      · omega
      · rcases Nat.lt_or_ge j k with h | h
        · have e1 : S[k - 1]?.getD 0 = S[k - 1] := by rw [List.getElem?_eq_getElem (by omega)]; rfl
          rw [e1] at h1
          rcases Nat.lt_or_ge j (k - 1) with h' | h'
          · have := hlt j (k - 1) hj (by omega) h'
            omega
          · have e2 : j = k - 1 := by omega
            subst e2
            omega
        · exact h
    · rintro ⟨j, hj, hkj, rfl⟩
      have h2 := (hm _).1 (List.getElem_mem hj)
      refine ⟨?_, h2.2⟩
      by_cases h0 : k = 0
      · exact .inl h0
      · right
        rw [List.getElem?_eq_getElem (by omega)]
        exact hlt (k - 1) j (by omega) hj (by omega)
  have hL := least_of (pB zero S k) l
  cases hb : bestL (pB zero S k) l with
  | none =>
    rw [hb] at hL
    rcases Nat.lt_or_ge k S.length with h | h
    · have hmem := ((hm _).1 (List.getElem_mem h)).1
      have := (key _ hmem).2 ⟨k, h, Nat.le_refl _, rfl⟩
      rw [hL _ hmem] at this
      cases this
    · rw [List.getElem?_eq_none h]
  | some b =>
    rw [hb] at hL
    obtain ⟨h1, h2, h3⟩ := hL
    obtain ⟨j, hj, hkj, e⟩ := (key b h1).1 h2
    have hkl : k < S.length := by omega
    rw [List.getElem?_eq_getElem hkl]
    have hmem := ((hm _).1 (List.getElem_mem hkl)).1
    have h4 := h3 _ hmem ((key _ hmem).2 ⟨k, hkl, Nat.le_refl _, rfl⟩)
    rcases Nat.lt_or_ge k j with h | h
    · have := hlt k j hkl hj h
      omega
    · obtain rfl : j = k := by omega
      rw [e]
theorem compact_strict (l : List Int) (h : l.Pairwise (· ≤ ·)) : (Lib.compact l).Pairwise (· < ·) := by
  unfold Lib.compact Lib.compactUpTo
  rw [List.pairwise_map, List.pairwise_filter]
  refine List.Pairwise.imp_of_mem (fun {i j} hi hj hij _ hkj => ?_) (List.pairwise_lt_range (n := l.length))
  have hi' := List.mem_range.1 hi
  have hj' := List.mem_range.1 hj
  have e0 : l.toArray[i]! = l[i] := by simp [hi']
  have e1 : l.toArray[j]! = l[j] := by simp [hj']
  have e2 : l.toArray[j - 1]! = l[j - 1] := by simp [show j - 1 < l.length by omega]
  have hk : l[j] ≠ l[j - 1] := by
    have h := of_decide_eq_true hkj
    rw [e1, e2] at h
    rcases h with h | h
    · omega
    · exact h
  have a1 : l[j - 1] ≤ l[j] := List.pairwise_iff_getElem.1 h (j - 1) j (by omega) hj' (by omega)
  have a2 : l[i] ≤ l[j - 1] := by
    rcases Nat.lt_or_ge i (j - 1) with h' | h'
    · exact List.pairwise_iff_getElem.1 h i (j - 1) hi' (by omega) h'
    · have : i = j - 1 := by omega
      subst this
      exact Int.le_refl _
  rw [e0, e1]
  omega
theorem rising_strict (xs : List Int) : (risingL xs).Pairwise (· < ·) := by
  unfold risingL
  refine compact_strict _ ?_
  have h := List.pairwise_mergeSort (le := fun x y : Int => decide (x ≤ y)) (fun a b c h1 h2 => by simp at *; omega) (fun a b => by simp; omega) xs
  exact h.imp (by intro a b h; simpa using h)
theorem rising_iff (xs : List Int) (x : Int) : x ∈ risingL xs ↔ x ∈ xs ∧ (false = true → x ≠ 0) := ⟨fun h => ⟨rising_mem h, fun e => by cases e⟩, fun h => rising_has h.1⟩
theorem noZero_iff (xs : List Int) (x : Int) : x ∈ noZero (risingL xs) ↔ x ∈ xs ∧ (true = true → x ≠ 0) := by
  unfold noZero
  rw [List.mem_filter]
  constructor
  · rintro ⟨h1, h2⟩
    exact ⟨rising_mem h1, fun _ => by simpa using h2⟩
  · rintro ⟨h1, h2⟩
    exact ⟨rising_has h1, by simpa using h2 rfl⟩
theorem noZero_strict (xs : List Int) : (noZero (risingL xs)).Pairwise (· < ·) := (rising_strict xs).sublist List.filter_sublist
/-- where it stands -/
theorem place_idx {S : List Int} (hS : S.Pairwise (· < ·)) {x : Int} (hx : x ∈ S) : ∃ t, ∃ h : t < S.length, S[t] = x ∧ placeL S x = t + 1 := by
  obtain ⟨t, h, e⟩ := List.mem_iff_getElem.1 hx
  refine ⟨t, h, e, ?_⟩
  have hc : S.contains x = true := by simpa using hx
  unfold placeL
  rw [hc, if_pos rfl]
  have : S.countP (· < x) = t := by
    have e1 : S = S.take t ++ S.drop t := (List.take_append_drop t S).symm
    rw [e1, List.countP_append]
    have c1 : (S.take t).countP (· < x) = (S.take t).length := by
      rw [List.countP_eq_length]
      intro y hy
      obtain ⟨j, hj, e2⟩ := List.mem_iff_getElem.1 hy
      have hj' : j < t := by rw [List.length_take] at hj; omega
      rw [List.getElem_take] at e2
      have := List.pairwise_iff_getElem.1 hS j t (by omega) h hj'
      rw [decide_eq_true_eq]
      omega
    have c2 : (S.drop t).countP (· < x) = 0 := by
      rw [List.countP_eq_zero]
      intro y hy
      obtain ⟨j, hj, e2⟩ := List.mem_iff_getElem.1 hy
      rw [List.getElem_drop] at e2
      rw [List.length_drop] at hj
      rw [decide_eq_true_eq]
      rcases Nat.eq_zero_or_pos j with h0 | h0
      · subst h0
        simp only [Nat.add_zero] at e2
        omega
      · have := List.pairwise_iff_getElem.1 hS t (t + j) h (by omega) (by omega)
        omega
    rw [c1, c2, List.length_take]
    omega
  rw [this]
theorem place_zero {S : List Int} (h : (0 : Int) ∉ S) : placeL S 0 = 0 := by
  unfold placeL
  rw [if_neg (by simpa using h)]
end Go.Proofs.YtdhidpbenhmfgaaGreat
namespace Go.Proofs.YtdhidpbenhmfgaaGreat
open Go.RowKit

set_option maxRecDepth 100000 in
set_option maxHeartbeats 4000000 in
theorem rwords_any (w : World) (B : Nat) (v : Value) (xs : List Int) (A : Option Addr) (l : List Int) (c : Nat) (hrow : BRow w B v xs) (hl : NumsAt w A l w.heap.size) (hap : 0 < l.length → ∀ b o, A = some ⟨b, o, none⟩ → v.ownBlock ≠ some b) (hn : l.length ≤ 70000) (hx : xs.length ≤ 10000000) (hB : B ≤ w.heap.size) :
    Calls Tryz.prog 33 #[v, .slice A l.length c] w fun e w' => ∃ v', e = .returned v' ∧ BRow w' B v' (xs ++ l.flatMap fun x => stL (numS x)) ∧ w.grownBy w' v.ownBlock ∧ Placed w v v' := by
  obtain ⟨i0, hi, hz0, hz1, hz2⟩ := info_parts infoU8
  have HR0 := Lib.hid hrow
  have HL := Lib.hid hl
  clear hrow hl
  go_enter Tryz.func33, Tryz.ntmps33
  go_wp2_with (fail)
  go_loopw [0, 5] (fun s0 s5 wr => WLoop numS xs l w B v s0 s5 wr) (fun _ s5 _ => l.length - (intOf s5).toNat)
  case atStart => exact ⟨0, Nat.zero_le _, rfl, by rw [List.take_zero, List.flatMap_nil, List.append_nil]; exact HR0.out, World.grownBy.refl _ _, .inl rfl⟩
  case round =>
    obtain ⟨k, hk, rfl, hrow, hgr, hpl⟩ := hrel
    by_cases hlt : k < l.length
    · have d0 : decide ((k : Int) < l.length) = true := decide_eq_true (by omega)
      obtain ⟨b, o, hA, hbl, hcell⟩ := HL.out (by omega)
      have hbel : Below B w wr := Below.grown (Below.refl _ _) hgr hB (fun j e => (World.ownsRow.lt HR0.out j e).1)
      have hq : ∀ j, wr.cell? ⟨b, j, none⟩ = w.cell? ⟨b, j, none⟩ := fun j => World.cell?_of_block (a := ⟨b, j, none⟩) (hgr.block b hbl (fun e => hap (by omega) b o hA e.symm))
      have c0 := (hq _).trans (hcell k hlt)
      clear hcell
      have hnext := flat_next numS hlt
      have hfl := flat_len numS (l.take k)
      have hkl : (l.take k).length ≤ k := by rw [List.length_take]; exact Nat.min_le_left _ _
      generalize l[k] = x at *
      obtain ⟨u, hu⟩ : ∃ u, IntKind.u32.wrap x = u := ⟨_, rfl⟩
      have hu' : u = x % 4294967296 := by rw [← hu, IntKind.wrap_u32]
      obtain ⟨r0, h0⟩ : ∃ r, IntKind.u8.wrap (u / 16777216) = r := ⟨_, rfl⟩
      obtain ⟨r1, h1⟩ : ∃ r, IntKind.u8.wrap (u / 65536) = r := ⟨_, rfl⟩
      obtain ⟨r2, h2⟩ : ∃ r, IntKind.u8.wrap (u / 256) = r := ⟨_, rfl⟩
      obtain ⟨r3, h3⟩ : ∃ r, IntKind.u8.wrap u = r := ⟨_, rfl⟩
      have hr : numS x = ⟨r0, r1, r2, r3⟩ := by
        rw [IntKind.wrap_u8] at h0 h1 h2 h3
        unfold numS
        congr 1 <;> omega
      rw [hr] at hnext
      have HN := Lib.hid hnext
      clear hnext hr hu'
      have HR := Lib.hid hrow
      have HP := Lib.hid hpl
      have HG := Lib.hid hgr
      obtain rfl : A = some ⟨b, o, none⟩ := hA
      have hbs : B ≤ wr.heap.size := Nat.le_trans hB hbel.size
      clear hrow hpl hgr hq
      go_wp2_with (at_builtin; refine wpList_append_own_at _ rfl _ _ 30 rfl B 5 i0 (.int .u8 0) 1 1 Tryz.underlying30 hi hz0 hz1 hz2 rfl (by decide) _ _ _ rfl (World.ownsRow.alloc HR.out _) ⟨wr.heap.size, 0, none⟩ 4 4 [.int .u8 r0, .int .u8 r1, .int .u8 r2, .int .u8 r3] rfl rfl (cells_new wr _ _) ?c1 ?c2 ?c3 ?c4 ?_)
      case c1 => first | rfl | (intro q hq; simp at hq; rcases hq with rfl | rfl | rfl | rfl <;> rfl) | simp
      case c2 => unfold maxLen; simp only [List.length_append]; omega
      case c3 => simp only [List.length_append]; omega
      case c4 => first | omega | (simp; omega)
      intro q y hown hgr' _ hpl'
      have hrow' : BRow y B q (xs ++ (l.take (k + 1)).flatMap fun x => stL (numS x)) := by
        have e1 : (xs ++ ((l.take k).flatMap (fun x => stL (numS x)) ++ stL ⟨r0, r1, r2, r3⟩)).length = xs.length + 4 * k + 4 := by
          have e0 : (l.take k).length = k := by rw [List.length_take]; omega
          rw [List.length_append, List.length_append, hfl, e0]
          simp only [stL, List.length_cons, List.length_nil]
          omega
        have e2 : (xs ++ ((l.take k).flatMap (fun x => stL (numS x)) ++ stL ⟨r0, r1, r2, r3⟩)).map (Value.int .u8) = xs.map (Value.int .u8) ++ (((l.take k).flatMap fun x => stL (numS x)).map (Value.int .u8) ++ [.int .u8 r0, .int .u8 r1, .int .u8 r2, .int .u8 r3]) := by
          rw [List.map_append, List.map_append]; rfl
        rw [HN.out]; unfold BRow; rw [e1, e2]; exact hown
      have hgy : w.grownBy y v.ownBlock := grown_comp (grown_trans HG.out (grown_kept (walloc wr (.cells #[.int .u8 r0, .int .u8 r1, .int .u8 r2, .int .u8 r3] 5)))) hgr' HP.out
      have hpy : Placed w v q := by
        rcases hpl' with e | e
        · rw [Placed, e]; exact HP.out
        · exact .inr ⟨_, e, by have := hbel.size; first | omega | (simp; omega)⟩
      clear hown hgr' hpl'
      go_wp2_with (fail)
      go_roundw
      case rel => exact ⟨k + 1, by omega, by go_num, hrow', hgy, hpy⟩
      case measure => simp [intOf]; omega
    · have hall : l.take k = l := List.take_of_length_le (by omega)
      have d0 : decide ((k : Int) < l.length) = false := decide_eq_false (by omega)
      rw [hall] at hrow
      have HR := Lib.hid hrow
      clear hall hrow
      go_wp2_with (fail)
      go_ret
      exact ⟨_, rfl, HR.out, hgr, hpl⟩

def PlLoop (W : World) (f t : Nat) (s7 : Value) (wr : World) : Prop := ∃ i : Nat, f ≤ i ∧ i ≤ t ∧ s7 = .int .i64 i ∧ wr = W
set_option maxRecDepth 100000 in
set_option maxHeartbeats 4000000 in
theorem rplace_at (A : Option Addr) (L : List Int) (c : Nat) (x : Int) (f t : Nat) (w : World) (B : Nat) (h : NumsAt w A L B) (ht : t < L.length) (hft : f ≤ t) (hx : L[t] = x) (hne : ∀ j (hj : j < L.length), f ≤ j → j < t → L[j] ≠ x) (h255 : t ≤ 255) :
    Calls Tryz.prog 34 #[.slice A L.length c, .int .i64 x, .int .i64 f] w fun e w' => e = .returned (.int .u8 t) ∧ w = w' := by
  obtain ⟨b, o, rfl, hb, hcell⟩ := h (by omega)
  have Hc := Lib.hid hcell
  have Hne := Lib.hid hne
  have Hx := Lib.hid hx
  have e1 : IntKind.u8.wrap (t : Int) = t := by rw [IntKind.wrap_u8]; omega
  clear hcell hne hx h
  go_enter Tryz.func34, Tryz.ntmps34
  go_wp2_with (fail)
  go_loopw [7] (fun s7 wr => PlLoop w f t s7 wr) (fun s7 _ => t - (intOf s7).toNat)
  case atStart => exact ⟨f, Nat.le_refl _, hft, rfl, rfl⟩
  case round =>
    obtain ⟨i, hfi, hit, rfl, rfl⟩ := hrel
    have hil : i < L.length := by omega
    have q := Hc.out i hil
    by_cases he : i = t
    · subst he
      rw [Hx.out] at q
      have z : (x != x) = false := bne_self_eq_false x
      go_wp2_with (fail)
      go_ret
      exact ⟨rfl, rfl⟩
    · have z : (L[i] != x) = true := bne_iff_ne.2 (Hne.out i hil hfi (by omega))
      generalize L[i] = y at *
      go_wp2_with (fail)
      go_roundw
      case rel => exact ⟨i + 1, by omega, by omega, by go_num, rfl⟩
      case measure => simp [intOf]; omega
theorem rplace_any (A : Option Addr) (S : List Int) (c : Nat) (x : Int) (f : Nat) (w : World) (B : Nat) (h : NumsAt w A (0 :: S) B) (hl : S.length ≤ 255) (hS : S.Pairwise (· < ·)) (hx : f = 1 ∧ x ∈ S ∨ f = 0 ∧ (0 : Int) ∉ S ∧ (x = 0 ∨ x ∈ S)) :
    Calls Tryz.prog 34 #[.slice A (0 :: S).length c, .int .i64 x, .int .i64 f] w fun e w' => e = .returned (.int .u8 (placeL S x)) ∧ w = w' := by
  have inS : ∀ f : Nat, f ≤ 1 → (f = 0 → x ≠ 0) → x ∈ S → Calls Tryz.prog 34 #[.slice A (0 :: S).length c, .int .i64 x, .int .i64 f] w fun e w' => e = .returned (.int .u8 (placeL S x)) ∧ w = w' := by
    intro f hf hf0 hxS
    obtain ⟨t, ht, e, hp⟩ := place_idx hS hxS
    rw [hp]
    refine rplace_at A (0 :: S) c x f (t + 1) w B h (by simp; omega) (by omega) (by simpa using e) (fun j hj h1 h2 => ?_) (by omega)
    cases j with
    | zero => simp only [List.getElem_cons_zero]; exact fun e => hf0 (by omega) e.symm
    | succ j =>
      simp only [List.getElem_cons_succ]
      have := List.pairwise_iff_getElem.1 hS j t (by simp at hj; omega) ht (by omega)
      omega
  rcases hx with ⟨rfl, hxS⟩ | ⟨rfl, h0, rfl | hxS⟩
  · exact inS 1 (by omega) (by omega) hxS
  · rw [place_zero h0]
    exact rplace_at A (0 :: S) c 0 0 0 w B h (by simp) (by omega) rfl (fun j _ _ h => by omega) (by omega)
  · exact inS 0 (by omega) (fun _ e => h0 (e ▸ hxS)) hxS
end Go.Proofs.YtdhidpbenhmfgaaGreat
namespace Go.Proofs.YtdhidpbenhmfgaaGreat
open Go.RowKit

def VLoop (S : List Int) (w : World) (s5 s6 s7 : Value) (wr : World) : Prop :=
  ∃ (k : Nat) (lv : Int), k ≤ S.length ∧ s7 = .int .i64 k ∧ s6 = .int .i64 lv ∧ (k = 0 ∨ lv = S[k - 1]?.getD 0) ∧ IRow wr w.heap.size s5 (0 :: S.take k) ∧ Kept w wr ∧ w.heap.size < wr.heap.size
def ILoop (p : Int → Bool) (l : List Int) (W : World) (s8 s9 s10 : Value) (wr : World) : Prop :=
  ∃ i : Nat, i ≤ l.length ∧ s10 = .int .i64 i ∧ ((s9 = .bool false ∧ s8 = .int .i64 0 ∧ bestL p (l.take i) = none) ∨ (∃ b, s9 = .bool true ∧ s8 = .int .i64 b ∧ bestL p (l.take i) = some b)) ∧ wr = W

set_option maxRecDepth 100000 in
set_option maxHeartbeats 8000000 in
theorem rvalues_any (zero : Bool) (A : Option Addr) (l : List Int) (c : Nat) (w : World) (S : List Int) (hl : NumsAt w A l w.heap.size) (hn : l.length ≤ 1000) (hS : S.Pairwise (· < ·)) (hm : ∀ x, x ∈ S ↔ x ∈ l ∧ (zero = true → x ≠ 0)) (hSl : S.length ≤ l.length) :
    Calls Tryz.prog 32 #[.slice A l.length c, .bool zero] w fun e w' => ∃ v, e = .returned v ∧ IRow w' w.heap.size v (0 :: S) ∧ Kept w w' := by
  obtain ⟨i0, hi, hz0, hz1, hz2⟩ := info_parts infoInt
  have HB := Lib.hid (fun k (hk : k ≤ S.length) => best_at hS hm hk)
  have HL := Lib.hid hl
  obtain ⟨W1, hW1⟩ : ∃ W1, W1 = w.alloc (.cells #[.int .i64 0] 3) := ⟨_, rfl⟩
  have k1 : Kept w W1 := by rw [hW1]; exact walloc _ _
  have hr1 : IRow W1 w.heap.size (.slice (some ⟨w.heap.size, 0, none⟩) 1 1) [0] := by
    rw [hW1]
    have q := mkobj w (.cells #[.int .i64 0] 3)
    exact ⟨rfl, .inr ⟨w.heap.size, 1, _, rfl, Nat.le_refl _, q, Nat.le_refl _, by unfold maxLen; omega, rfl, rfl⟩⟩
  have hl1 : w.heap.size < W1.heap.size := by rw [hW1]; simp
  have HW1 := Lib.hid hW1
  clear hW1 hl hm hS
  go_enter Tryz.func32, Tryz.ntmps32
  go_wp2_with (fail)
  rw [← HW1.out]
  go_loopw [5, 6, 7] (fun s5 s6 s7 wr => VLoop S w s5 s6 s7 wr) (fun _ _ s7 _ => S.length + 1 - (intOf s7).toNat)
  case atStart => exact ⟨0, 0, Nat.zero_le _, rfl, rfl, .inl rfl, hr1, k1, hl1⟩
  case round =>
    obtain ⟨k, lv, hk, rfl, rfl, hlv, hrow, hkept, hsz⟩ := hrel
    rename World => wo
    have HRow := Lib.hid hrow
    have hb := Lib.hid (HB.out k hk)
    have hp : ∀ x, pB zero S k x = ((decide (k = 0) || decide (lv < x)) && (!zero || !(x == 0))) := by
      intro x
      rcases hlv with rfl | rfl
      · simp [pB]
      · rfl
    generalize pB zero S k = p at *
    clear hlv hrow
    have HP := Lib.hid hp
    clear hp
    go_wp2_with (fail)
    go_loopw [8, 9, 10] (fun s8 s9 s10 wr => ILoop p l wo s8 s9 s10 wr) (fun _ _ s10 _ => l.length - (intOf s10).toNat)
    case atStart => exact ⟨0, Nat.zero_le _, rfl, .inl ⟨rfl, rfl, rfl⟩, rfl⟩
    case round =>
      obtain ⟨i, hil, rfl, ho, rfl⟩ := hrel
      by_cases hlt : i < l.length
      · have d0 : decide ((i : Int) < l.length) = true := decide_eq_true (by omega)
        obtain ⟨b, off, hA, hbl, hcell⟩ := HL.out (by omega)
        have c0 := (hkept.cell (p := ⟨b, off + i, none⟩) hbl).trans (hcell i hlt)
        have hnx := bestL_next (p := p) hlt
        have hpx := HP.out l[i]
        generalize l[i] = x at *
        obtain rfl : A = some ⟨b, off, none⟩ := hA
        clear hcell
        rcases ho with ⟨rfl, rfl, ho⟩ | ⟨bb, rfl, rfl, ho⟩
        · skip
          by_cases kk : k = 0
          · have z1 : ((k : Int) == 0) = true := by simp [kk]
            cases zero with
            | false =>
              have hpx : p x = true := by rw [hpx]; simp [kk]
              have HN : Hid (bestL p (l.take (i + 1)) = some x) := Lib.hid (by rw [hnx, ho]; first | exact best_step_no hpx | exact best_step_first hpx | exact best_step_less hpx hbb | exact best_step_more hbb)
              clear hnx ho hpx
              go_wp2_with (fail)
              go_roundw
              case rel => exact ⟨i + 1, by omega, by go_num, .inr ⟨_, rfl, rfl, HN.out⟩, rfl⟩
              case measure => simp [intOf]; omega
            | true =>
              by_cases hx0 : x = 0
              · have z3 : (x != 0) = false := by simp [hx0]
                have hpx : p x = false := by rw [hpx]; simp [hx0]
                have HN : Hid (bestL p (l.take (i + 1)) = none) := Lib.hid (by rw [hnx, ho]; first | exact best_step_no hpx | exact best_step_first hpx | exact best_step_less hpx hbb | exact best_step_more hbb)
                clear hnx ho hpx
                go_wp2_with (fail)
                go_roundw
                case rel => exact ⟨i + 1, by omega, by go_num, .inl ⟨rfl, rfl, HN.out⟩, rfl⟩
                case measure => simp [intOf]; omega
              · have z3 : (x != 0) = true := by simp [hx0]
                have hpx : p x = true := by rw [hpx]; simp [kk, hx0]
                have HN : Hid (bestL p (l.take (i + 1)) = some x) := Lib.hid (by rw [hnx, ho]; first | exact best_step_no hpx | exact best_step_first hpx | exact best_step_less hpx hbb | exact best_step_more hbb)
                clear hnx ho hpx
                go_wp2_with (fail)
                go_roundw
                case rel => exact ⟨i + 1, by omega, by go_num, .inr ⟨_, rfl, rfl, HN.out⟩, rfl⟩
                case measure => simp [intOf]; omega
          · have z1 : ((k : Int) == 0) = false := by simp [kk]
            by_cases ll : lv < x
            · have z2 : decide (lv < x) = true := decide_eq_true ll
              replace kk : (decide (k = 0) || decide (lv < x)) = true := by simp [ll]
              cases zero with
              | false =>
                have hpx : p x = true := by rw [hpx]; simp [kk]
                have HN : Hid (bestL p (l.take (i + 1)) = some x) := Lib.hid (by rw [hnx, ho]; first | exact best_step_no hpx | exact best_step_first hpx | exact best_step_less hpx hbb | exact best_step_more hbb)
                clear hnx ho hpx
                go_wp2_with (fail)
                go_roundw
                case rel => exact ⟨i + 1, by omega, by go_num, .inr ⟨_, rfl, rfl, HN.out⟩, rfl⟩
                case measure => simp [intOf]; omega
              | true =>
                by_cases hx0 : x = 0
                · have z3 : (x != 0) = false := by simp [hx0]
                  have hpx : p x = false := by rw [hpx]; simp [hx0]
                  have HN : Hid (bestL p (l.take (i + 1)) = none) := Lib.hid (by rw [hnx, ho]; first | exact best_step_no hpx | exact best_step_first hpx | exact best_step_less hpx hbb | exact best_step_more hbb)
                  clear hnx ho hpx
                  go_wp2_with (fail)
                  go_roundw
                  case rel => exact ⟨i + 1, by omega, by go_num, .inl ⟨rfl, rfl, HN.out⟩, rfl⟩
                  case measure => simp [intOf]; omega
                · have z3 : (x != 0) = true := by simp [hx0]
                  have hpx : p x = true := by rw [hpx]; simp [kk, hx0]
                  have HN : Hid (bestL p (l.take (i + 1)) = some x) := Lib.hid (by rw [hnx, ho]; first | exact best_step_no hpx | exact best_step_first hpx | exact best_step_less hpx hbb | exact best_step_more hbb)
                  clear hnx ho hpx
                  go_wp2_with (fail)
                  go_roundw
                  case rel => exact ⟨i + 1, by omega, by go_num, .inr ⟨_, rfl, rfl, HN.out⟩, rfl⟩
                  case measure => simp [intOf]; omega
            · have z2 : decide (lv < x) = false := decide_eq_false ll
              replace kk : (decide (k = 0) || decide (lv < x)) = false := by simp [kk, ll]
              cases zero with
              | false =>
                have hpx : p x = false := by rw [hpx]; simp [kk]
                have HN : Hid (bestL p (l.take (i + 1)) = none) := Lib.hid (by rw [hnx, ho]; first | exact best_step_no hpx | exact best_step_first hpx | exact best_step_less hpx hbb | exact best_step_more hbb)
                clear hnx ho hpx
                go_wp2_with (fail)
                go_roundw
                case rel => exact ⟨i + 1, by omega, by go_num, .inl ⟨rfl, rfl, HN.out⟩, rfl⟩
                case measure => simp [intOf]; omega
              | true =>
                by_cases hx0 : x = 0
                · have z3 : (x != 0) = false := by simp [hx0]
                  have hpx : p x = false := by rw [hpx]; simp [hx0]
                  have HN : Hid (bestL p (l.take (i + 1)) = none) := Lib.hid (by rw [hnx, ho]; first | exact best_step_no hpx | exact best_step_first hpx | exact best_step_less hpx hbb | exact best_step_more hbb)
                  clear hnx ho hpx
                  go_wp2_with (fail)
                  go_roundw
                  case rel => exact ⟨i + 1, by omega, by go_num, .inl ⟨rfl, rfl, HN.out⟩, rfl⟩
                  case measure => simp [intOf]; omega
                · have z3 : (x != 0) = true := by simp [hx0]
                  have hpx : p x = false := by rw [hpx]; simp [kk]
                  have HN : Hid (bestL p (l.take (i + 1)) = none) := Lib.hid (by rw [hnx, ho]; first | exact best_step_no hpx | exact best_step_first hpx | exact best_step_less hpx hbb | exact best_step_more hbb)
                  clear hnx ho hpx
                  go_wp2_with (fail)
                  go_roundw
                  case rel => exact ⟨i + 1, by omega, by go_num, .inl ⟨rfl, rfl, HN.out⟩, rfl⟩
                  case measure => simp [intOf]; omega
        · by_cases hbb : x < bb
          · have z4 : decide (x < bb) = true := decide_eq_true hbb
            by_cases kk : k = 0
            · have z1 : ((k : Int) == 0) = true := by simp [kk]
              cases zero with
              | false =>
                have hpx : p x = true := by rw [hpx]; simp [kk]
                have HN : Hid (bestL p (l.take (i + 1)) = some x) := Lib.hid (by rw [hnx, ho]; first | exact best_step_no hpx | exact best_step_first hpx | exact best_step_less hpx hbb | exact best_step_more hbb)
                clear hnx ho hpx
                go_wp2_with (fail)
                go_roundw
                case rel => exact ⟨i + 1, by omega, by go_num, .inr ⟨_, rfl, rfl, HN.out⟩, rfl⟩
                case measure => simp [intOf]; omega
              | true =>
                by_cases hx0 : x = 0
                · have z3 : (x != 0) = false := by simp [hx0]
                  have hpx : p x = false := by rw [hpx]; simp [hx0]
                  have HN : Hid (bestL p (l.take (i + 1)) = some bb) := Lib.hid (by rw [hnx, ho]; first | exact best_step_no hpx | exact best_step_first hpx | exact best_step_less hpx hbb | exact best_step_more hbb)
                  clear hnx ho hpx
                  go_wp2_with (fail)
                  go_roundw
                  case rel => exact ⟨i + 1, by omega, by go_num, .inr ⟨_, rfl, rfl, HN.out⟩, rfl⟩
                  case measure => simp [intOf]; omega
                · have z3 : (x != 0) = true := by simp [hx0]
                  have hpx : p x = true := by rw [hpx]; simp [kk, hx0]
                  have HN : Hid (bestL p (l.take (i + 1)) = some x) := Lib.hid (by rw [hnx, ho]; first | exact best_step_no hpx | exact best_step_first hpx | exact best_step_less hpx hbb | exact best_step_more hbb)
                  clear hnx ho hpx
                  go_wp2_with (fail)
                  go_roundw
                  case rel => exact ⟨i + 1, by omega, by go_num, .inr ⟨_, rfl, rfl, HN.out⟩, rfl⟩
                  case measure => simp [intOf]; omega
            · have z1 : ((k : Int) == 0) = false := by simp [kk]
              by_cases ll : lv < x
              · have z2 : decide (lv < x) = true := decide_eq_true ll
                replace kk : (decide (k = 0) || decide (lv < x)) = true := by simp [ll]
                cases zero with
                | false =>
                  have hpx : p x = true := by rw [hpx]; simp [kk]
                  have HN : Hid (bestL p (l.take (i + 1)) = some x) := Lib.hid (by rw [hnx, ho]; first | exact best_step_no hpx | exact best_step_first hpx | exact best_step_less hpx hbb | exact best_step_more hbb)
                  clear hnx ho hpx
                  go_wp2_with (fail)
                  go_roundw
                  case rel => exact ⟨i + 1, by omega, by go_num, .inr ⟨_, rfl, rfl, HN.out⟩, rfl⟩
                  case measure => simp [intOf]; omega
                | true =>
                  by_cases hx0 : x = 0
                  · have z3 : (x != 0) = false := by simp [hx0]
                    have hpx : p x = false := by rw [hpx]; simp [hx0]
                    have HN : Hid (bestL p (l.take (i + 1)) = some bb) := Lib.hid (by rw [hnx, ho]; first | exact best_step_no hpx | exact best_step_first hpx | exact best_step_less hpx hbb | exact best_step_more hbb)
                    clear hnx ho hpx
                    go_wp2_with (fail)
                    go_roundw
                    case rel => exact ⟨i + 1, by omega, by go_num, .inr ⟨_, rfl, rfl, HN.out⟩, rfl⟩
                    case measure => simp [intOf]; omega
                  · have z3 : (x != 0) = true := by simp [hx0]
                    have hpx : p x = true := by rw [hpx]; simp [kk, hx0]
                    have HN : Hid (bestL p (l.take (i + 1)) = some x) := Lib.hid (by rw [hnx, ho]; first | exact best_step_no hpx | exact best_step_first hpx | exact best_step_less hpx hbb | exact best_step_more hbb)
                    clear hnx ho hpx
                    go_wp2_with (fail)
                    go_roundw
                    case rel => exact ⟨i + 1, by omega, by go_num, .inr ⟨_, rfl, rfl, HN.out⟩, rfl⟩
                    case measure => simp [intOf]; omega
              · have z2 : decide (lv < x) = false := decide_eq_false ll
                replace kk : (decide (k = 0) || decide (lv < x)) = false := by simp [kk, ll]
                cases zero with
                | false =>
                  have hpx : p x = false := by rw [hpx]; simp [kk]
                  have HN : Hid (bestL p (l.take (i + 1)) = some bb) := Lib.hid (by rw [hnx, ho]; first | exact best_step_no hpx | exact best_step_first hpx | exact best_step_less hpx hbb | exact best_step_more hbb)
                  clear hnx ho hpx
                  go_wp2_with (fail)
                  go_roundw
                  case rel => exact ⟨i + 1, by omega, by go_num, .inr ⟨_, rfl, rfl, HN.out⟩, rfl⟩
                  case measure => simp [intOf]; omega
                | true =>
                  by_cases hx0 : x = 0
                  · have z3 : (x != 0) = false := by simp [hx0]
                    have hpx : p x = false := by rw [hpx]; simp [hx0]
                    have HN : Hid (bestL p (l.take (i + 1)) = some bb) := Lib.hid (by rw [hnx, ho]; first | exact best_step_no hpx | exact best_step_first hpx | exact best_step_less hpx hbb | exact best_step_more hbb)
                    clear hnx ho hpx
                    go_wp2_with (fail)
                    go_roundw
                    case rel => exact ⟨i + 1, by omega, by go_num, .inr ⟨_, rfl, rfl, HN.out⟩, rfl⟩
                    case measure => simp [intOf]; omega
                  · have z3 : (x != 0) = true := by simp [hx0]
                    have hpx : p x = false := by rw [hpx]; simp [kk]
                    have HN : Hid (bestL p (l.take (i + 1)) = some bb) := Lib.hid (by rw [hnx, ho]; first | exact best_step_no hpx | exact best_step_first hpx | exact best_step_less hpx hbb | exact best_step_more hbb)
                    clear hnx ho hpx
                    go_wp2_with (fail)
                    go_roundw
                    case rel => exact ⟨i + 1, by omega, by go_num, .inr ⟨_, rfl, rfl, HN.out⟩, rfl⟩
                    case measure => simp [intOf]; omega
          · have z4 : decide (x < bb) = false := decide_eq_false hbb
            by_cases kk : k = 0
            · have z1 : ((k : Int) == 0) = true := by simp [kk]
              cases zero with
              | false =>
                have hpx : p x = true := by rw [hpx]; simp [kk]
                have HN : Hid (bestL p (l.take (i + 1)) = some bb) := Lib.hid (by rw [hnx, ho]; first | exact best_step_no hpx | exact best_step_first hpx | exact best_step_less hpx hbb | exact best_step_more hbb)
                clear hnx ho hpx
                go_wp2_with (fail)
                go_roundw
                case rel => exact ⟨i + 1, by omega, by go_num, .inr ⟨_, rfl, rfl, HN.out⟩, rfl⟩
                case measure => simp [intOf]; omega
              | true =>
                by_cases hx0 : x = 0
                · have z3 : (x != 0) = false := by simp [hx0]
                  have hpx : p x = false := by rw [hpx]; simp [hx0]
                  have HN : Hid (bestL p (l.take (i + 1)) = some bb) := Lib.hid (by rw [hnx, ho]; first | exact best_step_no hpx | exact best_step_first hpx | exact best_step_less hpx hbb | exact best_step_more hbb)
                  clear hnx ho hpx
                  go_wp2_with (fail)
                  go_roundw
                  case rel => exact ⟨i + 1, by omega, by go_num, .inr ⟨_, rfl, rfl, HN.out⟩, rfl⟩
                  case measure => simp [intOf]; omega
                · have z3 : (x != 0) = true := by simp [hx0]
                  have hpx : p x = true := by rw [hpx]; simp [kk, hx0]
                  have HN : Hid (bestL p (l.take (i + 1)) = some bb) := Lib.hid (by rw [hnx, ho]; first | exact best_step_no hpx | exact best_step_first hpx | exact best_step_less hpx hbb | exact best_step_more hbb)
                  clear hnx ho hpx
                  go_wp2_with (fail)
                  go_roundw
                  case rel => exact ⟨i + 1, by omega, by go_num, .inr ⟨_, rfl, rfl, HN.out⟩, rfl⟩
                  case measure => simp [intOf]; omega
            · have z1 : ((k : Int) == 0) = false := by simp [kk]
              by_cases ll : lv < x
              · have z2 : decide (lv < x) = true := decide_eq_true ll
                replace kk : (decide (k = 0) || decide (lv < x)) = true := by simp [ll]
                cases zero with
                | false =>
                  have hpx : p x = true := by rw [hpx]; simp [kk]
                  have HN : Hid (bestL p (l.take (i + 1)) = some bb) := Lib.hid (by rw [hnx, ho]; first | exact best_step_no hpx | exact best_step_first hpx | exact best_step_less hpx hbb | exact best_step_more hbb)
                  clear hnx ho hpx
                  go_wp2_with (fail)
                  go_roundw
                  case rel => exact ⟨i + 1, by omega, by go_num, .inr ⟨_, rfl, rfl, HN.out⟩, rfl⟩
                  case measure => simp [intOf]; omega
                | true =>
                  by_cases hx0 : x = 0
                  · have z3 : (x != 0) = false := by simp [hx0]
                    have hpx : p x = false := by rw [hpx]; simp [hx0]
                    have HN : Hid (bestL p (l.take (i + 1)) = some bb) := Lib.hid (by rw [hnx, ho]; first | exact best_step_no hpx | exact best_step_first hpx | exact best_step_less hpx hbb | exact best_step_more hbb)
                    clear hnx ho hpx
                    go_wp2_with (fail)
                    go_roundw
                    case rel => exact ⟨i + 1, by omega, by go_num, .inr ⟨_, rfl, rfl, HN.out⟩, rfl⟩
                    case measure => simp [intOf]; omega
                  · have z3 : (x != 0) = true := by simp [hx0]
                    have hpx : p x = true := by rw [hpx]; simp [kk, hx0]
                    have HN : Hid (bestL p (l.take (i + 1)) = some bb) := Lib.hid (by rw [hnx, ho]; first | exact best_step_no hpx | exact best_step_first hpx | exact best_step_less hpx hbb | exact best_step_more hbb)
                    clear hnx ho hpx
                    go_wp2_with (fail)
                    go_roundw
                    case rel => exact ⟨i + 1, by omega, by go_num, .inr ⟨_, rfl, rfl, HN.out⟩, rfl⟩
                    case measure => simp [intOf]; omega
              · have z2 : decide (lv < x) = false := decide_eq_false ll
                replace kk : (decide (k = 0) || decide (lv < x)) = false := by simp [kk, ll]
                cases zero with
                | false =>
                  have hpx : p x = false := by rw [hpx]; simp [kk]
                  have HN : Hid (bestL p (l.take (i + 1)) = some bb) := Lib.hid (by rw [hnx, ho]; first | exact best_step_no hpx | exact best_step_first hpx | exact best_step_less hpx hbb | exact best_step_more hbb)
                  clear hnx ho hpx
                  go_wp2_with (fail)
                  go_roundw
                  case rel => exact ⟨i + 1, by omega, by go_num, .inr ⟨_, rfl, rfl, HN.out⟩, rfl⟩
                  case measure => simp [intOf]; omega
                | true =>
                  by_cases hx0 : x = 0
                  · have z3 : (x != 0) = false := by simp [hx0]
                    have hpx : p x = false := by rw [hpx]; simp [hx0]
                    have HN : Hid (bestL p (l.take (i + 1)) = some bb) := Lib.hid (by rw [hnx, ho]; first | exact best_step_no hpx | exact best_step_first hpx | exact best_step_less hpx hbb | exact best_step_more hbb)
                    clear hnx ho hpx
                    go_wp2_with (fail)
                    go_roundw
                    case rel => exact ⟨i + 1, by omega, by go_num, .inr ⟨_, rfl, rfl, HN.out⟩, rfl⟩
                    case measure => simp [intOf]; omega
                  · have z3 : (x != 0) = true := by simp [hx0]
                    have hpx : p x = false := by rw [hpx]; simp [kk]
                    have HN : Hid (bestL p (l.take (i + 1)) = some bb) := Lib.hid (by rw [hnx, ho]; first | exact best_step_no hpx | exact best_step_first hpx | exact best_step_less hpx hbb | exact best_step_more hbb)
                    clear hnx ho hpx
                    go_wp2_with (fail)
                    go_roundw
                    case rel => exact ⟨i + 1, by omega, by go_num, .inr ⟨_, rfl, rfl, HN.out⟩, rfl⟩
                    case measure => simp [intOf]; omega
      · have d0 : decide ((i : Int) < l.length) = false := decide_eq_false (by omega)
        rw [List.take_of_length_le (by omega)] at ho
        have hS' := hb.out
        rcases ho with ⟨rfl, rfl, ho⟩ | ⟨bb, rfl, rfl, ho⟩
        · rw [ho] at hS'
          have hkl : S.length ≤ k := List.getElem?_eq_none_iff.1 hS'.symm
          have HR : Hid (IRow wr w.heap.size _ (0 :: S)) := Lib.hid (by have := HRow.out; rw [List.take_of_length_le hkl] at this; exact this)
          clear hS' ho hkl
          go_wp2_with (fail)
          go_ret
          exact ⟨_, rfl, HR.out, hkept⟩
        · rw [ho] at hS'
          have hkl : k < S.length := (List.getElem?_eq_some_iff.1 hS'.symm).1
          have hSk : S[k] = bb := (List.getElem?_eq_some_iff.1 hS'.symm).2
          have HT : Hid ((0 :: S.take (k + 1)) = (0 :: S.take k) ++ [bb]) := Lib.hid (by rw [List.take_succ_eq_append_getElem hkl, hSk]; rfl)
          have HG : Hid (bb = S[k + 1 - 1]?.getD 0) := Lib.hid (by rw [Nat.add_sub_cancel, ← hS']; rfl)
          have hlen : (0 :: S.take k).length = k + 1 := by rw [List.length_cons, List.length_take]; omega
          clear hS' ho hSk
          go_wp2_with (at_builtin; refine wpList_append_own_at _ rfl _ _ 25 rfl w.heap.size 3 i0 (.int .i64 0) 1 8 Tryz.underlying25 hi hz0 hz1 hz2 rfl (by decide) _ _ _ rfl (World.ownsRow.alloc HRow.out _) ⟨wr.heap.size, 0, none⟩ 1 1 [.int .i64 bb] rfl rfl (cell_one_new wr _ _) ?c1 ?c2 ?c3 ?c4 ?_)
          case c1 => first | rfl | (intro q hq; rw [List.mem_singleton] at hq; subst hq; rfl)
          case c2 => unfold maxLen; omega
          case c3 => omega
          case c4 => simp; omega
          intro q yy hown hgr _ _
          have hrow' : IRow yy w.heap.size q (0 :: S.take (k + 1)) := by
            have e1 : ((0 :: S.take k) ++ [bb]).length = k + 1 + 1 := by rw [List.length_append, hlen]; rfl
            rw [HT.out]; unfold IRow; rw [e1, List.map_append, List.map_cons, List.map_take]; exact hown
          have hlow : ∀ g, Value.ownBlock _ = some g → w.heap.size ≤ g := fun g e => (World.ownsRow.lt HRow.out g e).1
          have hky : Kept w yy := Below.grown (hkept.alloc (by omega) _) hgr (by simp; omega) (fun j e => by have := hlow j e; omega)
          have hly : w.heap.size < yy.heap.size := Nat.lt_of_lt_of_le (by simp; omega) hgr.size
          clear hown hgr
          go_wp2_with (fail)
          go_roundw
          case rel => exact ⟨k + 1, bb, by omega, by go_num, rfl, .inr HG.out, hrow', hky, hly⟩
          case measure => simp [intOf]; omega
end Go.Proofs.YtdhidpbenhmfgaaGreat
