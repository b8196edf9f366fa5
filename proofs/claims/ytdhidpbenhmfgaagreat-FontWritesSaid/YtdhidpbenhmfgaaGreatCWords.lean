/- font.words at numbers, steps, pieces. -/
import Derived.Test.YtdhidpbenhmfgaaGreatCCnt
namespace Go.Proofs.YtdhidpbenhmfgaaGreat
open Go.RowKit

def idS (s : St) : St := s
def stL (s : St) : List Int := [s.skip, s.next, s.op, s.rest]
theorem flat_next {α : Type} (g : α → St) {l : List α} {k : Nat} (h : k < l.length) : (l.take (k + 1)).flatMap (fun x => stL (g x)) = (l.take k).flatMap (fun x => stL (g x)) ++ stL (g l[k]) := by
  rw [List.take_succ_eq_append_getElem h, List.flatMap_append]; simp
theorem flat_len {α : Type} (g : α → St) (l : List α) : (l.flatMap fun x => stL (g x)).length = 4 * l.length := by
  induction l with
  | nil => rfl
  | cons x l ih => rw [List.flatMap_cons, List.length_append, ih]; simp [stL]; omega
/-- of one place, or of a new one -/
def Placed (w : World) (v v' : Value) : Prop := v'.ownBlock = v.ownBlock ∨ ∃ g, v'.ownBlock = some g ∧ w.heap.size ≤ g
theorem grown_comp {a b c : World} {row row' : Option Nat} (h : a.grownBy b row) (k : b.grownBy c row') (hp : row' = row ∨ ∃ g, row' = some g ∧ a.heap.size ≤ g) : a.grownBy c row := by
  rcases hp with rfl | ⟨g, rfl, hg⟩
  · exact grown_trans h k
  · exact grown_new h k hg
theorem brow_grown {w w' : World} {B : Nat} {v : Value} {xs : List Int} {row : Option Nat} (h : BRow w B v xs) (k : w.grownBy w' row) (hne : ∀ g, row = some g → v.ownBlock ≠ some g) : BRow w' B v xs := by
  refine World.ownsRow.kept h k ?_
  cases ho : v.ownBlock with
  | none => exact .inl rfl
  | some g => exact .inr fun e => hne g e.symm ho
theorem brow_kept {w w' : World} {B : Nat} {v : Value} {xs : List Int} (h : BRow w B v xs) (k : Kept w w') : BRow w' B v xs := brow_grown (row := none) h (grown_kept k) (by simp)
def WLoop {α : Type} (g : α → St) (xs : List Int) (l : List α) (w : World) (B : Nat) (v s0 s12 : Value) (wr : World) : Prop :=
  ∃ k : Nat, k ≤ l.length ∧ s12 = .int .i64 k ∧ BRow wr B s0 (xs ++ (l.take k).flatMap fun x => stL (g x)) ∧ w.grownBy wr v.ownBlock ∧ Placed w v s0

set_option maxRecDepth 100000 in
set_option maxHeartbeats 4000000 in
theorem words_int (w : World) (B : Nat) (v : Value) (xs : List Int) (A : Option Addr) (l : List Int) (c : Nat) (hrow : BRow w B v xs) (hl : NumsAt w A l w.heap.size) (hap : 0 < l.length → ∀ b o, A = some ⟨b, o, none⟩ → v.ownBlock ≠ some b) (hC : ∀ x ∈ l, ∀ w', Below B w w' → Calls Tryz.prog 25 #[.int .i64 x] w' fun e w'' => e = .returned (stA (numS x)) ∧ Kept w' w'') (hn : l.length ≤ 70000) (hx : xs.length ≤ 10000000) (hB : B ≤ w.heap.size) :
    Calls Tryz.prog 24 #[v, .slice A l.length c, .func (.func 25) #[] #[]] w fun e w' => ∃ v', e = .returned v' ∧ BRow w' B v' (xs ++ l.flatMap fun x => stL (numS x)) ∧ w.grownBy w' v.ownBlock ∧ Placed w v v' := by
  obtain ⟨i0, hi, hz0, hz1, hz2⟩ := info_parts infoU8
  have HR0 := Lib.hid hrow
  have HL := Lib.hid hl
  have HC := Lib.hid hC
  clear hrow hl hC
  go_enter Tryz.func24, Tryz.ntmps24
  go_wp2_with (fail)
  go_loopw [0, 12] (fun s0 s12 wr => WLoop numS xs l w B v s0 s12 wr) (fun _ s12 _ => l.length - (intOf s12).toNat)
  case atStart => exact ⟨0, Nat.zero_le _, rfl, by rw [List.take_zero, List.flatMap_nil, List.append_nil]; exact HR0.out, World.grownBy.refl _ _, .inl rfl⟩
  case round =>
    obtain ⟨k, hk, rfl, hrow, hgr, hpl⟩ := hrel
    by_cases hlt : k < l.length
    · have d0 : decide ((k : Int) < l.length) = true := decide_eq_true (by omega)
      obtain ⟨b, o, hA, hbl, hcell⟩ := HL.out (by omega)
      have hbel : Below B w wr := Below.grown (Below.refl _ _) hgr hB (fun j e => (World.ownsRow.lt HR0.out j e).1)
      have hq : ∀ j, wr.cell? ⟨b, j, none⟩ = w.cell? ⟨b, j, none⟩ := fun j => World.cell?_of_block (a := ⟨b, j, none⟩) (hgr.block b hbl (fun e => hap (by omega) b o hA e.symm))
      have c0 := (hq _).trans (hcell k hlt)
      clear hcell
      have hnext := flat_next numS hlt
      have hfl := flat_len numS (l.take k)
      have hkl : (l.take k).length ≤ k := by rw [List.length_take]; exact Nat.min_le_left _ _
      have hcall := fun w' (hk : Below B w w') => Lib.hid (HC.out _ (List.getElem_mem hlt) w' hk)
      have hg : ∃ r, numS l[k] = r := ⟨_, rfl⟩
      obtain ⟨r, hgr'⟩ := hg
      rw [hgr'] at hnext hcall
      have HN := Lib.hid hnext
      clear hnext hgr'
      generalize l[k] = x at *
      obtain ⟨r0, r1, r2, r3⟩ := r
      have HR := Lib.hid hrow
      have HP := Lib.hid hpl
      have HG := Lib.hid hgr
      obtain rfl : A = some ⟨b, o, none⟩ := hA
      clear hrow hpl hgr hq
      go_wp2_with (fail)
      refine (hcall _ (by first | exact hbel | exact hbel.alloc (Nat.le_trans hB hbel.size) _)).out.mono ?_
      rintro e w1 ⟨rfl, k1⟩
      have kw1 : Kept wr w1 := by first | exact k1 | exact (walloc _ _).trans k1
      have hr1 := brow_kept HR.out kw1
      have hs1 : wr.heap.size ≤ w1.heap.size := kw1.size
      have hbs : B ≤ wr.heap.size := Nat.le_trans hB hbel.size
      go_wp2_with (at_builtin; refine wpList_append_own_at _ rfl _ _ 30 rfl B 5 i0 (.int .u8 0) 1 1 Tryz.underlying30 hi hz0 hz1 hz2 rfl (by decide) _ _ _ rfl (World.ownsRow.alloc hr1 _) ⟨w1.heap.size, 0, none⟩ 4 4 [.int .u8 r0, .int .u8 r1, .int .u8 r2, .int .u8 r3] rfl rfl (cells_new w1 _ _) ?c1 ?c2 ?c3 ?c4 ?_)
      case c1 => first | rfl | (intro q hq; simp at hq; rcases hq with rfl | rfl | rfl | rfl <;> rfl) | simp
      case c2 => unfold maxLen; simp only [List.length_append]; omega
      case c3 => simp only [List.length_append]; omega
      case c4 => first | omega | (simp; omega)
      intro q y hown hgr' _ hpl'
      have hrow' : BRow y B q (xs ++ (l.take (k + 1)).flatMap fun x => stL (numS x)) := by
        have e1 : (xs ++ ((l.take k).flatMap (fun x => stL (numS x)) ++ stL ⟨r0, r1, r2, r3⟩)).length = xs.length + 4 * k + 4 := by
          have e0 : (l.take k).length = k := by rw [List.length_take]; omega
          rw [List.length_append, List.length_append, hfl, e0]
          simp only [stL, List.length_cons, List.length_nil]
          omega
        have e2 : (xs ++ ((l.take k).flatMap (fun x => stL (numS x)) ++ stL ⟨r0, r1, r2, r3⟩)).map (Value.int .u8) = xs.map (Value.int .u8) ++ (((l.take k).flatMap fun x => stL (numS x)).map (Value.int .u8) ++ [.int .u8 r0, .int .u8 r1, .int .u8 r2, .int .u8 r3]) := by
          rw [List.map_append, List.map_append]; rfl
        rw [HN.out]; unfold BRow; rw [e1, e2]; exact hown
      have hgy : w.grownBy y v.ownBlock := grown_comp (grown_trans HG.out (grown_kept (kalloc kw1 (.cells #[.int .u8 r0, .int .u8 r1, .int .u8 r2, .int .u8 r3] 94)))) hgr' HP.out
      have hpy : Placed w v q := by
        rcases hpl' with e | e
        · rw [Placed, e]; exact HP.out
        · exact .inr ⟨_, e, by have := hbel.size; first | omega | (simp; omega)⟩
      clear hown hgr' hpl'
      go_wp2_with (fail)
      go_roundw
      case rel => exact ⟨k + 1, by omega, by go_num, hrow', hgy, hpy⟩
      case measure => simp [intOf]; omega
    · have hall : l.take k = l := List.take_of_length_le (by omega)
      have d0 : decide ((k : Int) < l.length) = false := decide_eq_false (by omega)
      rw [hall] at hrow
      have HR := Lib.hid hrow
      clear hall hrow
      go_wp2_with (fail)
      go_ret
      exact ⟨_, rfl, HR.out, hgr, hpl⟩

set_option maxRecDepth 100000 in
set_option maxHeartbeats 4000000 in
theorem words_step (w : World) (B : Nat) (v : Value) (xs : List Int) (A : Option Addr) (l : List St) (c : Nat) (hrow : BRow w B v xs) (hl : StsAt w A l w.heap.size) (hap : 0 < l.length → ∀ b o, A = some ⟨b, o, none⟩ → v.ownBlock ≠ some b) (hC : ∀ x ∈ l, ∀ w', Below B w w' → Calls Tryz.prog 29 #[stA x] w' fun e w'' => e = .returned (stA (idS x)) ∧ Kept w' w'') (hn : l.length ≤ 70000) (hx : xs.length ≤ 10000000) (hB : B ≤ w.heap.size) :
    Calls Tryz.prog 28 #[v, .slice A l.length c, .func (.func 29) #[] #[]] w fun e w' => ∃ v', e = .returned v' ∧ BRow w' B v' (xs ++ l.flatMap fun x => stL (idS x)) ∧ w.grownBy w' v.ownBlock ∧ Placed w v v' := by
  obtain ⟨i0, hi, hz0, hz1, hz2⟩ := info_parts infoU8
  have HR0 := Lib.hid hrow
  have HL := Lib.hid hl
  have HC := Lib.hid hC
  clear hrow hl hC
  go_enter Tryz.func28, Tryz.ntmps28
  go_wp2_with (fail)
  go_loopw [0, 12] (fun s0 s12 wr => WLoop idS xs l w B v s0 s12 wr) (fun _ s12 _ => l.length - (intOf s12).toNat)
  case atStart => exact ⟨0, Nat.zero_le _, rfl, by rw [List.take_zero, List.flatMap_nil, List.append_nil]; exact HR0.out, World.grownBy.refl _ _, .inl rfl⟩
  case round =>
    obtain ⟨k, hk, rfl, hrow, hgr, hpl⟩ := hrel
    by_cases hlt : k < l.length
    · have d0 : decide ((k : Int) < l.length) = true := decide_eq_true (by omega)
      obtain ⟨b, o, hA, hbl, hcell⟩ := HL.out (by omega)
      have hbel : Below B w wr := Below.grown (Below.refl _ _) hgr hB (fun j e => (World.ownsRow.lt HR0.out j e).1)
      have hq : ∀ j, wr.cell? ⟨b, j, none⟩ = w.cell? ⟨b, j, none⟩ := fun j => World.cell?_of_block (a := ⟨b, j, none⟩) (hgr.block b hbl (fun e => hap (by omega) b o hA e.symm))
      obtain ⟨q0, q1, q2, q3⟩ := hcell k hlt
      have c0 := (hq _).trans q0
      have c1 := (hq _).trans q1
      have c2 := (hq _).trans q2
      have c3 := (hq _).trans q3
      clear hcell q0 q1 q2 q3
      have hnext := flat_next idS hlt
      have hfl := flat_len idS (l.take k)
      have hkl : (l.take k).length ≤ k := by rw [List.length_take]; exact Nat.min_le_left _ _
      have hcall := fun w' (hk : Below B w w') => Lib.hid (HC.out _ (List.getElem_mem hlt) w' hk)
      have hg : ∃ r, idS l[k] = r := ⟨_, rfl⟩
      obtain ⟨r, hgr'⟩ := hg
      rw [hgr'] at hnext hcall
      have HN := Lib.hid hnext
      clear hnext hgr'
      generalize l[k] = m at *
      obtain ⟨ma, mb, mc, md⟩ := m
      dsimp only at *
      obtain ⟨r0, r1, r2, r3⟩ := r
      have HR := Lib.hid hrow
      have HP := Lib.hid hpl
      have HG := Lib.hid hgr
      obtain rfl : A = some ⟨b, o, none⟩ := hA
      clear hrow hpl hgr hq
      go_wp2_with (fail)
      refine (hcall _ (by first | exact hbel | exact hbel.alloc (Nat.le_trans hB hbel.size) _)).out.mono ?_
      rintro e w1 ⟨rfl, k1⟩
      have kw1 : Kept wr w1 := by first | exact k1 | exact (walloc _ _).trans k1
      have hr1 := brow_kept HR.out kw1
      have hs1 : wr.heap.size ≤ w1.heap.size := kw1.size
      have hbs : B ≤ wr.heap.size := Nat.le_trans hB hbel.size
      go_wp2_with (at_builtin; refine wpList_append_own_at _ rfl _ _ 30 rfl B 5 i0 (.int .u8 0) 1 1 Tryz.underlying30 hi hz0 hz1 hz2 rfl (by decide) _ _ _ rfl (World.ownsRow.alloc hr1 _) ⟨w1.heap.size, 0, none⟩ 4 4 [.int .u8 r0, .int .u8 r1, .int .u8 r2, .int .u8 r3] rfl rfl (cells_new w1 _ _) ?c1 ?c2 ?c3 ?c4 ?_)
      case c1 => first | rfl | (intro q hq; simp at hq; rcases hq with rfl | rfl | rfl | rfl <;> rfl) | simp
      case c2 => unfold maxLen; simp only [List.length_append]; omega
      case c3 => simp only [List.length_append]; omega
      case c4 => first | omega | (simp; omega)
      intro q y hown hgr' _ hpl'
      have hrow' : BRow y B q (xs ++ (l.take (k + 1)).flatMap fun x => stL (idS x)) := by
        have e1 : (xs ++ ((l.take k).flatMap (fun x => stL (idS x)) ++ stL ⟨r0, r1, r2, r3⟩)).length = xs.length + 4 * k + 4 := by
          have e0 : (l.take k).length = k := by rw [List.length_take]; omega
          rw [List.length_append, List.length_append, hfl, e0]
          simp only [stL, List.length_cons, List.length_nil]
          omega
        have e2 : (xs ++ ((l.take k).flatMap (fun x => stL (idS x)) ++ stL ⟨r0, r1, r2, r3⟩)).map (Value.int .u8) = xs.map (Value.int .u8) ++ (((l.take k).flatMap fun x => stL (idS x)).map (Value.int .u8) ++ [.int .u8 r0, .int .u8 r1, .int .u8 r2, .int .u8 r3]) := by
          rw [List.map_append, List.map_append]; rfl
        rw [HN.out]; unfold BRow; rw [e1, e2]; exact hown
      have hgy : w.grownBy y v.ownBlock := grown_comp (grown_trans HG.out (grown_kept (kalloc kw1 (.cells #[.int .u8 r0, .int .u8 r1, .int .u8 r2, .int .u8 r3] 94)))) hgr' HP.out
      have hpy : Placed w v q := by
        rcases hpl' with e | e
        · rw [Placed, e]; exact HP.out
        · exact .inr ⟨_, e, by have := hbel.size; first | omega | (simp; omega)⟩
      clear hown hgr' hpl'
      go_wp2_with (fail)
      go_roundw
      case rel => exact ⟨k + 1, by omega, by go_num, hrow', hgy, hpy⟩
      case measure => simp [intOf]; omega
    · have hall : l.take k = l := List.take_of_length_le (by omega)
      have d0 : decide ((k : Int) < l.length) = false := decide_eq_false (by omega)
      rw [hall] at hrow
      have HR := Lib.hid hrow
      clear hall hrow
      go_wp2_with (fail)
      go_ret
      exact ⟨_, rfl, HR.out, hgr, hpl⟩

set_option maxRecDepth 100000 in
set_option maxHeartbeats 4000000 in
theorem words_pc (w : World) (B : Nat) (v : Value) (xs : List Int) (A : Option Addr) (l : List St) (c : Nat) (hrow : BRow w B v xs) (hl : StsAt w A l w.heap.size) (hap : 0 < l.length → ∀ b o, A = some ⟨b, o, none⟩ → v.ownBlock ≠ some b) (hC : ∀ x ∈ l, ∀ w', Below B w w' → Calls Tryz.prog 31 #[stA x] w' fun e w'' => e = .returned (stA (idS x)) ∧ Kept w' w'') (hn : l.length ≤ 70000) (hx : xs.length ≤ 10000000) (hB : B ≤ w.heap.size) :
    Calls Tryz.prog 30 #[v, .slice A l.length c, .func (.func 31) #[] #[]] w fun e w' => ∃ v', e = .returned v' ∧ BRow w' B v' (xs ++ l.flatMap fun x => stL (idS x)) ∧ w.grownBy w' v.ownBlock ∧ Placed w v v' := by
  obtain ⟨i0, hi, hz0, hz1, hz2⟩ := info_parts infoU8
  have HR0 := Lib.hid hrow
  have HL := Lib.hid hl
  have HC := Lib.hid hC
  clear hrow hl hC
  go_enter Tryz.func30, Tryz.ntmps30
  go_wp2_with (fail)
  go_loopw [0, 12] (fun s0 s12 wr => WLoop idS xs l w B v s0 s12 wr) (fun _ s12 _ => l.length - (intOf s12).toNat)
  case atStart => exact ⟨0, Nat.zero_le _, rfl, by rw [List.take_zero, List.flatMap_nil, List.append_nil]; exact HR0.out, World.grownBy.refl _ _, .inl rfl⟩
  case round =>
    obtain ⟨k, hk, rfl, hrow, hgr, hpl⟩ := hrel
    by_cases hlt : k < l.length
    · have d0 : decide ((k : Int) < l.length) = true := decide_eq_true (by omega)
      obtain ⟨b, o, hA, hbl, hcell⟩ := HL.out (by omega)
      have hbel : Below B w wr := Below.grown (Below.refl _ _) hgr hB (fun j e => (World.ownsRow.lt HR0.out j e).1)
      have hq : ∀ j, wr.cell? ⟨b, j, none⟩ = w.cell? ⟨b, j, none⟩ := fun j => World.cell?_of_block (a := ⟨b, j, none⟩) (hgr.block b hbl (fun e => hap (by omega) b o hA e.symm))
      obtain ⟨q0, q1, q2, q3⟩ := hcell k hlt
      have c0 := (hq _).trans q0
      have c1 := (hq _).trans q1
      have c2 := (hq _).trans q2
      have c3 := (hq _).trans q3
      clear hcell q0 q1 q2 q3
      have hnext := flat_next idS hlt
      have hfl := flat_len idS (l.take k)
      have hkl : (l.take k).length ≤ k := by rw [List.length_take]; exact Nat.min_le_left _ _
      have hcall := fun w' (hk : Below B w w') => Lib.hid (HC.out _ (List.getElem_mem hlt) w' hk)
      have hg : ∃ r, idS l[k] = r := ⟨_, rfl⟩
      obtain ⟨r, hgr'⟩ := hg
      rw [hgr'] at hnext hcall
      have HN := Lib.hid hnext
      clear hnext hgr'
      generalize l[k] = m at *
      obtain ⟨ma, mb, mc, md⟩ := m
      dsimp only at *
      obtain ⟨r0, r1, r2, r3⟩ := r
      have HR := Lib.hid hrow
      have HP := Lib.hid hpl
      have HG := Lib.hid hgr
      obtain rfl : A = some ⟨b, o, none⟩ := hA
      clear hrow hpl hgr hq
      go_wp2_with (fail)
      refine (hcall _ (by first | exact hbel | exact hbel.alloc (Nat.le_trans hB hbel.size) _)).out.mono ?_
      rintro e w1 ⟨rfl, k1⟩
      have kw1 : Kept wr w1 := by first | exact k1 | exact (walloc _ _).trans k1
      have hr1 := brow_kept HR.out kw1
      have hs1 : wr.heap.size ≤ w1.heap.size := kw1.size
      have hbs : B ≤ wr.heap.size := Nat.le_trans hB hbel.size
      go_wp2_with (at_builtin; refine wpList_append_own_at _ rfl _ _ 30 rfl B 5 i0 (.int .u8 0) 1 1 Tryz.underlying30 hi hz0 hz1 hz2 rfl (by decide) _ _ _ rfl (World.ownsRow.alloc hr1 _) ⟨w1.heap.size, 0, none⟩ 4 4 [.int .u8 r0, .int .u8 r1, .int .u8 r2, .int .u8 r3] rfl rfl (cells_new w1 _ _) ?c1 ?c2 ?c3 ?c4 ?_)
      case c1 => first | rfl | (intro q hq; simp at hq; rcases hq with rfl | rfl | rfl | rfl <;> rfl) | simp
      case c2 => unfold maxLen; simp only [List.length_append]; omega
      case c3 => simp only [List.length_append]; omega
      case c4 => first | omega | (simp; omega)
      intro q y hown hgr' _ hpl'
      have hrow' : BRow y B q (xs ++ (l.take (k + 1)).flatMap fun x => stL (idS x)) := by
        have e1 : (xs ++ ((l.take k).flatMap (fun x => stL (idS x)) ++ stL ⟨r0, r1, r2, r3⟩)).length = xs.length + 4 * k + 4 := by
          have e0 : (l.take k).length = k := by rw [List.length_take]; omega
          rw [List.length_append, List.length_append, hfl, e0]
          simp only [stL, List.length_cons, List.length_nil]
          omega
        have e2 : (xs ++ ((l.take k).flatMap (fun x => stL (idS x)) ++ stL ⟨r0, r1, r2, r3⟩)).map (Value.int .u8) = xs.map (Value.int .u8) ++ (((l.take k).flatMap fun x => stL (idS x)).map (Value.int .u8) ++ [.int .u8 r0, .int .u8 r1, .int .u8 r2, .int .u8 r3]) := by
          rw [List.map_append, List.map_append]; rfl
        rw [HN.out]; unfold BRow; rw [e1, e2]; exact hown
      have hgy : w.grownBy y v.ownBlock := grown_comp (grown_trans HG.out (grown_kept (kalloc kw1 (.cells #[.int .u8 r0, .int .u8 r1, .int .u8 r2, .int .u8 r3] 94)))) hgr' HP.out
      have hpy : Placed w v q := by
        rcases hpl' with e | e
        · rw [Placed, e]; exact HP.out
        · exact .inr ⟨_, e, by have := hbel.size; first | omega | (simp; omega)⟩
      clear hown hgr' hpl'
      go_wp2_with (fail)
      go_roundw
      case rel => exact ⟨k + 1, by omega, by go_num, hrow', hgy, hpy⟩
      case measure => simp [intOf]; omega
    · have hall : l.take k = l := List.take_of_length_le (by omega)
      have d0 : decide ((k : Int) < l.length) = false := decide_eq_false (by omega)
      rw [hall] at hrow
      have HR := Lib.hid hrow
      clear hall hrow
      go_wp2_with (fail)
      go_ret
      exact ⟨_, rfl, HR.out, hgr, hpl⟩

set_option maxRecDepth 100000 in
set_option maxHeartbeats 4000000 in
theorem words_met (w : World) (B : Nat) (v : Value) (xs : List Int) (A : Option Addr) (l : List Met) (c : Nat) (dm : Value) (gm : Met → St) (hrow : BRow w B v xs) (hl : MetsAt w A l w.heap.size) (hap : 0 < l.length → ∀ b o, A = some ⟨b, o, none⟩ → v.ownBlock ≠ some b) (hC : ∀ x ∈ l, ∀ w', Below B w w' → Calls Tryz.prog 27 #[dm, metA x] w' fun e w'' => e = .returned (stA (gm x)) ∧ Kept w' w'') (hn : l.length ≤ 70000) (hx : xs.length ≤ 10000000) (hB : B ≤ w.heap.size) :
    Calls Tryz.prog 26 #[v, .slice A l.length c, .func (.func 27) #[dm] #[]] w fun e w' => ∃ v', e = .returned v' ∧ BRow w' B v' (xs ++ l.flatMap fun x => stL (gm x)) ∧ w.grownBy w' v.ownBlock ∧ Placed w v v' := by
  obtain ⟨i0, hi, hz0, hz1, hz2⟩ := info_parts infoU8
  have HR0 := Lib.hid hrow
  have HL := Lib.hid hl
  have HC := Lib.hid hC
  clear hrow hl hC
  go_enter Tryz.func26, Tryz.ntmps26
  go_wp2_with (fail)
  go_loopw [0, 12] (fun s0 s12 wr => WLoop gm xs l w B v s0 s12 wr) (fun _ s12 _ => l.length - (intOf s12).toNat)
  case atStart => exact ⟨0, Nat.zero_le _, rfl, by rw [List.take_zero, List.flatMap_nil, List.append_nil]; exact HR0.out, World.grownBy.refl _ _, .inl rfl⟩
  case round =>
    obtain ⟨k, hk, rfl, hrow, hgr, hpl⟩ := hrel
    by_cases hlt : k < l.length
    · have d0 : decide ((k : Int) < l.length) = true := decide_eq_true (by omega)
      obtain ⟨b, o, hA, hbl, hcell⟩ := HL.out (by omega)
      have hbel : Below B w wr := Below.grown (Below.refl _ _) hgr hB (fun j e => (World.ownsRow.lt HR0.out j e).1)
      have hq : ∀ j, wr.cell? ⟨b, j, none⟩ = w.cell? ⟨b, j, none⟩ := fun j => World.cell?_of_block (a := ⟨b, j, none⟩) (hgr.block b hbl (fun e => hap (by omega) b o hA e.symm))
      obtain ⟨q0, q1, q2, q3, q4, q5⟩ := hcell k hlt
      have c0 := (hq _).trans q0
      have c1 := (hq _).trans q1
      have c2 := (hq _).trans q2
      have c3 := (hq _).trans q3
      have c4 := (hq _).trans q4
      have c5 := (hq _).trans q5
      clear hcell q0 q1 q2 q3 q4 q5
      have hnext := flat_next gm hlt
      have hfl := flat_len gm (l.take k)
      have hkl : (l.take k).length ≤ k := by rw [List.length_take]; exact Nat.min_le_left _ _
      have hcall := fun w' (hk : Below B w w') => Lib.hid (HC.out _ (List.getElem_mem hlt) w' hk)
      have hg : ∃ r, gm l[k] = r := ⟨_, rfl⟩
      obtain ⟨r, hgr'⟩ := hg
      rw [hgr'] at hnext hcall
      have HN := Lib.hid hnext
      clear hnext hgr'
      generalize l[k] = m at *
      obtain ⟨mw, mh, md, mi, mt, mr⟩ := m
      dsimp only at *
      obtain ⟨r0, r1, r2, r3⟩ := r
      have HR := Lib.hid hrow
      have HP := Lib.hid hpl
      have HG := Lib.hid hgr
      obtain rfl : A = some ⟨b, o, none⟩ := hA
      clear hrow hpl hgr hq
      go_wp2_with (fail)
      refine (hcall _ (by first | exact hbel | exact hbel.alloc (Nat.le_trans hB hbel.size) _)).out.mono ?_
      rintro e w1 ⟨rfl, k1⟩
      have kw1 : Kept wr w1 := by first | exact k1 | exact (walloc _ _).trans k1
      have hr1 := brow_kept HR.out kw1
      have hs1 : wr.heap.size ≤ w1.heap.size := kw1.size
      have hbs : B ≤ wr.heap.size := Nat.le_trans hB hbel.size
      go_wp2_with (at_builtin; refine wpList_append_own_at _ rfl _ _ 30 rfl B 5 i0 (.int .u8 0) 1 1 Tryz.underlying30 hi hz0 hz1 hz2 rfl (by decide) _ _ _ rfl (World.ownsRow.alloc hr1 _) ⟨w1.heap.size, 0, none⟩ 4 4 [.int .u8 r0, .int .u8 r1, .int .u8 r2, .int .u8 r3] rfl rfl (cells_new w1 _ _) ?c1 ?c2 ?c3 ?c4 ?_)
      case c1 => first | rfl | (intro q hq; simp at hq; rcases hq with rfl | rfl | rfl | rfl <;> rfl) | simp
      case c2 => unfold maxLen; simp only [List.length_append]; omega
      case c3 => simp only [List.length_append]; omega
      case c4 => first | omega | (simp; omega)
      intro q y hown hgr' _ hpl'
      have hrow' : BRow y B q (xs ++ (l.take (k + 1)).flatMap fun x => stL (gm x)) := by
        have e1 : (xs ++ ((l.take k).flatMap (fun x => stL (gm x)) ++ stL ⟨r0, r1, r2, r3⟩)).length = xs.length + 4 * k + 4 := by
          have e0 : (l.take k).length = k := by rw [List.length_take]; omega
          rw [List.length_append, List.length_append, hfl, e0]
          simp only [stL, List.length_cons, List.length_nil]
          omega
        have e2 : (xs ++ ((l.take k).flatMap (fun x => stL (gm x)) ++ stL ⟨r0, r1, r2, r3⟩)).map (Value.int .u8) = xs.map (Value.int .u8) ++ (((l.take k).flatMap fun x => stL (gm x)).map (Value.int .u8) ++ [.int .u8 r0, .int .u8 r1, .int .u8 r2, .int .u8 r3]) := by
          rw [List.map_append, List.map_append]; rfl
        rw [HN.out]; unfold BRow; rw [e1, e2]; exact hown
      have hgy : w.grownBy y v.ownBlock := grown_comp (grown_trans HG.out (grown_kept (kalloc kw1 (.cells #[.int .u8 r0, .int .u8 r1, .int .u8 r2, .int .u8 r3] 94)))) hgr' HP.out
      have hpy : Placed w v q := by
        rcases hpl' with e | e
        · rw [Placed, e]; exact HP.out
        · exact .inr ⟨_, e, by have := hbel.size; first | omega | (simp; omega)⟩
      clear hown hgr' hpl'
      go_wp2_with (fail)
      go_roundw
      case rel => exact ⟨k + 1, by omega, by go_num, hrow', hgy, hpy⟩
      case measure => simp [intOf]; omega
    · have hall : l.take k = l := List.take_of_length_le (by omega)
      have d0 : decide ((k : Int) < l.length) = false := decide_eq_false (by omega)
      rw [hall] at hrow
      have HR := Lib.hid hrow
      clear hall hrow
      go_wp2_with (fail)
      go_ret
      exact ⟨_, rfl, HR.out, hgr, hpl⟩
end Go.Proofs.YtdhidpbenhmfgaaGreat
