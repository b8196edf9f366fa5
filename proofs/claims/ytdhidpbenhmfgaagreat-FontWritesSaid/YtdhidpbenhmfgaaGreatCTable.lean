/- font.unsigned, signed, stepOf, piecesOf; table. -/
import Derived.Test.YtdhidpbenhmfgaaGreatCRead1
namespace Go.Proofs.YtdhidpbenhmfgaaGreat
open Go.RowKit

def unsV (s : St) : Int := s.skip * 16777216 + s.next * 65536 + s.op * 256 + s.rest
def sigV (s : St) : Int := if unsV s < 2147483648 then unsV s else unsV s - 4294967296
structure St.ok (s : St) : Prop where
  skip : 0 ≤ s.skip ∧ s.skip ≤ 255
  next : 0 ≤ s.next ∧ s.next ≤ 255
  op : 0 ≤ s.op ∧ s.op ≤ 255
  rest : 0 ≤ s.rest ∧ s.rest ≤ 255
theorem unsV_bd {s : St} (h : s.ok) : 0 ≤ unsV s ∧ unsV s ≤ 4294967295 := by
  obtain ⟨a, b, c, d⟩ := h; unfold unsV; omega

set_option maxHeartbeats 2000000 in
theorem unsigned_any (s : St) (w : World) (h : s.ok) :
    Calls Tryz.prog 76 #[stA s] w fun e w' => e = .returned (.int .u32 (unsV s)) ∧ Kept w w' := by
  obtain ⟨⟨a0, a1⟩, ⟨b0, b1⟩, ⟨c0, c1⟩, ⟨d0, d1⟩⟩ := h
  unfold unsV
  obtain ⟨a, b, c, d⟩ := s
  dsimp only at *
  have wr : ∀ x : Int, 0 ≤ x → x < 4294967296 → IntKind.u32.wrap x = x := fun x h h' => by rw [IntKind.wrap_u32]; omega
  have w1 : ∀ n : Int, 0 ≤ n → n < 2 ^ 32 → IntKind.u32.wrap n = n := fun n h h' => wr n h (by omega)
  have e0 : IntKind.u32.wrap (a * 16777216) = a * 16777216 := wr _ (by omega) (by omega)
  have e1 : IntKind.u32.wrap (b * 65536) = b * 65536 := wr _ (by omega) (by omega)
  have e2 : IntKind.u32.wrap (c * 256) = c * 256 := wr _ (by omega) (by omega)
  have j1 : bits .or .u32 (a * 16777216) (b * 65536) = a * 16777216 + b * 65536 := bits_join .u32 32 (by decide) w1 24 _ _ (by omega) (by omega) (by omega) (by omega) (by omega) (by omega)
  have j2 : bits .or .u32 (a * 16777216 + b * 65536) (c * 256) = a * 16777216 + b * 65536 + c * 256 := bits_join .u32 32 (by decide) w1 16 _ _ (by omega) (by omega) (by omega) (by omega) (by omega) (by omega)
  have j3 : bits .or .u32 (a * 16777216 + b * 65536 + c * 256) d = a * 16777216 + b * 65536 + c * 256 + d := bits_join .u32 32 (by decide) w1 8 _ _ (by omega) (by omega) (by omega) (by omega) (by omega) (by omega)
  go_enter Tryz.func76, Tryz.ntmps76
  go_wp2_with (fail)
  go_ret
  exact ⟨rfl, walloc _ _⟩

set_option maxHeartbeats 2000000 in
theorem signed_any (s : St) (w : World) (h : s.ok) :
    Calls Tryz.prog 84 #[stA s] w fun e w' => e = .returned (.int .i64 (sigV s)) ∧ Kept w w' := by
  have hu := fun w => Lib.hid (unsigned_any s w h)
  have hb := unsV_bd h
  have e1 : IntKind.i32.wrap (unsV s) = sigV s := by
    unfold sigV
    rw [IntKind.wrap_i32]
    split <;> omega
  have hv2 : -2147483648 ≤ sigV s ∧ sigV s ≤ 2147483647 := by unfold sigV; split <;> omega
  obtain ⟨hv0, hv1⟩ := hv2
  generalize unsV s = u at *
  generalize sigV s = v at *
  clear h
  obtain ⟨a, b, c, d⟩ := s
  go_enter Tryz.func84, Tryz.ntmps84
  go_wp2_with (fail)
  refine (hu _).out.mono ?_
  rintro e w1 ⟨rfl, k1⟩
  go_wp2_with (fail)
  go_ret
  exact ⟨rfl, Kept.trans (walloc _ _) k1⟩

set_option maxHeartbeats 1000000 in
theorem same_any (s : St) (w : World) :
    Calls Tryz.prog 78 #[stA s] w fun e w' => e = .returned (stA s) ∧ Kept w w' := by
  obtain ⟨s0, s1, s2, s3⟩ := s
  go_enter Tryz.func78, Tryz.ntmps78
  go_wp2_with (fail)
  exact bodyPost_ret (v := stA ⟨s0, s1, s2, s3⟩) (by simp [results, Tryz.results78, go_sem]) rfl ⟨rfl, (by repeat (first | exact Kept.refl _ | assumption | refine kalloc ?_ _ | refine Below.setCell ?_ (by simp; try omega) _ | refine below_drewN ?_ _ | refine Below.drew ?_))⟩

set_option maxHeartbeats 1000000 in
theorem stepOf_any (s : St) (w : World) :
    Calls Tryz.prog 82 #[stA s] w fun e w' => e = .returned (stA s) ∧ Kept w w' := by
  obtain ⟨s0, s1, s2, s3⟩ := s
  go_enter Tryz.func82, Tryz.ntmps82
  go_wp2_with (fail)
  exact bodyPost_ret (v := stA ⟨s0, s1, s2, s3⟩) (by simp [results, Tryz.results82, go_sem]) rfl ⟨rfl, (by repeat (first | exact Kept.refl _ | assumption | refine kalloc ?_ _ | refine Below.setCell ?_ (by simp; try omega) _ | refine below_drewN ?_ _ | refine Below.drew ?_))⟩

set_option maxHeartbeats 1000000 in
theorem piecesOf_any (s : St) (w : World) :
    Calls Tryz.prog 86 #[stA s] w fun e w' => e = .returned (stA s) ∧ Kept w w' := by
  obtain ⟨s0, s1, s2, s3⟩ := s
  go_enter Tryz.func86, Tryz.ntmps86
  go_wp2_with (fail)
  exact bodyPost_ret (v := stA ⟨s0, s1, s2, s3⟩) (by simp [results, Tryz.results86, go_sem]) rfl ⟨rfl, (by repeat (first | exact Kept.refl _ | assumption | refine kalloc ?_ _ | refine Below.setCell ?_ (by simp; try omega) _ | refine below_drewN ?_ _ | refine Below.drew ?_))⟩

theorem own_ne {w : World} {B n s R : Nat} {e : TypeId} {v : Value} {xs : List Value} (h : w.ownsRow B e s v n xs) (hR : R < B) : v.ownBlock = none ∨ v.ownBlock ≠ some R := by
  cases ho : v.ownBlock with
  | none => exact .inl rfl
  | some g => exact .inr (fun e => by cases e; have := (World.ownsRow.lt h _ ho).1; omega)
theorem own_none (v : Value) : v.ownBlock = none ∨ v.ownBlock ≠ none := by
  cases v.ownBlock with
  | none => exact .inl rfl
  | some g => exact .inr (by simp)
theorem grown_own {a b c : World} {row : Option Nat} {R : Nat} (h : a.grownBy b (some R)) (k : b.grownBy c row) (hr : ∀ g, row = some g → a.heap.size ≤ g) : a.grownBy c (some R) := by
  cases row with
  | none => exact grown_trans h (grown_none k)
  | some g => exact grown_new h k (hr g rfl)
def wordS (bs : List Int) (k : Nat) : St := ⟨bs[k]?.getD 0, bs[k + 1]?.getD 0, bs[k + 2]?.getD 0, bs[k + 3]?.getD 0⟩
theorem wordS_ok {bs : List Int} (hb : BytesOk bs) (k : Nat) : (wordS bs k).ok := by
  have g : ∀ i : Nat, 0 ≤ bs[i]?.getD 0 ∧ bs[i]?.getD 0 ≤ 255 := fun i => by
    cases h : bs[i]? with
    | none => simp
    | some x => simp; exact hb x (List.mem_of_getElem? h)
  exact ⟨g _, g _, g _, g _⟩
theorem infoU32 : (Tryz.prog.info? 22).map (fun i => (i.zero, i.size, i.bytes)) = some (some (.int .u32 0), 1, 4) := by kernel_rfl
theorem infoWord : (Tryz.prog.info? 94).map (fun i => (i.zero, i.size, i.bytes)) = some (some (.agg #[.int .u8 0, .int .u8 0, .int .u8 0, .int .u8 0]), 4, 4) := by kernel_rfl
theorem infoStep : (Tryz.prog.info? 71).map (fun i => (i.zero, i.size, i.bytes)) = some (some (.agg #[.int .u8 0, .int .u8 0, .int .u8 0, .int .u8 0]), 4, 4) := by kernel_rfl
theorem infoArr4 : (Tryz.prog.info? 74).map (fun i => (i.zero, i.size, i.bytes)) = some (some (.agg #[.int .u8 0, .int .u8 0, .int .u8 0, .int .u8 0]), 4, 4) := by kernel_rfl
def stC (s : St) : List Value := [.int .u8 s.skip, .int .u8 s.next, .int .u8 s.op, .int .u8 s.rest]
def wordsAt (bs : List Int) (k n : Nat) : List St := (List.range n).map fun i => wordS bs (k + 4 * i)
theorem wordsAt_next (bs : List Int) (k n : Nat) : wordsAt bs k (n + 1) = wordsAt bs k n ++ [wordS bs (k + 4 * n)] := by
  unfold wordsAt; rw [List.range_succ, List.map_append]; rfl
theorem wordsAt_len (bs : List Int) (k n : Nat) : (wordsAt bs k n).length = n := by unfold wordsAt; simp
def TLoop (bs : List Int) (k n : Nat) (w : World) (R b o c : Nat) (e : TypeId) (size : Nat) (cells : St → List Value) (s7 s9 : Value) (wr : World) : Prop :=
  ∃ i : Nat, i ≤ n ∧ s9 = .int .i64 i ∧ Rd wr R b o c (k + 4 * i) bs ∧ w.grownBy wr (some R) ∧ wr.ownsRow w.heap.size e size s7 i ((wordsAt bs k i).flatMap cells)

set_option maxRecDepth 100000 in
set_option maxHeartbeats 4000000 in
theorem table_int (w : World) (R b o c k n : Nat) (bs : List Int) (h : Rd w R b o c k bs) (hb : BytesOk bs) (hn : k + 4 * n ≤ bs.length) (hlen : bs.length ≤ 1048576) :
    Calls Tryz.prog 83 #[.pointer (some ⟨R, 0, none⟩), .int .i64 n, .func (.func 84) #[] #[]] w fun e w' => ∃ v, e = .returned v ∧ w'.ownsRow w.heap.size 3 1 v n ((wordsAt bs k n).flatMap (fun s => [Value.int .i64 (sigV s)])) ∧ Rd w' R b o c (k + 4 * n) bs ∧ w.grownBy w' (some R) := by
  obtain ⟨i0, hi, hz0, hz1, hz2⟩ := info_parts infoInt
  have hsp : ∀ (a : Addr) (c' : Nat) (w : World), (Instr.arrayAt 94 (.slice (some a) 4 c')).run Tryz.prog w = .ok (.pointer (some a)) w := fun _ _ _ => by first | rfl | (show _ = _; kernel_rfl)
  have hRl : R < w.heap.size := by obtain ⟨p, h1, _⟩ := h.box; exact (Array.getElem?_eq_some_iff.1 h1).1
  have hblt := h.blt
  have HH := Lib.hid h
  have HB := Lib.hid hb
  clear h hb
  go_enter Tryz.func83, Tryz.ntmps83
  go_wp2_with (fail)
  go_loopw [7, 9] (fun s7 s9 wr => TLoop bs k n w R b o c 3 1 (fun s => [Value.int .i64 (sigV s)]) s7 s9 wr) (fun _ s9 _ => n - (intOf s9).toNat)
  case atStart => exact ⟨0, Nat.zero_le _, rfl, HH.out, World.grownBy.refl _ _, World.ownsRow_nil _ _ _ _⟩
  case round =>
    obtain ⟨i, hi', rfl, hr, hg, hrow⟩ := hrel
    by_cases hlt : i < n
    · have d0 : decide ((i : Int) < n) = true := decide_eq_true (by omega)
      have ht := Lib.hid (take_ok wr R b o c (k + 4 * i) 4 bs hr (by omega))
      have hok := wordS_ok HB.out (k + 4 * i)
      have hnx := wordsAt_next bs k i
      have hwl := wordsAt_len bs k i
      have g : ∀ j, ∀ hj : j < bs.length, bs[j]?.getD 0 = bs[j] := fun j hj => by rw [List.getElem?_eq_getElem hj]; rfl
      have hcell : ∀ w', Rd w' R b o c (k + 4 * i + 4) bs → Hid (w'.cell? ⟨b, o + (k + 4 * i), none⟩ = some (.int .u8 (wordS bs (k + 4 * i)).skip) ∧ w'.cell? ⟨b, o + (k + 4 * i) + 1, none⟩ = some (.int .u8 (wordS bs (k + 4 * i)).next) ∧ w'.cell? ⟨b, o + (k + 4 * i) + 2, none⟩ = some (.int .u8 (wordS bs (k + 4 * i)).op) ∧ w'.cell? ⟨b, o + (k + 4 * i) + 3, none⟩ = some (.int .u8 (wordS bs (k + 4 * i)).rest)) := fun w' hr' => by
        unfold wordS
        dsimp only
        rw [g _ (by omega), g _ (by omega), g _ (by omega), g _ (by omega)]
        exact Lib.hid ⟨hr'.bytes _ (by omega), hr'.bytes (k + 4 * i + 1) (by omega), hr'.bytes (k + 4 * i + 2) (by omega), hr'.bytes (k + 4 * i + 3) (by omega)⟩
      have hcall := fun w' => Lib.hid (signed_any (wordS bs (k + 4 * i)) w' hok)
      generalize wordS bs (k + 4 * i) = s at *
      have HN := Lib.hid hnx
      have HRow := Lib.hid hrow
      have HG := Lib.hid hg
      clear hnx hrow g hok hr hg
      obtain ⟨r0, r1, r2, r3⟩ := s
      dsimp only at *
      go_wp2_with (fail)
      refine ht.out.mono ?_
      rintro e w1 ⟨p, rfl, hp, hr1, hg1⟩
      obtain rfl := hp (by omega)
      obtain ⟨c0, c1, c2, c3⟩ := (hcell w1 hr1).out
      go_wp2_with (fail)
      refine (hcall _).out.mono ?_
      rintro e w2 ⟨rfl, k2⟩
      have hrow2 := (HRow.out.kept hg1 (own_ne HRow.out hRl)).kept (grown_kept (row := none) k2) (own_none _)
      have hr2 := hr1.grown (row := none) (grown_kept k2) (by simp) (by simp)
      have hg2 : w.grownBy w2 (some R) := grown_trans (grown_trans HG.out hg1) (grown_kept k2)
      have hs2 : w.heap.size ≤ w2.heap.size := hg2.size
      go_wp2_with (at_builtin; refine wpList_append_own_at _ rfl _ _ 25 rfl w.heap.size 3 i0 (.int .i64 0) 1 8 Tryz.underlying25 hi hz0 hz1 hz2 rfl (by decide) _ _ _ rfl (World.ownsRow.alloc hrow2 _) ⟨w2.heap.size, 0, none⟩ 1 1 ((fun s => [Value.int .i64 (sigV s)]) ⟨r0, r1, r2, r3⟩) rfl rfl (cells_new w2 _ _) ?c1 ?c2 ?c3 ?c4 ?_)
      case c1 => first | rfl | (intro q hq; simp only [stC, List.mem_cons, List.not_mem_nil, or_false] at hq; rcases hq with rfl | rfl | rfl | rfl <;> rfl) | (simp [stC]; done)
      case c2 => unfold maxLen; omega
      case c3 => omega
      case c4 => first | omega | (simp; omega)
      intro q y hown hgr _ _
      have hrow' : y.ownsRow w.heap.size 3 1 q (i + 1) ((wordsAt bs k (i + 1)).flatMap (fun s => [Value.int .i64 (sigV s)])) := by
        rw [HN.out, List.flatMap_append]; exact hown
      have hlow : ∀ g, Value.ownBlock _ = some g → w.heap.size ≤ g := fun g e => (World.ownsRow.lt hrow2 g e).1
      have hgy : w.grownBy y (some R) := grown_own (grown_trans hg2 (grown_kept (walloc _ _))) hgr hlow
      have hry : Rd y R b o c (k + 4 * (i + 1)) bs := by
        rw [show k + 4 * (i + 1) = k + 4 * i + 4 by omega]
        exact (hr2.grown (row := none) (grown_kept (walloc _ _)) (by simp) (by simp)).grown hgr (fun e => by have := hlow R e; omega) (fun e => by have := hlow b e; omega)
      clear hown hgr
      go_wp2_with (fail)
      go_roundw
      case rel => exact ⟨i + 1, by omega, by go_num, hry, hgy, hrow'⟩
      case measure => simp [intOf]; omega
    · obtain rfl : i = n := by omega
      have d0 : decide ((i : Int) < i) = false := decide_eq_false (by omega)
      have HRow := Lib.hid hrow
      clear hrow
      go_wp2_with (fail)
      go_ret
      exact ⟨_, rfl, HRow.out, hr, hg⟩

set_option maxRecDepth 100000 in
set_option maxHeartbeats 4000000 in
theorem table_u32 (w : World) (R b o c k n : Nat) (bs : List Int) (h : Rd w R b o c k bs) (hb : BytesOk bs) (hn : k + 4 * n ≤ bs.length) (hlen : bs.length ≤ 1048576) :
    Calls Tryz.prog 75 #[.pointer (some ⟨R, 0, none⟩), .int .i64 n, .func (.func 76) #[] #[]] w fun e w' => ∃ v, e = .returned v ∧ w'.ownsRow w.heap.size 22 1 v n ((wordsAt bs k n).flatMap (fun s => [Value.int .u32 (unsV s)])) ∧ Rd w' R b o c (k + 4 * n) bs ∧ w.grownBy w' (some R) := by
  obtain ⟨i0, hi, hz0, hz1, hz2⟩ := info_parts infoU32
  have hsp : ∀ (a : Addr) (c' : Nat) (w : World), (Instr.arrayAt 94 (.slice (some a) 4 c')).run Tryz.prog w = .ok (.pointer (some a)) w := fun _ _ _ => by first | rfl | (show _ = _; kernel_rfl)
  have hRl : R < w.heap.size := by obtain ⟨p, h1, _⟩ := h.box; exact (Array.getElem?_eq_some_iff.1 h1).1
  have hblt := h.blt
  have HH := Lib.hid h
  have HB := Lib.hid hb
  clear h hb
  go_enter Tryz.func75, Tryz.ntmps75
  go_wp2_with (fail)
  go_loopw [7, 9] (fun s7 s9 wr => TLoop bs k n w R b o c 22 1 (fun s => [Value.int .u32 (unsV s)]) s7 s9 wr) (fun _ s9 _ => n - (intOf s9).toNat)
  case atStart => exact ⟨0, Nat.zero_le _, rfl, HH.out, World.grownBy.refl _ _, World.ownsRow_nil _ _ _ _⟩
  case round =>
    obtain ⟨i, hi', rfl, hr, hg, hrow⟩ := hrel
    by_cases hlt : i < n
    · have d0 : decide ((i : Int) < n) = true := decide_eq_true (by omega)
      have ht := Lib.hid (take_ok wr R b o c (k + 4 * i) 4 bs hr (by omega))
      have hok := wordS_ok HB.out (k + 4 * i)
      have hnx := wordsAt_next bs k i
      have hwl := wordsAt_len bs k i
      have g : ∀ j, ∀ hj : j < bs.length, bs[j]?.getD 0 = bs[j] := fun j hj => by rw [List.getElem?_eq_getElem hj]; rfl
      have hcell : ∀ w', Rd w' R b o c (k + 4 * i + 4) bs → Hid (w'.cell? ⟨b, o + (k + 4 * i), none⟩ = some (.int .u8 (wordS bs (k + 4 * i)).skip) ∧ w'.cell? ⟨b, o + (k + 4 * i) + 1, none⟩ = some (.int .u8 (wordS bs (k + 4 * i)).next) ∧ w'.cell? ⟨b, o + (k + 4 * i) + 2, none⟩ = some (.int .u8 (wordS bs (k + 4 * i)).op) ∧ w'.cell? ⟨b, o + (k + 4 * i) + 3, none⟩ = some (.int .u8 (wordS bs (k + 4 * i)).rest)) := fun w' hr' => by
        unfold wordS
        dsimp only
        rw [g _ (by omega), g _ (by omega), g _ (by omega), g _ (by omega)]
        exact Lib.hid ⟨hr'.bytes _ (by omega), hr'.bytes (k + 4 * i + 1) (by omega), hr'.bytes (k + 4 * i + 2) (by omega), hr'.bytes (k + 4 * i + 3) (by omega)⟩
      have hcall := fun w' => Lib.hid (unsigned_any (wordS bs (k + 4 * i)) w' hok)
      generalize wordS bs (k + 4 * i) = s at *
      have HN := Lib.hid hnx
      have HRow := Lib.hid hrow
      have HG := Lib.hid hg
      clear hnx hrow g hok hr hg
      obtain ⟨r0, r1, r2, r3⟩ := s
      dsimp only at *
      go_wp2_with (fail)
      refine ht.out.mono ?_
      rintro e w1 ⟨p, rfl, hp, hr1, hg1⟩
      obtain rfl := hp (by omega)
      obtain ⟨c0, c1, c2, c3⟩ := (hcell w1 hr1).out
      go_wp2_with (fail)
      refine (hcall _).out.mono ?_
      rintro e w2 ⟨rfl, k2⟩
      have hrow2 := (HRow.out.kept hg1 (own_ne HRow.out hRl)).kept (grown_kept (row := none) k2) (own_none _)
      have hr2 := hr1.grown (row := none) (grown_kept k2) (by simp) (by simp)
      have hg2 : w.grownBy w2 (some R) := grown_trans (grown_trans HG.out hg1) (grown_kept k2)
      have hs2 : w.heap.size ≤ w2.heap.size := hg2.size
      go_wp2_with (at_builtin; refine wpList_append_own_at _ rfl _ _ 106 rfl w.heap.size 22 i0 (.int .u32 0) 1 4 Tryz.underlying106 hi hz0 hz1 hz2 rfl (by decide) _ _ _ rfl (World.ownsRow.alloc hrow2 _) ⟨w2.heap.size, 0, none⟩ 1 1 ((fun s => [Value.int .u32 (unsV s)]) ⟨r0, r1, r2, r3⟩) rfl rfl (cells_new w2 _ _) ?c1 ?c2 ?c3 ?c4 ?_)
      case c1 => first | rfl | (intro q hq; simp only [stC, List.mem_cons, List.not_mem_nil, or_false] at hq; rcases hq with rfl | rfl | rfl | rfl <;> rfl) | (simp [stC]; done)
      case c2 => unfold maxLen; omega
      case c3 => omega
      case c4 => first | omega | (simp; omega)
      intro q y hown hgr _ _
      have hrow' : y.ownsRow w.heap.size 22 1 q (i + 1) ((wordsAt bs k (i + 1)).flatMap (fun s => [Value.int .u32 (unsV s)])) := by
        rw [HN.out, List.flatMap_append]; exact hown
      have hlow : ∀ g, Value.ownBlock _ = some g → w.heap.size ≤ g := fun g e => (World.ownsRow.lt hrow2 g e).1
      have hgy : w.grownBy y (some R) := grown_own (grown_trans hg2 (grown_kept (walloc _ _))) hgr hlow
      have hry : Rd y R b o c (k + 4 * (i + 1)) bs := by
        rw [show k + 4 * (i + 1) = k + 4 * i + 4 by omega]
        exact (hr2.grown (row := none) (grown_kept (walloc _ _)) (by simp) (by simp)).grown hgr (fun e => by have := hlow R e; omega) (fun e => by have := hlow b e; omega)
      clear hown hgr
      go_wp2_with (fail)
      go_roundw
      case rel => exact ⟨i + 1, by omega, by go_num, hry, hgy, hrow'⟩
      case measure => simp [intOf]; omega
    · obtain rfl : i = n := by omega
      have d0 : decide ((i : Int) < i) = false := decide_eq_false (by omega)
      have HRow := Lib.hid hrow
      clear hrow
      go_wp2_with (fail)
      go_ret
      exact ⟨_, rfl, HRow.out, hr, hg⟩

set_option maxRecDepth 100000 in
set_option maxHeartbeats 4000000 in
theorem table_word (w : World) (R b o c k n : Nat) (bs : List Int) (h : Rd w R b o c k bs) (hb : BytesOk bs) (hn : k + 4 * n ≤ bs.length) (hlen : bs.length ≤ 1048576) :
    Calls Tryz.prog 77 #[.pointer (some ⟨R, 0, none⟩), .int .i64 n, .func (.func 78) #[] #[]] w fun e w' => ∃ v, e = .returned v ∧ w'.ownsRow w.heap.size 94 4 v n ((wordsAt bs k n).flatMap stC) ∧ Rd w' R b o c (k + 4 * n) bs ∧ w.grownBy w' (some R) := by
  obtain ⟨i0, hi, hz0, hz1, hz2⟩ := info_parts infoWord
  have hsp : ∀ (a : Addr) (c' : Nat) (w : World), (Instr.arrayAt 94 (.slice (some a) 4 c')).run Tryz.prog w = .ok (.pointer (some a)) w := fun _ _ _ => by first | rfl | (show _ = _; kernel_rfl)
  have hRl : R < w.heap.size := by obtain ⟨p, h1, _⟩ := h.box; exact (Array.getElem?_eq_some_iff.1 h1).1
  have hblt := h.blt
  have HH := Lib.hid h
  have HB := Lib.hid hb
  clear h hb
  go_enter Tryz.func77, Tryz.ntmps77
  go_wp2_with (fail)
  go_loopw [7, 9] (fun s7 s9 wr => TLoop bs k n w R b o c 94 4 stC s7 s9 wr) (fun _ s9 _ => n - (intOf s9).toNat)
  case atStart => exact ⟨0, Nat.zero_le _, rfl, HH.out, World.grownBy.refl _ _, World.ownsRow_nil _ _ _ _⟩
  case round =>
    obtain ⟨i, hi', rfl, hr, hg, hrow⟩ := hrel
    by_cases hlt : i < n
    · have d0 : decide ((i : Int) < n) = true := decide_eq_true (by omega)
      have ht := Lib.hid (take_ok wr R b o c (k + 4 * i) 4 bs hr (by omega))
      have hok := wordS_ok HB.out (k + 4 * i)
      have hnx := wordsAt_next bs k i
      have hwl := wordsAt_len bs k i
      have g : ∀ j, ∀ hj : j < bs.length, bs[j]?.getD 0 = bs[j] := fun j hj => by rw [List.getElem?_eq_getElem hj]; rfl
      have hcell : ∀ w', Rd w' R b o c (k + 4 * i + 4) bs → Hid (w'.cell? ⟨b, o + (k + 4 * i), none⟩ = some (.int .u8 (wordS bs (k + 4 * i)).skip) ∧ w'.cell? ⟨b, o + (k + 4 * i) + 1, none⟩ = some (.int .u8 (wordS bs (k + 4 * i)).next) ∧ w'.cell? ⟨b, o + (k + 4 * i) + 2, none⟩ = some (.int .u8 (wordS bs (k + 4 * i)).op) ∧ w'.cell? ⟨b, o + (k + 4 * i) + 3, none⟩ = some (.int .u8 (wordS bs (k + 4 * i)).rest)) := fun w' hr' => by
        unfold wordS
        dsimp only
        rw [g _ (by omega), g _ (by omega), g _ (by omega), g _ (by omega)]
        exact Lib.hid ⟨hr'.bytes _ (by omega), hr'.bytes (k + 4 * i + 1) (by omega), hr'.bytes (k + 4 * i + 2) (by omega), hr'.bytes (k + 4 * i + 3) (by omega)⟩
      have hcall := fun w' => Lib.hid (same_any (wordS bs (k + 4 * i)) w')
      generalize wordS bs (k + 4 * i) = s at *
      have HN := Lib.hid hnx
      have HRow := Lib.hid hrow
      have HG := Lib.hid hg
      clear hnx hrow g hok hr hg
      obtain ⟨r0, r1, r2, r3⟩ := s
      dsimp only at *
      go_wp2_with (fail)
      refine ht.out.mono ?_
      rintro e w1 ⟨p, rfl, hp, hr1, hg1⟩
      obtain rfl := hp (by omega)
      obtain ⟨c0, c1, c2, c3⟩ := (hcell w1 hr1).out
      go_wp2_with (fail)
      refine (hcall _).out.mono ?_
      rintro e w2 ⟨rfl, k2⟩
      have hrow2 := (HRow.out.kept hg1 (own_ne HRow.out hRl)).kept (grown_kept (row := none) k2) (own_none _)
      have hr2 := hr1.grown (row := none) (grown_kept k2) (by simp) (by simp)
      have hg2 : w.grownBy w2 (some R) := grown_trans (grown_trans HG.out hg1) (grown_kept k2)
      have hs2 : w.heap.size ≤ w2.heap.size := hg2.size
      go_wp2_with (at_builtin; refine wpList_append_own_at _ rfl _ _ 109 rfl w.heap.size 94 i0 (.agg #[.int .u8 0, .int .u8 0, .int .u8 0, .int .u8 0]) 4 4 Tryz.underlying109 hi hz0 hz1 hz2 rfl (by decide) _ _ _ rfl (World.ownsRow.alloc hrow2 _) ⟨w2.heap.size, 0, none⟩ 1 1 (stC ⟨r0, r1, r2, r3⟩) rfl rfl (cells_new w2 _ _) ?c1 ?c2 ?c3 ?c4 ?_)
      case c1 => first | rfl | (intro q hq; simp only [stC, List.mem_cons, List.not_mem_nil, or_false] at hq; rcases hq with rfl | rfl | rfl | rfl <;> rfl) | (simp [stC]; done)
      case c2 => unfold maxLen; omega
      case c3 => omega
      case c4 => first | omega | (simp; omega)
      intro q y hown hgr _ _
      have hrow' : y.ownsRow w.heap.size 94 4 q (i + 1) ((wordsAt bs k (i + 1)).flatMap stC) := by
        rw [HN.out, List.flatMap_append]; exact hown
      have hlow : ∀ g, Value.ownBlock _ = some g → w.heap.size ≤ g := fun g e => (World.ownsRow.lt hrow2 g e).1
      have hgy : w.grownBy y (some R) := grown_own (grown_trans hg2 (grown_kept (walloc _ _))) hgr hlow
      have hry : Rd y R b o c (k + 4 * (i + 1)) bs := by
        rw [show k + 4 * (i + 1) = k + 4 * i + 4 by omega]
        exact (hr2.grown (row := none) (grown_kept (walloc _ _)) (by simp) (by simp)).grown hgr (fun e => by have := hlow R e; omega) (fun e => by have := hlow b e; omega)
      clear hown hgr
      go_wp2_with (fail)
      go_roundw
      case rel => exact ⟨i + 1, by omega, by go_num, hry, hgy, hrow'⟩
      case measure => simp [intOf]; omega
    · obtain rfl : i = n := by omega
      have d0 : decide ((i : Int) < i) = false := decide_eq_false (by omega)
      have HRow := Lib.hid hrow
      clear hrow
      go_wp2_with (fail)
      go_ret
      exact ⟨_, rfl, HRow.out, hr, hg⟩

set_option maxRecDepth 100000 in
set_option maxHeartbeats 4000000 in
theorem table_step (w : World) (R b o c k n : Nat) (bs : List Int) (h : Rd w R b o c k bs) (hb : BytesOk bs) (hn : k + 4 * n ≤ bs.length) (hlen : bs.length ≤ 1048576) :
    Calls Tryz.prog 81 #[.pointer (some ⟨R, 0, none⟩), .int .i64 n, .func (.func 82) #[] #[]] w fun e w' => ∃ v, e = .returned v ∧ w'.ownsRow w.heap.size 71 4 v n ((wordsAt bs k n).flatMap stC) ∧ Rd w' R b o c (k + 4 * n) bs ∧ w.grownBy w' (some R) := by
  obtain ⟨i0, hi, hz0, hz1, hz2⟩ := info_parts infoStep
  have hsp : ∀ (a : Addr) (c' : Nat) (w : World), (Instr.arrayAt 94 (.slice (some a) 4 c')).run Tryz.prog w = .ok (.pointer (some a)) w := fun _ _ _ => by first | rfl | (show _ = _; kernel_rfl)
  have hRl : R < w.heap.size := by obtain ⟨p, h1, _⟩ := h.box; exact (Array.getElem?_eq_some_iff.1 h1).1
  have hblt := h.blt
  have HH := Lib.hid h
  have HB := Lib.hid hb
  clear h hb
  go_enter Tryz.func81, Tryz.ntmps81
  go_wp2_with (fail)
  go_loopw [7, 9] (fun s7 s9 wr => TLoop bs k n w R b o c 71 4 stC s7 s9 wr) (fun _ s9 _ => n - (intOf s9).toNat)
  case atStart => exact ⟨0, Nat.zero_le _, rfl, HH.out, World.grownBy.refl _ _, World.ownsRow_nil _ _ _ _⟩
  case round =>
    obtain ⟨i, hi', rfl, hr, hg, hrow⟩ := hrel
    by_cases hlt : i < n
    · have d0 : decide ((i : Int) < n) = true := decide_eq_true (by omega)
      have ht := Lib.hid (take_ok wr R b o c (k + 4 * i) 4 bs hr (by omega))
      have hok := wordS_ok HB.out (k + 4 * i)
      have hnx := wordsAt_next bs k i
      have hwl := wordsAt_len bs k i
      have g : ∀ j, ∀ hj : j < bs.length, bs[j]?.getD 0 = bs[j] := fun j hj => by rw [List.getElem?_eq_getElem hj]; rfl
      have hcell : ∀ w', Rd w' R b o c (k + 4 * i + 4) bs → Hid (w'.cell? ⟨b, o + (k + 4 * i), none⟩ = some (.int .u8 (wordS bs (k + 4 * i)).skip) ∧ w'.cell? ⟨b, o + (k + 4 * i) + 1, none⟩ = some (.int .u8 (wordS bs (k + 4 * i)).next) ∧ w'.cell? ⟨b, o + (k + 4 * i) + 2, none⟩ = some (.int .u8 (wordS bs (k + 4 * i)).op) ∧ w'.cell? ⟨b, o + (k + 4 * i) + 3, none⟩ = some (.int .u8 (wordS bs (k + 4 * i)).rest)) := fun w' hr' => by
        unfold wordS
        dsimp only
        rw [g _ (by omega), g _ (by omega), g _ (by omega), g _ (by omega)]
        exact Lib.hid ⟨hr'.bytes _ (by omega), hr'.bytes (k + 4 * i + 1) (by omega), hr'.bytes (k + 4 * i + 2) (by omega), hr'.bytes (k + 4 * i + 3) (by omega)⟩
      have hcall := fun w' => Lib.hid (stepOf_any (wordS bs (k + 4 * i)) w')
      generalize wordS bs (k + 4 * i) = s at *
      have HN := Lib.hid hnx
      have HRow := Lib.hid hrow
      have HG := Lib.hid hg
      clear hnx hrow g hok hr hg
      obtain ⟨r0, r1, r2, r3⟩ := s
      dsimp only at *
      go_wp2_with (fail)
      refine ht.out.mono ?_
      rintro e w1 ⟨p, rfl, hp, hr1, hg1⟩
      obtain rfl := hp (by omega)
      obtain ⟨c0, c1, c2, c3⟩ := (hcell w1 hr1).out
      go_wp2_with (fail)
      refine (hcall _).out.mono ?_
      rintro e w2 ⟨rfl, k2⟩
      have hrow2 := (HRow.out.kept hg1 (own_ne HRow.out hRl)).kept (grown_kept (row := none) k2) (own_none _)
      have hr2 := hr1.grown (row := none) (grown_kept k2) (by simp) (by simp)
      have hg2 : w.grownBy w2 (some R) := grown_trans (grown_trans HG.out hg1) (grown_kept k2)
      have hs2 : w.heap.size ≤ w2.heap.size := hg2.size
      go_wp2_with (at_builtin; refine wpList_append_own_at _ rfl _ _ 24 rfl w.heap.size 71 i0 (.agg #[.int .u8 0, .int .u8 0, .int .u8 0, .int .u8 0]) 4 4 Tryz.underlying24 hi hz0 hz1 hz2 rfl (by decide) _ _ _ rfl (World.ownsRow.alloc hrow2 _) ⟨w2.heap.size, 0, none⟩ 1 1 (stC ⟨r0, r1, r2, r3⟩) rfl rfl (cells_new w2 _ _) ?c1 ?c2 ?c3 ?c4 ?_)
      case c1 => first | rfl | (intro q hq; simp only [stC, List.mem_cons, List.not_mem_nil, or_false] at hq; rcases hq with rfl | rfl | rfl | rfl <;> rfl) | (simp [stC]; done)
      case c2 => unfold maxLen; omega
      case c3 => omega
      case c4 => first | omega | (simp; omega)
      intro q y hown hgr _ _
      have hrow' : y.ownsRow w.heap.size 71 4 q (i + 1) ((wordsAt bs k (i + 1)).flatMap stC) := by
        rw [HN.out, List.flatMap_append]; exact hown
      have hlow : ∀ g, Value.ownBlock _ = some g → w.heap.size ≤ g := fun g e => (World.ownsRow.lt hrow2 g e).1
      have hgy : w.grownBy y (some R) := grown_own (grown_trans hg2 (grown_kept (walloc _ _))) hgr hlow
      have hry : Rd y R b o c (k + 4 * (i + 1)) bs := by
        rw [show k + 4 * (i + 1) = k + 4 * i + 4 by omega]
        exact (hr2.grown (row := none) (grown_kept (walloc _ _)) (by simp) (by simp)).grown hgr (fun e => by have := hlow R e; omega) (fun e => by have := hlow b e; omega)
      clear hown hgr
      go_wp2_with (fail)
      go_roundw
      case rel => exact ⟨i + 1, by omega, by go_num, hry, hgy, hrow'⟩
      case measure => simp [intOf]; omega
    · obtain rfl : i = n := by omega
      have d0 : decide ((i : Int) < i) = false := decide_eq_false (by omega)
      have HRow := Lib.hid hrow
      clear hrow
      go_wp2_with (fail)
      go_ret
      exact ⟨_, rfl, HRow.out, hr, hg⟩

set_option maxRecDepth 100000 in
set_option maxHeartbeats 4000000 in
theorem table_pc (w : World) (R b o c k n : Nat) (bs : List Int) (h : Rd w R b o c k bs) (hb : BytesOk bs) (hn : k + 4 * n ≤ bs.length) (hlen : bs.length ≤ 1048576) :
    Calls Tryz.prog 85 #[.pointer (some ⟨R, 0, none⟩), .int .i64 n, .func (.func 86) #[] #[]] w fun e w' => ∃ v, e = .returned v ∧ w'.ownsRow w.heap.size 74 4 v n ((wordsAt bs k n).flatMap stC) ∧ Rd w' R b o c (k + 4 * n) bs ∧ w.grownBy w' (some R) := by
  obtain ⟨i0, hi, hz0, hz1, hz2⟩ := info_parts infoArr4
  have hsp : ∀ (a : Addr) (c' : Nat) (w : World), (Instr.arrayAt 94 (.slice (some a) 4 c')).run Tryz.prog w = .ok (.pointer (some a)) w := fun _ _ _ => by first | rfl | (show _ = _; kernel_rfl)
  have hRl : R < w.heap.size := by obtain ⟨p, h1, _⟩ := h.box; exact (Array.getElem?_eq_some_iff.1 h1).1
  have hblt := h.blt
  have HH := Lib.hid h
  have HB := Lib.hid hb
  clear h hb
  go_enter Tryz.func85, Tryz.ntmps85
  go_wp2_with (fail)
  go_loopw [7, 9] (fun s7 s9 wr => TLoop bs k n w R b o c 74 4 stC s7 s9 wr) (fun _ s9 _ => n - (intOf s9).toNat)
  case atStart => exact ⟨0, Nat.zero_le _, rfl, HH.out, World.grownBy.refl _ _, World.ownsRow_nil _ _ _ _⟩
  case round =>
    obtain ⟨i, hi', rfl, hr, hg, hrow⟩ := hrel
    by_cases hlt : i < n
    · have d0 : decide ((i : Int) < n) = true := decide_eq_true (by omega)
      have ht := Lib.hid (take_ok wr R b o c (k + 4 * i) 4 bs hr (by omega))
      have hok := wordS_ok HB.out (k + 4 * i)
      have hnx := wordsAt_next bs k i
      have hwl := wordsAt_len bs k i
      have g : ∀ j, ∀ hj : j < bs.length, bs[j]?.getD 0 = bs[j] := fun j hj => by rw [List.getElem?_eq_getElem hj]; rfl
      have hcell : ∀ w', Rd w' R b o c (k + 4 * i + 4) bs → Hid (w'.cell? ⟨b, o + (k + 4 * i), none⟩ = some (.int .u8 (wordS bs (k + 4 * i)).skip) ∧ w'.cell? ⟨b, o + (k + 4 * i) + 1, none⟩ = some (.int .u8 (wordS bs (k + 4 * i)).next) ∧ w'.cell? ⟨b, o + (k + 4 * i) + 2, none⟩ = some (.int .u8 (wordS bs (k + 4 * i)).op) ∧ w'.cell? ⟨b, o + (k + 4 * i) + 3, none⟩ = some (.int .u8 (wordS bs (k + 4 * i)).rest)) := fun w' hr' => by
        unfold wordS
        dsimp only
        rw [g _ (by omega), g _ (by omega), g _ (by omega), g _ (by omega)]
        exact Lib.hid ⟨hr'.bytes _ (by omega), hr'.bytes (k + 4 * i + 1) (by omega), hr'.bytes (k + 4 * i + 2) (by omega), hr'.bytes (k + 4 * i + 3) (by omega)⟩
      have hcall := fun w' => Lib.hid (piecesOf_any (wordS bs (k + 4 * i)) w')
      generalize wordS bs (k + 4 * i) = s at *
      have HN := Lib.hid hnx
      have HRow := Lib.hid hrow
      have HG := Lib.hid hg
      clear hnx hrow g hok hr hg
      obtain ⟨r0, r1, r2, r3⟩ := s
      dsimp only at *
      go_wp2_with (fail)
      refine ht.out.mono ?_
      rintro e w1 ⟨p, rfl, hp, hr1, hg1⟩
      obtain rfl := hp (by omega)
      obtain ⟨c0, c1, c2, c3⟩ := (hcell w1 hr1).out
      go_wp2_with (fail)
      refine (hcall _).out.mono ?_
      rintro e w2 ⟨rfl, k2⟩
      have hrow2 := (HRow.out.kept hg1 (own_ne HRow.out hRl)).kept (grown_kept (row := none) k2) (own_none _)
      have hr2 := hr1.grown (row := none) (grown_kept k2) (by simp) (by simp)
      have hg2 : w.grownBy w2 (some R) := grown_trans (grown_trans HG.out hg1) (grown_kept k2)
      have hs2 : w.heap.size ≤ w2.heap.size := hg2.size
      go_wp2_with (at_builtin; refine wpList_append_own_at _ rfl _ _ 26 rfl w.heap.size 74 i0 (.agg #[.int .u8 0, .int .u8 0, .int .u8 0, .int .u8 0]) 4 4 Tryz.underlying26 hi hz0 hz1 hz2 rfl (by decide) _ _ _ rfl (World.ownsRow.alloc hrow2 _) ⟨w2.heap.size, 0, none⟩ 1 1 (stC ⟨r0, r1, r2, r3⟩) rfl rfl (cells_new w2 _ _) ?c1 ?c2 ?c3 ?c4 ?_)
      case c1 => first | rfl | (intro q hq; simp only [stC, List.mem_cons, List.not_mem_nil, or_false] at hq; rcases hq with rfl | rfl | rfl | rfl <;> rfl) | (simp [stC]; done)
      case c2 => unfold maxLen; omega
      case c3 => omega
      case c4 => first | omega | (simp; omega)
      intro q y hown hgr _ _
      have hrow' : y.ownsRow w.heap.size 74 4 q (i + 1) ((wordsAt bs k (i + 1)).flatMap stC) := by
        rw [HN.out, List.flatMap_append]; exact hown
      have hlow : ∀ g, Value.ownBlock _ = some g → w.heap.size ≤ g := fun g e => (World.ownsRow.lt hrow2 g e).1
      have hgy : w.grownBy y (some R) := grown_own (grown_trans hg2 (grown_kept (walloc _ _))) hgr hlow
      have hry : Rd y R b o c (k + 4 * (i + 1)) bs := by
        rw [show k + 4 * (i + 1) = k + 4 * i + 4 by omega]
        exact (hr2.grown (row := none) (grown_kept (walloc _ _)) (by simp) (by simp)).grown hgr (fun e => by have := hlow R e; omega) (fun e => by have := hlow b e; omega)
      clear hown hgr
      go_wp2_with (fail)
      go_roundw
      case rel => exact ⟨i + 1, by omega, by go_num, hry, hgy, hrow'⟩
      case measure => simp [intOf]; omega
    · obtain rfl : i = n := by omega
      have d0 : decide ((i : Int) < i) = false := decide_eq_false (by omega)
      have HRow := Lib.hid hrow
      clear hrow
      go_wp2_with (fail)
      go_ret
      exact ⟨_, rfl, HRow.out, hr, hg⟩
end Go.Proofs.YtdhidpbenhmfgaaGreat
