/- font's reader: the font. -/
import Derived.Test.YtdhidpbenhmfgaaGreatCDim2
import Derived.Test.YtdhidpbenhmfgaaGreatCMets
import Derived.Test.YtdhidpbenhmfgaaGreatCTrim
import Derived.Deep.RegionHeld2
namespace Go.Proofs.YtdhidpbenhmfgaaGreat
open Go.RowKit

abbrev set8w (z : World) (D : Nat) (v0 v1 v2 v3 v4 v5 v6 v7 : Value) : World := (((((((z.setCell ⟨D, 0, none⟩ v0).setCell ⟨D, 1, none⟩ v1).setCell ⟨D, 2, none⟩ v2).setCell ⟨D, 3, none⟩ v3).setCell ⟨D, 4, none⟩ v4).setCell ⟨D, 5, none⟩ v5).setCell ⟨D, 6, none⟩ v6).setCell ⟨D, 7, none⟩ v7
theorem grown_set8 (z : World) (D : Nat) (v0 v1 v2 v3 v4 v5 v6 v7 : Value) : z.grownBy (set8w z D v0 v1 v2 v3 v4 v5 v6 v7) (some D) :=
  grown_trans (grown_trans (grown_trans (grown_trans (grown_trans (grown_trans (grown_trans (grown_set1 z D 0 v0) (grown_set1 _ D 1 v1)) (grown_set1 _ D 2 v2)) (grown_set1 _ D 3 v3)) (grown_set1 _ D 4 v4)) (grown_set1 _ D 5 v5)) (grown_set1 _ D 6 v6)) (grown_set1 _ D 7 v7)
theorem grown_set2 (z : World) (D i j : Nat) (u v : Value) : z.grownBy ((z.setCell ⟨D, i, none⟩ u).setCell ⟨D, j, none⟩ v) (some D) := grown_trans (grown_set1 z D i u) (grown_set1 _ D j v)
theorem block_set1 {w : World} {N i : Nat} {T : TypeId} {c : Array Value} {u : Value} (h : w.heap[N]? = some (.cells c T (0, 0))) : (w.setCell ⟨N, i, none⟩ u).heap[N]? = some (.cells (c.setIfInBounds i u) T (0, 0)) := by
  simp only [World.setCell, Array.getElem?_modify, h, if_true, Option.map_some]
  rfl
/-- a font's box -/
def FObj (w : World) (D : Nat) (v0 v1 v2 v3 v4 v5 v6 v7 : Value) : Prop := w.heap[D]? = some (.cells #[v0, v1, v2, v3, v4, v5, v6, v7] 28 (0, 0))
theorem FObj.grown {w w' : World} {D : Nat} {v0 v1 v2 v3 v4 v5 v6 v7 : Value} {row : Option Nat} (h : FObj w D v0 v1 v2 v3 v4 v5 v6 v7) (g : w.grownBy w' row) (hne : row ≠ some D) : FObj w' D v0 v1 v2 v3 v4 v5 v6 v7 := by
  have hl : D < w.heap.size := (Array.getElem?_eq_some_iff.1 h).1
  unfold FObj at *
  rw [g.block D hl (fun e => hne e.symm)]; exact h
theorem FObj.cells {w : World} {B : Nat} {v0 v1 v2 v3 v4 v5 v6 v7 : Value} (h : FObj w B v0 v1 v2 v3 v4 v5 v6 v7) :
    w.cell? ⟨B, 0, none⟩ = some v0 ∧ w.cell? ⟨B, 1, none⟩ = some v1 ∧ w.cell? ⟨B, 2, none⟩ = some v2 ∧ w.cell? ⟨B, 3, none⟩ = some v3 ∧ w.cell? ⟨B, 4, none⟩ = some v4 ∧ w.cell? ⟨B, 5, none⟩ = some v5 ∧ w.cell? ⟨B, 6, none⟩ = some v6 ∧ w.cell? ⟨B, 7, none⟩ = some v7 ∧ (∀ o, w.frozen? ⟨B, o, none⟩ = false) ∧ B < w.heap.size := by
  unfold FObj at h
  refine ⟨?_, ?_, ?_, ?_, ?_, ?_, ?_, ?_, fun o => ?_, ?_⟩
  case refine_10 => exact (Array.getElem?_eq_some_iff.1 h).1
  all_goals first | simp [World.cell?, h] | simp [World.frozen?, h]
theorem FObj.set8 {w : World} {N : Nat} {v0 v1 v2 v3 v4 v5 v6 v7 u0 u1 u2 u3 u4 u5 u6 u7 : Value} (h : FObj w N v0 v1 v2 v3 v4 v5 v6 v7) : FObj (set8w w N u0 u1 u2 u3 u4 u5 u6 u7) N u0 u1 u2 u3 u4 u5 u6 u7 := by
  have h1 : FObj (w.setCell ⟨N, 0, none⟩ u0) N u0 v1 v2 v3 v4 v5 v6 v7 := block_set1 h
  have h2 : FObj ((w.setCell ⟨N, 0, none⟩ u0).setCell ⟨N, 1, none⟩ u1) N u0 u1 v2 v3 v4 v5 v6 v7 := block_set1 h1
  have h3 := (block_set1 (i := 2) (u := u2) h2 : FObj _ N u0 u1 u2 v3 v4 v5 v6 v7)
  have h4 := (block_set1 (i := 3) (u := u3) h3 : FObj _ N u0 u1 u2 u3 v4 v5 v6 v7)
  have h5 := (block_set1 (i := 4) (u := u4) h4 : FObj _ N u0 u1 u2 u3 u4 v5 v6 v7)
  have h6 := (block_set1 (i := 5) (u := u5) h5 : FObj _ N u0 u1 u2 u3 u4 u5 v6 v7)
  have h7 := (block_set1 (i := 6) (u := u6) h6 : FObj _ N u0 u1 u2 u3 u4 u5 u6 v7)
  exact block_set1 (i := 7) (u := u7) h7
theorem FObj.set23 {w : World} {N : Nat} {v0 v1 v2 v3 v4 v5 v6 v7 u2 u3 : Value} (h : FObj w N v0 v1 v2 v3 v4 v5 v6 v7) : FObj ((w.setCell ⟨N, 2, none⟩ u2).setCell ⟨N, 3, none⟩ u3) N v0 v1 u2 u3 v4 v5 v6 v7 := by
  have h1 : FObj (w.setCell ⟨N, 2, none⟩ u2) N v0 v1 u2 v3 v4 v5 v6 v7 := block_set1 h
  exact block_set1 (i := 3) (u := u3) h1
/-- a row is no box of a font -/
theorem own_ne_box {w : World} {B n s X : Nat} {e : TypeId} {v v0 v1 v2 v3 v4 v5 v6 v7 : Value} {xs : List Value} (h : w.ownsRow B e s v n xs) (hX : FObj w X v0 v1 v2 v3 v4 v5 v6 v7) (hT : e ≠ 28) : v.ownBlock = none ∨ v.ownBlock ≠ some X := by
  rcases h.2 with ⟨rfl, _⟩ | ⟨g, cap, cur, rfl, _, hg, _⟩
  · exact .inl rfl
  · refine .inr fun e => ?_
    simp [Value.ownBlock] at e
    subst e
    unfold FObj at hX
    have q := Option.some.inj (hg.symm.trans hX)
    injection q with _ q2 _
    exact hT q2
/-- the five rows of a font that is read -/
structure Rows5 (w : World) (N : Nat) (v0 v1 v2 v3 v4 : Value) (nc nl ne : Nat) (M : List Met) (S P : List St) (K Q : List Int) : Prop where
  r0 : w.ownsRow N 43 6 v0 nc (M.flatMap metC)
  r1 : w.ownsRow N 71 4 v1 nl (S.flatMap stC)
  r2 : IRow w N v2 K
  r3 : w.ownsRow N 74 4 v3 ne (P.flatMap stC)
  r4 : IRow w N v4 Q
theorem Rows5.low {w w' : World} {N R nc nl ne : Nat} {v0 v1 v2 v3 v4 : Value} {M : List Met} {S P : List St} {K Q : List Int} (h : Rows5 w N v0 v1 v2 v3 v4 nc nl ne M S P K Q) (g : w.grownBy w' (some R)) (hR : R < N) : Rows5 w' N v0 v1 v2 v3 v4 nc nl ne M S P K Q :=
  ⟨h.r0.kept g (own_ne h.r0 hR), h.r1.kept g (own_ne h.r1 hR), row_keep h.r2 g hR, h.r3.kept g (own_ne h.r3 hR), row_keep h.r4 g hR⟩
theorem Rows5.kept {w w' : World} {N nc nl ne : Nat} {v0 v1 v2 v3 v4 : Value} {M : List Met} {S P : List St} {K Q : List Int} (h : Rows5 w N v0 v1 v2 v3 v4 nc nl ne M S P K Q) (g : Kept w w') : Rows5 w' N v0 v1 v2 v3 v4 nc nl ne M S P K Q :=
  ⟨h.r0.kept (grown_kept (row := none) g) (own_none _), h.r1.kept (grown_kept (row := none) g) (own_none _), irow_kept h.r2 g, h.r3.kept (grown_kept (row := none) g) (own_none _), irow_kept h.r4 g⟩
theorem irow_box {w w' : World} {N X : Nat} {v u0 u1 u2 u3 u4 u5 u6 u7 : Value} {K : List Int} (h : IRow w N v K) (hX : FObj w X u0 u1 u2 u3 u4 u5 u6 u7) (g : w.grownBy w' (some X)) : IRow w' N v K :=
  World.ownsRow.kept h g (own_ne_box h hX (by decide))
theorem Rows5.box {w w' : World} {N X nc nl ne : Nat} {v0 v1 v2 v3 v4 u0 u1 u2 u3 u4 u5 u6 u7 : Value} {M : List Met} {S P : List St} {K Q : List Int} (h : Rows5 w N v0 v1 v2 v3 v4 nc nl ne M S P K Q) (hX : FObj w X u0 u1 u2 u3 u4 u5 u6 u7) (g : w.grownBy w' (some X)) : Rows5 w' N v0 v1 v2 v3 v4 nc nl ne M S P K Q :=
  ⟨h.r0.kept g (own_ne_box h.r0 hX (by decide)), h.r1.kept g (own_ne_box h.r1 hX (by decide)), irow_box h.r2 hX g, h.r3.kept g (own_ne_box h.r3 hX (by decide)), irow_box h.r4 hX g⟩
theorem own_sts' {w : World} {B L n c : Nat} {A : Option Addr} {e : TypeId} {l : List St} (h : w.ownsRow B e 4 (.slice A n c) L (l.flatMap stC)) (hL : l.length = L) : StsAt w A l w.heap.size ∧ L ≤ c ∧ n = L := by
  obtain ⟨A', c', e, h1, h2⟩ := own_sts h hL
  cases e
  exact ⟨h1, h2, rfl⟩
theorem own_mets' {w : World} {B L n c : Nat} {A : Option Addr} {e : TypeId} {l : List Met} (h : w.ownsRow B e 6 (.slice A n c) L (l.flatMap metC)) (hL : l.length = L) : MetsAt w A l w.heap.size ∧ L ≤ c ∧ n = L := by
  obtain ⟨A', c', e, h1, h2⟩ := own_mets h hL
  cases e
  exact ⟨h1, h2, rfl⟩
theorem own_nums' {w : World} {B n c : Nat} {A : Option Addr} {l : List Int} (h : IRow w B (.slice A n c) l) : NumsAt w A l w.heap.size ∧ l.length ≤ c ∧ n = l.length := by
  obtain ⟨A', c', e, h1, h2⟩ := irow_numsD h rfl
  cases e
  exact ⟨h1, h2, rfl⟩
theorem own_cap {w : World} {B s L n c : Nat} {A : Option Addr} {e : TypeId} {xs : List Value} (h : w.ownsRow B e s (.slice A n c) L xs) : c ≤ 9223372036854775807 := by
  rcases h.2 with ⟨h0, _⟩ | ⟨g, cap, cur, h0, _, _, _, hc, _⟩
  · cases h0; omega
  · cases h0; unfold maxLen at hc; omega
/-- characters' numbers stand in no font's box -/
theorem mets_box {w w' : World} {A : Option Addr} {l : List Met} {B X : Nat} {a b c : Int} {v3 v4 v5 v6 v7 : Value} {A3 : Option Addr} {n3 c3 : Nat} (h : MetsAt w A l B) (hB : B ≤ w.heap.size) (hX : FObj w X (.int .u32 a) (.int .i64 b) (.int .i64 c) v3 v4 v5 v6 v7) (h3 : v3 = .slice A3 n3 c3) (g : w.grownBy w' (some X)) : MetsAt w' A l B := by
  intro hn
  obtain ⟨bb, o, rfl, hb, hc⟩ := h hn
  have hne : bb ≠ X := by
    rintro rfl
    obtain ⟨q0, q1, q2, q3, q4, q5⟩ := hc 0 hn
    unfold FObj at hX
    simp only [World.cell?, hX, h3] at q0 q1 q2 q3 q4 q5
    rcases o with _ | _ | _ | _ | _ | _ | _ | _ | o <;> simp at q0 q1 q2 q3 q4 q5
  refine ⟨bb, o, rfl, hb, fun i hi => ?_⟩
  have e : ∀ j, w'.cell? ⟨bb, j, none⟩ = w.cell? ⟨bb, j, none⟩ := fun j => World.cell?_of_block (a := ⟨bb, j, none⟩) (g.block bb (by omega) (by intro e; cases e; exact hne rfl))
  rw [e, e, e, e, e, e]
  exact hc i hi
theorem sigV_bd {s : St} (h : s.ok) : i64B (sigV s) := by
  have := unsV_bd h
  unfold sigV i64B; split <;> omega
theorem words_ok {bs : List Int} (hb : BytesOk bs) {k n : Nat} : ∀ s ∈ wordsAt bs k n, s.ok := by
  intro s hs
  unfold wordsAt at hs
  obtain ⟨i, _, rfl⟩ := List.mem_map.1 hs
  exact wordS_ok hb _
theorem sigs_bd {bs : List Int} (hb : BytesOk bs) {k n : Nat} : ∀ z ∈ sigs bs k n, i64B z := by
  intro z hz
  unfold sigs at hz
  obtain ⟨s, hs, rfl⟩ := List.mem_map.1 hz
  exact sigV_bd (words_ok hb s hs)
theorem ok_wf {s : St} (h : s.ok) : s.wf := ⟨h.skip, h.next, h.op, h.rest⟩
theorem getD_bd {l : List Int} (h : ∀ z ∈ l, i64B z) (i : Nat) : i64B (l[i]?.getD 0) := by
  cases hq : l[i]? with
  | none => simp [i64B]
  | some z => exact h z (List.mem_of_getElem? hq)
theorem metR_wf {x0 x1 x2 x3 : List Int} {s : St} (h0 : ∀ z ∈ x0, i64B z) (h1 : ∀ z ∈ x1, i64B z) (h2 : ∀ z ∈ x2, i64B z) (h3 : ∀ z ∈ x3, i64B z) (hs : s.ok) : (metR x0 x1 x2 x3 s).wf := by
  obtain ⟨_, _, o, r⟩ := hs
  unfold metR
  split
  · constructor <;> simp [i64B]
  · refine ⟨getD_bd h0 _, getD_bd h1 _, getD_bd h2 _, getD_bd h3 _, ?_, ?_⟩
    · dsimp only; unfold i64B; omega
    · dsimp only; unfold i64B; split <;> omega
theorem mem_trim {l : List Met} {m : Met} (h : m ∈ trimL l) : m ∈ l := by
  unfold trimL trimR at h
  have h1 := (List.dropWhile_sublist _).subset h
  have h2 := (List.dropWhile_sublist _).subset (List.mem_reverse.1 h1)
  exact List.mem_reverse.1 h2
theorem trim_len (l : List Met) : (trimL l).length ≤ l.length := by
  unfold trimL trimR
  have h1 := (List.dropWhile_sublist (fun m : Met => m.tag == -1) (l := (l.reverse.dropWhile (fun m : Met => m.tag == -1)).reverse)).length_le
  have h2 := (List.dropWhile_sublist (fun m : Met => m.tag == -1) (l := l.reverse)).length_le
  simp at h1 h2
  omega
theorem trimF_bd {first : Int} {l : List Met} (h : 0 ≤ first) : 0 ≤ trimF first l ∧ trimF first l ≤ first + l.length := by
  unfold trimF
  split
  · omega
  · have h1 := (List.takeWhile_sublist (fun m : Met => m.tag == -1) (l := trimR l)).length_le
    have h2 : (trimR l).length ≤ l.length := by
      unfold trimR
      have := (List.dropWhile_sublist (fun m : Met => m.tag == -1) (l := l.reverse)).length_le
      simpa using this
    omega
/-- behind the five rows -/
def FonT (ok : Bool) (W : World) (N R nc nl ne : Nat) (chk des bc : Int) (M : List Met) (S P : List St) (K Q : List Int) (s7 : Value) (wx : World) : Prop :=
  ok = true ∧ ∃ D v0 v1 v2 v3 v4, s7 = .pointer (some ⟨D, 0, none⟩) ∧ N < D ∧ FObj wx D (.int .u32 chk) (.int .i64 des) (.int .i64 bc) v0 v1 v2 v3 v4 ∧ Rows5 wx N v0 v1 v2 v3 v4 nc nl ne M S P K Q ∧ W.grownBy wx (some R)
abbrev FZ (z : World) (D : Nat) : Prop := FObj z D (.int .u32 0) (.int .i64 0) (.int .i64 0) nilS nilS nilS nilS nilS
theorem fon_end {W z : World} {N R nc nl ne D : Nat} {chk des bc : Int} {M : List Met} {S P : List St} {K Q : List Int} {v0 v1 v2 v3 v4 : Value} (hD : FZ z D) (q : Rows5 z N v0 v1 v2 v3 v4 nc nl ne M S P K Q) (hg : W.grownBy z (some R)) (hND : N < D) (hWD : W.heap.size ≤ D) {ok : Bool} (hok : ok = true) :
    FonT ok W N R nc nl ne chk des bc M S P K Q (.pointer (some ⟨D, 0, none⟩)) ((((((((z.setCell ⟨D, 0, none⟩ (.int .u32 chk)).setCell ⟨D, 1, none⟩ (.int .i64 des)).setCell ⟨D, 2, none⟩ (.int .i64 bc)).setCell ⟨D, 3, none⟩ v0).setCell ⟨D, 4, none⟩ v1).setCell ⟨D, 5, none⟩ v2).setCell ⟨D, 6, none⟩ v3).setCell ⟨D, 7, none⟩ v4) :=
  ⟨hok, D, v0, v1, v2, v3, v4, rfl, hND, hD.set8, q.box hD (grown_set8 _ _ _ _ _ _ _ _ _ _), grown_new hg (grown_set8 _ _ _ _ _ _ _ _ _ _) hWD⟩
theorem fon_end0 {W z : World} {N R nc nl ne : Nat} {chk des bc : Int} {M : List Met} {S P : List St} {K Q : List Int} {v0 v1 v2 v3 v4 : Value} (q : Rows5 z N v0 v1 v2 v3 v4 nc nl ne M S P K Q) (hg : W.grownBy z (some R)) (hND : N < z.heap.size) {ok : Bool} (hok : ok = true) :
    FonT ok W N R nc nl ne chk des bc M S P K Q (.pointer (some ⟨z.heap.size, 0, none⟩)) (z.alloc (.cells #[.int .u32 chk, .int .i64 des, .int .i64 bc, v0, v1, v2, v3, v4] 28)) :=
  ⟨hok, z.heap.size, v0, v1, v2, v3, v4, rfl, hND, mkobj _ _, q.kept (walloc _ _), grown_alloc hg _⟩
theorem fz_new {z z' : World} {R : Nat} (g : (z.alloc (.cells #[.int .u32 0, .int .i64 0, .int .i64 0, nilS, nilS, nilS, nilS, nilS] 28)).grownBy z' (some R)) (hR : R < z.heap.size) : FZ z' z.heap.size :=
  FObj.grown (w := z.alloc (.cells #[.int .u32 0, .int .i64 0, .int .i64 0, nilS, nilS, nilS, nilS, nilS] 28)) (mkobj _ _) g (by intro e; cases e; omega)
theorem fz_newD {z z' : World} {R : Nat} (g : ((z.alloc (.cells #[.int .u32 0, .int .i64 0, .int .i64 0, nilS, nilS, nilS, nilS, nilS] 28)).drew).grownBy z' (some R)) (hR : R < z.heap.size) : FZ z' z.heap.size :=
  FObj.grown (w := (z.alloc (.cells #[.int .u32 0, .int .i64 0, .int .i64 0, nilS, nilS, nilS, nilS, nilS] 28)).drew) (mkobj _ _) g (by intro e; cases e; omega)
end Go.Proofs.YtdhidpbenhmfgaaGreat
