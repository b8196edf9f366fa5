/- nodes: items, count: how many items a list has. -/
import Derived.Test.YtcncfmjfgdbfeabNodU
import Derived.Test.YtcncfmjfgdbfeabFast13
namespace Go.Proofs.Ytcncfmjfgdbfeab
open Go.RowKit

/-- new blocks that a call has made -/
theorem Sat.more {w0 w w' : World} {bs : List Nat} {hp hpc : List HE} (h : Sat w0 bs hp w) (k : Sat w [] hpc w') (ho : ∀ e ∈ hpc, e.own = true) : Sat w0 bs (hp ++ hpc) w' := by
  have hk := k.kept.kept
  have new : ∀ e ∈ hpc, w.heap.size ≤ e.blk := fun e he => by
    rcases (own_cells (k.holds e he) (ho e he)).2 with q | q
    · exact q
    · cases q
  have old : ∀ e ∈ hp, e.live → e.blk < w.heap.size := fun e he hl => HE.holds_lt (h.holds e he) hl
  refine ⟨h.kept.trans (.of_kept hk), fun e he => ?_, fun i j e e' hij hi hj hown hl => ?_⟩
  · rcases List.mem_append.1 he with he | he
    · exact HE.holds_of_block (h.holds e he) hk.size (fun hl => hk.block _ (old e he hl))
    · have h1 := k.holds e he
      cases e with
      | obj o b cs T => exact ⟨h1.1, fun _ => .inl (Nat.le_trans h.kept.size (new _ he))⟩
      | row b off sz n f => exact h1
  · have live_own : ∀ {e : HE}, e.own = true → e.live := fun {e} he => by
      cases e with
      | obj => trivial
      | row => cases he
    rcases Nat.lt_or_ge i hp.length with q | q <;> rcases Nat.lt_or_ge j hp.length with q' | q'
    · rw [List.getElem?_append_left q] at hi
      rw [List.getElem?_append_left q'] at hj
      exact h.apart i j e e' hij hi hj hown hl
    · rw [List.getElem?_append_left q] at hi
      rw [List.getElem?_append_right q'] at hj
      have h1 := old e (List.mem_of_getElem? hi) (live_own hown)
      have h2 := new e' (List.mem_of_getElem? hj)
      omega
    · rw [List.getElem?_append_right q] at hi
      rw [List.getElem?_append_left q'] at hj
      have h1 := old e' (List.mem_of_getElem? hj) hl
      have h2 := new e (List.mem_of_getElem? hi)
      omega
    · rw [List.getElem?_append_right q] at hi
      rw [List.getElem?_append_right q'] at hj
      exact k.apart _ _ e e' (by omega) hi hj hown hl

/-- where the items begin, from at_ on, ahead of to -/
def itemsF (beh : List Nat) (to : Nat) : Nat → Nat → List Nat
  | 0, _ => []
  | f + 1, at_ => if at_ < to then at_ :: itemsF beh to f (beh.getD at_ 0) else []
/-- each item's end lies behind its beginning -/
def okF (beh : List Nat) (to : Nat) : Nat → Nat → Prop
  | 0, at_ => to ≤ at_
  | f + 1, at_ => at_ < to → at_ < beh.length ∧ okF beh to f (beh.getD at_ 0)
set_option maxRecDepth 100000 in
set_option maxHeartbeats 4000000 in
theorem items_any (nb : Option Addr) (nn nc : Nat) (bb : Option Addr) (bn bc : Nat) (fr to : Int) (w : World) :
    Calls Try.prog 77 #[.agg #[.slice nb nn nc, .slice bb bn bc], .agg #[.int .i64 fr, .int .i64 to]] w fun e w' => ∃ x : Nat × Nat, e = .returned (.func (.func 87) #[] #[.pointer (some ⟨x.2, 0, none⟩), .pointer (some ⟨x.1, 0, none⟩)]) ∧
      Sat w [] [.obj true x.1 [.slice nb nn nc, .slice bb bn bc] 108, .obj true x.2 [.int .i64 fr, .int .i64 to] 113] w' := by
  refine g_enter (args := [.agg #[.slice nb nn nc, .slice bb bn bc], .agg #[.int .i64 fr, .int .i64 to]]) [] [] Try.func77 rfl Try.ntmps77 (Nat.le_of_ble_eq_true (by kernel_rfl)) (sat0 w) ?_
  refine g_run 9999 [] 0 (by kernel_rfl) ?_
  refine g_new (fun b => by kernel_rfl) fun b1 hb1 => ?_
  refine g_run 9999 [] 0 (by kernel_rfl) ?_
  refine g_new (fun b => by kernel_rfl) fun b2 hb2 => ?_
  refine g_run 9999 [] 0 (by kernel_rfl) ?_
  refine g_ret [] (.func (.func 87) #[] #[.pointer (some ⟨b2, 0, none⟩), .pointer (some ⟨b1, 0, none⟩)]) (by kernel_rfl) (by kernel_rfl) (by kernel_rfl) fun w' hs => ?_
  exact ⟨(b1, b2), rfl, hs.at (by kernel_rfl)⟩

/-- where the count stands -/
structure CX (beh : List Nat) (to total : Nat) where
  f : Nat
  at_ : Nat
  n : Nat
  ok : okF beh to f at_
  is : n + (itemsF beh to f at_).length = total
def CX.next {beh : List Nat} {to total : Nat} (x : CX beh to total) (h : x.at_ < to) (hf : x.f ≠ 0) : CX beh to total :=
  ⟨x.f - 1, beh.getD x.at_ 0, x.n + 1, by
    have := x.ok
    obtain ⟨g, hg⟩ : ∃ g, x.f = g + 1 := ⟨x.f - 1, by omega⟩
    rw [hg] at this ⊢
    exact (this h).2, by
    have := x.is
    obtain ⟨g, hg⟩ : ∃ g, x.f = g + 1 := ⟨x.f - 1, by omega⟩
    rw [hg] at this ⊢
    simp only [itemsF, h, if_true, List.length_cons] at this
    simp only [Nat.add_sub_cancel]
    omega⟩
theorem CX.pos {beh : List Nat} {to total : Nat} (x : CX beh to total) (h : x.at_ < to) : x.f ≠ 0 ∧ x.at_ < beh.length := by
  have := x.ok
  cases hf : x.f with
  | zero => rw [hf] at this; exact absurd h (Nat.not_lt.2 this)
  | succ g => rw [hf] at this; exact ⟨by omega, (this h).1⟩
theorem CX.end_ {beh : List Nat} {to total : Nat} (x : CX beh to total) (h : ¬ x.at_ < to) : x.n = total := by
  have := x.is
  cases hf : x.f with
  | zero => rw [hf] at this; simpa [itemsF] using this
  | succ g => rw [hf] at this; simpa [itemsF, h] using this
theorem behC_get {beh : List Nat} {k : Nat} (h : k < beh.length) : (behC beh)[0 + k * 1]? = some (.int .i64 ((beh.getD k 0 : Nat) : Int)) := by
  simp [behC, h, List.getD]
theorem CX.le {beh : List Nat} {to total : Nat} (x : CX beh to total) : x.n ≤ total := by have := x.is; omega

set_option maxRecDepth 100000 in
set_option maxHeartbeats 8000000 in
theorem count_any (beh : List Nat) (bb : Nat) (nb : Option Addr) (nn nc fr to f : Nat) (hok : okF beh to f fr) (hto : (itemsF beh to f fr).length ≤ 1000000) (w : World) (hb : w.heap[bb]? = some (.cells (behC beh).toArray 3 (0, 0))) :
    Calls Try.prog 67 #[.agg #[.slice nb nn nc, .slice (some ⟨bb, 0, none⟩) beh.length beh.length], .agg #[.int .i64 (fr : Int), .int .i64 (to : Int)]] w fun e w' =>
      e = .returned (.int .i64 ((itemsF beh to f fr).length : Int)) ∧ Kept w w' := by
  refine g_enterM (W := w) (args := [.agg #[.slice nb nn nc, .slice (some ⟨bb, 0, none⟩) beh.length beh.length], .agg #[.int .i64 (fr : Int), .int .i64 (to : Int)]]) [] [.obj false bb (behC beh) 3] Try.func67 rfl Try.ntmps67 (Nat.le_of_ble_eq_true (by kernel_rfl)) (sat1 hb) ?_
  refine g_run 9999 [] 0 (by kernel_rfl) ?_
  refine g_new (fun b => by kernel_rfl) fun b1 hb1 => ?_
  refine g_run 9999 [] 0 (by kernel_rfl) ?_
  refine g_new (fun b => by kernel_rfl) fun b2 hb2 => ?_
  refine g_run 9999 [] 0 (by kernel_rfl) ?_
  refine g_new (fun b => by kernel_rfl) fun b3 hb3 => ?_
  refine g_run 9999 [3, 1, 1, 2, 2] 0 (by kernel_rfl) ?_
  refine g_call (X := Nat × Nat) _ _ ?_ (fun x => .func (.func 87) #[] #[.pointer (some ⟨x.2, 0, none⟩), .pointer (some ⟨x.1, 0, none⟩)])
    (fun x => [.obj false bb (behC beh) 3, .obj true b1 [.slice nb nn nc, .slice (some ⟨bb, 0, none⟩) beh.length beh.length] 108, .obj true b2 [.int .i64 (fr : Int), .int .i64 (to : Int)] 113, .obj true b3 [.int .i64 0] 3] ++ [.obj true x.1 [.slice nb nn nc, .slice (some ⟨bb, 0, none⟩) beh.length beh.length] 108, .obj true x.2 [.int .i64 (fr : Int), .int .i64 (to : Int)] 113])
    (fun w1 hs => (items_any nb nn nc _ _ _ (fr : Int) (to : Int) w1).mono fun e w' ⟨x, he, hx⟩ => ⟨x, he, (Sat.at hs (by kernel_rfl)).more hx (by simp [HE.own])⟩) (fun x => ?_)
  · kernel_rfl
  obtain ⟨x1, x2⟩ := x
  refine g_run 9999 [] 0 (by kernel_rfl) ?_
  refine g_range 87 (by kernel_rfl) (fun L => by kernel_rfl) Try.func87 rfl Try.ntmps87 (fun L => Nat.le_of_ble_eq_true (by kernel_rfl)) fun L W1 bs1 R hR => ?_
  refine g_run 9999 [5] 0 (by kernel_rfl) ?_
  refine g_loopN (X := CX beh to (itemsF beh to f fr).length) (fun x => [(4, .int .i64 (x.at_ : Int))])
    (fun x => [.obj false bb (behC beh) 3, .obj true b1 [.slice nb nn nc, .slice (some ⟨bb, 0, none⟩) beh.length beh.length] 108, .obj true b2 [.int .i64 (fr : Int), .int .i64 (to : Int)] 113, .obj true b3 [.int .i64 (x.n : Int)] 3, .obj true x1 [.slice nb nn nc, .slice (some ⟨bb, 0, none⟩) beh.length beh.length] 108, .obj true x2 [.int .i64 (fr : Int), .int .i64 (to : Int)] 113])
    (fun x => x.f) ⟨f, fr, 0, hok, Nat.zero_add _⟩ (by kernel_rfl) (by unfold Known; kernel_rfl) (by kernel_rfl) fun x N hN => ?_
  refine g_run 9999 [5] 0 (by kernel_rfl) ?_
  refine g_dec 11 (decide ((x.at_ : Int) < (to : Int))) (by kernel_rfl) (fun h => ?_) (fun h => ?_)
  · have hlt : x.at_ < to := by clear hN; simpa using h
    obtain ⟨hf, hlen⟩ := x.pos hlt
    have hle := x.le
    refine g_run 9999 [] 2 (by kernel_rfl) ?_
    refine g_yield hR.ready [.int .i64 (x.at_ : Int)] (by kernel_rfl) (by kernel_rfl) fun N2 hB => ?_
    refine g_run 9999 [] 0 (by kernel_rfl) ?_
    refine g_begin hB (by kernel_rfl) (by kernel_rfl) (by kernel_rfl) fun W2 bs2 fin2 _hx _hr2 _hsz hRd => ?_
    refine g_run 11 [3] 0 (by kernel_rfl) ?_
    refine g_val _ _ ?_ (fun w _hs => nat_succ (P := Try.prog) (t := 3) (x := .tmp 10) (y := .const (.int .i64 1)) (m := x.n) (w := w) (by kernel_rfl) (by omega)) ?_
    · kernel_rfl
    refine g_run 9999 [3] 0 (by kernel_rfl) ?_
    refine g_end hRd (by kernel_rfl) (.refl _ _) ?_
    refine g_run 19 [4] 1 (by kernel_rfl) ?_
    refine g_val _ _ ?_ (fun w _hs => idx_run (P := Try.prog) (T := 41) (E := 3) (b := bb) (o := 0) (n := beh.length) (c := beh.length) (k := x.at_) (sz := 1) (kk := .i64) w (by kernel_rfl) (by kernel_rfl) hlen) ?_
    · kernel_rfl
    refine g_val _ _ ?_ (fun w _hs => Sat.objload1 (T := 3) (T' := 3) (i := 0) (b := bb) (k := 0 + x.at_ * 1) (own := false) (cs := behC beh) (v := .int .i64 ((beh.getD x.at_ 0 : Nat) : Int)) _hs (by kernel_rfl) (behC_get hlen) (by kernel_rfl)) ?_
    · kernel_rfl
    refine g_run 9999 [] 0 (by kernel_rfl) ?_
    exact g_hook (hN (x.next hlt hf) (by show x.f - 1 < x.f; omega)) (by kernel_rfl) (by kernel_rfl) (by kernel_rfl) (by unfold Known; kernel_rfl) (by kernel_rfl) (by kernel_rfl)
  · have hge : ¬ x.at_ < to := by clear hN; simpa using h
    have hx := x.end_ hge
    refine g_run 9999 [] 4 (by kernel_rfl) ?_
    refine g_retM (W0 := W1) (bs0 := bs1) [] (Value.tuple #[]) (by kernel_rfl) (by kernel_rfl) [] (by kernel_rfl) (.refl _ _) (fun D hD => by cases hD) List.nodup_nil fun w2 hs2 => ?_
    refine hR.back _ (fun D W3 bs3 hD he hd hf => ?_) W1 bs1 _ w2 (.refl _ _) hs2
    refine g_run 9999 [3] 0 (by kernel_rfl) ?_
    refine g_retM (W0 := w) (bs0 := []) [] (.int .i64 (x.n : Int)) (by kernel_rfl) (by kernel_rfl) [D] (by kernel_rfl) he (fun D' hD' => by rw [List.mem_singleton.1 hD']; exact ⟨hD, hd, hf⟩) (by simp) fun w3 hs3 => ?_
    exact ⟨by rw [hx], hs3.kept.kept⟩
end Go.Proofs.Ytcncfmjfgdbfeab
