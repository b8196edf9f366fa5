/- nodes: outlineOf. -/
import Derived.Test.YtcncfmjfgdbfeabNodT
import Derived.Test.YtcncfmjfgdbfeabM7
namespace Go.Proofs.Ytcncfmjfgdbfeab
open Go.RowKit

/-- the entries in another order -/
theorem Sat.pick {w0 w : World} {bs : List Nat} {hp hp' : List HE} (h : Sat w0 bs hp w) (is : List Nat) (hnd : is.Nodup) (e : is.map (fun i => hp[i]?) = hp'.map some) : Sat w0 bs hp' w := by
  have get : ∀ (j : Nat) (x : HE), hp'[j]? = some x → ∃ i, is[j]? = some i ∧ hp[i]? = some x := fun j x hj => by
    have h1 : (hp'.map some)[j]? = some (some x) := by rw [List.getElem?_map, hj]; rfl
    rw [← e, List.getElem?_map] at h1
    obtain ⟨i, hi, h2⟩ := Option.map_eq_some_iff.1 h1
    exact ⟨i, hi, h2⟩
  refine ⟨h.kept, fun x hx => ?_, fun j k x y hjk hj hk ho hl => ?_⟩
  · obtain ⟨j, hj⟩ := List.mem_iff_getElem?.1 hx
    obtain ⟨i, _, hi⟩ := get j x hj
    exact h.holds x (List.mem_of_getElem? hi)
  · obtain ⟨i, hi, hi2⟩ := get j x hj
    obtain ⟨m, hm, hm2⟩ := get k y hk
    refine h.apart i m x y (fun e1 => hjk ?_) hi2 hm2 ho hl
    subst e1
    obtain ⟨hj1, hj2⟩ := List.getElem?_eq_some_iff.1 hi
    obtain ⟨hk1, hk2⟩ := List.getElem?_eq_some_iff.1 hm
    exact (List.getElem_inj hnd).1 (hj2.trans hk2.symm)
def noneE : HE := .row 0 0 0 0 (fun _ => [])
theorem Sat.dummy {w0 w : World} {bs : List Nat} {hp : List HE} (h : Sat w0 bs hp w) : Sat w0 bs (hp ++ [noneE]) w := by
  have last : ∀ {k : Nat} {e : HE}, (hp ++ [noneE])[k]? = some e → hp[k]? = some e ∨ e = noneE := fun {k e} hk => by
    rcases Nat.lt_or_ge k hp.length with hl | hl
    · exact .inl (by rwa [List.getElem?_append_left hl] at hk)
    · rw [List.getElem?_append_right hl] at hk
      exact .inr (List.mem_singleton.1 (List.mem_of_getElem? hk))
  refine ⟨h.kept, fun e he => ?_, fun k m e e' hkm hk hm ho hl => ?_⟩
  · rcases List.mem_append.1 he with he | he
    · exact h.holds e he
    · rw [List.mem_singleton.1 he]
      exact fun h0 => absurd h0 (Nat.lt_irrefl 0)
  · rcases last hk with hk | rfl
    · rcases last hm with hm | rfl
      · exact h.apart k m e e' hkm hk hm ho hl
      · exact absurd hl (Nat.lt_irrefl 0)
    · cases ho
def walk0 (l : List Nod) : Wk := ⟨List.replicate l.length 0, [], 0⟩
theorem behC_zeros (n : Nat) : behC (List.replicate n 0) = List.replicate n (.int .i64 0) := by simp [behC]
theorem inv0 (l : List Nod) : Inv l 0 (walk0 l) none 0 noneE :=
  ⟨.inl ⟨rfl, rfl, rfl⟩, fun p hp => by simp [walk0] at hp, by simp [walk0], Nat.zero_le _, .inr (Nat.lt_irrefl 0)⟩
/-- where the walk ended -/
structure ThrR (l : List Nod) where
  W' : Wk
  base : Option Addr
  cap : Nat
  e : HE
  is : ∀ Wf, walkW l l.length 0 (walk0 l) = some Wf → Wf = W'
theorem through_frame {l : List Nod} {bw bl ol cl bb : Nat} {w0 w : World} {bs : List Nat} {rest : List HE} (hl : l.length ≤ 2000)
    (h : Sat w0 bs (wkHp l bw bl ol cl bb (walk0 l) none 0 noneE ++ rest) w) :
    Calls Try.prog 76 #[.pointer (some ⟨bw, 0, none⟩)] w fun e' w' => ∃ r : ThrR l, e' = .returned (.bool (wholeB l (walk0 l))) ∧ Sat w0 bs (wkHp l bw bl ol cl bb r.W' r.base r.cap r.e ++ rest) w' := by
  have h0 : Sat w0 bs (wkHp l bw bl ol cl bb (walk0 l) none 0 noneE) w := h.take 4
  refine (through_any l bw bl ol cl bb _ _ none 0 noneE (walk0 l) w h0.rebase (inv0 l) hl).mono ?_
  rintro e' w' ⟨rfl, W', base', cap', e2, heo, hW, hr⟩
  refine ⟨⟨W', base', cap', e2, hW⟩, rfl, h.frame hr fun x hx => ?_⟩
  simp only [wkHp, walkHp, List.mem_cons, List.not_mem_nil, or_false] at hx ⊢
  rcases hx with rfl | rfl | rfl | rfl
  · exact .inl rfl
  · exact .inr (.inl (by simp))
  · exact .inl rfl
  · rcases heo with h1 | h1
    · exact .inl h1
    · exact .inr (.inr h1)
set_option maxRecDepth 100000 in
set_option maxHeartbeats 4000000 in
theorem outline_size (l : List Nod) (bl ol cl : Nat) (w : World) (hq : Sat w [] [.row bl ol 19 l.length (rowOf l)] w) (hl : 2000 < l.length) :
    Calls Try.prog 66 #[.slice (some ⟨bl, ol, none⟩) l.length cl] w fun e' w' => e' = .returned (.tuple #[.agg #[.slice none 0 0, .slice none 0 0], .int .i64 6]) ∧ Kept w w' := by
  refine g_enter (args := [.slice (some ⟨bl, ol, none⟩) l.length cl]) [] [.row bl ol 19 l.length (rowOf l)] Try.func66 rfl Try.ntmps66 (Nat.le_of_ble_eq_true (by kernel_rfl)) hq ?_
  refine g_run 9999 [] 0 (by kernel_rfl) ?_
  refine g_new (fun b => by kernel_rfl) fun b1 hb1 => ?_
  refine g_run 9999 [] 0 (by kernel_rfl) ?_
  refine g_dec 7 (decide ((↑l.length : Int) > 2000)) (by kernel_rfl) (fun h7 => ?_) (fun h7 => ?_)
  · refine g_run 9999 ([1, 1]) 1 (by kernel_rfl) ?_
    refine g_ret ([1, 1]) (Value.tuple (Array.mk [Value.agg (Array.mk [Value.slice none 0 0, Value.slice none 0 0]), Value.int IntKind.i64 6])) (by kernel_rfl) (by kernel_rfl) (by kernel_rfl) fun w' hs => ?_
    exact ⟨rfl, hs.kept.kept⟩
  · exact absurd h7 (by clear hq; intro hx; simp at hx; omega)
set_option maxRecDepth 100000 in
set_option maxHeartbeats 4000000 in
theorem outline_list (l : List Nod) (bl ol cl : Nat) (w : World) (hq : Sat w [] [.row bl ol 19 l.length (rowOf l)] w) (hl : l.length ≤ 2000) (hw : wholeB l (walk0 l) = false) :
    Calls Try.prog 66 #[.slice (some ⟨bl, ol, none⟩) l.length cl] w fun e' w' => e' = .returned (.tuple #[.agg #[.slice none 0 0, .slice none 0 0], .int .i64 50]) ∧ Kept w w' := by
  refine g_enter (args := [.slice (some ⟨bl, ol, none⟩) l.length cl]) [] [.row bl ol 19 l.length (rowOf l)] Try.func66 rfl Try.ntmps66 (Nat.le_of_ble_eq_true (by kernel_rfl)) hq ?_
  refine g_run 9999 [] 0 (by kernel_rfl) ?_
  refine g_new (fun b => by kernel_rfl) fun b1 hb1 => ?_
  refine g_run 9999 [] 0 (by kernel_rfl) ?_
  refine g_dec 7 (decide ((↑l.length : Int) > 2000)) (by kernel_rfl) (fun h7 => ?_) (fun h7 => ?_)
  · exact absurd h7 (by clear hq; intro hx; first | (simp [] at hx; done) | (simp at hx; omega))
  · refine g_run 12 [] 1 (by kernel_rfl) ?_
    refine g_make 41 3 l.length 8 (.int .i64 0) (by kernel_rfl) (by kernel_rfl) (by kernel_rfl) (by omega) (by omega) fun b2 hb2 => ?_
    refine g_run 9999 [] 0 (by kernel_rfl) ?_
    refine g_new (fun b => by kernel_rfl) fun b3 hb3 => ?_
    refine g_run 9999 (List.replicate 4 3) 0 (by kernel_rfl) ?_
    refine g_call (X := ThrR l) _ _ ?_ (fun _ => .bool (wholeB l (walk0 l))) (fun r => wkHp l b3 bl ol cl b2 r.W' r.base r.cap r.e ++ [.obj true b1 [.slice none 0 0, .slice none 0 0] 108]) (fun w hs => through_frame hl ((hs.dummy).pick [3, 0, 2, 4, 1] (by decide) (by simp only [wkHp, walkHp, walk0, behC_zeros]; kernel_rfl))) (fun r => ?_)
    · kernel_rfl
    refine g_run 9999 [] 0 (by kernel_rfl) ?_
    refine g_dec 16 (!wholeB l (walk0 l)) (by kernel_rfl) (fun h16 => ?_) (fun h16 => ?_)
    · refine g_run 9999 ([4, 4]) 1 (by kernel_rfl) ?_
      refine g_ret ([4, 4]) (Value.tuple (Array.mk [Value.agg (Array.mk [Value.slice none 0 0, Value.slice none 0 0]), Value.int IntKind.i64 50])) (by kernel_rfl) (by kernel_rfl) (by kernel_rfl) fun w' hs => ?_
      exact ⟨rfl, hs.kept.kept⟩
    · exact absurd h16 (by clear hq; intro hx; first | (simp [hw] at hx; done) | (simp at hx; omega))
set_option maxRecDepth 100000 in
set_option maxHeartbeats 4000000 in
theorem outline_deep (l : List Nod) (bl ol cl : Nat) (w : World) (hq : Sat w [] [.row bl ol 19 l.length (rowOf l)] w) (Wf : Wk) (hl : l.length ≤ 2000) (hw : wholeB l (walk0 l) = true) (hW : walkW l l.length 0 (walk0 l) = some Wf) (hd : 40 < Wf.d) :
    Calls Try.prog 66 #[.slice (some ⟨bl, ol, none⟩) l.length cl] w fun e' w' => e' = .returned (.tuple #[.agg #[.slice none 0 0, .slice none 0 0], .int .i64 51]) ∧ Kept w w' := by
  refine g_enter (args := [.slice (some ⟨bl, ol, none⟩) l.length cl]) [] [.row bl ol 19 l.length (rowOf l)] Try.func66 rfl Try.ntmps66 (Nat.le_of_ble_eq_true (by kernel_rfl)) hq ?_
  refine g_run 9999 [] 0 (by kernel_rfl) ?_
  refine g_new (fun b => by kernel_rfl) fun b1 hb1 => ?_
  refine g_run 9999 [] 0 (by kernel_rfl) ?_
  refine g_dec 7 (decide ((↑l.length : Int) > 2000)) (by kernel_rfl) (fun h7 => ?_) (fun h7 => ?_)
  · exact absurd h7 (by clear hq; intro hx; first | (simp [] at hx; done) | (rw [← r.is Wf hW] at hx; simp at hx; omega) | (simp at hx; omega))
  · refine g_run 12 [] 1 (by kernel_rfl) ?_
    refine g_make 41 3 l.length 8 (.int .i64 0) (by kernel_rfl) (by kernel_rfl) (by kernel_rfl) (by omega) (by omega) fun b2 hb2 => ?_
    refine g_run 9999 [] 0 (by kernel_rfl) ?_
    refine g_new (fun b => by kernel_rfl) fun b3 hb3 => ?_
    refine g_run 9999 (List.replicate 4 3) 0 (by kernel_rfl) ?_
    refine g_call (X := ThrR l) _ _ ?_ (fun _ => .bool (wholeB l (walk0 l))) (fun r => wkHp l b3 bl ol cl b2 r.W' r.base r.cap r.e ++ [.obj true b1 [.slice none 0 0, .slice none 0 0] 108]) (fun w hs => through_frame hl ((hs.dummy).pick [3, 0, 2, 4, 1] (by decide) (by simp only [wkHp, walkHp, walk0, behC_zeros]; kernel_rfl))) (fun r => ?_)
    · kernel_rfl
    refine g_run 9999 [] 0 (by kernel_rfl) ?_
    refine g_dec 16 (!wholeB l (walk0 l)) (by kernel_rfl) (fun h16 => ?_) (fun h16 => ?_)
    · exact absurd h16 (by clear hq; intro hx; first | (simp [hw] at hx; done) | (rw [← r.is Wf hW] at hx; simp at hx; omega) | (simp at hx; omega))
    · refine g_run 9999 ([0]) 1 (by kernel_rfl) ?_
      refine g_dec 20 (decide (r.W'.d > 40)) (by kernel_rfl) (fun h20 => ?_) (fun h20 => ?_)
      · refine g_run 9999 ([4, 4]) 1 (by kernel_rfl) ?_
        refine g_ret ([4, 4]) (Value.tuple (Array.mk [Value.agg (Array.mk [Value.slice none 0 0, Value.slice none 0 0]), Value.int IntKind.i64 51])) (by kernel_rfl) (by kernel_rfl) (by kernel_rfl) fun w' hs => ?_
        exact ⟨rfl, hs.kept.kept⟩
      · exact absurd h20 (by clear hq; intro hx; first | (simp [] at hx; done) | (rw [← r.is Wf hW] at hx; simp at hx; omega) | (simp at hx; omega))
set_option maxRecDepth 100000 in
set_option maxHeartbeats 4000000 in
theorem outline_ok (l : List Nod) (bl ol cl : Nat) (w : World) (hq : Sat w [] [.row bl ol 19 l.length (rowOf l)] w) (Wf : Wk) (hl : l.length ≤ 2000) (hw : wholeB l (walk0 l) = true) (hW : walkW l l.length 0 (walk0 l) = some Wf) (hd : Wf.d ≤ 40) :
    Calls Try.prog 66 #[.slice (some ⟨bl, ol, none⟩) l.length cl] w fun e' w' => ∃ bb, e' = .returned (.tuple #[.agg #[.slice (some ⟨bl, ol, none⟩) l.length cl, .slice (some ⟨bb, 0, none⟩) l.length l.length], .int .i64 0]) ∧ w.heap.size ≤ bb ∧ w'.heap[bb]? = some (.cells (behC Wf.beh).toArray 3 (0, 0)) ∧ Kept w w' := by
  refine g_enter (args := [.slice (some ⟨bl, ol, none⟩) l.length cl]) [] [.row bl ol 19 l.length (rowOf l)] Try.func66 rfl Try.ntmps66 (Nat.le_of_ble_eq_true (by kernel_rfl)) hq ?_
  refine g_run 9999 [] 0 (by kernel_rfl) ?_
  refine g_new (fun b => by kernel_rfl) fun b1 hb1 => ?_
  refine g_run 9999 [] 0 (by kernel_rfl) ?_
  refine g_dec 7 (decide ((↑l.length : Int) > 2000)) (by kernel_rfl) (fun h7 => ?_) (fun h7 => ?_)
  · exact absurd h7 (by clear hq; intro hx; first | (simp [] at hx; done) | (rw [← r.is Wf hW] at hx; simp at hx; omega) | (simp at hx; omega))
  · refine g_run 12 [] 1 (by kernel_rfl) ?_
    refine g_make 41 3 l.length 8 (.int .i64 0) (by kernel_rfl) (by kernel_rfl) (by kernel_rfl) (by omega) (by omega) fun b2 hb2 => ?_
    refine g_run 9999 [] 0 (by kernel_rfl) ?_
    refine g_new (fun b => by kernel_rfl) fun b3 hb3 => ?_
    refine g_run 9999 (List.replicate 4 3) 0 (by kernel_rfl) ?_
    refine g_call (X := ThrR l) _ _ ?_ (fun _ => .bool (wholeB l (walk0 l))) (fun r => wkHp l b3 bl ol cl b2 r.W' r.base r.cap r.e ++ [.obj true b1 [.slice none 0 0, .slice none 0 0] 108]) (fun w hs => through_frame hl ((hs.dummy).pick [3, 0, 2, 4, 1] (by decide) (by simp only [wkHp, walkHp, walk0, behC_zeros]; kernel_rfl))) (fun r => ?_)
    · kernel_rfl
    refine g_run 9999 [] 0 (by kernel_rfl) ?_
    refine g_dec 16 (!wholeB l (walk0 l)) (by kernel_rfl) (fun h16 => ?_) (fun h16 => ?_)
    · exact absurd h16 (by clear hq; intro hx; first | (simp [hw] at hx; done) | (rw [← r.is Wf hW] at hx; simp at hx; omega) | (simp at hx; omega))
    · refine g_run 9999 ([0]) 1 (by kernel_rfl) ?_
      refine g_dec 20 (decide (r.W'.d > 40)) (by kernel_rfl) (fun h20 => ?_) (fun h20 => ?_)
      · exact absurd h20 (by clear hq; intro hx; first | (simp [] at hx; done) | (rw [← r.is Wf hW] at hx; simp at hx; omega) | (simp at hx; omega))
      · refine g_run 9999 ([0, 0] ++ [4, 4]) 1 (by kernel_rfl) ?_
        refine g_ret ([4, 4]) (Value.tuple (Array.mk [Value.agg (Array.mk [Value.slice (some (Addr.mk bl ol none)) l.length cl, Value.slice (some (Addr.mk b2 0 none)) l.length l.length]), Value.int IntKind.i64 0])) (by kernel_rfl) (by kernel_rfl) (by kernel_rfl) fun w' hs => ?_
        exact ⟨b2, rfl, hb2, by rw [r.is Wf hW]; exact hs.obj (i := 2) (o := true) (by kernel_rfl), hs.kept.kept⟩
end Go.Proofs.Ytcncfmjfgdbfeab
