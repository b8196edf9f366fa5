/- nodes: the walk through a list: what is open. -/
import Derived.Test.YtcncfmjfgdbfeabNodO
import Derived.Test.YtcncfmjfgdbfeabM7
namespace Go.Proofs.Ytcncfmjfgdbfeab
open Go.RowKit

/-- a block as one that is only read -/
def HE.disown : HE → HE
  | .obj _ b cs T => .obj false b cs T
  | .row b off sz n f => .row b off sz n f
theorem Sat.read {w0 w : World} {bs : List Nat} {hp : List HE} (h : Sat w0 bs hp w) (is : List Nat) (hp' : List HE) (e : is.filterMap (fun i => (hp[i]?).map HE.disown) = hp') : Sat w [] hp' w := by
  subst e
  have own : ∀ e ∈ is.filterMap (fun i => (hp[i]?).map HE.disown), e.own = false ∧ e.holds w [] w := fun e he => by
    obtain ⟨i, _, hi⟩ := List.mem_filterMap.1 he
    obtain ⟨e0, h0, rfl⟩ := Option.map_eq_some_iff.1 hi
    have h1 := h.holds e0 (List.mem_of_getElem? h0)
    cases e0 with
    | obj o b cs T => exact ⟨rfl, h1.1, fun e => by cases e⟩
    | row b off sz n f => exact ⟨rfl, h1⟩
  refine ⟨.refl _ _, fun e he => (own e he).2, fun i j e e' _ hi _ ho => ?_⟩
  rw [(own e (List.mem_of_getElem? hi)).1] at ho
  cases ho
/-- the blocks that are one's own -/
def owned : List HE → List Nat
  | [] => []
  | .obj true b _ _ :: r => b :: owned r
  | _ :: r => owned r
theorem mem_owned {b : Nat} {cs : List Value} {T : TypeId} : ∀ {hp : List HE}, HE.obj true b cs T ∈ hp → b ∈ owned hp
  | .obj true b' cs' T' :: r, h => by
    rcases List.mem_cons.1 h with h | h
    · cases h; exact List.mem_cons_self ..
    · exact List.mem_cons_of_mem _ (mem_owned h)
  | .obj false b' cs' T' :: r, h => by
    rcases List.mem_cons.1 h with h | h
    · cases h
    · exact mem_owned (hp := r) h
  | .row _ _ _ _ _ :: r, h => by
    rcases List.mem_cons.1 h with h | h
    · cases h
    · exact mem_owned (hp := r) h
theorem owned_mem {b : Nat} : ∀ {hp : List HE}, b ∈ owned hp → ∃ cs T, HE.obj true b cs T ∈ hp
  | .obj true b' cs' T' :: r, h => by
    rcases List.mem_cons.1 h with rfl | h
    · exact ⟨_, _, List.mem_cons_self ..⟩
    · obtain ⟨cs, T, h⟩ := owned_mem h; exact ⟨cs, T, List.mem_cons_of_mem _ h⟩
  | .obj false b' cs' T' :: r, h => by obtain ⟨cs, T, h⟩ := owned_mem (hp := r) h; exact ⟨cs, T, List.mem_cons_of_mem _ h⟩
  | .row _ _ _ _ _ :: r, h => by obtain ⟨cs, T, h⟩ := owned_mem (hp := r) h; exact ⟨cs, T, List.mem_cons_of_mem _ h⟩
/-- into a call that writes -/
theorem Sat.rebase {w0 w : World} {bs : List Nat} {hp : List HE} (h : Sat w0 bs hp w) : Sat w (owned hp) hp w := by
  refine ⟨.refl _ _, fun e he => ?_, h.apart⟩
  have h1 := h.holds e he
  cases e with
  | obj o b cs T =>
    refine ⟨h1.1, fun ho => ?_⟩
    subst ho
    exact .inr (mem_owned he)
  | row b off sz n f => exact h1
/-- and back out of it -/
theorem Sat.unbase {w0 w w' : World} {bs : List Nat} {hp hp' : List HE} (h : Sat w0 bs hp w) (h' : Sat w (owned hp) hp' w') : Sat w0 bs hp' w' := by
  have hb : ∀ b ∈ owned hp, w0.heap.size ≤ b ∨ b ∈ bs := fun b hb => by
    obtain ⟨cs, T, hm⟩ := owned_mem hb
    exact (h.holds _ hm).2 rfl
  refine ⟨?_, fun e he => ?_, h'.apart⟩
  · refine ⟨h'.kept.os.trans h.kept.os, h'.kept.tape.trans h.kept.tape, h'.kept.output.trans h.kept.output, Nat.le_trans h.kept.size h'.kept.size, fun k hk hn => ?_⟩
    rw [h'.kept.block k (Nat.lt_of_lt_of_le hk h.kept.size) (fun hm => by rcases hb k hm with h1 | h1; omega; exact hn h1), h.kept.block k hk hn]
  · have h1 := h'.holds e he
    cases e with
    | obj o b cs T =>
      refine ⟨h1.1, fun ho => ?_⟩
      rcases h1.2 ho with h2 | h2
      · exact .inl (Nat.le_trans h.kept.size h2)
      · exact hb b h2
    | row b off sz n f => exact h1

abbrev nodC (n : Nod) : List Value := [.int .i64 n.kind, .int .i64 n.font, .int .u8 n.char, .int .i64 n.w, .int .i64 n.h, .int .i64 n.d, .int .i64 n.shift, .int .i64 n.nat, .int .i64 n.str, .int .i64 n.shr, .int .i64 n.so, .int .i64 n.sho, .int .i64 n.sign, .int .i64 n.ord, .int .i64 n.num, .int .i64 n.den, .int .i64 n.pen, .int .i64 n.sub, .string n.text]
def nth (l : List Nod) (k : Nat) : Nod := l.getD k zeroN
def rowOf (l : List Nod) : Nat → List Value := fun k => nodC (nth l k)
def brokenB (n : Nod) : Bool := n.kind == 1 || n.kind == 2 || n.kind == 8 || n.kind == 3 || n.kind == 4 || n.kind == 5
set_option maxRecDepth 100000 in
set_option maxHeartbeats 4000000 in
theorem broken_any (n : Nod) (w : World) :
    Calls Try.prog 115 #[nodV n] w fun e w' => e = .returned (.bool (brokenB n)) ∧ Kept w w' := by
  refine g_enter (args := [nodV n]) [] [] Try.func115 rfl Try.ntmps115 (Nat.le_of_ble_eq_true (by kernel_rfl)) (sat0 w) ?_
  refine g_run 9999 [] 0 (by kernel_rfl) ?_
  refine g_new (fun b => by kernel_rfl) fun b0 hb0 => ?_
  refine g_run 9999 ([0]) 0 (by kernel_rfl) ?_
  refine g_dec 5 (n.kind == 1) (by kernel_rfl) (fun h5 => ?_) (fun h5 => ?_)
  · refine g_run 9999 [] 2 (by kernel_rfl) ?_
    refine g_ret [] (Value.bool true) (by kernel_rfl) (by kernel_rfl) (by kernel_rfl) fun w' hs => ?_
    exact ⟨ret_bool (by clear hs; (try simp at *); simp [brokenB, *]), hs.kept.kept⟩
  · refine g_run 9999 [] 1 (by kernel_rfl) ?_
    refine g_dec 5 (n.kind == 2) (by kernel_rfl) (fun h5 => ?_) (fun h5 => ?_)
    · refine g_run 9999 [] 2 (by kernel_rfl) ?_
      refine g_ret [] (Value.bool true) (by kernel_rfl) (by kernel_rfl) (by kernel_rfl) fun w' hs => ?_
      exact ⟨ret_bool (by clear hs; (try simp at *); simp [brokenB, *]), hs.kept.kept⟩
    · refine g_run 9999 [] 1 (by kernel_rfl) ?_
      refine g_dec 5 (n.kind == 8) (by kernel_rfl) (fun h5 => ?_) (fun h5 => ?_)
      · refine g_run 9999 [] 2 (by kernel_rfl) ?_
        refine g_ret [] (Value.bool true) (by kernel_rfl) (by kernel_rfl) (by kernel_rfl) fun w' hs => ?_
        exact ⟨ret_bool (by clear hs; (try simp at *); simp [brokenB, *]), hs.kept.kept⟩
      · refine g_run 9999 [] 1 (by kernel_rfl) ?_
        refine g_dec 5 (n.kind == 3) (by kernel_rfl) (fun h5 => ?_) (fun h5 => ?_)
        · refine g_run 9999 [] 2 (by kernel_rfl) ?_
          refine g_ret [] (Value.bool true) (by kernel_rfl) (by kernel_rfl) (by kernel_rfl) fun w' hs => ?_
          exact ⟨ret_bool (by clear hs; (try simp at *); simp [brokenB, *]), hs.kept.kept⟩
        · refine g_run 9999 [] 1 (by kernel_rfl) ?_
          refine g_dec 5 (n.kind == 4) (by kernel_rfl) (fun h5 => ?_) (fun h5 => ?_)
          · refine g_run 9999 [] 2 (by kernel_rfl) ?_
            refine g_ret [] (Value.bool true) (by kernel_rfl) (by kernel_rfl) (by kernel_rfl) fun w' hs => ?_
            exact ⟨ret_bool (by clear hs; (try simp at *); simp [brokenB, *]), hs.kept.kept⟩
          · refine g_run 9999 [] 1 (by kernel_rfl) ?_
            refine g_dec 5 (n.kind == 5) (by kernel_rfl) (fun h5 => ?_) (fun h5 => ?_)
            · refine g_run 9999 [] 1 (by kernel_rfl) ?_
              refine g_ret [] (Value.bool true) (by kernel_rfl) (by kernel_rfl) (by kernel_rfl) fun w' hs => ?_
              exact ⟨ret_bool (by clear hs; (try simp at *); simp [brokenB, *]), hs.kept.kept⟩
            · refine g_run 9999 [] 1 (by kernel_rfl) ?_
              refine g_ret [] (Value.bool false) (by kernel_rfl) (by kernel_rfl) (by kernel_rfl) fun w' hs => ?_
              exact ⟨ret_bool (by clear hs; (try simp at *); simp [brokenB, *]), hs.kept.kept⟩
set_option maxRecDepth 100000 in
set_option maxHeartbeats 4000000 in
theorem indisc0 (bw : Nat) (v1 v2 v4 : Value) (base : Option Addr) (co : Nat) (w : World) (hq : Sat w [] [.obj false bw [v1, v2, .slice base 0 co, v4] 122] w) :
    Calls Try.prog 114 #[.pointer (some ⟨bw, 0, none⟩)] w fun e w' => e = .returned (.bool false) ∧ Kept w w' := by
  refine g_enter (args := [.pointer (some ⟨bw, 0, none⟩)]) [] [.obj false bw [v1, v2, .slice base 0 co, v4] 122] Try.func114 rfl Try.ntmps114 (Nat.le_of_ble_eq_true (by kernel_rfl)) (hq) ?_
  refine g_run 9999 ([0]) 0 (by kernel_rfl) ?_
  refine g_draw 22 (by kernel_rfl) (by kernel_rfl) ?_
  refine l_run 9999 [] 17 (by kernel_rfl) ?_
  refine l_end (by kernel_rfl) ?_
  refine g_ret [] (Value.bool false) (by kernel_rfl) (by kernel_rfl) (by kernel_rfl) fun w' hs => ?_
  exact ⟨rfl, hs.kept.kept⟩
set_option maxRecDepth 100000 in
set_option maxHeartbeats 4000000 in
theorem indisc1 (l : List Nod) (bw bl ol cl bo co m a : Nat) (oc : List Value) (v2 v4 : Value) (w : World) (hq : Sat w [] [.obj false bw [.slice (some ⟨bl, ol, none⟩) l.length cl, v2, .slice (some ⟨bo, 0, none⟩) (m + 1) co, v4] 122, .row bl ol 19 l.length (rowOf l), .obj false bo oc 140] w) (hm : m ≤ 9223372036854775807) (ha : a < l.length) (hoc : oc[0 + m * 2]? = some (.int .i64 (a : Int))) :
    Calls Try.prog 114 #[.pointer (some ⟨bw, 0, none⟩)] w fun e w' => e = .returned (.bool (decide ((nth l a).kind = 10))) ∧ Kept w w' := by
  refine g_enter (args := [.pointer (some ⟨bw, 0, none⟩)]) [] [.obj false bw [.slice (some ⟨bl, ol, none⟩) l.length cl, v2, .slice (some ⟨bo, 0, none⟩) (m + 1) co, v4] 122, .row bl ol 19 l.length (rowOf l), .obj false bo oc 140] Try.func114 rfl Try.ntmps114 (Nat.le_of_ble_eq_true (by kernel_rfl)) (hq) ?_
  refine g_run 9 ([0]) 0 (by kernel_rfl) ?_
  refine g_val _ _ ?_ (fun w _hs => len_pred (P := Try.prog) (t := 3) (x := .tmp 8) (y := .const (.int .i64 1)) (m := m) (w := w) (by kernel_rfl) hm) ?_
  · kernel_rfl
  refine g_run 9999 [] 0 (by kernel_rfl) ?_
  refine g_draw 22 (by kernel_rfl) (by kernel_rfl) ?_
  refine l_run 23 ([0, 0]) 10 (by kernel_rfl) ?_
  refine l_val _ _ ?_ (fun w _hs => .inl (idx_run (P := Try.prog) (T := 120) (E := 140) (b := bo) (o := 0) (n := m + 1) (c := co) (k := m) (sz := 2) (kk := .i64) w (by kernel_rfl) (by kernel_rfl) (Nat.lt_succ_self m))) ?_
  · kernel_rfl
  refine l_run 25 [] 1 (by kernel_rfl) ?_
  refine l_val _ _ ?_ (fun w _hs => .inl (Sat.objload1 (T := 3) (T' := 140) (i := 2) (b := bo) (k := 0 + m * 2) (own := false) (cs := oc) (v := .int .i64 (a : Int)) _hs (by kernel_rfl) hoc (by kernel_rfl))) ?_
  · kernel_rfl
  refine l_val _ _ ?_ (fun w _hs => .inl (idx_run (P := Try.prog) (T := 22) (E := 55) (b := bl) (o := ol) (n := l.length) (c := cl) (k := a) (sz := 19) (kk := .i64) w (by kernel_rfl) (by kernel_rfl) ha)) ?_
  · kernel_rfl
  refine l_run 28 [] 1 (by kernel_rfl) ?_
  refine l_val _ _ ?_ (fun w _hs => .inl (Sat.rowload1 (T := 3) (i := 1) (b := bl) (off := ol) (sz := 19) (n := l.length) (k := a) (j := 0) (f := rowOf l) (v := .int .i64 (nth l a).kind) _hs (by kernel_rfl) ha (by kernel_rfl) rfl)) ?_
  · kernel_rfl
  refine l_run 9999 [] 1 (by kernel_rfl) ?_
  refine l_end (by kernel_rfl) ?_
  refine g_ret [] (Value.bool ((nth l a).kind == 10)) (by kernel_rfl) (by kernel_rfl) (by kernel_rfl) fun w' hs => ?_
  exact ⟨rfl, hs.kept.kept⟩
end Go.Proofs.Ytcncfmjfgdbfeab
