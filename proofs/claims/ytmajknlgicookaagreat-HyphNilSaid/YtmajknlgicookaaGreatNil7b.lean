/- hyph: what nobody made refuses all: any call. -/
import Derived.Test.YtmajknlgicookaaGreatNil7
import Derived.Test.YtmajknlgicookaaGreatSat1
namespace Go.Proofs.YtmajknlgicookaaGreat
open Go.RowKit

structure Opr where
  kind : Int
  text : ByteArray
  left : Int
  right : Int
def oprC (o : Opr) : List Value := [.int .i64 o.kind, .string o.text, .int .i64 o.left, .int .i64 o.right]
def oprV (o : Opr) : Value := .agg (oprC o).toArray
def onth (l : List Opr) (k : Nat) : Opr := l.getD k ⟨0, ⟨#[]⟩, 0, 0⟩
def oprRow (l : List Opr) : Nat → List Value := fun k => oprC (onth l k)
set_option maxRecDepth 100000 in
set_option maxHeartbeats 4000000 in
theorem asksA_o (k : Int) (s : ByteArray) (x y : Int) (h1 : k ≠ 1) (h2 : k ≠ 2) (h3 : k ≠ 3) (h4 : k ≠ 4) (w : World) :
    Calls Tryz.prog 6 #[.pointer none, .pointer none, .agg #[.int .i64 k, .string s, .int .i64 x, .int .i64 y]] w fun e w' => e = .returned (.bool true) ∧ Kept w w' := by
  refine g_enter (args := [.pointer none, .pointer none, .agg #[.int .i64 k, .string s, .int .i64 x, .int .i64 y]]) [] [] Tryz.func6 rfl Tryz.ntmps6 (Nat.le_of_ble_eq_true (by kernel_rfl)) (sat0 w) ?_
  refine g_run 9999 [] 0 (by kernel_rfl) ?_
  refine g_new (fun b => by kernel_rfl) fun b0 hb0 => ?_
  refine g_run 9999 ([0]) 0 (by kernel_rfl) ?_
  refine g_dec 17 (k == 1) (by kernel_rfl) (fun h17 => ?_) (fun h17 => ?_)
  · exact absurd h17 (by intro hx; first | exact h1 (by simpa using hx) | exact h2 (by simpa using hx) | exact h3 (by simpa using hx) | exact h4 (by simpa using hx))
  · refine g_run 9999 [] 1 (by kernel_rfl) ?_
    refine g_dec 29 (k == 2) (by kernel_rfl) (fun h29 => ?_) (fun h29 => ?_)
    · exact absurd h29 (by intro hx; first | exact h1 (by simpa using hx) | exact h2 (by simpa using hx) | exact h3 (by simpa using hx) | exact h4 (by simpa using hx))
    · refine g_run 9999 [] 1 (by kernel_rfl) ?_
      refine g_dec 41 (k == 3) (by kernel_rfl) (fun h41 => ?_) (fun h41 => ?_)
      · exact absurd h41 (by intro hx; first | exact h1 (by simpa using hx) | exact h2 (by simpa using hx) | exact h3 (by simpa using hx) | exact h4 (by simpa using hx))
      · refine g_run 9999 [] 1 (by kernel_rfl) ?_
        refine g_dec 71 (k == 4) (by kernel_rfl) (fun h71 => ?_) (fun h71 => ?_)
        · exact absurd h71 (by intro hx; first | exact h1 (by simpa using hx) | exact h2 (by simpa using hx) | exact h3 (by simpa using hx) | exact h4 (by simpa using hx))
        · refine g_run 9999 [] 1 (by kernel_rfl) ?_
          refine g_callq _ _ _ ?_ (fun w hs => listsA w) ?_
          · kernel_rfl
          refine g_run 9999 [] 0 (by kernel_rfl) ?_
          refine g_ret [] (Value.bool true) (by kernel_rfl) (by kernel_rfl) (by kernel_rfl) fun w' hs => ?_
          exact ⟨rfl, hs.kept.kept⟩
set_option maxRecDepth 100000 in
set_option maxHeartbeats 4000000 in
theorem asksB_o (k : Int) (s : ByteArray) (x y : Int) (h1 : k ≠ 1) (h2 : k ≠ 2) (h3 : k ≠ 3) (h4 : k ≠ 4) (b : Nat) (w : World) (hb : w.heap[b]? = some (.cells ([.pointer none, .slice none 0 0, .slice none 0 0, .map none] : List Value).toArray 42 (0, 0))) :
    Calls Tryz.prog 6 #[.pointer (some ⟨b, 0, none⟩), .pointer none, .agg #[.int .i64 k, .string s, .int .i64 x, .int .i64 y]] w fun e w' => e = .returned (.bool true) ∧ Kept w w' := by
  refine g_enter (args := [.pointer (some ⟨b, 0, none⟩), .pointer none, .agg #[.int .i64 k, .string s, .int .i64 x, .int .i64 y]]) [] [.obj false b [.pointer none, .slice none 0 0, .slice none 0 0, .map none] 42] Tryz.func6 rfl Tryz.ntmps6 (Nat.le_of_ble_eq_true (by kernel_rfl)) (sat1 hb) ?_
  refine g_run 9999 [] 0 (by kernel_rfl) ?_
  refine g_new (fun b => by kernel_rfl) fun b1 hb1 => ?_
  refine g_run 9999 ([1]) 0 (by kernel_rfl) ?_
  refine g_dec 17 (k == 1) (by kernel_rfl) (fun h17 => ?_) (fun h17 => ?_)
  · exact absurd h17 (by intro hx; first | exact h1 (by simpa using hx) | exact h2 (by simpa using hx) | exact h3 (by simpa using hx) | exact h4 (by simpa using hx))
  · refine g_run 9999 [] 1 (by kernel_rfl) ?_
    refine g_dec 29 (k == 2) (by kernel_rfl) (fun h29 => ?_) (fun h29 => ?_)
    · exact absurd h29 (by intro hx; first | exact h1 (by simpa using hx) | exact h2 (by simpa using hx) | exact h3 (by simpa using hx) | exact h4 (by simpa using hx))
    · refine g_run 9999 [] 1 (by kernel_rfl) ?_
      refine g_dec 41 (k == 3) (by kernel_rfl) (fun h41 => ?_) (fun h41 => ?_)
      · exact absurd h41 (by intro hx; first | exact h1 (by simpa using hx) | exact h2 (by simpa using hx) | exact h3 (by simpa using hx) | exact h4 (by simpa using hx))
      · refine g_run 9999 [] 1 (by kernel_rfl) ?_
        refine g_dec 71 (k == 4) (by kernel_rfl) (fun h71 => ?_) (fun h71 => ?_)
        · exact absurd h71 (by intro hx; first | exact h1 (by simpa using hx) | exact h2 (by simpa using hx) | exact h3 (by simpa using hx) | exact h4 (by simpa using hx))
        · refine g_run 9999 [] 1 (by kernel_rfl) ?_
          refine g_callq _ _ _ ?_ (fun w hs => listsB b w (hs.obj (o := false) (i := 0) (by kernel_rfl))) ?_
          · kernel_rfl
          refine g_run 9999 [] 0 (by kernel_rfl) ?_
          refine g_ret [] (Value.bool true) (by kernel_rfl) (by kernel_rfl) (by kernel_rfl) fun w' hs => ?_
          exact ⟨rfl, hs.kept.kept⟩
theorem asksA_any (o : Opr) (w : World) : Calls Tryz.prog 6 #[.pointer none, .pointer none, oprV o] w fun e w' => e = .returned (.bool true) ∧ Kept w w' := by
  obtain ⟨k, s, x, y⟩ := o
  show Calls Tryz.prog 6 #[.pointer none, .pointer none, .agg #[.int .i64 k, .string s, .int .i64 x, .int .i64 y]] w _
  by_cases h1 : k = 1
  · subst h1; exact asksA_1 s x y w
  by_cases h2 : k = 2
  · subst h2; exact asksA_2 s x y w
  by_cases h3 : k = 3
  · subst h3; exact asksA_3 s x y w
  by_cases h4 : k = 4
  · subst h4; exact asksA_4 s x y w
  exact asksA_o k s x y h1 h2 h3 h4 w
theorem asksB_any (o : Opr) (b : Nat) (w : World) (hb : w.heap[b]? = some (.cells ([.pointer none, .slice none 0 0, .slice none 0 0, .map none] : List Value).toArray 42 (0, 0))) : Calls Tryz.prog 6 #[.pointer (some ⟨b, 0, none⟩), .pointer none, oprV o] w fun e w' => e = .returned (.bool true) ∧ Kept w w' := by
  obtain ⟨k, s, x, y⟩ := o
  show Calls Tryz.prog 6 #[.pointer (some ⟨b, 0, none⟩), .pointer none, .agg #[.int .i64 k, .string s, .int .i64 x, .int .i64 y]] w _
  by_cases h1 : k = 1
  · subst h1; exact asksB_1 s x y b w hb
  by_cases h2 : k = 2
  · subst h2; exact asksB_2 s x y b w hb
  by_cases h3 : k = 3
  · subst h3; exact asksB_3 s x y b w hb
  by_cases h4 : k = 4
  · subst h4; exact asksB_4 s x y b w hb
  exact asksB_o k s x y h1 h2 h3 h4 b w hb
end Go.Proofs.YtmajknlgicookaaGreat
