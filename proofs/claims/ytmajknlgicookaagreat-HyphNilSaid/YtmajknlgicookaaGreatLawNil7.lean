/- HyphNil's walk. -/
import Derived.Test.YtmajknlgicookaaGreatNil7b
import Derived.Test.YtmajknlgicookaaGreatKnow7
import Derived.Test.YtmajknlgicookaaGreatFast8
import Derived.Test.YtmajknlgicookaaGreatOpenOps
namespace Go.Proofs.YtmajknlgicookaaGreat
open Go.RowKit
structure OX (l : List Opr) where
  at_ : Nat
  le : at_ ≤ l.length
set_option maxRecDepth 100000 in
set_option maxHeartbeats 4000000 in
theorem nil_zero (A : Option Addr) (c : Nat) (w : World) :
    Calls Tryz.prog 4 #[.slice A 0 c] w fun e w' => e = .returned (.bool true) ∧ Kept w w' := by
  refine g_enter (args := [.slice A 0 c]) [] [] Tryz.func4 rfl Tryz.ntmps4 (Nat.le_of_ble_eq_true (by kernel_rfl)) (sat0 w) ?_
  refine g_run 9999 [] 0 (by kernel_rfl) ?_
  refine g_new (fun b => by kernel_rfl) fun b0 hb0 => ?_
  refine g_run 9999 [] 0 (by kernel_rfl) ?_
  refine g_unroll 2 (by kernel_rfl) ?_
  refine g_run 9999 [] 1 (by kernel_rfl) ?_
  refine g_callq _ _ _ ?_ (fun w hs => knows7_any w) ?_
  · kernel_rfl
  refine g_run 9999 [] 0 (by kernel_rfl) ?_
  refine g_ret [] (Value.bool true) (by kernel_rfl) (by kernel_rfl) (by kernel_rfl) fun w' hs => ?_
  exact ⟨rfl, hs.kept.kept⟩
set_option maxRecDepth 100000 in
set_option maxHeartbeats 4000000 in
theorem nil_walk (l : List Opr) (bl ol cl : Nat) (hl : l.length ≤ 9223372036854775807) (w : World) (hq : Sat w [] [.row bl ol 4 l.length (oprRow l)] w) :
    Calls Tryz.prog 4 #[.slice (some ⟨bl, ol, none⟩) l.length cl] w fun e w' => e = .returned (.bool true) ∧ Kept w w' := by
  refine g_enter (args := [.slice (some ⟨bl, ol, none⟩) l.length cl]) [] [.row bl ol 4 l.length (oprRow l)] Tryz.func4 rfl Tryz.ntmps4 (Nat.le_of_ble_eq_true (by kernel_rfl)) hq ?_
  refine g_run 9999 [] 0 (by kernel_rfl) ?_
  refine g_new (fun b => by kernel_rfl) fun b1 hb1 => ?_
  refine g_run 9999 [] 0 (by kernel_rfl) ?_
  refine g_loopN (X := OX l) (fun x => [(5, .int .i64 (x.at_ : Int)), (2, .bool false)]) (fun _ => [.row bl ol 4 l.length (oprRow l), .obj true b1 [.pointer none, .slice none 0 0, .slice none 0 0, .map none] 42]) (fun x => l.length - x.at_)
    ⟨0, Nat.zero_le _⟩ (by kernel_rfl) (by unfold Known; kernel_rfl) (by kernel_rfl) fun x N hN => ?_
  have hle := x.le
  by_cases hA : x.at_ = l.length
  · refine g_run 9999 [] 0 (by kernel_rfl) ?_
    refine g_dec 11 (decide ((↑x.at_ : Int) < (↑l.length : Int))) (by kernel_rfl) (fun h11 => ?_) (fun h11 => ?_)
    · exact absurd h11 (by clear hN hq; intro hx; first | (simp [hA] at hx; done) | (clear hx; omega) | (simp at hx; omega))
    · refine g_run 9999 [] 1 (by kernel_rfl) ?_
      refine g_callq _ _ _ ?_ (fun w hs => knows7_any w) ?_
      · kernel_rfl
      refine g_run 9999 [] 0 (by kernel_rfl) ?_
      refine g_ret [] (Value.bool true) (by kernel_rfl) (by kernel_rfl) (by kernel_rfl) fun w' hs => ?_
      exact ⟨rfl, hs.kept.kept⟩
  have hB : x.at_ < l.length := by omega
  refine g_run 9999 [] 0 (by kernel_rfl) ?_
  refine g_dec 11 (decide ((↑x.at_ : Int) < (↑l.length : Int))) (by kernel_rfl) (fun h11 => ?_) (fun h11 => ?_)
  · refine g_run 17 [] 1 (by kernel_rfl) ?_
    refine g_val _ _ ?_ (fun w _hs => idx_run (P := Tryz.prog) (T := 22) (E := 32) (b := bl) (o := ol) (n := l.length) (c := cl) (k := x.at_) (sz := 4) (kk := .i64) w (by kernel_rfl) (by kernel_rfl) hB) ?_
    · kernel_rfl
    refine g_val _ _ ?_ (fun w _hs => Sat.rowload (T := 32) (i := 0) (b := bl) (off := ol) (sz := 4) (n := l.length) (k := x.at_) (f := oprRow l) _hs (by kernel_rfl) hB (by kernel_rfl) (by kernel_rfl) rfl) ?_
    · kernel_rfl
    refine g_callq _ _ _ ?_ (fun w hs => asksA_any (onth l x.at_) w) ?_
    · kernel_rfl
    refine g_run 25 [] 3 (by kernel_rfl) ?_
    refine g_val _ _ ?_ (fun w _hs => idx_run (P := Tryz.prog) (T := 22) (E := 32) (b := bl) (o := ol) (n := l.length) (c := cl) (k := x.at_) (sz := 4) (kk := .i64) w (by kernel_rfl) (by kernel_rfl) hB) ?_
    · kernel_rfl
    refine g_val _ _ ?_ (fun w _hs => Sat.rowload (T := 32) (i := 0) (b := bl) (off := ol) (sz := 4) (n := l.length) (k := x.at_) (f := oprRow l) _hs (by kernel_rfl) hB (by kernel_rfl) (by kernel_rfl) rfl) ?_
    · kernel_rfl
    refine g_callq _ _ _ ?_ (fun w hs => asksB_any (onth l x.at_) b1 w (hs.obj (o := true) (i := 1) (by kernel_rfl))) ?_
    · kernel_rfl
    refine g_run 13 [] 2 (by kernel_rfl) ?_
    refine g_val _ _ ?_ (fun w _hs => nat_succ (P := Tryz.prog) (t := 3) (x := .tmp 12) (y := .const (.int .i64 1)) (m := x.at_) (w := w) (by kernel_rfl) (by omega)) ?_
    · kernel_rfl
    refine g_run 9999 [] 0 (by kernel_rfl) ?_
    refine g_hook (hN ⟨x.at_ + 1, hB⟩ (by show l.length - (x.at_ + 1) < l.length - x.at_; omega)) (by kernel_rfl) (by kernel_rfl) (by kernel_rfl) (by unfold Known; kernel_rfl) (by kernel_rfl) (by kernel_rfl)
  · exact absurd h11 (by clear hN hq; intro hx; first | (simp [hA] at hx; done) | (clear hx; omega) | (simp at hx; omega))
theorem hyphNil_walk (w : World) (A : Option Addr) (l : List Opr) (c : Nat) (hle : l.length ≤ c) (hcm : c ≤ maxLen) (hnil : A = none → l = [] ∧ c = 0)
    (hrow : ∀ a, A = some a → 0 < l.length → a.spot = none ∧ a.block < w.heap.size ∧ ∀ k, k < l.length → ∀ j v, (oprRow l k)[j]? = some v → w.cell? ⟨a.block, a.off + k * 4 + j, none⟩ = some v) :
    Calls Tryz.prog 4 #[.slice A l.length c] w fun e w' => e = .returned (.bool true) ∧ Kept w w' := by
  rcases Nat.eq_zero_or_pos l.length with h0 | h0
  · rw [h0]; exact nil_zero A c w
  cases A with
  | none =>
    obtain ⟨rfl, rfl⟩ := hnil rfl
    exact absurd h0 (by simp)
  | some p =>
    obtain ⟨h1, h2, h3⟩ := hrow p rfl h0
    obtain ⟨b, o, s⟩ := p
    simp only at h1 h2 h3
    subst h1
    refine nil_walk l b o c (Nat.le_trans hle (Nat.le_trans hcm (by unfold maxLen; omega))) w ⟨.refl _ _, fun e he => ?_, fun i j e e' hij hi hj => ?_⟩
    · rw [List.mem_singleton.1 he]
      exact fun _ => ⟨h2, h3⟩
    · have q1 := (List.getElem?_eq_some_iff.1 hi).1
      have q2 := (List.getElem?_eq_some_iff.1 hj).1
      simp at q1 q2
      omega
end Go.Proofs.YtmajknlgicookaaGreat
