/- NodesBroken's walk. -/
import Derived.Test.YtohbomeodcjenaaM41
import Derived.Test.YtohbomeodcjenaaM42
namespace Go.Proofs.Ytohbomeodcjenaa
open Go.RowKit

theorem rem_runv {P : Program} {t : TypeId} {x y : Operand} {a v : Int} {n : Nat} {w : World} (hn : 0 < n) (e : a.tmod n = v) : (binSem .rem t x y (.int .i64 a) (.int .i64 (n : Int))).run P w = .ok (.value (.int .i64 v)) w := by
  rw [← e]; exact rem_run hn
theorem checkv_any (l : List Nod) (bl ol cl : Nat) (w : World) (v : Int) (e : checkB l = v) (hq : Sat w [] [.row bl ol 19 l.length (rowOf l)] w) :
    Calls Try.prog 45 #[.slice (some ⟨bl, ol, none⟩) l.length cl] w fun e' w' => e' = .returned (.int .i64 v) ∧ Kept w w' := by
  rw [← e]; exact check_any l bl ol cl w hq
theorem ropensv_any (n : Nod) (w : World) (b : Bool) (e : enters n.kind = b) : Calls Try.prog 49 #[nodV n] w fun e w' => e = .returned (.bool b) ∧ Kept w w' := by
  rw [← e]; exact ropens_any n w
theorem rowOf_one (l : List Nod) (k : Nat) : ∀ u ∈ rowOf l k, u.oneCell' = true := by
  intro u hu
  simp only [rowOf, nodC, List.mem_cons, List.not_mem_nil, or_false] at hu
  rcases hu with rfl | rfl | rfl | rfl | rfl | rfl | rfl | rfl | rfl | rfl | rfl | rfl | rfl | rfl | rfl | rfl | rfl | rfl | rfl <;> rfl
theorem erase_len (l : List Nod) {k : Nat} (hk : k < l.length) : 0 + k + (l.length - (k + 1)) = (l.eraseIdx k).length := by
  rw [List.length_eraseIdx]; simp [hk]; omega
theorem erase_take (l : List Nod) {k : Nat} (hk : k < l.length) {cs2 cs3 : List Value} (h2 : cs2.take ((0 + k) * 19) = ([] : List Value).take (0 * 19) ++ rowsL (rowOf l) 0 k) (h3 : cs3.take ((0 + k + (l.length - (k + 1))) * 19) = cs2.take ((0 + k) * 19) ++ rowsL (rowOf l) (k + 1) (l.length - (k + 1))) :
    cs3.take ((l.eraseIdx k).length * 19) = rowsL (rowOf (l.eraseIdx k)) 0 (l.eraseIdx k).length := by
  rw [erase_len l hk] at h3
  rw [h3, h2, ← rows_erase l hk]
  simp
theorem tail_ax (l : List Nod) (bl ol cl k : Nat) (hcl : l.length ≤ cl) : l.length - (k + 1) = 0 ∨ some (tailA bl ol (k + 1) 19 cl) = some (⟨bl, ol + (k + 1) * 19, none⟩ : Addr) := by
  unfold tailA
  by_cases e : cl = k + 1
  · exact .inl (by omega)
  · rw [if_neg e]; exact .inr rfl
set_option maxRecDepth 100000 in
set_option maxHeartbeats 4000000 in
theorem brok_nil (a : Int) (w : World) :
    Calls Try.prog 13 #[.slice none 0 0, .int .i64 a] w fun e w' => e = .returned (.bool true) ∧ Kept w w' := by
  refine g_enter (args := [.slice none 0 0, .int .i64 a]) [] [] Try.func13 rfl Try.ntmps13 (Nat.le_of_ble_eq_true (by kernel_rfl)) (sat0 w) ?_
  refine g_run 9999 [] 0 (by kernel_rfl) ?_
  refine g_callq _ _ _ ?_ (fun w hs => check_nil w) ?_
  · kernel_rfl
  refine g_callq _ _ _ ?_ (fun w hs => num5_any 0 w) ?_
  · kernel_rfl
  refine g_run 9999 [] 6 (by kernel_rfl) ?_
  refine g_callq _ _ _ ?_ (fun w hs => knows5_any w) ?_
  · kernel_rfl
  refine g_run 9999 [] 0 (by kernel_rfl) ?_
  refine g_ret [] (Value.bool true) (by kernel_rfl) (by kernel_rfl) (by kernel_rfl) fun w' hs => ?_
  exact ⟨rfl, hs.kept.kept⟩
theorem check_void (a : Addr) (c : Nat) (w : World) : Calls Try.prog 45 #[.slice (some a) 0 c] w fun e w' => e = .returned (.int .i64 0) ∧ Kept w w' :=
  Run.closed (P := Try.prog) (by kernel_rfl) (args := [.slice (some a) 0 c]) (Run.unpack 4096 49 0x8001001001003003003003007006005005005005005005005005005005005005005005005005005005005004004004004004004004004004004004004004004004004004004004003) 1000 (fun A => by kernel_rfl) w
set_option maxRecDepth 100000 in
set_option maxHeartbeats 4000000 in
theorem brok_zero (p : Addr) (c : Nat) (a : Int) (w : World) :
    Calls Try.prog 13 #[.slice (some p) 0 c, .int .i64 a] w fun e w' => e = .returned (.bool true) ∧ Kept w w' := by
  refine g_enter (args := [.slice (some p) 0 c, .int .i64 a]) [] [] Try.func13 rfl Try.ntmps13 (Nat.le_of_ble_eq_true (by kernel_rfl)) (sat0 w) ?_
  refine g_run 9999 [] 0 (by kernel_rfl) ?_
  refine g_callq _ _ _ ?_ (fun w hs => check_void p c w) ?_
  · kernel_rfl
  refine g_callq _ _ _ ?_ (fun w hs => num5_any 0 w) ?_
  · kernel_rfl
  refine g_run 9999 [] 6 (by kernel_rfl) ?_
  refine g_callq _ _ _ ?_ (fun w hs => knows5_any w) ?_
  · kernel_rfl
  refine g_run 9999 [] 0 (by kernel_rfl) ?_
  refine g_ret [] (Value.bool true) (by kernel_rfl) (by kernel_rfl) (by kernel_rfl) fun w' hs => ?_
  exact ⟨rfl, hs.kept.kept⟩
set_option maxRecDepth 100000 in
set_option maxHeartbeats 4000000 in
theorem brok_err (l : List Nod) (bl ol cl : Nat) (a : Int) (c : Int) (hcc : checkB l = c) (hc : c ≠ 0) (w : World) (hq : Sat w [] [.row bl ol 19 l.length (rowOf l)] w) :
    Calls Try.prog 13 #[.slice (some ⟨bl, ol, none⟩) l.length cl, .int .i64 a] w fun e w' => e = .returned (.bool true) ∧ Kept w w' := by
  refine g_enter (args := [.slice (some ⟨bl, ol, none⟩) l.length cl, .int .i64 a]) [] [.row bl ol 19 l.length (rowOf l)] Try.func13 rfl Try.ntmps13 (Nat.le_of_ble_eq_true (by kernel_rfl)) hq ?_
  refine g_run 9999 [] 0 (by kernel_rfl) ?_
  refine g_callq _ _ _ ?_ (fun w hs => checkv_any l bl ol cl w c hcc (hs.read [0] [.row bl ol 19 l.length (rowOf l)] (by kernel_rfl))) ?_
  · kernel_rfl
  refine g_callq _ _ _ ?_ (fun w hs => num5_any c w) ?_
  · kernel_rfl
  refine g_run 9999 [] 0 (by kernel_rfl) ?_
  refine g_dec 10 (c != 0) (by kernel_rfl) (fun h10 => ?_) (fun h10 => ?_)
  · refine g_run 9999 [] 6 (by kernel_rfl) ?_
    refine g_callq _ _ _ ?_ (fun w hs => knows5_any w) ?_
    · kernel_rfl
    refine g_run 9999 [] 0 (by kernel_rfl) ?_
    refine g_ret [] (Value.bool true) (by kernel_rfl) (by kernel_rfl) (by kernel_rfl) fun w' hs => ?_
    exact ⟨rfl, hs.kept.kept⟩
  · exact absurd h10 (by clear hq; intro hx; first | (simp [hc] at hx; done) | (simp at hx; omega))
set_option maxRecDepth 100000 in
set_option maxHeartbeats 4000000 in
theorem brok_empty (l : List Nod) (bl ol cl : Nat) (a : Int) (hcc : checkB l = 0) (hc : l.length = 0) (w : World) (hq : Sat w [] [.row bl ol 19 l.length (rowOf l)] w) :
    Calls Try.prog 13 #[.slice (some ⟨bl, ol, none⟩) l.length cl, .int .i64 a] w fun e w' => e = .returned (.bool true) ∧ Kept w w' := by
  refine g_enter (args := [.slice (some ⟨bl, ol, none⟩) l.length cl, .int .i64 a]) [] [.row bl ol 19 l.length (rowOf l)] Try.func13 rfl Try.ntmps13 (Nat.le_of_ble_eq_true (by kernel_rfl)) hq ?_
  refine g_run 9999 [] 0 (by kernel_rfl) ?_
  refine g_callq _ _ _ ?_ (fun w hs => checkv_any l bl ol cl w 0 hcc (hs.read [0] [.row bl ol 19 l.length (rowOf l)] (by kernel_rfl))) ?_
  · kernel_rfl
  refine g_callq _ _ _ ?_ (fun w hs => num5_any 0 w) ?_
  · kernel_rfl
  refine g_run 9999 [] 3 (by kernel_rfl) ?_
  refine g_dec 15 ((↑l.length : Int) == 0) (by kernel_rfl) (fun h15 => ?_) (fun h15 => ?_)
  · refine g_run 9999 [] 3 (by kernel_rfl) ?_
    refine g_callq _ _ _ ?_ (fun w hs => knows5_any w) ?_
    · kernel_rfl
    refine g_run 9999 [] 0 (by kernel_rfl) ?_
    refine g_ret [] (Value.bool true) (by kernel_rfl) (by kernel_rfl) (by kernel_rfl) fun w' hs => ?_
    exact ⟨rfl, hs.kept.kept⟩
  · exact absurd h15 (by clear hq; intro hx; first | (simp [hc] at hx; done) | (simp at hx; omega))
set_option maxRecDepth 100000 in
set_option maxHeartbeats 4000000 in
theorem brok_other (l : List Nod) (bl ol cl : Nat) (a : Int) (h0 : checkB l = 0) (hl : l.length ≤ 2000) (hn : 0 < l.length) (_hcl : l.length ≤ cl) (k : Nat) (hk : (a.tmod l.length + l.length).tmod l.length = (k : Int)) (hkl : k < l.length) (hm : -(l.length : Int) < a.tmod l.length ∧ a.tmod l.length < l.length) (hen : enters (nth l k).kind = false) (h6 : (nth l k).kind ≠ 6) (w : World) (hq : Sat w [] [.row bl ol 19 l.length (rowOf l)] w) :
    Calls Try.prog 13 #[.slice (some ⟨bl, ol, none⟩) l.length cl, .int .i64 a] w fun e w' => e = .returned (.bool true) ∧ Kept w w' := by
  refine g_enter (args := [.slice (some ⟨bl, ol, none⟩) l.length cl, .int .i64 a]) [] [.row bl ol 19 l.length (rowOf l)] Try.func13 rfl Try.ntmps13 (Nat.le_of_ble_eq_true (by kernel_rfl)) hq ?_
  refine g_run 9999 [] 0 (by kernel_rfl) ?_
  refine g_callq _ _ _ ?_ (fun w hs => checkv_any l bl ol cl w 0 h0 (hs.read [0] [.row bl ol 19 l.length (rowOf l)] (by kernel_rfl))) ?_
  · kernel_rfl
  refine g_callq _ _ _ ?_ (fun w hs => num5_any 0 w) ?_
  · kernel_rfl
  refine g_run 9999 [] 3 (by kernel_rfl) ?_
  refine g_dec 15 ((↑l.length : Int) == 0) (by kernel_rfl) (fun h15 => ?_) (fun h15 => ?_)
  · refine g_run 9999 [] 3 (by kernel_rfl) ?_
    refine g_callq _ _ _ ?_ (fun w hs => knows5_any w) ?_
    · kernel_rfl
    refine g_run 9999 [] 0 (by kernel_rfl) ?_
    refine g_ret [] (Value.bool true) (by kernel_rfl) (by kernel_rfl) (by kernel_rfl) fun w' hs => ?_
    exact ⟨rfl, hs.kept.kept⟩
  · refine g_callq _ _ _ ?_ (fun w hs => knows5_any w) ?_
    · kernel_rfl
    refine g_run 23 [] 2 (by kernel_rfl) ?_
    refine g_val _ _ ?_ (fun w _hs => rem_runv (P := Try.prog) (t := 3) (x := .tmp 20) (y := .tmp 22) (a := a) (v := a.tmod l.length) (n := l.length) (w := w) hn rfl) ?_
    · kernel_rfl
    refine g_run 26 [] 0 (by kernel_rfl) ?_
    refine g_val _ _ ?_ (fun w _hs => bin_run (P := Try.prog) (op := .add) (t := 3) (x := .tmp 23) (y := .tmp 25) (a := .int .i64 (a.tmod l.length)) (b := .int .i64 l.length) (v := .int .i64 (IntKind.wrap .i64 (a.tmod l.length + l.length))) (v' := .int .i64 (a.tmod l.length + l.length)) (w := w) (by kernel_rfl) (by rw [wrap_i64 (by omega) (by omega)])) ?_
    · kernel_rfl
    refine g_run 29 [] 0 (by kernel_rfl) ?_
    refine g_val _ _ ?_ (fun w _hs => rem_runv (P := Try.prog) (t := 3) (x := .tmp 26) (y := .tmp 28) (a := a.tmod l.length + l.length) (v := (k : Int)) (n := l.length) (w := w) hn hk) ?_
    · kernel_rfl
    refine g_run 32 [] 0 (by kernel_rfl) ?_
    refine g_val _ _ ?_ (fun w _hs => idx_run (P := Try.prog) (T := 59) (E := 63) (b := bl) (o := ol) (n := l.length) (c := cl) (k := k) (sz := 19) (kk := .i64) w (by kernel_rfl) (by kernel_rfl) hkl) ?_
    · kernel_rfl
    refine g_val _ _ ?_ (fun w _hs => Sat.rowload (T := 63) (i := 0) (b := bl) (off := ol) (sz := 19) (n := l.length) (k := k) (f := rowOf l) _hs (by kernel_rfl) hkl (by kernel_rfl) (by kernel_rfl) rfl) ?_
    · kernel_rfl
    refine g_callq _ _ _ ?_ (fun w hs => ropensv_any (nth l k) w _ hen) ?_
    · kernel_rfl
    refine g_run 39 [] 2 (by kernel_rfl) ?_
    refine g_val _ _ ?_ (fun w _hs => idx_run (P := Try.prog) (T := 59) (E := 63) (b := bl) (o := ol) (n := l.length) (c := cl) (k := k) (sz := 19) (kk := .i64) w (by kernel_rfl) (by kernel_rfl) hkl) ?_
    · kernel_rfl
    refine g_run 41 [] 1 (by kernel_rfl) ?_
    refine g_val _ _ ?_ (fun w _hs => Sat.rowload1 (T := 3) (i := 0) (b := bl) (off := ol) (sz := 19) (n := l.length) (k := k) (j := 0) (f := rowOf l) (v := .int .i64 (nth l k).kind) _hs (by kernel_rfl) hkl (by kernel_rfl) rfl) ?_
    · kernel_rfl
    refine g_run 9999 [] 1 (by kernel_rfl) ?_
    refine g_dec 43 ((nth l k).kind != 6) (by kernel_rfl) (fun h43 => ?_) (fun h43 => ?_)
    · refine g_run 9999 [] 1 (by kernel_rfl) ?_
      refine g_ret [] (Value.bool true) (by kernel_rfl) (by kernel_rfl) (by kernel_rfl) fun w' hs => ?_
      exact ⟨rfl, hs.kept.kept⟩
    · exact absurd h43 (by clear hq; intro hx; first | (simp [h6] at hx; done) | (simp at hx; omega))
set_option maxRecDepth 100000 in
set_option maxHeartbeats 4000000 in
theorem brok_opens (l : List Nod) (bl ol cl : Nat) (a : Int) (h0 : checkB l = 0) (hl : l.length ≤ 2000) (hn : 0 < l.length) (_hcl : l.length ≤ cl) (k : Nat) (hk : (a.tmod l.length + l.length).tmod l.length = (k : Int)) (hkl : k < l.length) (hm : -(l.length : Int) < a.tmod l.length ∧ a.tmod l.length < l.length) (hbal : balN (nth l k) ≠ 0) (hen : enters (nth l k).kind = true) (w : World) (hq : Sat w [] [.row bl ol 19 l.length (rowOf l)] w) :
    Calls Try.prog 13 #[.slice (some ⟨bl, ol, none⟩) l.length cl, .int .i64 a] w fun e w' => e = .returned (.bool true) ∧ Kept w w' := by
  refine g_enter (args := [.slice (some ⟨bl, ol, none⟩) l.length cl, .int .i64 a]) [] [.row bl ol 19 l.length (rowOf l)] Try.func13 rfl Try.ntmps13 (Nat.le_of_ble_eq_true (by kernel_rfl)) hq ?_
  refine g_run 9999 [] 0 (by kernel_rfl) ?_
  refine g_callq _ _ _ ?_ (fun w hs => checkv_any l bl ol cl w 0 h0 (hs.read [0] [.row bl ol 19 l.length (rowOf l)] (by kernel_rfl))) ?_
  · kernel_rfl
  refine g_callq _ _ _ ?_ (fun w hs => num5_any 0 w) ?_
  · kernel_rfl
  refine g_run 9999 [] 3 (by kernel_rfl) ?_
  refine g_dec 15 ((↑l.length : Int) == 0) (by kernel_rfl) (fun h15 => ?_) (fun h15 => ?_)
  · refine g_run 9999 [] 3 (by kernel_rfl) ?_
    refine g_callq _ _ _ ?_ (fun w hs => knows5_any w) ?_
    · kernel_rfl
    refine g_run 9999 [] 0 (by kernel_rfl) ?_
    refine g_ret [] (Value.bool true) (by kernel_rfl) (by kernel_rfl) (by kernel_rfl) fun w' hs => ?_
    exact ⟨rfl, hs.kept.kept⟩
  · refine g_callq _ _ _ ?_ (fun w hs => knows5_any w) ?_
    · kernel_rfl
    refine g_run 23 [] 2 (by kernel_rfl) ?_
    refine g_val _ _ ?_ (fun w _hs => rem_runv (P := Try.prog) (t := 3) (x := .tmp 20) (y := .tmp 22) (a := a) (v := a.tmod l.length) (n := l.length) (w := w) hn rfl) ?_
    · kernel_rfl
    refine g_run 26 [] 0 (by kernel_rfl) ?_
    refine g_val _ _ ?_ (fun w _hs => bin_run (P := Try.prog) (op := .add) (t := 3) (x := .tmp 23) (y := .tmp 25) (a := .int .i64 (a.tmod l.length)) (b := .int .i64 l.length) (v := .int .i64 (IntKind.wrap .i64 (a.tmod l.length + l.length))) (v' := .int .i64 (a.tmod l.length + l.length)) (w := w) (by kernel_rfl) (by rw [wrap_i64 (by omega) (by omega)])) ?_
    · kernel_rfl
    refine g_run 29 [] 0 (by kernel_rfl) ?_
    refine g_val _ _ ?_ (fun w _hs => rem_runv (P := Try.prog) (t := 3) (x := .tmp 26) (y := .tmp 28) (a := a.tmod l.length + l.length) (v := (k : Int)) (n := l.length) (w := w) hn hk) ?_
    · kernel_rfl
    refine g_run 32 [] 0 (by kernel_rfl) ?_
    refine g_val _ _ ?_ (fun w _hs => idx_run (P := Try.prog) (T := 59) (E := 63) (b := bl) (o := ol) (n := l.length) (c := cl) (k := k) (sz := 19) (kk := .i64) w (by kernel_rfl) (by kernel_rfl) hkl) ?_
    · kernel_rfl
    refine g_val _ _ ?_ (fun w _hs => Sat.rowload (T := 63) (i := 0) (b := bl) (off := ol) (sz := 19) (n := l.length) (k := k) (f := rowOf l) _hs (by kernel_rfl) hkl (by kernel_rfl) (by kernel_rfl) rfl) ?_
    · kernel_rfl
    refine g_callq _ _ _ ?_ (fun w hs => ropensv_any (nth l k) w _ hen) ?_
    · kernel_rfl
    refine g_run 9999 [] 7 (by kernel_rfl) ?_
    refine g_drawE [1, 2, 3, 5, 6, 7, 8] (by kernel_rfl) (by kernel_rfl) (noPan_body (fun _ _ h => (by cases h.1))) ?_
    refine e_run 47 [] 0 (by kernel_rfl) ?_
    refine e_val _ _ ?_ (fun w => front_run (P := Try.prog) (T := 59) (E := 63) (b := bl) (o := ol) (n := l.length) (c := cl) (m := k) (sz := 19) (kk := .i64) w (by kernel_rfl) (by kernel_rfl) (by omega)) ?_
    · kernel_rfl
    refine e_run 51 [] 0 (by kernel_rfl) ?_
    refine e_val _ _ ?_ (fun w => nat_succ (P := Try.prog) (t := 3) (x := .tmp 50) (y := .const (.int .i64 1)) (m := k) (w := w) (by kernel_rfl) (by omega)) ?_
    · kernel_rfl
    refine e_val _ _ ?_ (fun w => tail_run (P := Try.prog) (T := 59) (E := 63) (b := bl) (o := ol) (n := l.length) (c := cl) (s := k + 1) (sz := 19) (kk := .i64) w (by kernel_rfl) (by kernel_rfl) (by omega) _hcl) ?_
    · kernel_rfl
    refine e_end (by kernel_rfl) ?_
    refine g_new (fun b => by kernel_rfl) fun b1 hb1 => ?_
    refine g_appendR 1 0 59 63 b1 0 0 19 k cl 0 bl ol l.length 160 (some ⟨bl, ol, none⟩) [] (rowOf l) (by kernel_rfl) (by kernel_rfl) (info_of (by kernel_rfl)) (by kernel_rfl) rfl (Nat.le_refl _) (by kernel_rfl) (fun _ => rfl) (rowOf_one l) (by omega) (.inr (by simp)) (by omega) (by omega) fun b2 cap2 cs2 _hb2 hc2 hl2 ht2 => ?_
    refine g_appendR 1 0 59 63 b2 (0 + k) cap2 19 (l.length - (k + 1)) (cl - (k + 1)) (k + 1) bl ol l.length 160 (some (tailA bl ol (k + 1) 19 cl)) cs2 (rowOf l) (by kernel_rfl) (by kernel_rfl) (info_of (by kernel_rfl)) (by kernel_rfl) hl2 hc2 (by kernel_rfl) (fun _ => rfl) (rowOf_one l) (by omega) (tail_ax l bl ol cl k _hcl) (by omega) (by omega) fun b3 cap3 cs3 _hb3 _hc3 _hl3 ht3 => ?_
    refine g_run 54 [] 0 (by kernel_rfl) ?_
    refine g_val _ _ ?_ (fun w _hs => any_run (P := Try.prog) (s := Sem.pure (.value (.slice (some ⟨b3, 0, none⟩) (0 + k + (l.length - (k + 1))) cap3))) (v := .slice (some ⟨b3, 0, none⟩) (0 + k + (l.length - (k + 1))) cap3) (v' := .slice (some ⟨b3, 0, none⟩) (l.eraseIdx k).length cap3) (by kernel_rfl) (by rw [erase_len l hkl])) ?_
    · kernel_rfl
    refine g_callq _ _ _ ?_ (fun w hs => checkv_any (l.eraseIdx k) b3 0 cap3 w 50 (check_broken h0 hkl hbal) (hs.asRow (i := 1) (o := true) (cs := cs3) (E := 63) (by kernel_rfl) (fun _ => rfl) (erase_take l hkl ht2 ht3))) ?_
    · kernel_rfl
    refine g_callq _ _ _ ?_ (fun w hs => num5_any 50 w) ?_
    · kernel_rfl
    refine g_run 9999 [] 0 (by kernel_rfl) ?_
    refine g_ret [] (Value.bool true) (by kernel_rfl) (by kernel_rfl) (by kernel_rfl) fun w' hs => ?_
    exact ⟨rfl, hs.kept.kept⟩
set_option maxRecDepth 100000 in
set_option maxHeartbeats 4000000 in
theorem brok_end (l : List Nod) (bl ol cl : Nat) (a : Int) (h0 : checkB l = 0) (hl : l.length ≤ 2000) (hn : 0 < l.length) (_hcl : l.length ≤ cl) (k : Nat) (hk : (a.tmod l.length + l.length).tmod l.length = (k : Int)) (hkl : k < l.length) (hm : -(l.length : Int) < a.tmod l.length ∧ a.tmod l.length < l.length) (hbal : balN (nth l k) ≠ 0) (hen : enters (nth l k).kind = false) (h6 : (nth l k).kind = 6) (w : World) (hq : Sat w [] [.row bl ol 19 l.length (rowOf l)] w) :
    Calls Try.prog 13 #[.slice (some ⟨bl, ol, none⟩) l.length cl, .int .i64 a] w fun e w' => e = .returned (.bool true) ∧ Kept w w' := by
  refine g_enter (args := [.slice (some ⟨bl, ol, none⟩) l.length cl, .int .i64 a]) [] [.row bl ol 19 l.length (rowOf l)] Try.func13 rfl Try.ntmps13 (Nat.le_of_ble_eq_true (by kernel_rfl)) hq ?_
  refine g_run 9999 [] 0 (by kernel_rfl) ?_
  refine g_callq _ _ _ ?_ (fun w hs => checkv_any l bl ol cl w 0 h0 (hs.read [0] [.row bl ol 19 l.length (rowOf l)] (by kernel_rfl))) ?_
  · kernel_rfl
  refine g_callq _ _ _ ?_ (fun w hs => num5_any 0 w) ?_
  · kernel_rfl
  refine g_run 9999 [] 3 (by kernel_rfl) ?_
  refine g_dec 15 ((↑l.length : Int) == 0) (by kernel_rfl) (fun h15 => ?_) (fun h15 => ?_)
  · refine g_run 9999 [] 3 (by kernel_rfl) ?_
    refine g_callq _ _ _ ?_ (fun w hs => knows5_any w) ?_
    · kernel_rfl
    refine g_run 9999 [] 0 (by kernel_rfl) ?_
    refine g_ret [] (Value.bool true) (by kernel_rfl) (by kernel_rfl) (by kernel_rfl) fun w' hs => ?_
    exact ⟨rfl, hs.kept.kept⟩
  · refine g_callq _ _ _ ?_ (fun w hs => knows5_any w) ?_
    · kernel_rfl
    refine g_run 23 [] 2 (by kernel_rfl) ?_
    refine g_val _ _ ?_ (fun w _hs => rem_runv (P := Try.prog) (t := 3) (x := .tmp 20) (y := .tmp 22) (a := a) (v := a.tmod l.length) (n := l.length) (w := w) hn rfl) ?_
    · kernel_rfl
    refine g_run 26 [] 0 (by kernel_rfl) ?_
    refine g_val _ _ ?_ (fun w _hs => bin_run (P := Try.prog) (op := .add) (t := 3) (x := .tmp 23) (y := .tmp 25) (a := .int .i64 (a.tmod l.length)) (b := .int .i64 l.length) (v := .int .i64 (IntKind.wrap .i64 (a.tmod l.length + l.length))) (v' := .int .i64 (a.tmod l.length + l.length)) (w := w) (by kernel_rfl) (by rw [wrap_i64 (by omega) (by omega)])) ?_
    · kernel_rfl
    refine g_run 29 [] 0 (by kernel_rfl) ?_
    refine g_val _ _ ?_ (fun w _hs => rem_runv (P := Try.prog) (t := 3) (x := .tmp 26) (y := .tmp 28) (a := a.tmod l.length + l.length) (v := (k : Int)) (n := l.length) (w := w) hn hk) ?_
    · kernel_rfl
    refine g_run 32 [] 0 (by kernel_rfl) ?_
    refine g_val _ _ ?_ (fun w _hs => idx_run (P := Try.prog) (T := 59) (E := 63) (b := bl) (o := ol) (n := l.length) (c := cl) (k := k) (sz := 19) (kk := .i64) w (by kernel_rfl) (by kernel_rfl) hkl) ?_
    · kernel_rfl
    refine g_val _ _ ?_ (fun w _hs => Sat.rowload (T := 63) (i := 0) (b := bl) (off := ol) (sz := 19) (n := l.length) (k := k) (f := rowOf l) _hs (by kernel_rfl) hkl (by kernel_rfl) (by kernel_rfl) rfl) ?_
    · kernel_rfl
    refine g_callq _ _ _ ?_ (fun w hs => ropensv_any (nth l k) w _ hen) ?_
    · kernel_rfl
    refine g_run 39 [] 2 (by kernel_rfl) ?_
    refine g_val _ _ ?_ (fun w _hs => idx_run (P := Try.prog) (T := 59) (E := 63) (b := bl) (o := ol) (n := l.length) (c := cl) (k := k) (sz := 19) (kk := .i64) w (by kernel_rfl) (by kernel_rfl) hkl) ?_
    · kernel_rfl
    refine g_run 41 [] 1 (by kernel_rfl) ?_
    refine g_val _ _ ?_ (fun w _hs => Sat.rowload1 (T := 3) (i := 0) (b := bl) (off := ol) (sz := 19) (n := l.length) (k := k) (j := 0) (f := rowOf l) (v := .int .i64 (nth l k).kind) _hs (by kernel_rfl) hkl (by kernel_rfl) rfl) ?_
    · kernel_rfl
    refine g_run 9999 [] 1 (by kernel_rfl) ?_
    refine g_dec 43 ((nth l k).kind != 6) (by kernel_rfl) (fun h43 => ?_) (fun h43 => ?_)
    · exact absurd h43 (by clear hq; intro hx; first | (simp [h6] at hx; done) | (simp at hx; omega))
    · refine g_run 9999 [] 1 (by kernel_rfl) ?_
      refine g_drawE [1, 2, 3, 5, 6, 7, 8] (by kernel_rfl) (by kernel_rfl) (noPan_body (fun _ _ h => (by cases h.1))) ?_
      refine e_run 47 [] 0 (by kernel_rfl) ?_
      refine e_val _ _ ?_ (fun w => front_run (P := Try.prog) (T := 59) (E := 63) (b := bl) (o := ol) (n := l.length) (c := cl) (m := k) (sz := 19) (kk := .i64) w (by kernel_rfl) (by kernel_rfl) (by omega)) ?_
      · kernel_rfl
      refine e_run 51 [] 0 (by kernel_rfl) ?_
      refine e_val _ _ ?_ (fun w => nat_succ (P := Try.prog) (t := 3) (x := .tmp 50) (y := .const (.int .i64 1)) (m := k) (w := w) (by kernel_rfl) (by omega)) ?_
      · kernel_rfl
      refine e_val _ _ ?_ (fun w => tail_run (P := Try.prog) (T := 59) (E := 63) (b := bl) (o := ol) (n := l.length) (c := cl) (s := k + 1) (sz := 19) (kk := .i64) w (by kernel_rfl) (by kernel_rfl) (by omega) _hcl) ?_
      · kernel_rfl
      refine e_end (by kernel_rfl) ?_
      refine g_new (fun b => by kernel_rfl) fun b1 hb1 => ?_
      refine g_appendR 1 0 59 63 b1 0 0 19 k cl 0 bl ol l.length 160 (some ⟨bl, ol, none⟩) [] (rowOf l) (by kernel_rfl) (by kernel_rfl) (info_of (by kernel_rfl)) (by kernel_rfl) rfl (Nat.le_refl _) (by kernel_rfl) (fun _ => rfl) (rowOf_one l) (by omega) (.inr (by simp)) (by omega) (by omega) fun b2 cap2 cs2 _hb2 hc2 hl2 ht2 => ?_
      refine g_appendR 1 0 59 63 b2 (0 + k) cap2 19 (l.length - (k + 1)) (cl - (k + 1)) (k + 1) bl ol l.length 160 (some (tailA bl ol (k + 1) 19 cl)) cs2 (rowOf l) (by kernel_rfl) (by kernel_rfl) (info_of (by kernel_rfl)) (by kernel_rfl) hl2 hc2 (by kernel_rfl) (fun _ => rfl) (rowOf_one l) (by omega) (tail_ax l bl ol cl k _hcl) (by omega) (by omega) fun b3 cap3 cs3 _hb3 _hc3 _hl3 ht3 => ?_
      refine g_run 54 [] 0 (by kernel_rfl) ?_
      refine g_val _ _ ?_ (fun w _hs => any_run (P := Try.prog) (s := Sem.pure (.value (.slice (some ⟨b3, 0, none⟩) (0 + k + (l.length - (k + 1))) cap3))) (v := .slice (some ⟨b3, 0, none⟩) (0 + k + (l.length - (k + 1))) cap3) (v' := .slice (some ⟨b3, 0, none⟩) (l.eraseIdx k).length cap3) (by kernel_rfl) (by rw [erase_len l hkl])) ?_
      · kernel_rfl
      refine g_callq _ _ _ ?_ (fun w hs => checkv_any (l.eraseIdx k) b3 0 cap3 w 50 (check_broken h0 hkl hbal) (hs.asRow (i := 1) (o := true) (cs := cs3) (E := 63) (by kernel_rfl) (fun _ => rfl) (erase_take l hkl ht2 ht3))) ?_
      · kernel_rfl
      refine g_callq _ _ _ ?_ (fun w hs => num5_any 50 w) ?_
      · kernel_rfl
      refine g_run 9999 [] 0 (by kernel_rfl) ?_
      refine g_ret [] (Value.bool true) (by kernel_rfl) (by kernel_rfl) (by kernel_rfl) fun w' hs => ?_
      exact ⟨rfl, hs.kept.kept⟩
theorem nodesBroken_some (l : List Nod) (bl ol cl : Nat) (a : Int) (hcl : l.length ≤ cl) (w : World) (hq : Sat w [] [.row bl ol 19 l.length (rowOf l)] w) :
    Calls Try.prog 13 #[.slice (some ⟨bl, ol, none⟩) l.length cl, .int .i64 a] w fun e w' => e = .returned (.bool true) ∧ Kept w w' := by
  by_cases h0 : checkB l = 0
  case neg => exact brok_err l bl ol cl a (checkB l) rfl h0 w hq
  rcases Nat.eq_zero_or_pos l.length with hn | hn
  · exact brok_empty l bl ol cl a h0 hn w hq
  have hl := (check_zero h0).1
  have hm : -(l.length : Int) < a.tmod l.length ∧ a.tmod l.length < l.length := by
    have h1 := Int.natAbs_tmod a l.length
    rw [Int.natAbs_natCast] at h1
    have h2 := Nat.mod_lt a.natAbs hn
    omega
  have hk : ∃ k : Nat, (a.tmod l.length + l.length).tmod l.length = (k : Int) ∧ k < l.length := by
    have h1 := Int.natAbs_tmod (a.tmod l.length + l.length) l.length
    rw [Int.natAbs_natCast] at h1
    have h2 := Nat.mod_lt (a.tmod l.length + l.length).natAbs hn
    have h3 := Int.tmod_nonneg (a := a.tmod l.length + l.length) (l.length : Int) (by omega)
    exact ⟨((a.tmod l.length + l.length).tmod l.length).natAbs, by omega, by omega⟩
  obtain ⟨k, hk, hkl⟩ := hk
  cases hen : enters (nth l k).kind with
  | true => exact brok_opens l bl ol cl a h0 hl hn hcl k hk hkl hm (bal_ne (.inl hen)) hen w hq
  | false =>
    by_cases h6 : (nth l k).kind = 6
    · exact brok_end l bl ol cl a h0 hl hn hcl k hk hkl hm (bal_ne (.inr h6)) hen h6 w hq
    · exact brok_other l bl ol cl a h0 hl hn hcl k hk hkl hm hen h6 w hq
theorem nodesBroken_walk (w : World) (A : Option Addr) (l : List Nod) (c : Nat) (hle : l.length ≤ c) (_hcm : c ≤ maxLen) (hnil : A = none → l = [] ∧ c = 0)
    (hrow : ∀ a, A = some a → 0 < l.length → a.spot = none ∧ a.block < w.heap.size ∧ ∀ k, k < l.length → ∀ j v, (rowOf l k)[j]? = some v → w.cell? ⟨a.block, a.off + k * 19 + j, none⟩ = some v) (a : Int) :
    Calls Try.prog 13 #[.slice A l.length c, .int .i64 a] w fun e w' => e = .returned (.bool true) ∧ Kept w w' := by
  cases A with
  | none =>
    obtain ⟨rfl, rfl⟩ := hnil rfl
    exact brok_nil a w
  | some p =>
    rcases Nat.eq_zero_or_pos l.length with h0 | h0
    · rw [h0]; exact brok_zero p c a w
    · obtain ⟨h1, h2, h3⟩ := hrow p rfl h0
      obtain ⟨b, o, s⟩ := p
      simp only at h1 h2 h3
      subst h1
      refine nodesBroken_some l b o c a hle w ⟨.refl _ _, fun e he => ?_, fun i j e e' hij hi hj => ?_⟩
      · rw [List.mem_singleton.1 he]
        exact fun _ => ⟨h2, h3⟩
      · have q1 := (List.getElem?_eq_some_iff.1 hi).1
        have q2 := (List.getElem?_eq_some_iff.1 hj).1
        simp at q1 q2
        omega
end Go.Proofs.Ytohbomeodcjenaa
