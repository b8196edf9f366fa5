/- the document's nodes: what a Disc's lists may hold, what opens. -/
import Derived.Test.YtdadfhhcfmdfkaaNodV
namespace Go.Proofs.Ytdadfhhcfmdfkaa
open Go.RowKit

set_option maxRecDepth 100000 in
set_option maxHeartbeats 4000000 in
theorem rsmall_any (n : Nod) (w : World) :
    Calls Try.prog 92 #[nodV n] w fun e w' => e = .returned (.bool (brokenB n)) ∧ Kept w w' := by
  refine g_enter (args := [nodV n]) [] [] Try.func92 rfl Try.ntmps92 (Nat.le_of_ble_eq_true (by kernel_rfl)) (sat0 w) ?_
  refine g_run 9999 [] 0 (by kernel_rfl) ?_
  refine g_new (fun b => by kernel_rfl) fun b0 hb0 => ?_
  refine g_run 9999 ([0]) 0 (by kernel_rfl) ?_
  refine g_dec 5 (n.kind == 1) (by kernel_rfl) (fun h5 => ?_) (fun h5 => ?_)
  · refine g_run 9999 [] 2 (by kernel_rfl) ?_
    refine g_ret [] (Value.bool true) (by kernel_rfl) (by kernel_rfl) (by kernel_rfl) fun w' hs => ?_
    exact ⟨ret_bool (by clear hs; (try simp at *); first | (simp [brokenB, *]; done) | (simp_all [brokenB]; done)), hs.kept.kept⟩
  · refine g_run 9999 [] 1 (by kernel_rfl) ?_
    refine g_dec 5 (n.kind == 2) (by kernel_rfl) (fun h5 => ?_) (fun h5 => ?_)
    · refine g_run 9999 [] 2 (by kernel_rfl) ?_
      refine g_ret [] (Value.bool true) (by kernel_rfl) (by kernel_rfl) (by kernel_rfl) fun w' hs => ?_
      exact ⟨ret_bool (by clear hs; (try simp at *); first | (simp [brokenB, *]; done) | (simp_all [brokenB]; done)), hs.kept.kept⟩
    · refine g_run 9999 [] 1 (by kernel_rfl) ?_
      refine g_dec 5 (n.kind == 8) (by kernel_rfl) (fun h5 => ?_) (fun h5 => ?_)
      · refine g_run 9999 [] 2 (by kernel_rfl) ?_
        refine g_ret [] (Value.bool true) (by kernel_rfl) (by kernel_rfl) (by kernel_rfl) fun w' hs => ?_
        exact ⟨ret_bool (by clear hs; (try simp at *); first | (simp [brokenB, *]; done) | (simp_all [brokenB]; done)), hs.kept.kept⟩
      · refine g_run 9999 [] 1 (by kernel_rfl) ?_
        refine g_dec 5 (n.kind == 3) (by kernel_rfl) (fun h5 => ?_) (fun h5 => ?_)
        · refine g_run 9999 [] 2 (by kernel_rfl) ?_
          refine g_ret [] (Value.bool true) (by kernel_rfl) (by kernel_rfl) (by kernel_rfl) fun w' hs => ?_
          exact ⟨ret_bool (by clear hs; (try simp at *); first | (simp [brokenB, *]; done) | (simp_all [brokenB]; done)), hs.kept.kept⟩
        · refine g_run 9999 [] 1 (by kernel_rfl) ?_
          refine g_dec 5 (n.kind == 4) (by kernel_rfl) (fun h5 => ?_) (fun h5 => ?_)
          · refine g_run 9999 [] 2 (by kernel_rfl) ?_
            refine g_ret [] (Value.bool true) (by kernel_rfl) (by kernel_rfl) (by kernel_rfl) fun w' hs => ?_
            exact ⟨ret_bool (by clear hs; (try simp at *); first | (simp [brokenB, *]; done) | (simp_all [brokenB]; done)), hs.kept.kept⟩
          · refine g_run 9999 [] 1 (by kernel_rfl) ?_
            refine g_dec 5 (n.kind == 5) (by kernel_rfl) (fun h5 => ?_) (fun h5 => ?_)
            · refine g_run 9999 [] 1 (by kernel_rfl) ?_
              refine g_ret [] (Value.bool true) (by kernel_rfl) (by kernel_rfl) (by kernel_rfl) fun w' hs => ?_
              exact ⟨ret_bool (by clear hs; (try simp at *); first | (simp [brokenB, *]; done) | (simp_all [brokenB]; done)), hs.kept.kept⟩
            · refine g_run 9999 [] 1 (by kernel_rfl) ?_
              refine g_ret [] (Value.bool false) (by kernel_rfl) (by kernel_rfl) (by kernel_rfl) fun w' hs => ?_
              exact ⟨ret_bool (by clear hs; (try simp at *); first | (simp [brokenB, *]; done) | (simp_all [brokenB]; done)), hs.kept.kept⟩
set_option maxRecDepth 100000 in
set_option maxHeartbeats 4000000 in
theorem ropens_any (n : Nod) (w : World) :
    Calls Try.prog 49 #[nodV n] w fun e w' => e = .returned (.bool (enters n.kind)) ∧ Kept w w' := by
  refine g_enter (args := [nodV n]) [] [] Try.func49 rfl Try.ntmps49 (Nat.le_of_ble_eq_true (by kernel_rfl)) (sat0 w) ?_
  refine g_run 9999 [] 0 (by kernel_rfl) ?_
  refine g_new (fun b => by kernel_rfl) fun b0 hb0 => ?_
  refine g_run 9999 ([0]) 0 (by kernel_rfl) ?_
  refine g_dec 6 (n.kind == 4) (by kernel_rfl) (fun h6 => ?_) (fun h6 => ?_)
  · refine g_run 9999 [] 12 (by kernel_rfl) ?_
    refine g_ret [] (Value.bool true) (by kernel_rfl) (by kernel_rfl) (by kernel_rfl) fun w' hs => ?_
    exact ⟨ret_bool (by clear hs; (try simp at *); first | (simp [enters, *]; done) | (rw [Bool.eq_iff_iff]; simp [enters, *]; done) | omega), hs.kept.kept⟩
  · refine g_run 9999 ([0]) 3 (by kernel_rfl) ?_
    refine g_dec 11 (n.kind == 5) (by kernel_rfl) (fun h11 => ?_) (fun h11 => ?_)
    · refine g_run 9999 [] 9 (by kernel_rfl) ?_
      refine g_ret [] (Value.bool true) (by kernel_rfl) (by kernel_rfl) (by kernel_rfl) fun w' hs => ?_
      exact ⟨ret_bool (by clear hs; (try simp at *); first | (simp [enters, *]; done) | (rw [Bool.eq_iff_iff]; simp [enters, *]; done) | omega), hs.kept.kept⟩
    · refine g_run 9999 ([0]) 3 (by kernel_rfl) ?_
      refine g_dec 16 (n.kind == 10) (by kernel_rfl) (fun h16 => ?_) (fun h16 => ?_)
      · refine g_run 9999 [] 6 (by kernel_rfl) ?_
        refine g_ret [] (Value.bool true) (by kernel_rfl) (by kernel_rfl) (by kernel_rfl) fun w' hs => ?_
        exact ⟨ret_bool (by clear hs; (try simp at *); first | (simp [enters, *]; done) | (rw [Bool.eq_iff_iff]; simp [enters, *]; done) | omega), hs.kept.kept⟩
      · refine g_run 9999 ([0]) 3 (by kernel_rfl) ?_
        refine g_dec 21 (n.kind == 13) (by kernel_rfl) (fun h21 => ?_) (fun h21 => ?_)
        · refine g_run 9999 [] 3 (by kernel_rfl) ?_
          refine g_ret [] (Value.bool true) (by kernel_rfl) (by kernel_rfl) (by kernel_rfl) fun w' hs => ?_
          exact ⟨ret_bool (by clear hs; (try simp at *); first | (simp [enters, *]; done) | (rw [Bool.eq_iff_iff]; simp [enters, *]; done) | omega), hs.kept.kept⟩
        · refine g_run 9999 ([0]) 3 (by kernel_rfl) ?_
          refine g_ret [] (Value.bool (n.kind == 17)) (by kernel_rfl) (by kernel_rfl) (by kernel_rfl) fun w' hs => ?_
          exact ⟨ret_bool (by clear hs; (try simp at *); first | (simp [enters, *]; done) | (rw [Bool.eq_iff_iff]; simp [enters, *]; done) | omega), hs.kept.kept⟩
end Go.Proofs.Ytdadfhhcfmdfkaa
