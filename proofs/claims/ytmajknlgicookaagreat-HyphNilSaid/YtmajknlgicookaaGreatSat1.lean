/- No block, one block that came in. -/
import Derived.Test.YtmajknlgicookaaGreatFast3
namespace Go.Proofs.YtmajknlgicookaaGreat
open Go.RowKit
theorem sat1 {w : World} {b : Nat} {cs : List Value} {T : TypeId} (h : w.heap[b]? = some (.cells cs.toArray T (0, 0))) : Sat w [] [.obj false b cs T] w :=
  ⟨.refl _ _, fun e he => by rw [List.mem_singleton.1 he]; exact ⟨h, fun e => by cases e⟩, fun i j e e' hij hi hj ho => by
    have := List.mem_of_getElem? hi
    rw [List.mem_singleton.1 this] at ho
    cases ho⟩
theorem sat0 (w : World) : Sat w [] [] w := ⟨.refl _ _, fun e he => by simp at he, fun i j e e' _ hi => by simp at hi⟩
end Go.Proofs.YtmajknlgicookaaGreat
