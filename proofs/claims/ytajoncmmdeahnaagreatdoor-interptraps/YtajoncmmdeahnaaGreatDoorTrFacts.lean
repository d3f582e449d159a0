/-
  What the row of InterpTraps says of the program, a part each.
-/
import Derived.Test.YtajoncmmdeahnaaGreatDoorRows
import Derived.ProofKit
import Derived.OpenShut
import Derived.Stop.Joined
namespace Go.Proofs.YtajoncmmdeahnaaGreatDoor
theorem and_t {a b : Bool} (h : a = true) (k : b = true) : (a && b) = true := by rw [h, k]; rfl
theorem traps_e1 : (Rows.interpTrapsRow.inPlace == Tryz.prog.inPlace 8) = true := by kernel_rfl
theorem traps_e2 : (Rows.interpTrapsRow.unfollowed == Tryz.prog.unfollowed 8) = true := by kernel_rfl
theorem traps_e3 : (Rows.interpTrapsRow.recurses == Tryz.prog.recurses 8) = true := by kernel_rfl
theorem traps_e4 : (Rows.interpTrapsRow.named == Tryz.prog.varsNamed 8) = true := by kernel_rfl
set_option maxRecDepth 100000 in
set_option maxHeartbeats 40000000 in
theorem traps_facts : joinedFacts Tryz.checked.prog 8 Tryz.f8 Rows.interpTrapsSpec Rows.interpTrapsRow = true := by
  unfold joinedFacts
  refine and_t (and_t (and_t (and_t (and_t (and_t (and_t (and_t (and_t (and_t (and_t (and_t (and_t (and_t (and_t (and_t (and_t (and_t (and_t (and_t (and_t (and_t (and_t (and_t (and_t (and_t (and_t (and_t (and_t (and_t (and_t ?_ ?_) ?_) ?_) ?_) ?_) ?_) ?_) ?_) traps_e1) traps_e2) traps_e3) traps_e4) ?_) ?_) ?_) ?_) ?_) ?_) ?_) ?_) ?_) ?_) ?_) ?_) ?_) ?_) ?_) ?_) ?_) ?_) ?_
  all_goals (as_aux_lemma => kernel_rfl)
end Go.Proofs.YtajoncmmdeahnaaGreatDoor
