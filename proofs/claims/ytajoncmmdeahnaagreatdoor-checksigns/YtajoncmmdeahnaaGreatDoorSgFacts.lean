/-
  What the row of CheckSigns says of the program, a part each.
-/
import Derived.Test.YtajoncmmdeahnaaGreatDoorRows
import Derived.ProofKit
import Derived.OpenShut
import Derived.Stop.Joined
namespace Go.Proofs.YtajoncmmdeahnaaGreatDoor
theorem and_t {a b : Bool} (h : a = true) (k : b = true) : (a && b) = true := by rw [h, k]; rfl
theorem signs_e1 : (Rows.checkSignsRow.inPlace == Tryz.prog.inPlace 5) = true := by kernel_rfl
theorem signs_e2 : (Rows.checkSignsRow.unfollowed == Tryz.prog.unfollowed 5) = true := by kernel_rfl
theorem signs_e3 : (Rows.checkSignsRow.recurses == Tryz.prog.recurses 5) = true := by kernel_rfl
theorem signs_e4 : (Rows.checkSignsRow.named == Tryz.prog.varsNamed 5) = true := by kernel_rfl
set_option maxRecDepth 100000 in
set_option maxHeartbeats 40000000 in
theorem signs_facts : joinedFacts Tryz.checked.prog 5 Tryz.f5 Rows.checkSignsSpec Rows.checkSignsRow = true := by
  unfold joinedFacts
  refine and_t (and_t (and_t (and_t (and_t (and_t (and_t (and_t (and_t (and_t (and_t (and_t (and_t (and_t (and_t (and_t (and_t (and_t (and_t (and_t (and_t (and_t (and_t (and_t (and_t (and_t (and_t (and_t (and_t (and_t (and_t ?_ ?_) ?_) ?_) ?_) ?_) ?_) ?_) ?_) signs_e1) signs_e2) signs_e3) signs_e4) ?_) ?_) ?_) ?_) ?_) ?_) ?_) ?_) ?_) ?_) ?_) ?_) ?_) ?_) ?_) ?_) ?_) ?_) ?_
  all_goals (as_aux_lemma => kernel_rfl)
end Go.Proofs.YtajoncmmdeahnaaGreatDoor
