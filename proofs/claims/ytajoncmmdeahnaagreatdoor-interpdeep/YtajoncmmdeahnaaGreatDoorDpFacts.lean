/-
  What the row of InterpDeep says of the program, a part each.
-/
import Derived.Test.YtajoncmmdeahnaaGreatDoorRows
import Derived.ProofKit
import Derived.OpenShut
import Derived.Stop.Joined
namespace Go.Proofs.YtajoncmmdeahnaaGreatDoor
theorem and_t {a b : Bool} (h : a = true) (k : b = true) : (a && b) = true := by rw [h, k]; rfl
theorem deep_e1 : (Rows.interpDeepRow.inPlace == Tryz.prog.inPlace 6) = true := by kernel_rfl
theorem deep_e2 : (Rows.interpDeepRow.unfollowed == Tryz.prog.unfollowed 6) = true := by kernel_rfl
theorem deep_e3 : (Rows.interpDeepRow.recurses == Tryz.prog.recurses 6) = true := by kernel_rfl
theorem deep_e4 : (Rows.interpDeepRow.named == Tryz.prog.varsNamed 6) = true := by kernel_rfl
set_option maxRecDepth 100000 in
set_option maxHeartbeats 40000000 in
theorem deep_facts : joinedFacts Tryz.checked.prog 6 Tryz.f6 Rows.interpDeepSpec Rows.interpDeepRow = true := by
  unfold joinedFacts
  refine and_t (and_t (and_t (and_t (and_t (and_t (and_t (and_t (and_t (and_t (and_t (and_t (and_t (and_t (and_t (and_t (and_t (and_t (and_t (and_t (and_t (and_t (and_t (and_t (and_t (and_t (and_t (and_t (and_t (and_t (and_t ?_ ?_) ?_) ?_) ?_) ?_) ?_) ?_) ?_) deep_e1) deep_e2) deep_e3) deep_e4) ?_) ?_) ?_) ?_) ?_) ?_) ?_) ?_) ?_) ?_) ?_) ?_) ?_) ?_) ?_) ?_) ?_) ?_) ?_
  all_goals (as_aux_lemma => kernel_rfl)
end Go.Proofs.YtajoncmmdeahnaaGreatDoor
