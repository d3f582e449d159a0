/-
  What the row of InterpLoops says of the program, a part each.
-/
import Derived.Test.YtajoncmmdeahnaaGreatDoorRows
import Derived.ProofKit
import Derived.OpenShut
import Derived.Stop.Joined
namespace Go.Proofs.YtajoncmmdeahnaaGreatDoor
theorem and_t {a b : Bool} (h : a = true) (k : b = true) : (a && b) = true := by rw [h, k]; rfl
theorem loops_e1 : (Rows.interpLoopsRow.inPlace == Tryz.prog.inPlace 7) = true := by kernel_rfl
theorem loops_e2 : (Rows.interpLoopsRow.unfollowed == Tryz.prog.unfollowed 7) = true := by kernel_rfl
theorem loops_e3 : (Rows.interpLoopsRow.recurses == Tryz.prog.recurses 7) = true := by kernel_rfl
theorem loops_e4 : (Rows.interpLoopsRow.named == Tryz.prog.varsNamed 7) = true := by kernel_rfl
set_option maxRecDepth 100000 in
set_option maxHeartbeats 40000000 in
theorem loops_facts : joinedFacts Tryz.checked.prog 7 Tryz.f7 Rows.interpLoopsSpec Rows.interpLoopsRow = true := by
  unfold joinedFacts
  refine and_t (and_t (and_t (and_t (and_t (and_t (and_t (and_t (and_t (and_t (and_t (and_t (and_t (and_t (and_t (and_t (and_t (and_t (and_t (and_t (and_t (and_t (and_t (and_t (and_t (and_t (and_t (and_t (and_t (and_t (and_t ?_ ?_) ?_) ?_) ?_) ?_) ?_) ?_) ?_) loops_e1) loops_e2) loops_e3) loops_e4) ?_) ?_) ?_) ?_) ?_) ?_) ?_) ?_) ?_) ?_) ?_) ?_) ?_) ?_) ?_) ?_) ?_) ?_) ?_
  all_goals (as_aux_lemma => kernel_rfl)
end Go.Proofs.YtajoncmmdeahnaaGreatDoor
