/-
  What the row of ParseRanks says of the program, a part each.
-/
import Derived.Test.YtajoncmmdeahnaaGreatDoorRows
import Derived.ProofKit
import Derived.OpenShut
import Derived.Stop.Joined
namespace Go.Proofs.YtajoncmmdeahnaaGreatDoor
theorem and_t {a b : Bool} (h : a = true) (k : b = true) : (a && b) = true := by rw [h, k]; rfl
theorem ranks_e1 : (Rows.parseRanksRow.inPlace == Tryz.prog.inPlace 3) = true := by kernel_rfl
theorem ranks_e2 : (Rows.parseRanksRow.unfollowed == Tryz.prog.unfollowed 3) = true := by kernel_rfl
theorem ranks_e3 : (Rows.parseRanksRow.recurses == Tryz.prog.recurses 3) = true := by kernel_rfl
theorem ranks_e4 : (Rows.parseRanksRow.named == Tryz.prog.varsNamed 3) = true := by kernel_rfl
set_option maxRecDepth 100000 in
set_option maxHeartbeats 40000000 in
theorem ranks_facts : joinedFacts Tryz.checked.prog 3 Tryz.f3 Rows.parseRanksSpec Rows.parseRanksRow = true := by
  unfold joinedFacts
  refine and_t (and_t (and_t (and_t (and_t (and_t (and_t (and_t (and_t (and_t (and_t (and_t (and_t (and_t (and_t (and_t (and_t (and_t (and_t (and_t (and_t (and_t (and_t (and_t (and_t (and_t (and_t (and_t (and_t (and_t (and_t ?_ ?_) ?_) ?_) ?_) ?_) ?_) ?_) ?_) ranks_e1) ranks_e2) ranks_e3) ranks_e4) ?_) ?_) ?_) ?_) ?_) ?_) ?_) ?_) ?_) ?_) ?_) ?_) ?_) ?_) ?_) ?_) ?_) ?_) ?_
  all_goals (as_aux_lemma => kernel_rfl)
end Go.Proofs.YtajoncmmdeahnaaGreatDoor
