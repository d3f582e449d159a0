/-
  What the row of CheckScopes says of the program, a part each.
-/
import Derived.Test.YtajoncmmdeahnaaGreatDoorRows
import Derived.ProofKit
import Derived.OpenShut
import Derived.Stop.Joined
namespace Go.Proofs.YtajoncmmdeahnaaGreatDoor
theorem and_t {a b : Bool} (h : a = true) (k : b = true) : (a && b) = true := by rw [h, k]; rfl
theorem scopes_e1 : (Rows.checkScopesRow.inPlace == Tryz.prog.inPlace 4) = true := by kernel_rfl
theorem scopes_e2 : (Rows.checkScopesRow.unfollowed == Tryz.prog.unfollowed 4) = true := by kernel_rfl
theorem scopes_e3 : (Rows.checkScopesRow.recurses == Tryz.prog.recurses 4) = true := by kernel_rfl
theorem scopes_e4 : (Rows.checkScopesRow.named == Tryz.prog.varsNamed 4) = true := by kernel_rfl
set_option maxRecDepth 100000 in
set_option maxHeartbeats 40000000 in
theorem scopes_facts : joinedFacts Tryz.checked.prog 4 Tryz.f4 Rows.checkScopesSpec Rows.checkScopesRow = true := by
  unfold joinedFacts
  refine and_t (and_t (and_t (and_t (and_t (and_t (and_t (and_t (and_t (and_t (and_t (and_t (and_t (and_t (and_t (and_t (and_t (and_t (and_t (and_t (and_t (and_t (and_t (and_t (and_t (and_t (and_t (and_t (and_t (and_t (and_t ?_ ?_) ?_) ?_) ?_) ?_) ?_) ?_) ?_) scopes_e1) scopes_e2) scopes_e3) scopes_e4) ?_) ?_) ?_) ?_) ?_) ?_) ?_) ?_) ?_) ?_) ?_) ?_) ?_) ?_) ?_) ?_) ?_) ?_) ?_
  all_goals (as_aux_lemma => kernel_rfl)
end Go.Proofs.YtajoncmmdeahnaaGreatDoor
