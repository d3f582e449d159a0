/-
  growth, nextFall, refusal: why a change may not be.
-/
import Derived.Test.YtddnjlnnkeiplaaDo
import Derived.Deep.RegionHeld3
import Derived.BigQuiet
import Derived.Deep.QuietTactic
namespace Go.Proofs.Ytddnjlnnkeiplaa
open Go.RowKit Go.Maps
set_option maxRecDepth 100000 in
theorem growth_any (b : Nat) (n : Int) (w : World) (h6 : w.cell? ⟨b, 6, none⟩ = some (.bool false)) : Calls Try.prog 79 #[.pointer (some ⟨b, 0, none⟩), .int .i64 n] w fun e w' => e = .returned (.int .i64 0) ∧ ∃ k, w' = w.drewN k := by
  by_cases hn : 0 < n
  · have hd : decide (0 < n) = true := by simpa using hn
    go_enter Try.func79, Try.ntmps79
    go_wp2_with fail
    go_quiet (fail)
    go_wp2_with fail
    go_ret
    exact ⟨rfl, _, rfl⟩
  · have hd : decide (0 < n) = false := by simpa using hn
    go_enter Try.func79, Try.ntmps79
    go_wp2_with fail
    go_quiet (fail)
    go_wp2_with fail
    go_ret
    exact ⟨rfl, _, rfl⟩
set_option maxRecDepth 100000 in
theorem index_none (f : Value) (w : World) : Calls Try.prog 80 #[.slice none 0 0, f] w fun e w' => e = .returned (.int .i64 (-1)) ∧ w' = w := by
  go_enter Try.func80, Try.ntmps80
  go_wp2
  refine wp_loop_rounds 1 ?_
  rw [rounds_succ]
  go_wp2
  go_ret
  exact ⟨rfl, rfl⟩
set_option maxRecDepth 100000 in
theorem nextFall_any (b : Nat) (w : World) (h4 : w.cell? ⟨b, 4, none⟩ = some (.slice none 0 0)) : Calls Try.prog 73 #[.pointer (some ⟨b, 0, none⟩)] w fun e w' => e = .returned (.int .i64 (-1)) ∧ w.grownBy w' none := by
  have hb : b < w.heap.size := World.block_lt_of_cell? _ _ h4
  go_enter Try.func73, Try.ntmps73
  go_wp2_with (go_at_call 80; refine (index_none _ _).mono ?_; rintro e w' ⟨rfl, hw⟩; have hw2 := hw.symm; clear hw; subst hw2)
  go_ret
  exact ⟨rfl, grown_alloc (grown_refl _ _) _⟩
end Go.Proofs.Ytddnjlnnkeiplaa
