/-
  A change of a nil disk.
-/
import Derived.Test.YtoenddcdafnmiaaNil
namespace Go.Proofs.Ytoenddcdafnmiaa
open Go.RowKit Go.Maps
set_option maxRecDepth 100000 in
set_option maxHeartbeats 1000000 in
theorem change_nil (k k' n x y z : Int) (a t s : ByteArray) (w : World) : Calls Try.prog 26 #[.pointer none, .int .i64 k, .agg #[.int .i64 k', .string a, .string t, .string s, .int .i64 n, .int .i64 x, .int .i64 y, .int .i64 z]] w fun e w' => e = .returned (.int .i64 7) ∧ w.grownBy w' none := by
  have CF : Hid (∀ w, Calls Try.prog 30 #[.string s] w fun e w' => e = .returned (.string (fewS s)) ∧ w' = w) := fun w => few_any s w
  generalize fewS s = f at *
  by_cases h0 : k = 0
  · subst h0
    go_enter Try.func26, Try.ntmps26
    go_wp2_with fail
    go_region_with (first | (go_at_call 30; refine (CF.out _).mono ?_; clear CF; rintro e w' ⟨rfl, hw⟩; have hw2 := hw.symm; clear hw; subst hw2) | (go_at_call 33; refine (append_nil a f _).mono ?_; rintro e w' ⟨rfl, hg⟩; have G : Hid (w.grownBy w' none) := grown_none (grown_drew (grown_alloc (grown_refl _ _) _)) hg; clear hg))
    all_goals (
      go_wp2_with fail
      go_ret
      exact ⟨rfl, G.out⟩)
  have e0 : (k == 0) = false := by simp; exact h0
  by_cases h1 : k = 1
  · subst h1
    clear e0 h0
    go_enter Try.func26, Try.ntmps26
    go_wp2_with fail
    go_region_with (first | (go_at_call 30; refine (CF.out _).mono ?_; clear CF; rintro e w' ⟨rfl, hw⟩; have hw2 := hw.symm; clear hw; subst hw2) | (go_at_call 34; refine (write_nil a f _).mono ?_; rintro e w' ⟨rfl, hg⟩; have G : Hid (w.grownBy w' none) := grown_none (grown_drew (grown_alloc (grown_refl _ _) _)) hg; clear hg))
    all_goals (
      go_wp2_with fail
      go_ret
      exact ⟨rfl, G.out⟩)
  have e1 : (k == 1) = false := by simp; exact h1
  by_cases h2 : k = 2
  · subst h2
    clear e0 h0 e1 h1
    go_enter Try.func26, Try.ntmps26
    go_wp2_with (go_at_call 40; refine (move_nil a t _).mono ?_; rintro e w' ⟨rfl, hg⟩; have G : Hid (w.grownBy w' none) := grown_none (grown_alloc (grown_refl _ _) _) hg; clear hg)
    go_ret
    exact ⟨rfl, G.out⟩
  have e2 : (k == 2) = false := by simp; exact h2
  by_cases h3 : k = 3
  · subst h3
    clear e0 h0 e1 h1 e2 h2
    go_enter Try.func26, Try.ntmps26
    go_wp2_with (go_at_call 41; refine (remove_nil a _).mono ?_; rintro e w' ⟨rfl, hg⟩; have G : Hid (w.grownBy w' none) := grown_none (grown_alloc (grown_refl _ _) _) hg; clear hg)
    go_ret
    exact ⟨rfl, G.out⟩
  have e3 : (k == 3) = false := by simp; exact h3
  clear h0 h1 h2 h3
  go_enter Try.func26, Try.ntmps26
  go_wp2_with (go_at_call 42; refine (truncate_nil a n _).mono ?_; rintro e w' ⟨rfl, hg⟩; have G : Hid (w.grownBy w' none) := grown_none (grown_alloc (grown_refl _ _) _) hg; clear hg)
  go_ret
  exact ⟨rfl, G.out⟩
end Go.Proofs.Ytoenddcdafnmiaa
