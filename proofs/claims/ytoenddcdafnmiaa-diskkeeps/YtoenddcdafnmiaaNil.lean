/-
  A nil disk: what each call answers; few.
-/
import Derived.Test.YtoenddcdafnmiaaName
import Derived.Deep.RegionWith
import Derived.BigQuiet
namespace Go.Proofs.Ytoenddcdafnmiaa
open Go.RowKit Go.Maps
set_option maxRecDepth 100000 in
theorem room_nil (n : Int) (w : World) : Calls Try.prog 21 #[.pointer none, .int .i64 n] w fun e w' => e = .returned (.tuple #[]) ∧ w' = w := by
  go_enter Try.func21, Try.ntmps21
  go_wp2
  first
  | exact bodyPost_ret (results_none rfl _ _ _) rfl ⟨rfl, rfl⟩
  | exact bodyPost_end (results_none rfl _ _ _) rfl ⟨rfl, rfl⟩
set_option maxRecDepth 100000 in
theorem plan_nil (a : Option Addr) (n c : Nat) (w : World) : Calls Try.prog 22 #[.pointer none, .slice a n c] w fun e w' => e = .returned (.tuple #[]) ∧ w' = w := by
  go_enter Try.func22, Try.ntmps22
  go_wp2
  first
  | exact bodyPost_ret (results_none rfl _ _ _) rfl ⟨rfl, rfl⟩
  | exact bodyPost_end (results_none rfl _ _ _) rfl ⟨rfl, rfl⟩
set_option maxRecDepth 100000 in
theorem crash_nil (n m : Int) (w : World) : Calls Try.prog 15 #[.pointer none, .int .i64 n, .int .i64 m] w fun e w' => e = .returned (.tuple #[]) ∧ w' = w := by
  go_enter Try.func15, Try.ntmps15
  go_wp2_with (go_at_call 18; refine (dead_nil _).mono ?_; rintro e w' ⟨rfl, rfl⟩)
  first
  | exact bodyPost_ret (results_none rfl _ _ _) rfl ⟨rfl, rfl⟩
  | exact bodyPost_end (results_none rfl _ _ _) rfl ⟨rfl, rfl⟩
set_option maxRecDepth 100000 in
theorem read_nil (s : ByteArray) (w : World) : Calls Try.prog 23 #[.pointer none, .string s] w fun e w' => e = .returned (.tuple #[.string ⟨#[]⟩, .int .i64 7]) ∧ w' = w := by
  go_enter Try.func23, Try.ntmps23
  go_wp2_with (go_at_call 18; refine (dead_nil _).mono ?_; rintro e w' ⟨rfl, rfl⟩)
  go_ret2
  exact ⟨rfl, rfl⟩
set_option maxRecDepth 100000 in
theorem sync_nil (w : World) : Calls Try.prog 11 #[.pointer none] w fun e w' => e = .returned (.int .i64 7) ∧ w' = w := by
  go_enter Try.func11, Try.ntmps11
  go_wp2_with (go_at_call 18; refine (dead_nil _).mono ?_; rintro e w' ⟨rfl, rfl⟩)
  go_ret
  exact ⟨rfl, rfl⟩
set_option maxRecDepth 100000 in
theorem names_nil (w : World) : Calls Try.prog 27 #[.pointer none] w fun e w' => e = .returned (.slice none 0 0) ∧ w' = w := by
  go_enter Try.func27, Try.ntmps27
  go_wp2
  go_ret
  exact ⟨rfl, rfl⟩
set_option maxRecDepth 100000 in
theorem used_nil (w : World) : Calls Try.prog 19 #[.pointer none] w fun e w' => e = .returned (.int .i64 0) ∧ w' = w := by
  go_enter Try.func19, Try.ntmps19
  go_wp2
  go_ret
  exact ⟨rfl, rfl⟩
set_option maxRecDepth 100000 in
theorem changes_nil (w : World) : Calls Try.prog 28 #[.pointer none] w fun e w' => e = .returned (.int .i64 0) ∧ w' = w := by
  go_enter Try.func28, Try.ntmps28
  go_wp2
  go_ret
  exact ⟨rfl, rfl⟩
set_option maxRecDepth 100000 in
theorem loose_nil (w : World) : Calls Try.prog 20 #[.pointer none] w fun e w' => e = .returned (.int .i64 0) ∧ w' = w := by
  go_enter Try.func20, Try.ntmps20
  go_wp2
  go_ret
  exact ⟨rfl, rfl⟩
set_option maxRecDepth 100000 in
theorem clone_nil (w : World) : Calls Try.prog 14 #[.pointer none] w fun e w' => e = .returned (.pointer none) ∧ w' = w := by
  go_enter Try.func14, Try.ntmps14
  go_wp2
  go_ret
  exact ⟨rfl, rfl⟩
set_option maxRecDepth 100000 in
theorem refusal_nil (k n : Int) (a s t : ByteArray) (w : World) : Calls Try.prog 57 #[.pointer none, .agg #[.int .i64 k, .string a, .string s, .string t, .int .i64 n]] w fun e w' => e = .returned (.int .i64 7) ∧ w.grownBy w' none := by
  go_enter Try.func57, Try.ntmps57
  go_wp2_with (go_at_call 18; refine (dead_nil _).mono ?_; rintro e w' ⟨rfl, rfl⟩)
  go_ret
  exact ⟨rfl, grown_alloc (grown_refl _ _) _⟩
set_option maxRecDepth 100000 in
theorem perform_nil (k n : Int) (a s t : ByteArray) (w : World) : Calls Try.prog 47 #[.pointer none, .agg #[.int .i64 k, .string a, .string s, .string t, .int .i64 n]] w fun e w' => e = .returned (.int .i64 7) ∧ w.grownBy w' none := by
  go_enter Try.func47, Try.ntmps47
  go_wp2_with (go_at_call 57; refine (refusal_nil k n a s t _).mono ?_; rintro e w' ⟨rfl, hg⟩; have G : Hid (w.grownBy w' none) := grown_none (grown_alloc (grown_refl _ _) _) hg; clear hg)
  go_ret
  exact ⟨rfl, G.out⟩
set_option maxRecDepth 100000 in
theorem append_nil (a s : ByteArray) (w : World) : Calls Try.prog 33 #[.pointer none, .string a, .string s] w fun e w' => e = .returned (.int .i64 7) ∧ w.grownBy w' none := by
  go_enter Try.func33, Try.ntmps33
  go_wp2_with (go_at_call 47; refine (perform_nil 0 0 a s ⟨#[]⟩ _).mono ?_; rintro e w' ⟨rfl, hg⟩; have G : Hid (w.grownBy w' none) := hg; clear hg)
  go_ret
  exact ⟨rfl, G.out⟩
set_option maxRecDepth 100000 in
theorem write_nil (a s : ByteArray) (w : World) : Calls Try.prog 34 #[.pointer none, .string a, .string s] w fun e w' => e = .returned (.int .i64 7) ∧ w.grownBy w' none := by
  go_enter Try.func34, Try.ntmps34
  go_wp2_with (go_at_call 47; refine (perform_nil 1 0 a s ⟨#[]⟩ _).mono ?_; rintro e w' ⟨rfl, hg⟩; have G : Hid (w.grownBy w' none) := hg; clear hg)
  go_ret
  exact ⟨rfl, G.out⟩
set_option maxRecDepth 100000 in
theorem move_nil (a t : ByteArray) (w : World) : Calls Try.prog 40 #[.pointer none, .string a, .string t] w fun e w' => e = .returned (.int .i64 7) ∧ w.grownBy w' none := by
  go_enter Try.func40, Try.ntmps40
  go_wp2_with (go_at_call 47; refine (perform_nil 2 0 a ⟨#[]⟩ t _).mono ?_; rintro e w' ⟨rfl, hg⟩; have G : Hid (w.grownBy w' none) := hg; clear hg)
  go_ret
  exact ⟨rfl, G.out⟩
set_option maxRecDepth 100000 in
theorem remove_nil (a : ByteArray) (w : World) : Calls Try.prog 41 #[.pointer none, .string a] w fun e w' => e = .returned (.int .i64 7) ∧ w.grownBy w' none := by
  go_enter Try.func41, Try.ntmps41
  go_wp2_with (go_at_call 47; refine (perform_nil 3 0 a ⟨#[]⟩ ⟨#[]⟩ _).mono ?_; rintro e w' ⟨rfl, hg⟩; have G : Hid (w.grownBy w' none) := hg; clear hg)
  go_ret
  exact ⟨rfl, G.out⟩
set_option maxRecDepth 100000 in
theorem truncate_nil (a : ByteArray) (n : Int) (w : World) : Calls Try.prog 42 #[.pointer none, .string a, .int .i64 n] w fun e w' => e = .returned (.int .i64 7) ∧ w.grownBy w' none := by
  go_enter Try.func42, Try.ntmps42
  go_wp2_with (go_at_call 47; refine (perform_nil 4 n a ⟨#[]⟩ ⟨#[]⟩ _).mono ?_; rintro e w' ⟨rfl, hg⟩; have G : Hid (w.grownBy w' none) := hg; clear hg)
  go_ret
  exact ⟨rfl, G.out⟩
/-- A text that is not too long. -/
def fewS (s : ByteArray) : ByteArray := if 60 < s.size then s.extract 0 60 else s
theorem fewS_size (s : ByteArray) : (fewS s).size ≤ 60 := by
  unfold fewS
  split
  · rw [ByteArray.size_extract]; omega
  · omega
set_option maxRecDepth 100000 in
theorem few_any (s : ByteArray) (w : World) : Calls Try.prog 30 #[.string s] w fun e w' => e = .returned (.string (fewS s)) ∧ w' = w := by
  by_cases h : 60 < s.size
  · have e : fewS s = s.extract 0 60 := by unfold fewS; rw [if_pos h]
    rw [e]
    have i1 : (60 : Int) < s.size := by omega
    go_enter Try.func30, Try.ntmps30
    go_wp2
    go_ret
    exact ⟨rfl, rfl⟩
  · have e : fewS s = s := by unfold fewS; rw [if_neg h]
    rw [e]
    have i1 : ¬ (60 : Int) < s.size := by omega
    go_enter Try.func30, Try.ntmps30
    go_wp2
    go_ret
    exact ⟨rfl, rfl⟩
end Go.Proofs.Ytoenddcdafnmiaa
