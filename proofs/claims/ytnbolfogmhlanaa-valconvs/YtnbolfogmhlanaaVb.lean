/-
  Known, and what signs make of two whole numbers.
-/
import Derived.Test.YtnbolfogmhlanaaVa
namespace Go.Proofs.Ytnbolfogmhlanaa
open Go.RowKit
/-- What a sign says of two whole numbers. -/
def cmpI : BinOp → Int → Int → Bool
  | .lss, x, y => decide (x < y)
  | .leq, x, y => decide (x ≤ y)
  | .gtr, x, y => decide (y < x)
  | .geq, x, y => decide (y ≤ x)
  | .eql, x, y => x == y
  | _, x, y => x != y
set_option maxRecDepth 100000 in
theorem known_add_1 (w : World) : Calls Try.prog 14 #[.string ⟨#[43]⟩, .int .i64 1] w (StP (.bool true) w) := by
  have C1 : Hid (∀ W, Calls Try.prog 32 #[.int .i64 1] W (StP (.bool true) W)) := fun W => isNumber_1 W
  unfold StP at *
  go_enter Try.func14, Try.ntmps14
  go_wp2_with (first
    | (go_at_call 32; refine (C1.out _).mono ?_; rintro e w1 ⟨rfl, hw⟩; replace hw := hw.symm; subst hw))
  go_ret
  exact ⟨rfl, rfl⟩
set_option maxRecDepth 100000 in
theorem known_sub_1 (w : World) : Calls Try.prog 14 #[.string ⟨#[45]⟩, .int .i64 1] w (StP (.bool true) w) := by
  have C1 : Hid (∀ W, Calls Try.prog 32 #[.int .i64 1] W (StP (.bool true) W)) := fun W => isNumber_1 W
  unfold StP at *
  go_enter Try.func14, Try.ntmps14
  go_wp2_with (first
    | (go_at_call 32; refine (C1.out _).mono ?_; rintro e w1 ⟨rfl, hw⟩; replace hw := hw.symm; subst hw))
  go_ret
  exact ⟨rfl, rfl⟩
set_option maxRecDepth 100000 in
theorem known_mul_1 (w : World) : Calls Try.prog 14 #[.string ⟨#[42]⟩, .int .i64 1] w (StP (.bool true) w) := by
  have C1 : Hid (∀ W, Calls Try.prog 32 #[.int .i64 1] W (StP (.bool true) W)) := fun W => isNumber_1 W
  unfold StP at *
  go_enter Try.func14, Try.ntmps14
  go_wp2_with (first
    | (go_at_call 32; refine (C1.out _).mono ?_; rintro e w1 ⟨rfl, hw⟩; replace hw := hw.symm; subst hw))
  go_ret
  exact ⟨rfl, rfl⟩
set_option maxRecDepth 100000 in
theorem known_quo_1 (w : World) : Calls Try.prog 14 #[.string ⟨#[47]⟩, .int .i64 1] w (StP (.bool true) w) := by
  have C1 : Hid (∀ W, Calls Try.prog 32 #[.int .i64 1] W (StP (.bool true) W)) := fun W => isNumber_1 W
  unfold StP at *
  go_enter Try.func14, Try.ntmps14
  go_wp2_with (first
    | (go_at_call 32; refine (C1.out _).mono ?_; rintro e w1 ⟨rfl, hw⟩; replace hw := hw.symm; subst hw))
  go_ret
  exact ⟨rfl, rfl⟩
set_option maxRecDepth 100000 in
theorem known_rem_1 (w : World) : Calls Try.prog 14 #[.string ⟨#[37]⟩, .int .i64 1] w (StP (.bool true) w) := by
  unfold StP at *
  go_enter Try.func14, Try.ntmps14
  go_wp2
  go_ret
  exact ⟨rfl, rfl⟩
set_option maxRecDepth 100000 in
theorem known_lss_1 (w : World) : Calls Try.prog 14 #[.string ⟨#[60]⟩, .int .i64 1] w (StP (.bool true) w) := by
  have C1 : Hid (∀ W, Calls Try.prog 32 #[.int .i64 1] W (StP (.bool true) W)) := fun W => isNumber_1 W
  unfold StP at *
  go_enter Try.func14, Try.ntmps14
  go_wp2_with (first
    | (go_at_call 32; refine (C1.out _).mono ?_; rintro e w1 ⟨rfl, hw⟩; replace hw := hw.symm; subst hw))
  go_ret
  exact ⟨rfl, rfl⟩
set_option maxRecDepth 100000 in
theorem known_leq_1 (w : World) : Calls Try.prog 14 #[.string ⟨#[60, 61]⟩, .int .i64 1] w (StP (.bool true) w) := by
  have C1 : Hid (∀ W, Calls Try.prog 32 #[.int .i64 1] W (StP (.bool true) W)) := fun W => isNumber_1 W
  unfold StP at *
  go_enter Try.func14, Try.ntmps14
  go_wp2_with (first
    | (go_at_call 32; refine (C1.out _).mono ?_; rintro e w1 ⟨rfl, hw⟩; replace hw := hw.symm; subst hw))
  go_ret
  exact ⟨rfl, rfl⟩
set_option maxRecDepth 100000 in
theorem known_gtr_1 (w : World) : Calls Try.prog 14 #[.string ⟨#[62]⟩, .int .i64 1] w (StP (.bool true) w) := by
  have C1 : Hid (∀ W, Calls Try.prog 32 #[.int .i64 1] W (StP (.bool true) W)) := fun W => isNumber_1 W
  unfold StP at *
  go_enter Try.func14, Try.ntmps14
  go_wp2_with (first
    | (go_at_call 32; refine (C1.out _).mono ?_; rintro e w1 ⟨rfl, hw⟩; replace hw := hw.symm; subst hw))
  go_ret
  exact ⟨rfl, rfl⟩
set_option maxRecDepth 100000 in
theorem known_geq_1 (w : World) : Calls Try.prog 14 #[.string ⟨#[62, 61]⟩, .int .i64 1] w (StP (.bool true) w) := by
  have C1 : Hid (∀ W, Calls Try.prog 32 #[.int .i64 1] W (StP (.bool true) W)) := fun W => isNumber_1 W
  unfold StP at *
  go_enter Try.func14, Try.ntmps14
  go_wp2_with (first
    | (go_at_call 32; refine (C1.out _).mono ?_; rintro e w1 ⟨rfl, hw⟩; replace hw := hw.symm; subst hw))
  go_ret
  exact ⟨rfl, rfl⟩
set_option maxRecDepth 100000 in
theorem known_eql_1 (w : World) : Calls Try.prog 14 #[.string ⟨#[61, 61]⟩, .int .i64 1] w (StP (.bool true) w) := by
  have C1 : Hid (∀ W, Calls Try.prog 33 #[.int .i64 1] W (StP (.bool true) W)) := fun W => isType_1 W
  unfold StP at *
  go_enter Try.func14, Try.ntmps14
  go_wp2_with (first
    | (go_at_call 33; refine (C1.out _).mono ?_; rintro e w1 ⟨rfl, hw⟩; replace hw := hw.symm; subst hw))
  go_ret
  exact ⟨rfl, rfl⟩
set_option maxRecDepth 100000 in
theorem known_neq_1 (w : World) : Calls Try.prog 14 #[.string ⟨#[33, 61]⟩, .int .i64 1] w (StP (.bool true) w) := by
  have C1 : Hid (∀ W, Calls Try.prog 33 #[.int .i64 1] W (StP (.bool true) W)) := fun W => isType_1 W
  unfold StP at *
  go_enter Try.func14, Try.ntmps14
  go_wp2_with (first
    | (go_at_call 33; refine (C1.out _).mono ?_; rintro e w1 ⟨rfl, hw⟩; replace hw := hw.symm; subst hw))
  go_ret
  exact ⟨rfl, rfl⟩
set_option maxRecDepth 100000 in
theorem known_add_2 (w : World) : Calls Try.prog 14 #[.string ⟨#[43]⟩, .int .i64 2] w (StP (.bool true) w) := by
  have C1 : Hid (∀ W, Calls Try.prog 32 #[.int .i64 2] W (StP (.bool true) W)) := fun W => isNumber_2 W
  unfold StP at *
  go_enter Try.func14, Try.ntmps14
  go_wp2_with (first
    | (go_at_call 32; refine (C1.out _).mono ?_; rintro e w1 ⟨rfl, hw⟩; replace hw := hw.symm; subst hw))
  go_ret
  exact ⟨rfl, rfl⟩
set_option maxRecDepth 100000 in
theorem known_sub_2 (w : World) : Calls Try.prog 14 #[.string ⟨#[45]⟩, .int .i64 2] w (StP (.bool true) w) := by
  have C1 : Hid (∀ W, Calls Try.prog 32 #[.int .i64 2] W (StP (.bool true) W)) := fun W => isNumber_2 W
  unfold StP at *
  go_enter Try.func14, Try.ntmps14
  go_wp2_with (first
    | (go_at_call 32; refine (C1.out _).mono ?_; rintro e w1 ⟨rfl, hw⟩; replace hw := hw.symm; subst hw))
  go_ret
  exact ⟨rfl, rfl⟩
set_option maxRecDepth 100000 in
theorem known_mul_2 (w : World) : Calls Try.prog 14 #[.string ⟨#[42]⟩, .int .i64 2] w (StP (.bool true) w) := by
  have C1 : Hid (∀ W, Calls Try.prog 32 #[.int .i64 2] W (StP (.bool true) W)) := fun W => isNumber_2 W
  unfold StP at *
  go_enter Try.func14, Try.ntmps14
  go_wp2_with (first
    | (go_at_call 32; refine (C1.out _).mono ?_; rintro e w1 ⟨rfl, hw⟩; replace hw := hw.symm; subst hw))
  go_ret
  exact ⟨rfl, rfl⟩
set_option maxRecDepth 100000 in
theorem known_quo_2 (w : World) : Calls Try.prog 14 #[.string ⟨#[47]⟩, .int .i64 2] w (StP (.bool true) w) := by
  have C1 : Hid (∀ W, Calls Try.prog 32 #[.int .i64 2] W (StP (.bool true) W)) := fun W => isNumber_2 W
  unfold StP at *
  go_enter Try.func14, Try.ntmps14
  go_wp2_with (first
    | (go_at_call 32; refine (C1.out _).mono ?_; rintro e w1 ⟨rfl, hw⟩; replace hw := hw.symm; subst hw))
  go_ret
  exact ⟨rfl, rfl⟩
set_option maxRecDepth 100000 in
theorem known_lss_2 (w : World) : Calls Try.prog 14 #[.string ⟨#[60]⟩, .int .i64 2] w (StP (.bool true) w) := by
  have C1 : Hid (∀ W, Calls Try.prog 32 #[.int .i64 2] W (StP (.bool true) W)) := fun W => isNumber_2 W
  unfold StP at *
  go_enter Try.func14, Try.ntmps14
  go_wp2_with (first
    | (go_at_call 32; refine (C1.out _).mono ?_; rintro e w1 ⟨rfl, hw⟩; replace hw := hw.symm; subst hw))
  go_ret
  exact ⟨rfl, rfl⟩
set_option maxRecDepth 100000 in
theorem known_leq_2 (w : World) : Calls Try.prog 14 #[.string ⟨#[60, 61]⟩, .int .i64 2] w (StP (.bool true) w) := by
  have C1 : Hid (∀ W, Calls Try.prog 32 #[.int .i64 2] W (StP (.bool true) W)) := fun W => isNumber_2 W
  unfold StP at *
  go_enter Try.func14, Try.ntmps14
  go_wp2_with (first
    | (go_at_call 32; refine (C1.out _).mono ?_; rintro e w1 ⟨rfl, hw⟩; replace hw := hw.symm; subst hw))
  go_ret
  exact ⟨rfl, rfl⟩
set_option maxRecDepth 100000 in
theorem known_gtr_2 (w : World) : Calls Try.prog 14 #[.string ⟨#[62]⟩, .int .i64 2] w (StP (.bool true) w) := by
  have C1 : Hid (∀ W, Calls Try.prog 32 #[.int .i64 2] W (StP (.bool true) W)) := fun W => isNumber_2 W
  unfold StP at *
  go_enter Try.func14, Try.ntmps14
  go_wp2_with (first
    | (go_at_call 32; refine (C1.out _).mono ?_; rintro e w1 ⟨rfl, hw⟩; replace hw := hw.symm; subst hw))
  go_ret
  exact ⟨rfl, rfl⟩
set_option maxRecDepth 100000 in
theorem known_geq_2 (w : World) : Calls Try.prog 14 #[.string ⟨#[62, 61]⟩, .int .i64 2] w (StP (.bool true) w) := by
  have C1 : Hid (∀ W, Calls Try.prog 32 #[.int .i64 2] W (StP (.bool true) W)) := fun W => isNumber_2 W
  unfold StP at *
  go_enter Try.func14, Try.ntmps14
  go_wp2_with (first
    | (go_at_call 32; refine (C1.out _).mono ?_; rintro e w1 ⟨rfl, hw⟩; replace hw := hw.symm; subst hw))
  go_ret
  exact ⟨rfl, rfl⟩
set_option maxRecDepth 100000 in
theorem known_eql_2 (w : World) : Calls Try.prog 14 #[.string ⟨#[61, 61]⟩, .int .i64 2] w (StP (.bool true) w) := by
  have C1 : Hid (∀ W, Calls Try.prog 33 #[.int .i64 2] W (StP (.bool true) W)) := fun W => isType_2 W
  unfold StP at *
  go_enter Try.func14, Try.ntmps14
  go_wp2_with (first
    | (go_at_call 33; refine (C1.out _).mono ?_; rintro e w1 ⟨rfl, hw⟩; replace hw := hw.symm; subst hw))
  go_ret
  exact ⟨rfl, rfl⟩
set_option maxRecDepth 100000 in
theorem known_neq_2 (w : World) : Calls Try.prog 14 #[.string ⟨#[33, 61]⟩, .int .i64 2] w (StP (.bool true) w) := by
  have C1 : Hid (∀ W, Calls Try.prog 33 #[.int .i64 2] W (StP (.bool true) W)) := fun W => isType_2 W
  unfold StP at *
  go_enter Try.func14, Try.ntmps14
  go_wp2_with (first
    | (go_at_call 33; refine (C1.out _).mono ?_; rintro e w1 ⟨rfl, hw⟩; replace hw := hw.symm; subst hw))
  go_ret
  exact ⟨rfl, rfl⟩
set_option maxRecDepth 100000 in
theorem cmpI_lss (x y : Int) (w : World) : Calls Try.prog 39 #[.string ⟨#[60]⟩, .int .i64 x, .int .i64 y] w (StP (.bool (cmpI .lss x y)) w) := by
  unfold StP cmpI
  go_enter Try.func39, Try.ntmps39
  go_wp2
  go_ret
  exact ⟨rfl, rfl⟩
set_option maxRecDepth 100000 in
theorem cmpI_leq (x y : Int) (w : World) : Calls Try.prog 39 #[.string ⟨#[60, 61]⟩, .int .i64 x, .int .i64 y] w (StP (.bool (cmpI .leq x y)) w) := by
  unfold StP cmpI
  go_enter Try.func39, Try.ntmps39
  go_wp2
  go_ret
  exact ⟨rfl, rfl⟩
set_option maxRecDepth 100000 in
theorem cmpI_gtr (x y : Int) (w : World) : Calls Try.prog 39 #[.string ⟨#[62]⟩, .int .i64 x, .int .i64 y] w (StP (.bool (cmpI .gtr x y)) w) := by
  unfold StP cmpI
  go_enter Try.func39, Try.ntmps39
  go_wp2
  go_ret
  exact ⟨rfl, rfl⟩
set_option maxRecDepth 100000 in
theorem cmpI_geq (x y : Int) (w : World) : Calls Try.prog 39 #[.string ⟨#[62, 61]⟩, .int .i64 x, .int .i64 y] w (StP (.bool (cmpI .geq x y)) w) := by
  unfold StP cmpI
  go_enter Try.func39, Try.ntmps39
  go_wp2
  go_ret
  exact ⟨rfl, rfl⟩
set_option maxRecDepth 100000 in
theorem cmpI_eql (x y : Int) (w : World) : Calls Try.prog 39 #[.string ⟨#[61, 61]⟩, .int .i64 x, .int .i64 y] w (StP (.bool (cmpI .eql x y)) w) := by
  unfold StP cmpI
  go_enter Try.func39, Try.ntmps39
  go_wp2
  go_ret
  exact ⟨rfl, rfl⟩
set_option maxRecDepth 100000 in
theorem cmpI_neq (x y : Int) (w : World) : Calls Try.prog 39 #[.string ⟨#[33, 61]⟩, .int .i64 x, .int .i64 y] w (StP (.bool (cmpI .neq x y)) w) := by
  unfold StP cmpI
  go_enter Try.func39, Try.ntmps39
  go_wp2
  go_ret
  exact ⟨rfl, rfl⟩
end Go.Proofs.Ytnbolfogmhlanaa
