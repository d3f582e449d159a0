/-
  The law DiskNamed walked: of whatever text and act it answers true, and nothing that was there turns.
-/
import Derived.Test.YtoenddcdafnmiaaAwake
import Derived.Test.YtoenddcdafnmiaaChn
namespace Go.Proofs.Ytoenddcdafnmiaa
open Go.RowKit Go.Maps
set_option maxRecDepth 100000 in
set_option maxHeartbeats 2000000 in
theorem law6_any (s a t d : ByteArray) (k n x y z : Int) (w : World) (hs : s.size ≤ maxLen) :
    Calls Try.prog 6 #[.string s, .agg #[.int .i64 k, .string a, .string t, .string d, .int .i64 n, .int .i64 x, .int .i64 y, .int .i64 z]] w fun e w' => e = .returned (.bool true) ∧ w.grownBy w' none := by
  have N1 : Hid (∀ w, Calls Try.prog 24 #[.string s] w fun e w' => e = .returned (.bool (nameB s)) ∧ w' = w) := fun w => name_any s w hs
  have N2 : Hid (∀ w, Calls Try.prog 25 #[.string s] w fun e w' => e = .returned (.bool (nameB s)) ∧ w' = w) := fun w => refName_any s w hs
  clear hs
  generalize nameB s = v at *
  go_enter Try.func6, Try.ntmps6
  go_wp2_with (first
    | (go_at_call 21; refine (room_nil _ _).mono ?_; rintro e w' ⟨rfl, hw⟩; have hw2 := hw.symm; clear hw; subst hw2)
    | (go_at_call 22; refine (plan_nil _ _ _ _).mono ?_; rintro e w' ⟨rfl, hw⟩; have hw2 := hw.symm; clear hw; subst hw2)
    | (go_at_call 15; refine (crash_nil _ _ _).mono ?_; rintro e w' ⟨rfl, hw⟩; have hw2 := hw.symm; clear hw; subst hw2)
    | (go_at_call 23; refine (read_nil _ _).mono ?_; rintro e w' ⟨rfl, hw⟩; have hw2 := hw.symm; clear hw; subst hw2)
    | (go_at_call 10; refine (awake_any _).mono ?_; rintro e w1 ⟨rfl, hg1⟩; have G1 : Hid (w.grownBy w1 none) := grown_none (grown_alloc (grown_alloc (grown_refl _ _) _) _) hg1; have B1 := ((Blk.new w 37 #[.int .i64 k, .string a, .string t, .string d, .int .i64 n, .int .i64 x, .int .i64 y, .int .i64 z]).alloc _).kept hg1 (by simp); have c0 := B1.cell 0; have c1 := B1.cell 1; have c2 := B1.cell 2; have c3 := B1.cell 3; have c4 := B1.cell 4; have c5 := B1.cell 5; have c6 := B1.cell 6; have c7 := B1.cell 7; simp at c0 c1 c2 c3 c4 c5 c6 c7; clear hg1 B1)
    | (go_at_call 24; refine (N1.out _).mono ?_; rintro e w' ⟨rfl, hw⟩; have hw2 := hw.symm; clear hw; subst hw2)
    | (go_at_call 25; refine (N2.out _).mono ?_; rintro e w' ⟨rfl, hw⟩; have hw2 := hw.symm; clear hw; subst hw2)
    | (go_at_call 18; refine (dead_nil _).mono ?_; rintro e w' ⟨rfl, hw⟩; have hw2 := hw.symm; clear hw; subst hw2)
    | (go_at_call 16; refine (up_nil _).mono ?_; rintro e w' ⟨rfl, hw⟩; have hw2 := hw.symm; clear hw; subst hw2)
    | (go_at_call 11; refine (sync_nil _).mono ?_; rintro e w' ⟨rfl, hw⟩; have hw2 := hw.symm; clear hw; subst hw2)
    | (go_at_call 26; refine (change_nil k k n x y z a t d _).mono ?_; rintro e w2 ⟨rfl, hg2⟩; have G2 : Hid (w.grownBy w2 none) := grown_none G1.out hg2; clear hg2)
    | (go_at_call 27; refine (names_nil _).mono ?_; rintro e w' ⟨rfl, hw⟩; have hw2 := hw.symm; clear hw; subst hw2)
    | (go_at_call 19; refine (used_nil _).mono ?_; rintro e w' ⟨rfl, hw⟩; have hw2 := hw.symm; clear hw; subst hw2)
    | (go_at_call 28; refine (changes_nil _).mono ?_; rintro e w' ⟨rfl, hw⟩; have hw2 := hw.symm; clear hw; subst hw2)
    | (go_at_call 20; refine (loose_nil _).mono ?_; rintro e w' ⟨rfl, hw⟩; have hw2 := hw.symm; clear hw; subst hw2)
    | (go_at_call 14; refine (clone_nil _).mono ?_; rintro e w' ⟨rfl, hw⟩; have hw2 := hw.symm; clear hw; subst hw2))
  go_ret
  exact ⟨rfl, G2.out⟩
end Go.Proofs.Ytoenddcdafnmiaa
