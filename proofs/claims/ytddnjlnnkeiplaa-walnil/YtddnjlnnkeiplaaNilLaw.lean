/-
  WalNil: the law's own walk.
-/
import Derived.Test.YtddnjlnnkeiplaaLawake
import Derived.Test.YtddnjlnnkeiplaaLnil
namespace Go.Proofs.Ytddnjlnnkeiplaa
open Go.RowKit Go.Maps
def kd : Dk := ⟨[], [], [], 0, 0, true⟩
theorem smalld : Small kd := ⟨fits_nil _, by decide, by decide, by decide⟩
theorem crash0 (base d : Nat) (W : World) (hd : IsDisk W base d k0) : Calls Try.prog 16 #[.pointer (some ⟨d, 0, none⟩), .int .i64 0, .int .i64 0] W fun e w' => e = .returned (.tuple #[]) ∧ IsDisk w' base d kd ∧ W.grownBy w' (some d) :=
  crash_any base d k0 0 0 okL W hd rfl (fun i h => absurd h (Nat.not_lt_zero _)) (by decide) (by decide) (fits_nil _)
set_option maxRecDepth 100000 in
set_option maxHeartbeats 2000000 in
theorem law7_any (pa : Option Addr) (len cap : Nat) (n : Int) (w : World) : Calls Try.prog 7 #[.slice pa len cap, .int .i64 n] w fun e w' => e = .returned (.bool true) ∧ w.grownBy w' none := by
  have O1 := hid open_nil
  have C9 := hid (new_any w)
  have X0 := hid (crash0 w.heap.size w.heap.size)
  have O2 : Hid (∀ W, IsDisk W w.heap.size w.heap.size kd → Calls Try.prog 10 #[.pointer (some ⟨w.heap.size, 0, none⟩)] W fun e w' => e = .returned (.tuple #[.pointer none, .int .i64 0, .int .i64 7]) ∧ Low w.heap.size W w') := fun W hW => open_dead _ _ kd W hW rfl smalld
  have A1 := hid (lappend_nil ⟨#[120]⟩)
  have R1 := hid (lread_nil n)
  have T1 := hid lroot_nil
  have W1 := hid lawake_any
  have D1 := hid ldrop_nil
  have M1 := hid (lcommit_nil ⟨#[120]⟩)
  have P1 := hid (lreplace_nil (.slice pa len cap) ⟨#[]⟩)
  have N1 := hid llen_nil
  have S1 := hid lwaits_nil
  go_enter Try.func7, Try.ntmps7
  go_wp2_with (first
    | (go_at_call 10; refine (O1.out _).mono ?_; rintro e w0 ⟨rfl, hw⟩; have hw2 := hw.symm; clear hw; subst hw2; clear O1)
    | (go_at_call 9; refine C9.out.mono ?_; rintro e w1 ⟨rfl, d1, g1⟩; have E1 := hid d1; have G1 := hid g1; clear d1 g1 C9)
    | (go_at_call 16; refine (X0.out _ E1.out).mono ?_; rintro e w2 ⟨rfl, d2, g2⟩; have E2 := hid d2; have G2 := hid (self_low (base := w.heap.size) g2 (Nat.le_refl _)); clear d2 g2 X0)
    | (go_at_call 10; refine (O2.out _ E2.out).mono ?_; rintro e w3 ⟨rfl, t3⟩; have G3 := hid (Low.trans G2.out t3); clear t3 O2)
    | (go_at_call 22; refine (A1.out _).mono ?_; rintro e w0 ⟨rfl, hw⟩; have hw2 := hw.symm; clear hw; subst hw2; clear A1)
    | (go_at_call 21; refine (R1.out _).mono ?_; rintro e w0 ⟨rfl, hw⟩; have hw2 := hw.symm; clear hw; subst hw2; clear R1)
    | (go_at_call 35; refine (T1.out _).mono ?_; rintro e w0 ⟨rfl, hw⟩; have hw2 := hw.symm; clear hw; subst hw2; clear T1)
    | (go_at_call 11; refine (W1.out _).mono ?_; rintro e w4 ⟨rfl, g4⟩; have G4 := hid (Low.trans G3.out (Low.of_none g4)); clear g4 W1)
    | (go_at_call 12; refine (D1.out _).mono ?_; rintro e w0 ⟨rfl, hw⟩; have hw2 := hw.symm; clear hw; subst hw2; clear D1)
    | (go_at_call 13; refine (M1.out _).mono ?_; rintro e w0 ⟨rfl, hw⟩; have hw2 := hw.symm; clear hw; subst hw2; clear M1)
    | (go_at_call 18; refine (P1.out _).mono ?_; rintro e w0 ⟨rfl, hw⟩; have hw2 := hw.symm; clear hw; subst hw2; clear P1)
    | (go_at_call 36; refine (N1.out _).mono ?_; rintro e w0 ⟨rfl, hw⟩; have hw2 := hw.symm; clear hw; subst hw2; clear N1)
    | (go_at_call 37; refine (S1.out _).mono ?_; rintro e w0 ⟨rfl, hw⟩; have hw2 := hw.symm; clear hw; subst hw2; clear S1))
  go_ret
  exact ⟨rfl, Low.grown G1.out G4.out⟩
end Go.Proofs.Ytddnjlnnkeiplaa
