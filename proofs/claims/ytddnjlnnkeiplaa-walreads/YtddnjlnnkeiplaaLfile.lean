/-
  What an opening finds in an empty file, and in a file with one record and a marker.
-/
import Derived.Test.YtddnjlnnkeiplaaLopen
import Derived.Test.YtddnjlnnkeiplaaLsrch
namespace Go.Proofs.Ytddnjlnnkeiplaa
open Go.RowKit Go.Maps
theorem un_empty : Un ⟨#[]⟩ 0 ⟨#[]⟩ 0 (Wi.unF ⟨#[]⟩ 0) := fun W => Wi.unframe_bad ⟨#[]⟩ 0 W (by decide) (by decide) (by decide +kernel)
theorem drop_new {base b : Nat} {g : Lg} (hc : g.com = g.recs.length) (hl : g.recs.length ≤ 1000000) (hw : g.wait = ⟨#[]⟩) (W : World) (h : IsLog W base b g) : Calls Try.prog 12 #[.pointer (some ⟨b, 0, none⟩)] W fun e w' => (∃ m : Nat, e = .returned (.int .i64 m)) ∧ IsLog w' base b g ∧ LT base b W w' := by
  refine (drop_full base b g W h hc hl (by rw [hw]; decide)).mono ?_
  rintro e w' ⟨he, hi, hg⟩
  refine ⟨⟨_, he⟩, ?_, LT.of_self hg h.1⟩
  obtain ⟨a1, a2, a3, a4, a5, a6, a7⟩ := g
  simp only at hw
  subst hw
  exact hi
theorem load_empty (base b d : Nat) (w : World) (h : IsLog w base b (newL d)) : Calls Try.prog 40 #[.pointer (some ⟨b, 0, none⟩), .string ⟨#[]⟩] w fun e w' => e = .returned (.tuple #[]) ∧ IsLog w' base b (newL d) ∧ LT base b w w' := by
  refine load_seq base b ⟨#[]⟩ 1 (fun _ => 0) (fun k => decide (k < 1)) (fun _ => newL d) (newL d) w h rfl (fun k hk => decide_eq_true hk) rfl rfl (fun _ => Nat.zero_le _) (fun k hk hr => ?_) (fun k hk W hW => ?_) (fun W hW => drop_new rfl (by show 0 ≤ 1000000; decide) rfl W hW)
  · have := of_decide_eq_true hr
    omega
  · obtain rfl : k = 0 := by omega
    refine (take_bad _ ⟨#[]⟩ ⟨#[]⟩ 0 0 _ W un_empty (by decide +kernel)).mono ?_
    rintro e w' ⟨he, hg⟩
    exact ⟨he, hW.kept hg, LT.of_none hg⟩
def waitA : ByteArray := ⟨#[]⟩ ++ Wi.frmS (⟨#[100]⟩ ++ ⟨#[97]⟩)
def rootA : ByteArray := ⟨#[114, 111, 111, 116]⟩
def fileA : ByteArray := waitA ++ Wi.frmS (⟨#[109]⟩ ++ ⟨#[114, 111, 111, 116]⟩)
theorem fileA_size : fileA.size = 23 := by decide +kernel
theorem un_a : Un fileA 0 (⟨#[100]⟩ ++ ⟨#[97]⟩) 10 0 := fun W => Wi.unframe_in fileA 0 W (by rw [fileA_size]; decide) (by decide) (by decide +kernel) _ 10 0 (Or.inl ⟨by decide +kernel, bytes_ext (by decide +kernel), by decide +kernel, rfl⟩)
theorem un_m : Un fileA 10 (⟨#[109]⟩ ++ ⟨#[114, 111, 111, 116]⟩) 23 0 := fun W => Wi.unframe_in fileA 10 W (by rw [fileA_size]; decide) (by rw [fileA_size]; decide) (by decide +kernel) _ 23 0 (Or.inl ⟨by decide +kernel, bytes_ext (by decide +kernel), by decide +kernel, rfl⟩)
theorem un_e : Un fileA 23 ⟨#[]⟩ 0 (Wi.unF fileA 23) := fun W => Wi.unframe_bad fileA 23 W (by rw [fileA_size]; decide) (by rw [fileA_size]; decide) (by decide +kernel)
def seqA : Nat → Nat
  | 0 => 0
  | 1 => 10
  | 2 => 23
  | _ => 0
/-- The log of that file. -/
def logA (d : Nat) : Lg := ⟨d, [(0, ⟨#[97]⟩)], 1, 23, ⟨#[]⟩, ⟨#[114, 111, 111, 116]⟩, true⟩
def seqG (d : Nat) : Nat → Lg
  | 0 => newL d
  | 1 => { newL d with recs := [] ++ [(0, ⟨#[97]⟩)] }
  | _ => logA d
theorem load_file (base b d : Nat) (w : World) (h : IsLog w base b (newL d)) : Calls Try.prog 40 #[.pointer (some ⟨b, 0, none⟩), .string fileA] w fun e w' => e = .returned (.tuple #[]) ∧ IsLog w' base b (logA d) ∧ LT base b w w' := by
  refine load_seq base b fileA 3 seqA (fun k => decide (k < 3)) (seqG d) (logA d) w h rfl (fun k hk => decide_eq_true hk) rfl rfl (fun k => ?_) (fun k hk hr => ?_) (fun k hk W hW => ?_) (fun W hW => drop_new rfl (by show 1 ≤ 1000000; decide) rfl W hW)
  · rw [fileA_size]
    match k with
    | 0 => decide
    | 1 => decide
    | 2 => decide
    | _ + 3 => exact Nat.zero_le _
  · have := of_decide_eq_true hr
    match k, hk with
    | 0, _ => decide
    | 1, _ => decide
    | 2, _ => omega
  · match k, hk with
    | 0, _ => exact take_rec base b (newL d) fileA ⟨#[97]⟩ 0 10 W hW (by show 0 ≤ 1000000; decide) un_a (by decide)
    | 1, _ => exact take_mark base b (seqG d 1) fileA ⟨#[114, 111, 111, 116]⟩ 10 23 W hW (by show 1 ≤ _; decide) un_m (by decide)
    | 2, _ =>
      refine (take_bad _ fileA ⟨#[]⟩ 23 0 _ W un_e (by decide +kernel)).mono ?_
      rintro e w' ⟨he, hg⟩
      exact ⟨he, hW.kept hg, LT.of_none hg⟩
end Go.Proofs.Ytddnjlnnkeiplaa
