/-
  ValConvs: the law.
-/
import Derived.Test.YtnbolfogmhlanaaCx
namespace Go.Proofs.Ytnbolfogmhlanaa
open Ieee Go.RowKit
/-- What the number of a whole number is. -/
theorem nearest_eq (n : Int) : FloatKind.f64.nearest n = double.nearest (decide (n < 0)) n.natAbs 0 := rfl
theorem vl_nan {q : Nat} {s : Bool} {V : Nat} (h : Vl (double.read q) s V) : nanB q = false := by
  rw [nanB_eq]
  obtain ⟨M, k, ⟨h, _⟩ | ⟨h, _⟩⟩ := h <;> rw [h] <;> rfl
theorem read_low : double.read 14114281232179134464 = .number true 4503599627370496 11 := by decide
theorem read_high : double.read 4890909195324358656 = .number false 4503599627370496 11 := by decide
theorem back_bits (F : Nat) (h : F < 18446744073709551616) : (IntKind.u64.wrap (IntKind.i64.wrap (F : Int))).toNat = F := by
  rw [IntKind.wrap_i64, IntKind.wrap_u64]; omega
theorem of_back (F : Nat) (h : F < 18446744073709551616) (W : World) : Calls Try.prog 20 #[vl 2 (IntKind.i64.wrap (F : Nat))] W (GrP (.float .f64 F) W) := by
  have := of_any 2 (IntKind.i64.wrap (F : Nat)) W
  rw [back_bits F h] at this
  exact this
theorem conv_run (G : Nat) (k : Int) (W : World) (ht : (FloatKind.f64.decode G).toInt .zero = some k) (hr : IntKind.i64.min ≤ k ∧ k ≤ IntKind.i64.max) : (convert 37 2 (.float .f64 G)).run Try.prog W = .ok (.int .i64 k) W := by
  have h : (convert 37 2 (.float .f64 G)).run Try.prog W = (Conv.floatToInt .f64 G .i64).run Try.prog W := by simp [convert, go_sem]
  rw [h]
  unfold Conv.floatToInt
  rw [ht]
  simp only []
  rw [if_pos hr]
  rfl
theorem convs_core (n : Int) (F G V : Nat) (w : World) (hn0 : -9223372036854775808 ≤ n) (hn1 : n ≤ 9223372036854775807) (hF : Vl (double.read F) (decide (n < 0)) V) (hG : Vl (double.read G) (decide (n < 0)) V)
    (hlt : F < 18446744073709551616) (hw : double.write ((double.read F).integral .zero) = G) (hcv : ∀ W, (convert 2 37 (.int .i64 n)).run Try.prog W = .ok (.float .f64 F) W)
    (hsm : n.natAbs ≤ 9007199254740992 → V = n.natAbs) (b1 : V ≤ n.natAbs + 512) (b2 : n.natAbs ≤ V + 512) (b3 : V ≤ 9223372036854775808) : Calls Try.prog 7 #[.int .i64 n] w (GrP (.bool true) w) := by
  have hsv : sv (decide (n < 0)) V = if n < 0 then -(V : Int) else V := by
    by_cases h : n < 0 <;> simp [sv, h]
  have hnF := vl_nan hF
  have hnG := vl_nan hG
  have F17 : ∀ W, Calls Try.prog 17 #[.float .f64 F] W (GrP (vl 2 (IntKind.i64.wrap (F : Nat))) W) := fun W => by
    have := float_any F W
    unfold oneN at this
    rw [hnF] at this
    exact this
  have C1 : ∀ W, Calls Try.prog 25 #[.int .i64 2, vl 1 n] W (GrP (tw (vl 2 (IntKind.i64.wrap (F : Nat))) 0) W) := fun W => conv_float n _ _ W hcv F17
  have O20 : ∀ W, Calls Try.prog 20 #[vl 2 (IntKind.i64.wrap (F : Nat))] W (GrP (.float .f64 F) W) := fun W => of_back F hlt W
  have T44 : ∀ W, Calls Try.prog 44 #[.float .f64 F] W (StP (.float .f64 G) W) := fun W => by
    obtain ⟨M, k, ⟨hd, _⟩ | ⟨hd, _⟩⟩ := hF
    · exact trunc_any _ _ W (fun U => trunc_run _ _ U _ _ _ hd hw)
    · exact trunc_any _ _ W (fun U => trunc_run _ _ U _ _ _ hd hw)
  have o1 : FloatKind.f64.format.order G 14114281232179134464 = some (compare (sv (decide (n < 0)) V) (sv true 9223372036854775808)) := by
    show (double.read _).order (double.read _) = _
    rw [read_low]
    exact vl_order hG true
  have o2 : FloatKind.f64.format.order G 4890909195324358656 = some (compare (sv (decide (n < 0)) V) (sv false 9223372036854775808)) := by
    show (double.read _).order (double.read _) = _
    rw [read_high]
    exact vl_order hG false
  have k1 : cmpF .lss G 14114281232179134464 = false := by
    unfold cmpF
    simp only [o1]
    have : ¬ sv (decide (n < 0)) V < sv true 9223372036854775808 := by
      rw [hsv]
      simp only [sv, if_true]
      split <;> omega
    cases hc : compare (sv (decide (n < 0)) V) (sv true 9223372036854775808) with
    | lt => exact absurd (Int.compare_eq_lt.1 hc) this
    | eq => rfl
    | gt => rfl
  by_cases hbig : ¬ n < 0 ∧ V = 9223372036854775808
  · have k2 : cmpF .geq G 4890909195324358656 = true := by
      unfold cmpF
      simp only [o2]
      have : sv (decide (n < 0)) V = sv false 9223372036854775808 := by
        rw [hsv, if_neg hbig.1, hbig.2]; rfl
      rw [this]
      simp
    exact convs_trap n _ w C1 (fun W => conv_int _ _ _ _ _ W O20 (fun U => cut_trap _ _ U T44 hnG k1 k2)) (by omega)
  · have k2 : cmpF .geq G 4890909195324358656 = false := by
      unfold cmpF
      simp only [o2]
      have : sv (decide (n < 0)) V < sv false 9223372036854775808 := by
        rw [hsv]
        show _ < (9223372036854775808 : Int)
        split <;> omega
      rw [Int.compare_eq_lt.2 this]
      rfl
    have hk : ∀ W, (convert 37 2 (.float .f64 G)).run Try.prog W = .ok (.int .i64 (if n < 0 then -(V : Int) else V)) W := fun W => by
      have ht : (FloatKind.f64.decode G).toInt .zero = some (if n < 0 then -(V : Int) else V) := by rw [← hsv]; exact vl_toInt hG
      have hr : IntKind.i64.min ≤ (if n < 0 then -(V : Int) else V) ∧ (if n < 0 then -(V : Int) else V) ≤ IntKind.i64.max := by
        have e1 : IntKind.i64.max = 9223372036854775807 := rfl
        have e2 : IntKind.i64.min = -9223372036854775808 := rfl
        rw [e1, e2]
        split <;> omega
      exact conv_run G _ W ht hr
    refine convs_some n _ (if n < 0 then -(V : Int) else V) w C1 (fun W => conv_int _ _ _ _ _ W O20 (fun U => cut_some _ _ _ U T44 hnG k1 k2 hk)) ?_ ?_ ?_
    · intro h1 h2
      have := hsm (by omega)
      split <;> omega
    · split <;> omega
    · split <;> omega
theorem convs_law (n : Int) (w : World) (hn0 : -9223372036854775808 ≤ n) (hn1 : n ≤ 9223372036854775807) : Calls Try.prog 7 #[.int .i64 n] w (GrP (.bool true) w) := by
  obtain ⟨V, hv, hsm, b1, b2, b3, hx⟩ := near_any n.natAbs (by omega)
  have hF := hv (decide (n < 0))
  have hlt : double.nearest (decide (n < 0)) n.natAbs 0 < 18446744073709551616 := double.nearest_lt (decide (n < 0)) n.natAbs 0
  have hcv : ∀ W, (convert 2 37 (.int .i64 n)).run Try.prog W = .ok (.float .f64 (double.nearest (decide (n < 0)) n.natAbs 0)) W := fun W => by
    rw [← nearest_eq]
    simp [convert, go_sem]
    rfl
  have hw : double.write ((double.read (double.nearest (decide (n < 0)) n.natAbs 0)).integral .zero) = double.nearest (decide (n < 0)) V 0 := by rw [vl_integral hF]; rfl
  exact convs_core n _ _ V w hn0 hn1 hF (hx _) hlt hw hcv hsm b1 b2 b3
end Go.Proofs.Ytnbolfogmhlanaa
