/-
  How two numbers with a point stand to each other.
-/
import Derived.Test.YtnbolfogmhlanaaVe
namespace Go.Proofs.Ytnbolfogmhlanaa
open Ieee Go.RowKit
theorem nan_order (d e : Datum) (h : d.isNaN = true ∨ e.isNaN = true) : d.order e = none := by
  cases d <;> cases e <;> simp [Datum.isNaN, Datum.order] at h ⊢
theorem some_order (d e : Datum) (hd : d.isNaN = false) (he : e.isNaN = false) : ∃ o : Ordering, d.order e = some o ∧ e.order d = some o.swap := by
  cases d with
  | number s m i =>
    cases e with
    | number t n j =>
      refine ⟨_, rfl, ?_⟩
      unfold Datum.order
      simp only []
      rw [Int.min_comm j i]
      congr 1
      exact (Int.compare_swap _ _).symm
    | infinity t => cases t <;> exact ⟨_, rfl, rfl⟩
    | nan => cases he
  | infinity s =>
    cases e with
    | number t n j => cases s <;> exact ⟨_, rfl, rfl⟩
    | infinity t => cases s <;> cases t <;> exact ⟨_, rfl, rfl⟩
    | nan => cases he
  | nan => cases hd
theorem self_order (d : Datum) (hd : d.isNaN = false) : d.order d = some .eq := by
  cases d with
  | number s m i => unfold Datum.order; simp
  | infinity s => cases s <;> rfl
  | nan => cases hd
theorem nanB_eq (q : Nat) : nanB q = (Ieee.double.read q).isNaN := by
  show ((Ieee.double.read q).order (Ieee.double.read q) != some .eq) = _
  cases h : (Ieee.double.read q).isNaN with
  | true => rw [nan_order _ _ (Or.inl h)]; rfl
  | false => rw [self_order _ h]; rfl
theorem cmp_nan (x y : Nat) (h : (nanB x || nanB y) = true) : FloatKind.f64.format.order x y = none := by
  rw [nanB_eq, nanB_eq, Bool.or_eq_true] at h
  exact nan_order _ _ h
theorem cmp_some (x y : Nat) (h : (nanB x || nanB y) = false) : ∃ o : Ordering, FloatKind.f64.format.order x y = some o ∧ FloatKind.f64.format.order y x = some o.swap := by
  rw [nanB_eq, nanB_eq, Bool.or_eq_false_iff] at h
  exact some_order _ _ h.1 h.2
end Go.Proofs.Ytnbolfogmhlanaa
