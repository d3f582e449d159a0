/-
  Whole numbers as numbers with a point: their value.
-/
import Derived.Test.YtnbolfogmhlanaaCm
namespace Go.Proofs.Ytnbolfogmhlanaa
open Ieee Go.RowKit
/-- A datum that is a whole number, with its sign. -/
def Vl (d : Datum) (s : Bool) (V : Nat) : Prop := ∃ (M k : Nat), (d = .number s M (k : Int) ∧ M * 2 ^ k = V) ∨ (d = .number s M (-(k : Int)) ∧ M = V * 2 ^ k)
/-- It has a word of its own. -/
def Exact (V : Nat) : Prop := ∀ s, Vl (double.read (double.nearest s V 0)) s V
theorem vl_zero (s : Bool) : Vl (double.read (double.nearest s 0 0)) s 0 := by
  have h : double.read (double.nearest s 0 0) = .number s 0 (-((1074 : Nat) : Int)) := by cases s <;> decide
  obtain ⟨k, hk⟩ : ∃ k : Nat, k = 1074 := ⟨_, rfl⟩
  rw [← hk] at h
  exact ⟨0, k, Or.inr ⟨h, (Nat.zero_mul _).symm⟩⟩
theorem vl_small (s : Bool) (m : Nat) (h1 : m < 2 ^ 53) : Vl (double.read (double.nearest s m 0)) s m := by
  by_cases h0 : m = 0
  · subst h0; exact vl_zero s
  · have hl : m.log2 ≤ 52 := by
      have := (Nat.log2_lt h0).2 h1
      omega
    refine ⟨m * 2 ^ (52 - m.log2), 52 - m.log2, Or.inr ⟨?_, rfl⟩⟩
    rw [near_small s m (by omega) h1]
    congr 1
    omega
theorem exact_small (m : Nat) (h1 : m < 2 ^ 53) : Exact m := fun s => vl_small s m h1
theorem exact_big (V : Nat) (h0 : 2 ^ 53 ≤ V) (h1 : V < 2 ^ 65) (h : V % 2 ^ (V.log2 - 52) = 0) : Exact V := fun s => by
  obtain ⟨K, e, hr, _, _, _, _, hx, _⟩ := near_big V h0 h1
  exact ⟨K, e, Or.inl ⟨hr s, hx h⟩⟩
theorem log2_63 : (9223372036854775808 : Nat).log2 = 63 := by decide
/-- What a whole number of 64 bits is nearest to. -/
theorem near_any (m : Nat) (hm : m ≤ 9223372036854775808) : ∃ V, (∀ s, Vl (double.read (double.nearest s m 0)) s V) ∧ (m ≤ 9007199254740992 → V = m) ∧ V ≤ m + 512 ∧ m ≤ V + 512 ∧ V ≤ 9223372036854775808 ∧ Exact V := by
  by_cases hs : m < 2 ^ 53
  · exact ⟨m, fun s => vl_small s m hs, fun _ => rfl, by omega, by omega, by omega, exact_small m hs⟩
  · by_cases h63 : m = 9223372036854775808
    · subst h63
      have hx : Exact 9223372036854775808 := exact_big _ (by decide) (by decide) (by decide)
      exact ⟨_, hx, fun h => by omega, by omega, by omega, Nat.le_refl _, hx⟩
    · have hl1 : m.log2 < 63 := (Nat.log2_lt (by omega)).2 (by omega)
      have hl0 : 53 ≤ m.log2 := (Nat.le_log2 (by omega)).2 (by omega)
      have hp : 2 ^ (m.log2 - 53) ≤ 512 := by
        have : 2 ^ (m.log2 - 53) ≤ 2 ^ 9 := Nat.pow_le_pow_right (by decide) (by omega)
        simpa using this
      obtain ⟨K0, e0, hr0, _, _, b1, b2, hx0, hv0⟩ := near_big m (by omega) (by omega)
      have hV1 : K0 * 2 ^ e0 ≤ 9223372036854775808 := by
        apply Nat.le_of_not_lt
        intro h
        have hlt : K0 * 2 ^ e0 < 2 ^ 64 := by omega
        have l1 : (K0 * 2 ^ e0).log2 = 63 := by
          have := (Nat.log2_lt (n := K0 * 2 ^ e0) (k := 64) (by omega)).2 hlt
          have := (Nat.le_log2 (n := K0 * 2 ^ e0) (k := 63) (by omega)).2 (by omega)
          omega
        rw [l1] at hv0
        simp at hv0
        omega
      have hV0 : 2 ^ 53 ≤ K0 * 2 ^ e0 := by
        apply Nat.le_of_not_lt
        intro h
        have hm2 : m < 2 ^ 53 + 512 := by omega
        have l1 : m.log2 = 53 := by
          have := (Nat.log2_lt (n := m) (k := 54) (by omega)).2 (by omega)
          omega
        rw [l1] at b2 hx0
        simp at b2 hx0
        by_cases hmod : m % 2 = 0
        · have := hx0 hmod; omega
        · omega
      have hX : Exact (K0 * 2 ^ e0) := exact_big _ hV0 (by omega) hv0
      have same : ∀ s, Vl (double.read (double.nearest s m 0)) s (K0 * 2 ^ e0) := fun s => ⟨K0, e0, Or.inl ⟨hr0 s, rfl⟩⟩
      refine ⟨K0 * 2 ^ e0, same, fun h => ?_, by omega, by omega, hV1, hX⟩
      have : m = 9007199254740992 := by omega
      subst this
      exact hx0 (by decide)
theorem cut_none (s : Bool) (n : Nat) : Toward.zero.cut s n 0 = n := by
  unfold Toward.cut
  simp
theorem vl_integral {d : Datum} {s : Bool} {V : Nat} (h : Vl d s V) : d.integral .zero = .number s V 0 := by
  obtain ⟨M, k, ⟨rfl, hv⟩ | ⟨rfl, hv⟩⟩ := h
  · unfold Datum.integral
    simp only []
    rw [show (-(k : Int)).toNat = 0 by omega, cut_none, show (k : Int).toNat = k by omega, Nat.shiftLeft_eq, hv]
  · unfold Datum.integral
    simp only []
    rw [show (-(k : Int)).toNat = 0 by omega, show (-(-(k : Int))).toNat = k by omega, Nat.shiftLeft_zero]
    congr 1
    unfold Toward.cut
    simp only [Bool.toNat_false, Nat.add_zero, Nat.shiftLeft_eq, Nat.one_mul]
    by_cases hV : V = 0
    · subst hV
      rw [Nat.zero_mul] at hv
      subst hv
      exact Nat.zero_div _
    · have hM : M ≠ 0 := by
        intro e
        rw [e] at hv
        have := Nat.mul_eq_zero.1 hv.symm
        rcases this with h | h
        · exact hV h
        · exact absurd h (Nat.ne_of_gt (Nat.two_pow_pos _))
      have hl : k ≤ M.log2 := (Nat.le_log2 hM).2 (by rw [hv]; exact Nat.le_mul_of_pos_left _ (by omega))
      rw [show min k (M.log2 + 2) = k by omega, hv, Nat.mul_div_cancel _ (Nat.two_pow_pos _)]
def sv (s : Bool) (V : Nat) : Int := if s then -(V : Int) else V
theorem signed_sv (s : Bool) (M k : Nat) : signed s M k = sv s (M * 2 ^ k) := by
  unfold signed sv
  rw [Nat.shiftLeft_eq]
theorem sv_mul (s : Bool) (M x : Nat) : sv s (M * x) = sv s M * (x : Int) := by
  cases s
  · simp [sv]
  · simp [sv, Int.neg_mul]
theorem vl_toInt {d : Datum} {s : Bool} {V : Nat} (h : Vl d s V) : d.toInt .zero = some (sv s V) := by
  unfold Datum.toInt
  rw [vl_integral h]
  simp only [signed_sv, Nat.pow_zero, Nat.mul_one]
theorem compare_scale (a b c d : Int) (x y : Int) (hx : 0 < x) (hy : 0 < y) (h1 : a * x = c * y) (h2 : b * x = d * y) : compare a b = compare c d := by
  have lt : ∀ p q r t : Int, p * x = r * y → q * x = t * y → p < q → r < t := fun p q r t e1 e2 h => by
    have : p * x < q * x := Int.mul_lt_mul_of_pos_right h hx
    rw [e1, e2] at this
    exact Int.lt_of_mul_lt_mul_right this (Int.le_of_lt hy)
  by_cases c1 : a < b
  · rw [Int.compare_eq_lt.2 c1, Int.compare_eq_lt.2 (lt a b c d h1 h2 c1)]
  · by_cases c2 : b < a
    · rw [Int.compare_eq_gt.2 c2, Int.compare_eq_gt.2 (lt b a d c h2 h1 c2)]
    · have e : a = b := by omega
      subst e
      have e2 : c * y = d * y := h1.symm.trans h2
      have : c = d := Int.eq_of_mul_eq_mul_right (Int.ne_of_gt hy) e2
      subst this
      simp
theorem vl_order {d : Datum} {s : Bool} {V : Nat} (h : Vl d s V) (t : Bool) : d.order (.number t 4503599627370496 11) = some (compare (sv s V) (sv t 9223372036854775808)) := by
  obtain ⟨M, k, ⟨rfl, hv⟩ | ⟨rfl, hv⟩⟩ := h
  · unfold Datum.order
    simp only [signed_sv]
    congr 1
    by_cases hk : k ≤ 11
    · rw [show min (k : Int) 11 = k by omega, show ((k : Int) - k).toNat = 0 by omega, show ((11 : Int) - k).toNat = 11 - k by omega, Nat.pow_zero, Nat.mul_one]
      refine compare_scale _ _ _ _ ((2 ^ k : Nat) : Int) 1 (by exact_mod_cast Nat.two_pow_pos k) (by decide) ?_ ?_
      · rw [← sv_mul, hv, Int.mul_one]
      · rw [← sv_mul, Int.mul_one, Nat.mul_assoc, ← Nat.pow_add, show 11 - k + k = 11 by omega]
    · rw [show min (k : Int) 11 = 11 by omega, show ((11 : Int) - 11).toNat = 0 by omega, show ((k : Int) - 11).toNat = k - 11 by omega, Nat.pow_zero, Nat.mul_one]
      refine compare_scale _ _ _ _ ((2 ^ 11 : Nat) : Int) 1 (by decide) (by decide) ?_ ?_
      · rw [← sv_mul, Int.mul_one, Nat.mul_assoc, ← Nat.pow_add, show k - 11 + 11 = k by omega, hv]
      · rw [← sv_mul, Int.mul_one]
  · unfold Datum.order
    simp only [signed_sv]
    congr 1
    rw [show min (-(k : Int)) 11 = -(k : Int) by omega, show (-(k : Int) - -(k : Int)).toNat = 0 by omega, show ((11 : Int) - -(k : Int)).toNat = 11 + k by omega, Nat.pow_zero, Nat.mul_one]
    refine compare_scale _ _ _ _ 1 ((2 ^ k : Nat) : Int) (by decide) (by exact_mod_cast Nat.two_pow_pos k) ?_ ?_
    · rw [← sv_mul, hv, Int.mul_one]
    · rw [← sv_mul, Int.mul_one, Nat.pow_add, ← Nat.mul_assoc]
end Go.Proofs.Ytnbolfogmhlanaa
