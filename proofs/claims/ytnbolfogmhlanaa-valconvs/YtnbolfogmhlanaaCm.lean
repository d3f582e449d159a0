/-
  A whole number as the nearest number with a point, and what is cut off of that again.
-/
import Derived.Test.YtnbolfogmhlanaaOm
namespace Go.Proofs.Ytnbolfogmhlanaa
open Ieee Go.RowKit
theorem dB : double.binade = 4503599627370496 := by decide
theorem dI : double.infRung = 9218868437227405312 := by decide
theorem dS : double.signWeight = 9223372036854775808 := by decide
theorem dL : double.leastPlace = -1074 := by decide
theorem dF : double.fractionBits = 52 := by decide
/-- A word whose rung is this many binades and a significand. -/
theorem read_word (s : Bool) (L K : Nat) (hL : L ≤ 1500) (h0 : 4503599627370496 ≤ K) (h1 : K < 9007199254740992) : double.read (double.word s (L * 4503599627370496 + K)) = .number s K (-1074 + L) := by
  have hr : L * 4503599627370496 + K < 9218868437227405312 := by omega
  unfold Format.read Format.word
  rw [dS, dB, dI, dL]
  have e1 : (if s = true then 9223372036854775808 + (L * 4503599627370496 + K) else L * 4503599627370496 + K) / 9223372036854775808 % 2 = if s = true then 1 else 0 := by
    cases s <;> simp <;> omega
  have e2 : (if s = true then 9223372036854775808 + (L * 4503599627370496 + K) else L * 4503599627370496 + K) % 9223372036854775808 = L * 4503599627370496 + K := by
    cases s <;> simp <;> omega
  simp only [e1, e2]
  rw [if_neg (by omega), if_pos hr]
  have e3 : (L * 4503599627370496 + K) % 4503599627370496 = K - 4503599627370496 := by omega
  have e4 : (L * 4503599627370496 + K) / 4503599627370496 = L + 1 := by omega
  rw [e3, e4]
  have e5 : ((if s = true then 1 else 0) == 1) = s := by cases s <;> rfl
  rw [e5, show 4503599627370496 + (K - 4503599627370496) = K by omega]
  simp
theorem rung_le (l K : Nat) (hl : l ≤ 78) (hK : K ≤ 9007199254740992) : (l + 1022) * 4503599627370496 + K ≤ 9218868437227405312 := by omega
theorem rung_top (e : Nat) : (e + 53 + 1022) * 4503599627370496 + 9007199254740992 = (e + 1076) * 4503599627370496 + 4503599627370496 := by omega
theorem place1 (l : Nat) : (-1074 : Int) + ((l + 1022 : Nat) : Int) = (l : Int) - 52 := by omega
theorem place2 (e : Nat) : (-1074 : Int) + ((e + 1076 : Nat) : Int) = ((e + 2 : Nat) : Int) := by omega
theorem place3 (e : Nat) : (-1074 : Int) + ((e + 53 + 1022 : Nat) : Int) = ((e + 1 : Nat) : Int) := by omega
/-- The nearest word of a whole number that has at most 53 bits. -/
theorem near_small (s : Bool) (m : Nat) (h0 : 0 < m) (h1 : m < 2 ^ 53) : double.read (double.nearest s m 0) = .number s (m * 2 ^ (52 - m.log2)) ((m.log2 : Int) - 52) := by
  have hl : m.log2 ≤ 52 := by
    have := (Nat.log2_lt (by omega)).2 h1
    omega
  have p0 : 2 ^ m.log2 ≤ m := Nat.log2_self_le (by omega)
  have p1 : m < 2 ^ (m.log2 + 1) := Nat.lt_log2_self
  unfold Format.nearest
  rw [if_neg (by omega), dL, dF, dB, dI]
  generalize m.log2 = l at *
  have e1 : max ((0 : Int) + (l : Int) - ((52 : Nat) : Int)) (-1074) = (l : Int) - 52 := by omega
  simp only [e1]
  have e2 : ((0 : Int) - ((l : Int) - 52)).toNat = 52 - l := by omega
  have e3 : (((l : Int) - 52) - 0).toNat = 0 := by omega
  have e4 : (((l : Int) - 52) - (-1074)).toNat = l + 1022 := by omega
  rw [e2, e3, e4]
  have e5 : Toward.even.cut s (m <<< (52 - l)) 0 = m * 2 ^ (52 - l) := by
    unfold Toward.cut
    simp [Nat.shiftLeft_eq, Nat.mod_one]
  rw [e5]
  have hp : 2 ^ l * 2 ^ (52 - l) = 4503599627370496 := by rw [← Nat.pow_add, show l + (52 - l) = 52 by omega]
  have k0 : 4503599627370496 ≤ m * 2 ^ (52 - l) := by rw [← hp]; exact Nat.mul_le_mul_right _ p0
  have k1 : m * 2 ^ (52 - l) < 9007199254740992 := by
    have : m * 2 ^ (52 - l) < 2 ^ (l + 1) * 2 ^ (52 - l) := Nat.mul_lt_mul_of_pos_right p1 (Nat.two_pow_pos _)
    rw [Nat.pow_succ, Nat.mul_assoc, Nat.mul_comm 2, ← Nat.mul_assoc, hp] at this
    omega
  generalize m * 2 ^ (52 - l) = K at *
  rw [Nat.min_eq_left (rung_le l K (by omega) (Nat.le_of_lt k1)), read_word s (l + 1022) K (by omega) k0 k1, place1]
/-- What is kept of a whole number of more than 53 bits. -/
theorem cut_even (s : Bool) (m e : Nat) (he : e ≤ m.log2) (h0 : 0 < e) : ∃ K, Toward.even.cut s m e = K ∧ m ≤ K * 2 ^ e + 2 ^ (e - 1) ∧ K * 2 ^ e ≤ m + 2 ^ (e - 1) ∧ (m % 2 ^ e = 0 → K * 2 ^ e = m) := by
  refine ⟨_, rfl, ?_⟩
  unfold Toward.cut
  have e1 : min e (m.log2 + 2) = e := by omega
  simp only [e1, Nat.shiftLeft_eq, Nat.one_mul]
  have hd := Nat.div_add_mod m (2 ^ e)
  have hlt : m % 2 ^ e < 2 ^ e := Nat.mod_lt _ (Nat.two_pow_pos _)
  have h2 : 2 ^ e = 2 * 2 ^ (e - 1) := by
    obtain ⟨k, rfl⟩ : ∃ k, e = k + 1 := ⟨e - 1, by omega⟩
    rw [Nat.pow_succ, Nat.mul_comm]; rfl
  rw [Nat.mul_comm] at hd
  generalize hx : m / 2 ^ e = x at *
  generalize hr : m % 2 ^ e = r at *
  generalize 2 ^ (e - 1) = g at *
  generalize 2 ^ e = G at *
  by_cases c1 : G < 2 * r
  · have : (decide (G < 2 * r) || G == 2 * r && x % 2 == 1) = true := by simp [c1]
    rw [this]
    simp only [Bool.toNat_true, Nat.add_mul, Nat.one_mul]
    omega
  · by_cases c2 : G = 2 * r ∧ x % 2 = 1
    · have : (decide (G < 2 * r) || G == 2 * r && x % 2 == 1) = true := by simp [c2]
      rw [this]
      simp only [Bool.toNat_true, Nat.add_mul, Nat.one_mul]
      omega
    · have : (decide (G < 2 * r) || G == 2 * r && x % 2 == 1) = false := by
        simp [c1]
        intro hg
        omega
      rw [this]
      simp only [Bool.toNat_false, Nat.add_zero]
      omega
/-- The nearest word of a whole number of more bits. -/
theorem near_big (m : Nat) (h0 : 2 ^ 53 ≤ m) (h1 : m < 2 ^ 65) : ∃ K e : Nat, (∀ s, double.read (double.nearest s m 0) = .number s K e) ∧ 0 < e ∧ e ≤ 13 ∧ K * 2 ^ e ≤ m + 2 ^ (m.log2 - 53) ∧ m ≤ K * 2 ^ e + 2 ^ (m.log2 - 53) ∧ (m % 2 ^ (m.log2 - 52) = 0 → K * 2 ^ e = m) ∧ (K * 2 ^ e) % 2 ^ ((K * 2 ^ e).log2 - 52) = 0 := by
  have hl0 : 53 ≤ m.log2 := (Nat.le_log2 (by omega)).2 h0
  have hl1 : m.log2 < 65 := (Nat.log2_lt (by omega)).2 h1
  have p0 : 2 ^ m.log2 ≤ m := Nat.log2_self_le (by omega)
  have p1 : m < 2 ^ (m.log2 + 1) := Nat.lt_log2_self
  obtain ⟨K, hK0, c1, c2, c3⟩ := cut_even false m (m.log2 - 52) (by omega) (by omega)
  have hK : ∀ s, Toward.even.cut s m (m.log2 - 52) = K := fun s => hK0
  clear hK0
  rw [show m.log2 - 52 - 1 = m.log2 - 53 by omega] at c1 c2
  have hn : ∀ s, double.nearest s m 0 = double.word s (min ((m.log2 + 1022) * 4503599627370496 + K) 9218868437227405312) := fun s => by
    unfold Format.nearest
    rw [if_neg (by omega), dL, dF, dB, dI]
    have hK := hK s
    clear c1 c2 c3 p0 p1
    generalize m.log2 = l at *
    have e1 : max ((0 : Int) + (l : Int) - ((52 : Nat) : Int)) (-1074) = (l : Int) - 52 := by omega
    simp only [e1]
    have e2 : ((0 : Int) - ((l : Int) - 52)).toNat = 0 := by omega
    have e3 : (((l : Int) - 52) - 0).toNat = l - 52 := by omega
    have e4 : (((l : Int) - 52) - (-1074)).toNat = l + 1022 := by omega
    rw [e2, e3, e4, Nat.shiftLeft_zero, hK]
  simp only [hn]
  clear hn hK
  generalize m.log2 = l at *
  obtain ⟨e, rfl⟩ : ∃ e, l = e + 53 := ⟨l - 53, by omega⟩
  rw [show e + 53 - 52 = e + 1 by omega, show e + 53 - 53 = e by omega] at *
  have q0 : 4503599627370496 * 2 ^ (e + 1) ≤ m := by
    have : 2 ^ (e + 53) = 4503599627370496 * 2 ^ (e + 1) := by rw [show e + 53 = 52 + (e + 1) by omega, Nat.pow_add]
    omega
  have q1 : m < 9007199254740992 * 2 ^ (e + 1) := by
    have : 2 ^ (e + 53 + 1) = 9007199254740992 * 2 ^ (e + 1) := by rw [show e + 53 + 1 = 53 + (e + 1) by omega, Nat.pow_add]
    omega
  have hg : 2 ^ (e + 1) = 2 * 2 ^ e := by rw [Nat.pow_succ, Nat.mul_comm]
  have hp : 0 < 2 ^ e := Nat.two_pow_pos _
  have k0 : 4503599627370496 ≤ K := by
    apply Nat.le_of_not_lt
    intro h
    have : (K + 1) * 2 ^ (e + 1) ≤ 4503599627370496 * 2 ^ (e + 1) := Nat.mul_le_mul_right _ (by omega)
    rw [Nat.add_mul] at this
    omega
  have k1 : K ≤ 9007199254740992 := by
    apply Nat.le_of_not_lt
    intro h
    have : 9007199254740993 * 2 ^ (e + 1) ≤ K * 2 ^ (e + 1) := Nat.mul_le_mul_right _ (by omega)
    omega
  rw [Nat.min_eq_left (rung_le (e + 53) K (by omega) k1)]
  have lg : ∀ (J f : Nat), 4503599627370496 ≤ J → J < 9007199254740992 → (J * 2 ^ f).log2 = 52 + f := fun J f h0 h1 => by
    have hJ : 0 < 2 ^ f := Nat.two_pow_pos _
    have a : 2 ^ (52 + f) ≤ J * 2 ^ f := by rw [Nat.pow_add]; exact Nat.mul_le_mul_right _ h0
    have b : J * 2 ^ f < 2 ^ (52 + f + 1) := by
      rw [show 52 + f + 1 = 53 + f by omega, Nat.pow_add]
      exact Nat.mul_lt_mul_of_pos_right h1 hJ
    have h1 : 52 + f ≤ (J * 2 ^ f).log2 := (Nat.le_log2 (by omega)).2 a
    have h2 : (J * 2 ^ f).log2 < 52 + f + 1 := (Nat.log2_lt (by omega)).2 b
    omega
  by_cases hK2 : K = 9007199254740992
  · subst hK2
    rw [rung_top]
    have ev : 4503599627370496 * 2 ^ (e + 2) = 9007199254740992 * 2 ^ (e + 1) := by rw [show e + 2 = (e + 1) + 1 by omega, Nat.pow_succ]; omega
    refine ⟨4503599627370496, e + 2, fun s => by rw [read_word s (e + 1076) 4503599627370496 (by omega) (Nat.le_refl _) (by decide), place2], by omega, by omega, by rw [ev]; exact c2, by rw [ev]; exact c1, by rw [ev]; exact c3, ?_⟩
    rw [lg _ _ (Nat.le_refl _) (by decide), show 52 + (e + 2) - 52 = e + 2 by omega, Nat.mul_mod_left]
  · have k2 : K < 9007199254740992 := Nat.lt_of_le_of_ne k1 hK2
    refine ⟨K, e + 1, fun s => by rw [read_word s (e + 53 + 1022) K (by omega) k0 k2, place3], by omega, by omega, c2, c1, c3, ?_⟩
    rw [lg _ _ k0 k2, show 52 + (e + 1) - 52 = e + 1 by omega, Nat.mul_mod_left]
end Go.Proofs.Ytnbolfogmhlanaa
