/-
  The bytes of a number that was read out of bytes are these bytes.
-/
import Derived.Test.YtdodammplhlihaaGreatDoorWLow
namespace Go.Proofs.YtdodammplhlihaaGreatDoor.Tr
open Go.RowKit
theorem byt_le (V : ByteArray) (k i : Nat) (h : i < k) : byt (leT V k) i = (V.data.getD i 0).toNat := by
  induction k with
  | zero => omega
  | succ k ih =>
    have hb : (V.data.getD i 0).toNat < 256 := UInt8.toNat_lt _
    have hlt := leT_lt V k
    unfold byt
    show (leT V k + (V.data.getD k 0).toNat * 2 ^ (8 * k)) / 2 ^ (8 * i) % 256 = _
    by_cases e : i = k
    · subst e
      rw [Nat.add_mul_div_right _ _ (Nat.pow_pos (by decide)), Nat.div_eq_of_lt hlt, Nat.zero_add, Nat.mod_eq_of_lt hb]
    · have h2 := ih (by omega)
      unfold byt at h2
      have e2 : 2 ^ (8 * k) = 2 ^ (8 * (k - i)) * 2 ^ (8 * i) := by rw [← Nat.pow_add]; congr 1; omega
      rw [e2, ← Nat.mul_assoc, Nat.add_mul_div_right _ _ (Nat.pow_pos (by decide)), show 8 * (k - i) = 8 * (k - i - 1) + 8 by omega, Nat.pow_add, show (2 : Nat) ^ 8 = 256 from rfl, ← Nat.mul_assoc, Nat.add_mul_mod_self_right, h2]
theorem numS_le (V : ByteArray) (k : Nat) (h : V.size = k) : numS (leT V k) k = V := by
  apply bytes_ext
  rw [numS_list]
  apply List.ext_getElem
  · rw [numL_len, bytes_len, h]
  · intro i h1 h2
    have hi : i < k := by rw [numL_len] at h1; exact h1
    have e1 := numL_at (leT V k) k i h1
    have e2 := byt_le V k i hi
    have e3 : V.data.getD i 0 = V.data.toList[i] := by
      rw [getD_byte V i (by omega)]
      rfl
    rw [e2, e3] at e1
    exact UInt8.toNat_inj.1 (by omega)
theorem takeE_zero (s : ByteArray) (e n : Nat) (h : takeE s e n = 0) : n ≤ s.size ∧ e = 0 := by
  unfold takeE failE at h
  by_cases h1 : s.size < n
  · rw [if_pos h1] at h
    split at h
    · next q => omega
    · omega
  · rw [if_neg h1] at h
    exact ⟨by omega, h⟩
theorem failE_zero (e f : Nat) (h : failE e f = 0) : e = 0 ∧ f = 0 := by
  unfold failE at h
  split at h
  · next q => omega
  · next q => omega
theorem ext_list (s : ByteArray) (p m : Nat) : (s.extract p m).data.toList = (s.data.toList.take m).drop p := by
  rw [ByteArray.data_extract, Array.toList_extract, List.extract_eq_take_drop, List.drop_take]
theorem ext_cut (s : ByteArray) (p n : Nat) (hp : p ≤ s.size) : s.extract p (p + (4 + n)) = (s.extract p s.size).extract 0 4 ++ ((s.extract p s.size).extract 4 (s.extract p s.size).size).extract 0 n := by
  apply bytes_ext
  rw [append_list]
  simp only [ext_list]
  have e1 : s.data.toList.take s.size = s.data.toList := List.take_of_length_le (by rw [bytes_len]; exact Nat.le_refl _)
  have e2 : (s.extract p s.size).size = s.size - p := by rw [ByteArray.size_extract]; omega
  rw [e1, e2, List.drop_take, List.take_of_length_le (l := s.data.toList.drop p) (i := s.size - p) (by rw [List.length_drop, bytes_len]; exact Nat.le_refl _), show p + (4 + n) - p = 4 + n by omega, List.take_add]
  simp
end Go.Proofs.YtdodammplhlihaaGreatDoor.Tr
