/-
  Which of the pages that PageLimits makes may be.
-/
import Derived.Test.YtomknaendicpkaaRchk
namespace Go.Proofs.Ytomknaendicpkaa
open Go.RowKit
/-- k times the byte of a key's number. -/
def ky (k i : Nat) : ByteArray := ⟨(List.replicate k (UInt8.ofNat (97 + i))).toArray⟩
def kys (n k : Nat) : List ByteArray := (List.range n).map (ky k)
def zeros (v : Nat) : ByteArray := ⟨(List.replicate v 0).toArray⟩
theorem ky_list (k i : Nat) : (ky k i).toList = List.replicate k (UInt8.ofNat (97 + i)) := by rw [ByteArray.toList_eq]; rfl
theorem ky_size (k i : Nat) : (ky k i).size = k := by
  show (List.replicate k _).toArray.size = k
  simp
theorem byte_lt (i j : Nat) (h : i < j) (hj : j < 100) : UInt8.ofNat (97 + i) < UInt8.ofNat (97 + j) := by
  rw [UInt8.lt_iff_toNat_lt]
  have e : ∀ x, (UInt8.ofNat x).toNat = x % 256 := fun x => UInt8.toNat_ofNat' 
  rw [e, e]
  omega
theorem rep_less (k : Nat) (a b : UInt8) (h : a < b) : Op.bytesLess (List.replicate (k + 1) a) (List.replicate (k + 1) b) = true := by
  rw [List.replicate_succ, List.replicate_succ]
  simp [Op.bytesLess, h]
theorem less_self : ∀ a : List UInt8, Op.bytesLess a a = false
  | [] => by simp [Op.bytesLess]
  | x :: r => by
    have ih := less_self r
    have h : ¬ x < x := fun e => by rw [UInt8.lt_iff_toNat_lt] at e; omega
    simp [Op.bytesLess, ih, h]
theorem kys_from (n k : Nat) : ∀ m, m ≤ n → kys n k = kys m k ++ ((List.range (n - m)).map fun j => ky k (m + j)) := by
  intro m hm
  obtain ⟨d, rfl⟩ : ∃ d, n = m + d := ⟨n - m, by omega⟩
  unfold kys
  rw [show m + d - m = d by omega, List.range_add, List.map_append, List.map_map]
  rfl
theorem rise_from (k : Nat) (hk : k + 1 ≤ 64) : ∀ (d m : Nat) (a : ByteArray), m + d ≤ 90 → Op.bytesLess a.toList (ky (k + 1) m).toList = true → riseB a ((List.range d).map fun j => ky (k + 1) (m + j)) = true
  | 0, _, _, _, _ => rfl
  | d + 1, m, a, hm, ha => by
    rw [List.range_succ_eq_map, List.map_cons, List.map_map]
    unfold riseB
    have ih := rise_from k hk d (m + 1) (ky (k + 1) m) (by omega) (by
      rw [ky_list, ky_list]
      exact rep_less k _ _ (byte_lt m (m + 1) (by omega) (by omega)))
    have e : ((fun j => ky (k + 1) (m + j)) ∘ Nat.succ) = fun j => ky (k + 1) (m + 1 + j) := by
      funext j
      show ky (k + 1) (m + (j + 1)) = _
      rw [show m + (j + 1) = m + 1 + j by omega]
    simp only [Nat.add_zero]
    have d : decide (64 < ((ky (k + 1) m).size : Int)) = false := decide_eq_false (by rw [ky_size]; omega)
    rw [e, ha, ih, d]
    rfl
theorem rise_kys (n k : Nat) (hn : n ≤ 20) (hk : k + 1 ≤ 64) : riseB ⟨#[]⟩ (kys n (k + 1)) = true := by
  have h := rise_from k hk n 0 ⟨#[]⟩ (by omega) (by
    rw [empty_toList, none_less, ky_list, List.replicate_succ]
    rfl)
  have e : ((List.range n).map fun j => ky (k + 1) (0 + j)) = kys n (k + 1) := by
    unfold kys
    congr 1
    funext j
    rw [Nat.zero_add]
  rwa [e] at h
theorem kys_len (n k : Nat) : (kys n k).length = n := by simp [kys]
theorem kys_cons (n k : Nat) : ∃ r, kys (n + 1) k = ky k 0 :: r := by
  unfold kys
  rw [List.range_succ_eq_map, List.map_cons]
  exact ⟨_, rfl⟩
theorem rise_zero (n : Nat) : riseB ⟨#[]⟩ (kys (n + 1) 0) = false := by
  obtain ⟨r, hr⟩ := kys_cons n 0
  rw [hr]
  unfold riseB
  rw [ky_list]
  simp [less_none]
theorem rise_long (n k : Nat) (hk : 64 < k) : riseB ⟨#[]⟩ (kys (n + 1) k) = false := by
  obtain ⟨r, hr⟩ := kys_cons n k
  rw [hr]
  unfold riseB
  have : decide (64 < ((ky k 0).size : Int)) = true := decide_eq_true (by rw [ky_size]; omega)
  rw [this]
  simp
/-- A key that stands there twice. -/
theorem rise_twice (x : ByteArray) (a : ByteArray) (r : List ByteArray) : riseB a (x :: x :: r) = false := by
  unfold riseB
  unfold riseB
  rw [less_self]
  simp
end Go.Proofs.Ytomknaendicpkaa
