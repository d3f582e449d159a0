/-
  LexPoints: digits, a point, digits.
-/
import Derived.Test.YthpeckoleiecbaaDoorAw
namespace Go.Proofs.YthpeckoleiecbaaDoor
open Go.RowKit
theorem and15 (n : Int) : bits .and .i64 n 15 = n % 16 := by
  have h1 : (BitVec.ofInt 64 15).toNat = 2 ^ 4 - 1 := by decide
  have key : (BitVec.ofInt 64 n &&& BitVec.ofInt 64 15).toNat = (n % ((2 ^ 64 : Nat) : Int)).toNat % 2 ^ 4 := by
    rw [BitVec.toNat_and, BitVec.toNat_ofInt, h1, Nat.and_two_pow_sub_one_eq_mod]
  show IntKind.i64.wrap ((BitVec.ofInt 64 n &&& BitVec.ofInt 64 15).toNat : Nat) = n % 16
  rw [key, IntKind.wrap_i64]
  omega
def ptL (n m : Nat) : List UInt8 := List.replicate n 55 ++ 46 :: List.replicate m 48
def bs (l : List UInt8) : ByteArray := ⟨l.toArray⟩
theorem bs_toList (l : List UInt8) : (bs l).toList = l := by unfold bs; rw [ByteArray.toList_eq]
theorem bs_size (l : List UInt8) : (bs l).size = l.length := by rw [← size_toList, bs_toList]
theorem bs_snoc (l : List UInt8) (c : UInt8) : bs l ++ ⟨#[c]⟩ = bs (l ++ [c]) := by
  apply bytes_ext
  rw [ByteArray.data_append, Array.toList_append]
  simp [bs]
theorem run_rep (p : UInt8 → Bool) (c : UInt8) (h : p c = true) : ∀ (n : Nat) (r : List UInt8), runN p (List.replicate n c ++ r) = n + runN p r
  | 0, r => by simp
  | n + 1, r => by
    rw [List.replicate_succ, List.cons_append, run_pos _ _ _ h, run_rep p c h n r]
    omega
theorem pt_drop (n m : Nat) : (ptL n m).dropWhile isD = 46 :: List.replicate m 48 := by
  rw [dropWhile_drop]
  unfold ptL
  rw [run_rep isD 55 (by decide), run_neg isD 46 _ (by decide), Nat.add_zero, List.drop_append, List.length_replicate, Nat.sub_self, List.drop_zero, List.drop_eq_nil_of_le (by simp)]
  rfl
theorem pt_run (n m : Nat) : runN isD (ptL n m) = n := by
  unfold ptL
  rw [run_rep isD 55 (by decide), run_neg isD 46 _ (by decide)]
  rfl
theorem rep_run (m : Nat) : runN isD (List.replicate m 48) = m := by
  have := run_rep isD 48 (by decide) m []
  rw [List.append_nil] at this
  exact this
theorem pt_numN (n m : Nat) : numN (ptL n m) = n + 1 + m := by
  unfold numN
  rw [pt_drop, pt_run]
  show n + 1 + runN isD (List.replicate m 48) = _
  rw [rep_run]
theorem pt_numK (n m : Nat) : numK (ptL n m) = if m ≠ 0 ∧ n + m ≤ 15 then 3 else 0 := by
  unfold numK
  rw [pt_drop, pt_run]
  show (if runN isD (List.replicate m 48) ≠ 0 ∧ n + runN isD (List.replicate m 48) ≤ 15 then 3 else 0) = _
  rw [rep_run]
theorem pt_len (n m : Nat) : (ptL n m).length = n + 1 + m := by
  unfold ptL
  rw [List.length_append, List.length_cons, List.length_replicate, List.length_replicate]
  omega
theorem pt_cons (n m : Nat) : ∃ c r, ptL n m = c :: r ∧ isG c = false ∧ c ≠ 47 ∧ isL c = false ∧ isD c = decide (0 < n) ∧ (n = 0 → c = 46) := by
  cases n with
  | zero => exact ⟨46, _, rfl, by decide, by decide, by decide, rfl, fun _ => rfl⟩
  | succ n => exact ⟨55, _, by unfold ptL; rw [List.replicate_succ, List.cons_append], by decide, by decide, by decide, by simp; decide, fun h => by omega⟩
theorem pt_skip (n m : Nat) : skip (ptL n m) = ptL n m := by
  obtain ⟨c, r, e, h1, h2, _⟩ := pt_cons n m
  rw [e]
  exact skip_word c r h1 (fun h => h2 h.1)
theorem pt_bad (n m : Nat) (h : ¬ (0 < n ∧ 0 < m ∧ n + m ≤ 15)) : toks (ptL n m) = .error 0 := by
  rw [toks_eq, pt_skip]
  obtain ⟨c, r, e, _, _, h3, h4, h5⟩ := pt_cons n m
  have hk : wordK (ptL n m) = 0 := by
    rw [e, wordK_cons, h3, h4, ← e]
    by_cases hn : 0 < n
    · rw [decide_eq_true hn, pt_numK]
      simp only [Bool.false_eq_true, if_false, if_true]
      rw [if_neg (by omega)]
    · rw [decide_eq_false hn]
      simp only [Bool.false_eq_true, if_false]
      rw [if_pos]
      rw [e, h5 (by omega), signN_cons]
      have hn0 : n = 0 := by omega
      subst hn0
      have e2 : (c :: r) = 46 :: List.replicate m 48 := e.symm
      injection e2 with _ e3
      rw [e3]
      rw [if_neg, if_neg (by decide)]
      cases m with
      | zero => decide
      | succ m => rw [List.replicate_succ]; show ¬ (twoL.contains [46, 48] = true); decide
  rw [e] at hk ⊢
  rw [toksA_bad _ _ _ hk, Nat.sub_self]
theorem pt_ok (n m : Nat) (h1 : 0 < n) (h2 : 0 < m) (h3 : n + m ≤ 15) : toks (ptL n m) = .ok [⟨3, ptL n m, 0⟩, ⟨0, [], n + 1 + m⟩] := by
  rw [toks_eq, pt_skip]
  obtain ⟨c, r, e, _, _, h4, h5, _⟩ := pt_cons n m
  have hk : wordK (ptL n m) = 3 := by
    rw [e, wordK_cons, h4, h5, ← e, decide_eq_true h1, pt_numK]
    simp only [Bool.false_eq_true, if_false, if_true]
    rw [if_pos (by omega)]
  have hn : wordN (ptL n m) = n + 1 + m := by
    rw [e, wordN_cons, h4, h5, ← e, decide_eq_true h1, pt_numN]
    simp only [Bool.false_eq_true, if_false, if_true]
  have := toksA_ok (ptL n m).length c r (by rw [← e, hk]; decide) []
  rw [← e, hk, hn, ahead_nil, Nat.sub_self, List.drop_eq_nil_of_le (by rw [pt_len]; omega), List.take_of_length_le (by rw [pt_len]; omega)] at this
  rw [this, pt_len]
  rfl
end Go.Proofs.YthpeckoleiecbaaDoor
