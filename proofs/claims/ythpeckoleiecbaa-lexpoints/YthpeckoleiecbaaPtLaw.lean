/-
  LexPoints: digits, a point, digits.
-/
import Derived.Test.YthpeckoleiecbaaAw
namespace Go.Proofs.Ythpeckoleiecbaa
open Go.RowKit
theorem and15 (n : Int) : bits .and .i64 n 15 = n % 16 := by
  have h1 : (BitVec.ofInt 64 15).toNat = 2 ^ 4 - 1 := by decide
  have key : (BitVec.ofInt 64 n &&& BitVec.ofInt 64 15).toNat = (n % ((2 ^ 64 : Nat) : Int)).toNat % 2 ^ 4 := by
    rw [BitVec.toNat_and, BitVec.toNat_ofInt, h1, Nat.and_two_pow_sub_one_eq_mod]
  show IntKind.i64.wrap ((BitVec.ofInt 64 n &&& BitVec.ofInt 64 15).toNat : Nat) = n % 16
  rw [key, IntKind.wrap_i64]
  omega
def ptL (n m : Nat) : List UInt8 := List.replicate n 55 ++ 46 :: List.replicate m 48
def bs (l : List UInt8) : ByteArray := ⟨l.toArray⟩
theorem bs_toList (l : List UInt8) : (bs l).toList = l := by unfold bs; rw [ByteArray.toList_eq]
theorem bs_size (l : List UInt8) : (bs l).size = l.length := by rw [← size_toList, bs_toList]
theorem bs_snoc (l : List UInt8) (c : UInt8) : bs l ++ ⟨#[c]⟩ = bs (l ++ [c]) := by
  apply bytes_ext
  rw [ByteArray.data_append, Array.toList_append]
  simp [bs]
theorem run_rep (p : UInt8 → Bool) (c : UInt8) (h : p c = true) : ∀ (n : Nat) (r : List UInt8), runN p (List.replicate n c ++ r) = n + runN p r
  | 0, r => by simp
  | n + 1, r => by
    rw [List.replicate_succ, List.cons_append, run_pos _ _ _ h, run_rep p c h n r]
    omega
theorem pt_drop (n m : Nat) : (ptL n m).dropWhile isD = 46 :: List.replicate m 48 := by
  rw [dropWhile_drop]
  unfold ptL
  rw [run_rep isD 55 (by decide), run_neg isD 46 _ (by decide), Nat.add_zero, List.drop_append, List.length_replicate, Nat.sub_self, List.drop_zero, List.drop_eq_nil_of_le (by simp)]
  rfl
theorem pt_run (n m : Nat) : runN isD (ptL n m) = n := by
  unfold ptL
  rw [run_rep isD 55 (by decide), run_neg isD 46 _ (by decide)]
  rfl
theorem rep_run (m : Nat) : runN isD (List.replicate m 48) = m := by
  have := run_rep isD 48 (by decide) m []
  rw [List.append_nil] at this
  exact this
theorem pt_numN (n m : Nat) : numN (ptL n m) = n + 1 + m := by
  unfold numN
  rw [pt_drop, pt_run]
  show n + 1 + runN isD (List.replicate m 48) = _
  rw [rep_run]
theorem pt_numK (n m : Nat) : numK (ptL n m) = if m ≠ 0 ∧ n + m ≤ 15 then 3 else 0 := by
  unfold numK
  rw [pt_drop, pt_run]
  show (if runN isD (List.replicate m 48) ≠ 0 ∧ n + runN isD (List.replicate m 48) ≤ 15 then 3 else 0) = _
  rw [rep_run]
theorem pt_len (n m : Nat) : (ptL n m).length = n + 1 + m := by
  unfold ptL
  rw [List.length_append, List.length_cons, List.length_replicate, List.length_replicate]
  omega
theorem pt_cons (n m : Nat) : ∃ c r, ptL n m = c :: r ∧ isG c = false ∧ c ≠ 47 ∧ isL c = false ∧ isD c = decide (0 < n) ∧ (n = 0 → c = 46) := by
  cases n with
  | zero => exact ⟨46, _, rfl, by decide, by decide, by decide, rfl, fun _ => rfl⟩
  | succ n => exact ⟨55, _, by unfold ptL; rw [List.replicate_succ, List.cons_append], by decide, by decide, by decide, by simp; decide, fun h => by omega⟩
theorem pt_skip (n m : Nat) : skip (ptL n m) = ptL n m := by
  obtain ⟨c, r, e, h1, h2, _⟩ := pt_cons n m
  rw [e]
  exact skip_word c r h1 (fun h => h2 h.1)
theorem pt_bad (n m : Nat) (h : ¬ (0 < n ∧ 0 < m ∧ n + m ≤ 15)) : toks (ptL n m) = .error 0 := by
  rw [toks_eq, pt_skip]
  obtain ⟨c, r, e, _, _, h3, h4, h5⟩ := pt_cons n m
  have hk : wordK (ptL n m) = 0 := by
    rw [e, wordK_cons, h3, h4, ← e]
    by_cases hn : 0 < n
    · rw [decide_eq_true hn, pt_numK]
      simp only [Bool.false_eq_true, if_false, if_true]
      rw [if_neg (by omega)]
    · rw [decide_eq_false hn]
      simp only [Bool.false_eq_true, if_false]
      rw [if_pos]
      rw [e, h5 (by omega), signN_cons]
      have hn0 : n = 0 := by omega
      subst hn0
      have e2 : (c :: r) = 46 :: List.replicate m 48 := e.symm
      injection e2 with _ e3
      rw [e3]
      rw [if_neg, if_neg (by decide)]
      cases m with
      | zero => decide
      | succ m => rw [List.replicate_succ]; show ¬ (twoL.contains [46, 48] = true); decide
  rw [e] at hk ⊢
  rw [toksA_bad _ _ _ hk, Nat.sub_self]
theorem pt_ok (n m : Nat) (h1 : 0 < n) (h2 : 0 < m) (h3 : n + m ≤ 15) : toks (ptL n m) = .ok [⟨3, ptL n m, 0⟩, ⟨0, [], n + 1 + m⟩] := by
  rw [toks_eq, pt_skip]
  obtain ⟨c, r, e, _, _, h4, h5, _⟩ := pt_cons n m
  have hk : wordK (ptL n m) = 3 := by
    rw [e, wordK_cons, h4, h5, ← e, decide_eq_true h1, pt_numK]
    simp only [Bool.false_eq_true, if_false, if_true]
    rw [if_pos (by omega)]
  have hn : wordN (ptL n m) = n + 1 + m := by
    rw [e, wordN_cons, h4, h5, ← e, decide_eq_true h1, pt_numN]
    simp only [Bool.false_eq_true, if_false, if_true]
  have := toksA_ok (ptL n m).length c r (by rw [← e, hk]; decide) []
  rw [← e, hk, hn, ahead_nil, Nat.sub_self, List.drop_eq_nil_of_le (by rw [pt_len]; omega), List.take_of_length_le (by rw [pt_len]; omega)] at this
  rw [this, pt_len]
  rfl
set_option maxRecDepth 100000 in
set_option maxHeartbeats 2000000 in
theorem points_law (a b : Int) (w : World) : Calls Try.prog 6 #[.int .i64 a, .int .i64 b] w fun e w' => e = .returned (.bool true) ∧ w.grownBy w' none := by
  obtain ⟨n, hn, n15⟩ : ∃ n : Nat, bits .and .i64 a 15 = n ∧ n ≤ 15 := ⟨(a % 16).toNat, by rw [and15]; omega, by omega⟩
  obtain ⟨m, hm, m15⟩ : ∃ m : Nat, bits .and .i64 b 15 = m ∧ m ≤ 15 := ⟨(b % 16).toNat, by rw [and15]; omega, by omega⟩
  have CA : Hid (∀ W, Calls Try.prog 9 #[] W fun e w' => e = .returned (.bool true) ∧ W.grownBy w' none) := awake_any
  have C1 : Hid (∀ W, Calls Try.prog 7 #[.string (bs (ptL n m))] W (TokPost 31 W (toks (ptL n m)))) := fun W => by
    have := tokens_any (bs (ptL n m)) W (by rw [bs_size, pt_len]; omega)
    rwa [bs_toList] at this
  have n16 : (n : Int) ≤ 15 := by omega
  have m16 : (m : Int) ≤ 15 := by omega
  go_enter Try.func6, Try.ntmps6
  go_wp2
  clear hn hm
  go_loop [7, 8] (fun s i => ∃ k : Nat, k ≤ n ∧ i = .int .i64 k ∧ s = .string (bs (List.replicate k 55))) (fun _ i => n - (intOf i).toNat)
  case atStart => exact ⟨0, Nat.zero_le _, rfl, rfl⟩
  case round =>
    obtain ⟨k, hk, rfl, rfl⟩ := hrel
    have k0 : (0 : Int) ≤ k := by omega
    by_cases hlt : k < n
    · have k1 : (k : Int) < n := by omega
      have es : bs (List.replicate k 55) ++ ⟨#[55]⟩ = bs (List.replicate (k + 1) 55) := by
        rw [bs_snoc, List.replicate_succ']
      have ez : (bs (List.replicate k 55)).size ≤ 15 := by rw [bs_size, List.length_replicate]; omega
      have ez2 : ¬ 9223372036854775807 < (bs (List.replicate k 55)).size + 1 := by omega
      generalize bs (List.replicate k 55) = A at *
      generalize hB : bs (List.replicate (k + 1) 55) = B at *
      have HB := hid hB
      clear hB
      go_wp2
      go_round
      case rel => exact ⟨k + 1, by omega, by go_num, by rw [HB.out]⟩
      case measure => simp [intOf]; omega
    · have k1 : ¬ (k : Int) < n := by omega
      have ek : k = n := by omega
      subst ek
      have es : bs (List.replicate k 55) ++ ⟨#[46]⟩ = bs (ptL k 0) := by
        rw [bs_snoc]
        rfl
      have ez : (bs (List.replicate k 55)).size ≤ 15 := by rw [bs_size, List.length_replicate]; omega
      have ez2 : ¬ 9223372036854775807 < (bs (List.replicate k 55)).size + 1 := by omega
      generalize bs (List.replicate k 55) = A at *
      generalize hB : bs (ptL k 0) = B at *
      have HB := hid hB
      clear hB
      go_wp2
      go_loop [7, 9] (fun s i => ∃ j : Nat, j ≤ m ∧ i = .int .i64 j ∧ s = .string (bs (ptL k j))) (fun _ i => m - (intOf i).toNat)
      case atStart => exact ⟨0, Nat.zero_le _, rfl, by rw [HB.out]⟩
      case round =>
        obtain ⟨j, hj, rfl, rfl⟩ := hrel
        have j0 : (0 : Int) ≤ j := by omega
        clear es ez ez2 HB
        by_cases hlj : j < m
        · have j1 : (j : Int) < m := by omega
          have es : bs (ptL k j) ++ ⟨#[48]⟩ = bs (ptL k (j + 1)) := by
            rw [bs_snoc]
            unfold ptL
            rw [List.replicate_succ', List.append_assoc, List.cons_append]
          have ez : (bs (ptL k j)).size ≤ 31 := by rw [bs_size, pt_len]; omega
          have ez2 : ¬ 9223372036854775807 < (bs (ptL k j)).size + 1 := by omega
          generalize bs (ptL k j) = X at *
          generalize hY : bs (ptL k (j + 1)) = Y at *
          have HY := hid hY
          clear hY C1 CA
          go_wp2
          go_round
          case rel => exact ⟨j + 1, by omega, by go_num, by rw [HY.out]⟩
          case measure => simp [intOf]; omega
        · have j1 : ¬ (j : Int) < m := by omega
          have ej : j = m := by omega
          subst ej
          by_cases hok : 0 < k ∧ 0 < j ∧ k + j ≤ 15
          · obtain ⟨o1, o2, o3⟩ := hok
            have i1 : (0 : Int) < k := by omega
            have i2 : (0 : Int) < j := by omega
            have i3 : (k : Int) + j ≤ 15 := by omega
            rw [pt_ok k j o1 o2 o3] at C1
            have eq : ((bs (ptL k j)).toList == (bs (ptL k j)).toList) = true := by simp
            have CC : Hid (∀ W v, Toks W 31 w.heap.size v [⟨3, ptL k j, 0⟩, ⟨0, [], k + 1 + j⟩] → ∃ g c, v = .slice (some ⟨g, 0, none⟩) 2 c ∧ W.cell? ⟨g, 0, none⟩ = some (.int .i64 3) ∧ W.cell? ⟨g, 1, none⟩ = some (.string (bs (ptL k j)))) := fun W v h => by
              obtain ⟨pa, c, rfl, _⟩ := row_form h
              obtain ⟨g, rfl, q1, q2, _⟩ := h.cell 0 (by show 0 < 2; decide)
              exact ⟨g, c, rfl, q1, q2⟩
            generalize bs (ptL k j) = X at *
            go_wp2_with (first
              | (go_at_call 7; refine (C1.out _).mono ?_; rintro e w1 ⟨v, rfl, ht, hg⟩; have G1 := hid hg; obtain ⟨g, c, rfl, q1, q2⟩ := CC.out _ _ ht; have T1 := hid ht; clear C1 hg ht)
              | (go_at_call 9; refine (CA.out _).mono ?_; rintro e w2 ⟨rfl, hg⟩; have G2 := hid (grown_none G1.out hg); obtain ⟨g', c', eg, r1, r2⟩ := CC.out _ _ (T1.out.kept hg); injection eg with eg eg1 eg2; injection eg with eg; injection eg with eg; subst eg; clear CA hg))
            go_ret
            exact ⟨rfl, G2.out⟩
          · rw [pt_bad k j hok] at C1
            generalize bs (ptL k j) = X at *
            by_cases o1 : 0 < k
            · have i1 : (0 : Int) < k := by omega
              by_cases o2 : 0 < j
              · have i2 : (0 : Int) < j := by omega
                have i3 : ¬ (k : Int) + j ≤ 15 := by omega
                clear hok
                go_wp2_with (first
                  | (go_at_call 7; refine (C1.out _).mono ?_; rintro e w1 ⟨rfl, hg⟩; have G1 := hid hg; clear C1 hg)
                  | (go_at_call 9; refine (CA.out _).mono ?_; rintro e w2 ⟨rfl, hg⟩; have G2 := hid (grown_none G1.out hg); clear CA hg))
                go_ret
                exact ⟨rfl, G2.out⟩
              · have i2 : ¬ (0 : Int) < j := by omega
                clear hok
                go_wp2_with (first
                  | (go_at_call 7; refine (C1.out _).mono ?_; rintro e w1 ⟨rfl, hg⟩; have G1 := hid hg; clear C1 hg)
                  | (go_at_call 9; refine (CA.out _).mono ?_; rintro e w2 ⟨rfl, hg⟩; have G2 := hid (grown_none G1.out hg); clear CA hg))
                go_ret
                exact ⟨rfl, G2.out⟩
            · have i1 : ¬ (0 : Int) < k := by omega
              clear hok
              go_wp2_with (first
                | (go_at_call 7; refine (C1.out _).mono ?_; rintro e w1 ⟨rfl, hg⟩; have G1 := hid hg; clear C1 hg)
                | (go_at_call 9; refine (CA.out _).mono ?_; rintro e w2 ⟨rfl, hg⟩; have G2 := hid (grown_none G1.out hg); clear CA hg))
              go_ret
              exact ⟨rfl, G2.out⟩
end Go.Proofs.Ythpeckoleiecbaa
