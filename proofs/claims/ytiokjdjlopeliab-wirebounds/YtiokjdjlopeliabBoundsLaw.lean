/-
  The law WireBounds walked: of whatever number and whatever most it answers true, and nothing that was there turns.
-/
import Derived.Test.YtiokjdjlopeliabPutC
namespace Go.Proofs.Ytiokjdjlopeliab
open Go.RowKit
theorem extract_all (s : ByteArray) (n : Nat) (h : s.size = n) : s.extract 0 n = s := by
  apply bytes_ext
  rw [ByteArray.data_extract, Array.toList_extract]
  show s.data.toList.extract 0 n = _
  rw [← h, ← bytes_len]
  simp only [List.extract_eq_take_drop, List.drop_zero, Nat.sub_zero, List.take_length]
theorem extract_none (s : ByteArray) (n m : Nat) (h : m ≤ n) : s.extract n m = ⟨#[]⟩ := by
  apply ByteArray.ext
  apply Array.eq_empty_of_size_eq_zero
  show (s.extract n m).size = 0
  rw [ByteArray.size_extract]
  omega
theorem num_at (n k i : Nat) (h : i < k) : ((numS n k).data.getD i 0).toNat = byt n i := by
  have h1 : i < (numL n k).length := by rw [numL_len]; exact h
  have e : (numS n k).data.getD i 0 = (numL n k)[i] := by
    show (numL n k).toArray.getD i 0 = _
    rw [Array.getD_eq_getD_getElem?, List.getElem?_toArray, List.getElem?_eq_getElem h1]
    rfl
  rw [e]
  have := numL_at n k i h1
  omega
theorem le_num (n k : Nat) : ∀ j, j ≤ k → leT (numS n k) j = n % 2 ^ (8 * j)
  | 0, _ => by rw [Nat.mul_zero, Nat.pow_zero, Nat.mod_one]; rfl
  | j + 1, h => by
    show leT (numS n k) j + ((numS n k).data.getD j 0).toNat * 2 ^ (8 * j) = _
    rw [le_num n k j (by omega), num_at n k j (by omega), show 8 * (j + 1) = 8 * j + 8 by omega, Nat.pow_add, Nat.mod_mul]
    unfold byt
    rw [Nat.mul_comm (2 ^ (8 * j))]
theorem and1023 (n : Int) : bits .and .i64 n 1023 = n % 1024 := by
  have h1 : (BitVec.ofInt 64 1023).toNat = 2 ^ 10 - 1 := by decide
  have key : (BitVec.ofInt 64 n &&& BitVec.ofInt 64 1023).toNat = (n % ((2 ^ 64 : Nat) : Int)).toNat % 2 ^ 10 := by
    rw [BitVec.toNat_and, BitVec.toNat_ofInt, h1, Nat.and_two_pow_sub_one_eq_mod]
  show IntKind.i64.wrap ((BitVec.ofInt 64 n &&& BitVec.ofInt 64 1023).toNat : Nat) = n % 1024
  rw [key, IntKind.wrap_i64]
  omega
theorem extract_left (a b : ByteArray) (n : Nat) (h : a.size = n) : (a ++ b).extract 0 n = a := by
  apply bytes_ext
  rw [ByteArray.data_extract, Array.toList_extract]
  show (a ++ b).data.toList.extract 0 n = _
  rw [append_list, List.extract_eq_take_drop, List.drop_zero, Nat.sub_zero, ← h, ← bytes_len, List.take_left]
theorem extract_right (a b : ByteArray) (n m : Nat) (h : a.size = n) (hm : (a ++ b).size = m) : (a ++ b).extract n m = b := by
  apply bytes_ext
  rw [ByteArray.data_extract, Array.toList_extract]
  show (a ++ b).data.toList.extract n m = _
  rw [ByteArray.size_append] at hm
  rw [append_list, List.extract_eq_take_drop, ← h, ← bytes_len, List.drop_left, ← hm, bytes_len, Nat.add_sub_cancel_left, ← bytes_len, List.take_length]
/-- What a reader of a text with its count ahead, and something behind it, answers. -/
theorem bounds_facts (T M : ByteArray) (hT : T.size ≤ 1023) (hM : M.size = 4) : takeV (numS T.size 4 ++ T ++ M) 4 = numS T.size 4 ∧ takeS (numS T.size 4 ++ T ++ M) 0 4 = T ++ M ∧ takeE (numS T.size 4 ++ T ++ M) 0 4 = 0 ∧ takeA (numS T.size 4 ++ T ++ M) 0 4 = 4 ∧ cntR (numS T.size 4 ++ T ++ M) = T.size := by
  have hz := numS_size T.size 4
  have e : numS T.size 4 ++ T ++ M = numS T.size 4 ++ (T ++ M) := by
    apply bytes_ext
    rw [append_list, append_list, append_list, append_list, List.append_assoc]
  have hs : (numS T.size 4 ++ (T ++ M)).size = 4 + (T.size + 4) := by rw [ByteArray.size_append, ByteArray.size_append, hz, hM]
  rw [e]
  have hn : ¬ (numS T.size 4 ++ (T ++ M)).size < 4 := by omega
  have hv : takeV (numS T.size 4 ++ (T ++ M)) 4 = numS T.size 4 := by
    unfold takeV
    rw [if_neg hn]
    exact extract_left _ _ 4 hz
  refine ⟨hv, ?_, ?_, ?_, ?_⟩
  · unfold takeS
    rw [if_neg hn]
    exact extract_right _ _ 4 _ hz rfl
  · unfold takeE
    rw [if_neg hn]
  · unfold takeA
    rw [if_neg hn]
  · unfold cntR
    rw [hv, hz, le_num T.size 4 4 (Nat.le_refl _)]
    exact Nat.mod_eq_of_lt (by omega)
theorem bounds_in (T M : ByteArray) (most : Int) (hT : T.size ≤ 1023) (hM : M.size = 4) (h : (T.size : Int) ≤ most) : txtV (numS T.size 4 ++ T ++ M) 0 most = T ∧ (txtS (numS T.size 4 ++ T ++ M) 0 most).size = 4 ∧ txtE (numS T.size 4 ++ T ++ M) 0 most = 0 := by
  obtain ⟨_, h2, h3, _, h5⟩ := bounds_facts T M hT hM
  generalize numS T.size 4 ++ T ++ M = Z at *
  have f0 : cntF Z 0 most = 0 := by
    unfold cntF
    rw [h3, if_neg (by omega), h5, if_neg (by omega)]
  have n0 : cntN Z 0 most = T.size := by
    unfold cntN
    rw [h3, if_neg (by omega), h5, if_neg (by omega)]
  have s0 : cntS Z 0 most = T ++ M := by
    unfold cntS
    rw [f0, h2]
    unfold failS
    rw [if_pos (Or.inl rfl)]
  have e0 : cntE Z 0 most = 0 := by
    unfold cntE
    rw [f0, h3]
    rfl
  have hn : ¬ (T ++ M).size < T.size := by rw [ByteArray.size_append]; omega
  unfold txtV txtS txtE
  rw [n0, s0, e0]
  refine ⟨?_, ?_, ?_⟩
  · unfold takeV
    rw [if_neg hn]
    exact extract_left _ _ _ rfl
  · unfold takeS
    rw [if_neg hn, extract_right _ _ _ _ rfl rfl, hM]
  · unfold takeE
    rw [if_neg hn]
theorem bounds_out (T M : ByteArray) (most : Int) (hT : T.size ≤ 1023) (hM : M.size = 4) (h : most < (T.size : Int)) : txtV (numS T.size 4 ++ T ++ M) 0 most = ⟨#[]⟩ ∧ (txtS (numS T.size 4 ++ T ++ M) 0 most).size = 0 ∧ txtE (numS T.size 4 ++ T ++ M) 0 most = 3 ∧ txtA (numS T.size 4 ++ T ++ M) 0 0 most = 4 := by
  obtain ⟨_, h2, h3, h4, h5⟩ := bounds_facts T M hT hM
  generalize numS T.size 4 ++ T ++ M = Z at *
  have f0 : cntF Z 0 most = 3 := by
    unfold cntF
    rw [h3, if_neg (by omega), h5, if_pos (Or.inr h)]
  have n0 : cntN Z 0 most = 0 := by
    unfold cntN
    rw [h3, if_neg (by omega), h5, if_pos (Or.inr h)]
  have s0 : cntS Z 0 most = ⟨#[]⟩ := by
    unfold cntS
    rw [f0, h2, h3]
    rfl
  have e0 : cntE Z 0 most = 3 := by
    unfold cntE
    rw [f0, h3]
    rfl
  unfold txtV txtS txtE txtA
  rw [n0, s0, e0, h4]
  exact ⟨by decide +kernel, by decide +kernel, by decide +kernel, by decide +kernel⟩
set_option maxRecDepth 100000 in
set_option maxHeartbeats 1000000 in
theorem law3_any (n most : Int) (w : World) (hm : most ≤ 9223372036854775807) : Calls Try.prog 3 #[.int .i64 n, .int .i64 most] w fun e w' => e = .returned (.bool true) ∧ w.grownBy w' none := by
  obtain ⟨k, hk1, hk2⟩ : ∃ k : Nat, bits .and .i64 n 1023 = (k : Int) ∧ k ≤ 1023 := ⟨(n % 1024).toNat, by rw [and1023]; omega, by omega⟩
  have k0 : (k : Int) ≤ 1023 := by omega
  have k1 : (0 : Int) ≤ (k : Int) := by omega
  go_enter Try.func3, Try.ntmps3
  go_wp2
  go_loop [6, 7] (fun v i => ∃ (T : ByteArray) (j : Nat), j ≤ k ∧ i = .int .i64 j ∧ v = .string T ∧ T.size = j) (fun _ i => k - (intOf i).toNat)
  case atStart => exact ⟨_, 0, Nat.zero_le _, rfl, rfl, rfl⟩
  case round =>
    obtain ⟨T, j, hj, rfl, rfl, hT⟩ := hrel
    have t0 : (T.size : Int) ≤ 1023 := by omega
    by_cases hjk : j < k
    · have d1 : (j : Int) < (k : Int) := by omega
      have HTs : Hid (T.size = j) := hT
      clear hT
      go_wp2
      go_round
      case rel =>
        refine ⟨_, j + 1, by omega, by go_num, rfl, ?_⟩
        rw [ByteArray.size_append, HTs.out]
        rfl
      case measure => simp [intOf]; omega
    · have e : j = k := by omega
      subst e
      obtain ⟨M, hM⟩ : ∃ M : ByteArray, (⟨#[109, 111, 114, 101]⟩ : ByteArray) = M := ⟨_, rfl⟩
      have hMs : M.size = 4 := by rw [← hM]; rfl
      obtain ⟨R, eR⟩ : ∃ R, numS T.size 4 ++ T = R := ⟨_, rfl⟩
      have hRs : R.size = T.size + 4 := by rw [← eR, ByteArray.size_append, numS_size]; omega
      have C5 : Hid (∀ w, Calls Try.prog 5 #[.string T] w fun e w' => e = .returned (.string R) ∧ w.grownBy w' none) := fun w => by rw [← eR]; exact refText_any T w (by omega)
      obtain ⟨Z, eZ⟩ : ∃ Z, R ++ M = Z := ⟨_, rfl⟩
      have hZs : Z.size = T.size + 8 := by rw [← eZ, ByteArray.size_append]; omega
      by_cases hmk : (j : Int) ≤ most
      · obtain ⟨e1, e2, e3⟩ := bounds_in T M most (by omega) hMs (by omega)
        rw [eR, eZ] at e1 e2 e3
        have C6 : Hid (∀ w b, Blk w b 32 (rd Z 0 0) → Calls Try.prog 6 #[.pointer (some ⟨b, 0, none⟩), .int .i64 most] w fun r w' => r = .returned (.string T) ∧ Blk w' b 32 (rd (txtS Z 0 most) (txtA Z 0 0 most) 0) ∧ w.grownBy w' (some b)) := fun w b h => by
          have := text_any b Z 0 0 most w h (by omega) hm
          rwa [e1, e3] at this
        generalize txtS Z 0 most = S at *
        generalize txtA Z 0 0 most = A at *
        have e2' : (S.size : Int) = 4 := by omega
        have d1 : ¬ (most < (j : Int)) := by omega
        have hTi : (T.size : Int) = (j : Int) := by omega
        clear e1 e3 eR hm hk2
        go_wp2_with (first | (go_at_call 5; refine (C5.out _).mono ?_; rintro r w1 ⟨rfl, hg1⟩; have G1 : Hid (w.grownBy w1 none) := hg1; clear hg1) | (go_at_call 4; refine (newReader_any Z _).mono ?_; rintro r w2 ⟨rfl, hb2, hg2⟩; have B2 : Hid (Blk w2 w1.heap.size 32 (rd Z 0 0)) := hb2; have G2 : Hid (w.grownBy w2 none) := grown_none G1.out hg2; have h12 : w.heap.size ≤ w1.heap.size := G1.out.size; clear hb2 hg2) | (go_at_call 6; refine (C6.out _ _ B2.out).mono ?_; rintro r w3 ⟨rfl, hb3, hg3⟩; have B3 : Hid (Blk w3 w1.heap.size 32 (rd S A 0)) := hb3; have G3 : Hid (w.grownBy w3 none) := grown_through G2.out hg3 h12; clear hb3 hg3) | (go_at_call 7; refine (awake_any _).mono ?_; rintro r w4 ⟨rfl, hg4⟩; have B4 : Hid (Blk w4 w1.heap.size 32 (rd S A 0)) := B3.out.kept hg4 (by simp); have G4 : Hid (w.grownBy w4 none) := grown_none G3.out hg4; clear hg4) | (go_at_call 8; refine (err_any _ _ _ _ _ B4.out).mono ?_; rintro r w' ⟨rfl, hw⟩; have hw2 := hw.symm; clear hw; subst hw2) | (go_at_call 9; refine (left_any _ _ _ _ _ B4.out).mono ?_; rintro r w' ⟨rfl, hw⟩; have hw2 := hw.symm; clear hw; subst hw2))
        go_ret
        exact ⟨rfl, G4.out⟩
      · obtain ⟨e1, e2, e3, e4⟩ := bounds_out T M most (by omega) hMs (by omega)
        rw [eR, eZ] at e1 e2 e3 e4
        have C6 : Hid (∀ w b, Blk w b 32 (rd Z 0 0) → Calls Try.prog 6 #[.pointer (some ⟨b, 0, none⟩), .int .i64 most] w fun r w' => r = .returned (.string ⟨#[]⟩) ∧ Blk w' b 32 (rd (txtS Z 0 most) (txtA Z 0 0 most) 3) ∧ w.grownBy w' (some b)) := fun w b h => by
          have := text_any b Z 0 0 most w h (by omega) hm
          rwa [e1, e3] at this
        generalize txtS Z 0 most = S at *
        generalize txtA Z 0 0 most = A at *
        subst e4
        have e2' : (S.size : Int) = 0 := by omega
        have d1 : most < (j : Int) := by omega
        have hTi : (T.size : Int) = (j : Int) := by omega
        clear e1 e3 eR hm hk2 hmk
        go_wp2_with (first | (go_at_call 5; refine (C5.out _).mono ?_; rintro r w1 ⟨rfl, hg1⟩; have G1 : Hid (w.grownBy w1 none) := hg1; clear hg1) | (go_at_call 4; refine (newReader_any Z _).mono ?_; rintro r w2 ⟨rfl, hb2, hg2⟩; have B2 : Hid (Blk w2 w1.heap.size 32 (rd Z 0 0)) := hb2; have G2 : Hid (w.grownBy w2 none) := grown_none G1.out hg2; have h12 : w.heap.size ≤ w1.heap.size := G1.out.size; clear hb2 hg2) | (go_at_call 6; refine (C6.out _ _ B2.out).mono ?_; rintro r w3 ⟨rfl, hb3, hg3⟩; have B3 : Hid (Blk w3 w1.heap.size 32 (rd S 4 3)) := hb3; have G3 : Hid (w.grownBy w3 none) := grown_through G2.out hg3 h12; clear hb3 hg3) | (go_at_call 7; refine (awake_any _).mono ?_; rintro r w4 ⟨rfl, hg4⟩; have B4 : Hid (Blk w4 w1.heap.size 32 (rd S 4 3)) := B3.out.kept hg4 (by simp); have G4 : Hid (w.grownBy w4 none) := grown_none G3.out hg4; clear hg4) | (go_at_call 8; refine (err_any _ _ _ _ _ B4.out).mono ?_; rintro r w' ⟨rfl, hw⟩; have hw2 := hw.symm; clear hw; subst hw2) | (go_at_call 9; refine (left_any _ _ _ _ _ B4.out).mono ?_; rintro r w' ⟨rfl, hw⟩; have hw2 := hw.symm; clear hw; subst hw2) | (go_at_call 10; refine (at_any _ _ _ _ _ B4.out).mono ?_; rintro r w' ⟨rfl, hw⟩; have hw2 := hw.symm; clear hw; subst hw2))
        go_ret
        exact ⟨rfl, G4.out⟩
end Go.Proofs.Ytiokjdjlopeliab
