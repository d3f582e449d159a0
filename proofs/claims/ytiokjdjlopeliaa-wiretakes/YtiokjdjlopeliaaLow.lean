/-
  The law WireLowest walked: of whatever number and whatever count of bytes it answers true, and nothing that was there turns.
-/
import Derived.Test.YtiokjdjlopeliaaRef
namespace Go.Proofs.Ytiokjdjlopeliaa
open Go.RowKit
theorem extract_all (s : ByteArray) (n : Nat) (h : s.size = n) : s.extract 0 n = s := by
  apply bytes_ext
  rw [ByteArray.data_extract, Array.toList_extract]
  show s.data.toList.extract 0 n = _
  rw [← h, ← bytes_len]
  simp only [List.extract_eq_take_drop, List.drop_zero, Nat.sub_zero, List.take_length]
theorem extract_none (s : ByteArray) (n m : Nat) (h : m ≤ n) : s.extract n m = ⟨#[]⟩ := by
  apply ByteArray.ext
  apply Array.eq_empty_of_size_eq_zero
  show (s.extract n m).size = 0
  rw [ByteArray.size_extract]
  omega
theorem num_at (n k i : Nat) (h : i < k) : ((numS n k).data.getD i 0).toNat = byt n i := by
  have h1 : i < (numL n k).length := by rw [numL_len]; exact h
  have e : (numS n k).data.getD i 0 = (numL n k)[i] := by
    show (numL n k).toArray.getD i 0 = _
    rw [Array.getD_eq_getD_getElem?, List.getElem?_toArray, List.getElem?_eq_getElem h1]
    rfl
  rw [e]
  have := numL_at n k i h1
  omega
theorem le_num (n k : Nat) : ∀ j, j ≤ k → leT (numS n k) j = n % 2 ^ (8 * j)
  | 0, _ => by rw [Nat.mul_zero, Nat.pow_zero, Nat.mod_one]; rfl
  | j + 1, h => by
    show leT (numS n k) j + ((numS n k).data.getD j 0).toNat * 2 ^ (8 * j) = _
    rw [le_num n k j (by omega), num_at n k j (by omega), show 8 * (j + 1) = 8 * j + 8 by omega, Nat.pow_add, Nat.mod_mul]
    unfold byt
    rw [Nat.mul_comm (2 ^ (8 * j))]
set_option maxRecDepth 100000 in
set_option maxHeartbeats 400000 in
theorem law3_any (n : Nat) (bytes : Int) (w : World) (hn : n < 18446744073709551616) : Calls Try.prog 3 #[.int .u64 n, .int .i64 bytes] w fun e w' => e = .returned (.bool true) ∧ w.grownBy w' none := by
  obtain ⟨k, ek⟩ : ∃ k, asked bytes = k := ⟨_, rfl⟩
  have hk8 : k ≤ 8 := by rw [← ek]; unfold asked; omega
  have hsz := numS_size n k
  obtain ⟨S, eS⟩ : ∃ S, numS n k = S := ⟨_, rfl⟩
  obtain ⟨K, eK⟩ : ∃ K, n % 2 ^ (8 * k) = K := ⟨_, rfl⟩
  have C9 : Hid (∀ w, Calls Try.prog 9 #[.int .u64 n, .int .i64 bytes] w fun e w' => e = .returned (.string S) ∧ w.grownBy w' none) := fun w => by rw [← eS, ← ek]; exact number_any n bytes w hn
  have C13 : Hid (∀ w, Calls Try.prog 13 #[.int .u64 n, .int .i64 bytes] w fun e w' => e = .returned (.string S) ∧ w.grownBy w' none) := fun w => by rw [← eS, ← ek]; exact refNumber_any n bytes w hn
  rw [eS] at hsz
  have hv : takeV S k = S := by
    unfold takeV
    rw [if_neg (by omega)]
    exact extract_all S k hsz
  have hts : takeS S 0 k = ⟨#[]⟩ := by
    unfold takeS
    rw [if_neg (by omega)]
    exact extract_none S k S.size (by omega)
  have hte : takeE S 0 k = 0 := by unfold takeE; rw [if_neg (by omega)]
  have hle : leT (takeV S k) (takeV S k).size = K := by rw [hv, hsz, ← eS, ← eK]; exact le_num n k k (Nat.le_refl _)
  have C11 : Hid (∀ w b, Blk w b 77 (rd S 0 0) → Calls Try.prog 11 #[.pointer (some ⟨b, 0, none⟩), .int .i64 k] w fun r w' => r = .returned (.int .u64 (K : Int)) ∧ Blk w' b 77 (rd ⟨#[]⟩ (takeA S 0 k) 0) ∧ w.grownBy w' (some b)) := fun w b h => by
    have := rnumber_any b S 0 0 k w h (by omega) hk8
    rwa [hle, hts, hte] at this
  generalize takeA S 0 k = A at *
  have C14 : Hid (∀ w b, Blk w b 77 (rd ⟨#[]⟩ A 0) → Calls Try.prog 14 #[.pointer (some ⟨b, 0, none⟩)] w fun r w' => r = .returned (.int .i64 0) ∧ w.grownBy w' (some b)) := fun w b h => (end_any b _ A 0 w h).mono (fun _ _ hh => ⟨hh.1, hh.2.2⟩)
  have hszi : (S.size : Int) = (k : Int) := by omega
  have n0 : (0 : Int) ≤ (n : Int) := by omega
  have n1 : (n : Int) < 18446744073709551616 := by omega
  have k0 : (0 : Int) ≤ (k : Int) := by omega
  have k1 : (k : Int) ≤ 8 := by omega
  clear hv hts hte hle eS ek
  by_cases h8 : k = 8
  · subst h8
    have hK : ((K : Int) == (n : Int)) = true := by
      rw [beq_iff_eq, ← eK, Nat.mod_eq_of_lt (by exact hn)]
    clear eK hn
    go_enter Try.func3, Try.ntmps3
    go_wp2_with (first | (go_at_call 9; refine (C9.out _).mono ?_; rintro r w1 ⟨rfl, hg1⟩; have G1 : Hid (w.grownBy w1 none) := hg1; clear hg1) | (go_at_call 10; refine (newReader_any S _).mono ?_; rintro r w2 ⟨rfl, hb2, hg2⟩; have B2 : Hid (Blk w2 w1.heap.size 77 (rd S 0 0)) := hb2; have G2 : Hid (w.grownBy w2 none) := grown_none G1.out hg2; have h12 : w.heap.size ≤ w1.heap.size := G1.out.size; clear hb2 hg2) | (go_at_call 11; refine (C11.out _ _ B2.out).mono ?_; rintro r w3 ⟨rfl, hb3, hg3⟩; have B3 : Hid (Blk w3 w1.heap.size 77 (rd ⟨#[]⟩ A 0)) := hb3; have G3 : Hid (w.grownBy w3 none) := grown_through G2.out hg3 h12; clear hb3 hg3) | (go_at_call 12; refine (awake_any _).mono ?_; rintro r w4 ⟨rfl, hg4⟩; have B4 : Hid (Blk w4 w1.heap.size 77 (rd ⟨#[]⟩ A 0)) := B3.out.kept hg4 (by simp); have G4 : Hid (w.grownBy w4 none) := grown_none G3.out hg4; clear hg4) | (go_at_call 13; refine (C13.out _).mono ?_; rintro r w5 ⟨rfl, hg5⟩; have B5 : Hid (Blk w5 w1.heap.size 77 (rd ⟨#[]⟩ A 0)) := B4.out.kept hg5 (by simp); have G5 : Hid (w.grownBy w5 none) := grown_none G4.out hg5; clear hg5) | (go_at_call 14; refine (C14.out _ _ B5.out).mono ?_; rintro r w6 ⟨rfl, hg6⟩; have G6 : Hid (w.grownBy w6 none) := grown_through G5.out hg6 h12; clear hg6))
    go_ret
    exact ⟨rfl, G6.out⟩
  · have hk7 : (k : Int) < 8 := by omega
    have hk7' : ((k : Int) == 8) = false := by rw [beq_eq_false_iff_ne]; omega
    obtain ⟨f, hf1, hf2⟩ : ∃ f : Bool, ((K : Int) == (n : Int)) = f ∧ ((n : Int) / 2 ^ (8 * k) == 0) = f := by
      have e : ∀ m : Nat, (2 : Int) ^ m = ((2 ^ m : Nat) : Int) := fun m => (Int.natCast_pow 2 m).symm
      have hp : 0 < 2 ^ (8 * k) := Nat.two_pow_pos _
      by_cases hlt : n < 2 ^ (8 * k)
      · refine ⟨true, ?_, ?_⟩
        · rw [beq_iff_eq, ← eK, Nat.mod_eq_of_lt hlt]
        · rw [beq_iff_eq, e, ← Int.natCast_ediv, Nat.div_eq_of_lt hlt]
          rfl
      · refine ⟨false, ?_, ?_⟩
        · rw [beq_eq_false_iff_ne, ← eK]
          have := Nat.mod_lt n hp
          omega
        · rw [beq_eq_false_iff_ne, e, ← Int.natCast_ediv]
          have := Nat.div_pos (Nat.le_of_not_lt hlt) hp
          omega
    have hk78 : ¬ k = 8 := h8
    clear eK hn h8 hk8
    go_enter Try.func3, Try.ntmps3
    go_wp2_with (first | (go_at_call 9; refine (C9.out _).mono ?_; rintro r w1 ⟨rfl, hg1⟩; have G1 : Hid (w.grownBy w1 none) := hg1; clear hg1) | (go_at_call 10; refine (newReader_any S _).mono ?_; rintro r w2 ⟨rfl, hb2, hg2⟩; have B2 : Hid (Blk w2 w1.heap.size 77 (rd S 0 0)) := hb2; have G2 : Hid (w.grownBy w2 none) := grown_none G1.out hg2; have h12 : w.heap.size ≤ w1.heap.size := G1.out.size; clear hb2 hg2) | (go_at_call 11; refine (C11.out _ _ B2.out).mono ?_; rintro r w3 ⟨rfl, hb3, hg3⟩; have B3 : Hid (Blk w3 w1.heap.size 77 (rd ⟨#[]⟩ A 0)) := hb3; have G3 : Hid (w.grownBy w3 none) := grown_through G2.out hg3 h12; clear hb3 hg3) | (go_at_call 12; refine (awake_any _).mono ?_; rintro r w4 ⟨rfl, hg4⟩; have B4 : Hid (Blk w4 w1.heap.size 77 (rd ⟨#[]⟩ A 0)) := B3.out.kept hg4 (by simp); have G4 : Hid (w.grownBy w4 none) := grown_none G3.out hg4; clear hg4) | (go_at_call 13; refine (C13.out _).mono ?_; rintro r w5 ⟨rfl, hg5⟩; have B5 : Hid (Blk w5 w1.heap.size 77 (rd ⟨#[]⟩ A 0)) := B4.out.kept hg5 (by simp); have G5 : Hid (w.grownBy w5 none) := grown_none G4.out hg5; clear hg5) | (go_at_call 14; refine (C14.out _ _ B5.out).mono ?_; rintro r w6 ⟨rfl, hg6⟩; have G6 : Hid (w.grownBy w6 none) := grown_through G5.out hg6 h12; clear hg6))
    go_ret
    exact ⟨rfl, G6.out⟩
end Go.Proofs.Ytiokjdjlopeliaa
