/-
  The word at a place: the program's wordAt, whole.
-/
import Derived.Test.YthpeckoleiecbaaDoorWa
namespace Go.Proofs.YthpeckoleiecbaaDoor
open Go.RowKit
theorem numN_pos (c : UInt8) (r : List UInt8) (h : isD c = true) : 1 ≤ numN (c :: r) := by
  unfold numN
  split <;> rw [run_pos _ _ _ h] <;> omega
set_option maxRecDepth 100000 in
set_option maxHeartbeats 2000000 in
theorem wordAt_any (s : ByteArray) (k : Nat) (w : World) (hk : k < s.size) (hs : (s.size : Int) ≤ 4096) :
    Calls Tryd.prog 9 #[.string s, .int .i64 k] w fun e w' => e = .returned (.tuple #[.int .i64 (wordK (s.toList.drop k)), .int .i64 (k + wordN (s.toList.drop k) : Nat)]) ∧ w.grownBy w' none := by
  have ed := drop_at s k hk
  have eK : wordK (s.toList.drop k) = if isL s[k] then nameK ((s.toList.drop k).takeWhile isLD) else if isD s[k] then numK (s.toList.drop k) else if signN (s.toList.drop k) = 0 then 0 else 5 := by
    rw [ed]; exact wordK_cons _ _
  have eN : wordN (s.toList.drop k) = if isL s[k] then runN isLD (s.toList.drop k) else if isD s[k] then numN (s.toList.drop k) else signN (s.toList.drop k) := by
    rw [ed]; exact wordN_cons _ _
  have CL : Hid (∀ W, Calls Tryd.prog 19 #[.int .u8 s[k].toNat] W fun e w' => e = .returned (.bool (isL s[k])) ∧ w' = W) := fun W => isLetter_any s[k] W
  have CD : Hid (∀ W, Calls Tryd.prog 22 #[.int .u8 s[k].toNat] W fun e w' => e = .returned (.bool (isD s[k])) ∧ w' = W) := fun W => isDigit_any s[k] W
  have hs' : (s.size : Int) ≤ 9223372036854775807 := by omega
  have k0 : (0 : Int) ≤ k := by omega
  have k1 : (k : Int) < s.size := by omega
  rw [eK, eN]
  clear eK eN
  cases hL : isL s[k] with
  | true =>
    simp only [if_true]
    rw [hL] at CL
    have CN : Hid (∀ W, Calls Tryd.prog 20 #[.string s, .int .i64 k] W fun e w' => e = .returned (.int .i64 (k + runN isLD (s.toList.drop k) : Nat)) ∧ w' = W) := fun W => behindName_any s k W (by omega) hs'
    have hle := run_le s isLD k (by omega)
    have CK : Hid (∀ W, Calls Tryd.prog 21 #[.string (s.extract k (k + runN isLD (s.toList.drop k)))] W fun e w' => e = .returned (.int .i64 (nameK ((s.toList.drop k).takeWhile isLD) : Nat)) ∧ w' = W) := fun W => by
      have := nameKind_any (s.extract k (k + runN isLD (s.toList.drop k))) W (by rw [ByteArray.size_extract]; omega)
      rw [extract_take, ← takeWhile_take] at this
      exact this
    generalize nameK ((s.toList.drop k).takeWhile isLD) = K at *
    obtain ⟨z, ez⟩ : ∃ z, k + runN isLD (s.toList.drop k) = z := ⟨_, rfl⟩
    rw [ez] at CN CK hle ⊢
    have z0 : (k : Int) ≤ z := by omega
    have z1 : (z : Int) ≤ s.size := by omega
    clear ez hL CD ed
    go_enter Tryd.func9, Tryd.ntmps9
    go_wp2_with (first
      | (go_at_call 19; refine (CL.out _).mono ?_; rintro e w1 ⟨rfl, rfl⟩; clear CL)
      | (go_at_call 20; refine (CN.out _).mono ?_; rintro e w1 ⟨rfl, rfl⟩; clear CN)
      | (go_at_call 21; refine (CK.out _).mono ?_; rintro e w1 ⟨rfl, rfl⟩; clear CK))
    go_ret2
    exact ⟨rfl, grown_refl _ _⟩
  | false =>
    simp only [Bool.false_eq_true, if_false]
    rw [hL] at CL
    cases hD : isD s[k] with
    | true =>
      simp only [if_true]
      rw [hD] at CD
      have CN : Hid (∀ W, Calls Tryd.prog 23 #[.string s, .int .i64 k] W fun e w' => e = .returned (.int .i64 (k + numN (s.toList.drop k) : Nat)) ∧ W.grownBy w' none) := fun W => behindNumber_any s k W (by omega) hs'
      have hle : k + numN (s.toList.drop k) ≤ s.size := by
        have := numN_le (s.toList.drop k)
        rw [List.length_drop, size_toList] at this
        omega
      have hge : 1 ≤ numN (s.toList.drop k) := by rw [ed]; exact numN_pos _ _ hD
      have CK : Hid (∀ W, Calls Tryd.prog 24 #[.string (s.extract k (k + numN (s.toList.drop k)))] W fun e w' => e = .returned (.int .i64 (numK (s.toList.drop k) : Nat)) ∧ W.grownBy w' none) := fun W => by
        have := numberKind_any (s.extract k (k + numN (s.toList.drop k))) W (by rw [ByteArray.size_extract]; omega) (by rw [ByteArray.size_extract]; omega)
        rw [extract_take, cutK_num] at this
        exact this
      generalize numK (s.toList.drop k) = K at *
      obtain ⟨z, ez⟩ : ∃ z, k + numN (s.toList.drop k) = z := ⟨_, rfl⟩
      rw [ez] at CN CK hle ⊢
      have z0 : (k : Int) ≤ z := by omega
      have z1 : (z : Int) ≤ s.size := by omega
      clear ez hL hD ed hge
      go_enter Tryd.func9, Tryd.ntmps9
      go_wp2_with (first
        | (go_at_call 19; refine (CL.out _).mono ?_; rintro e w1 ⟨rfl, rfl⟩; clear CL)
        | (go_at_call 22; refine (CD.out _).mono ?_; rintro e w1 ⟨rfl, rfl⟩; clear CD)
        | (go_at_call 23; refine (CN.out _).mono ?_; rintro e w1 ⟨rfl, hg⟩; have G1 := hid hg; clear CN hg)
        | (go_at_call 24; refine (CK.out _).mono ?_; rintro e w2 ⟨rfl, hg⟩; have G2 := hid (grown_none G1.out hg); clear CK hg))
      go_ret2
      exact ⟨rfl, G2.out⟩
    | false =>
      simp only [Bool.false_eq_true, if_false]
      rw [hD] at CD
      have CS : Hid (∀ W, Calls Tryd.prog 25 #[.string s, .int .i64 k] W fun e w' => e = .returned (.int .i64 (k + signN (s.toList.drop k) : Nat)) ∧ w' = W) := fun W => behindSign_any s k W hk hs
      generalize signN (s.toList.drop k) = m at *
      clear hL hD ed
      by_cases hm : m = 0
      · subst hm
        rw [Nat.add_zero] at CS ⊢
        rw [if_pos rfl]
        go_enter Tryd.func9, Tryd.ntmps9
        go_wp2_with (first
          | (go_at_call 19; refine (CL.out _).mono ?_; rintro e w1 ⟨rfl, rfl⟩; clear CL)
          | (go_at_call 22; refine (CD.out _).mono ?_; rintro e w1 ⟨rfl, rfl⟩; clear CD)
          | (go_at_call 25; refine (CS.out _).mono ?_; rintro e w1 ⟨rfl, rfl⟩; clear CS))
        go_ret2
        exact ⟨rfl, grown_refl _ _⟩
      · rw [if_neg hm]
        obtain ⟨z, ez⟩ : ∃ z, k + m = z := ⟨_, rfl⟩
        rw [ez] at CS ⊢
        have z0 : (k : Int) < z := by omega
        clear ez hm
        go_enter Tryd.func9, Tryd.ntmps9
        go_wp2_with (first
          | (go_at_call 19; refine (CL.out _).mono ?_; rintro e w1 ⟨rfl, rfl⟩; clear CL)
          | (go_at_call 22; refine (CD.out _).mono ?_; rintro e w1 ⟨rfl, rfl⟩; clear CD)
          | (go_at_call 25; refine (CS.out _).mono ?_; rintro e w1 ⟨rfl, rfl⟩; clear CS))
        go_ret2
        exact ⟨rfl, grown_refl _ _⟩
end Go.Proofs.YthpeckoleiecbaaDoor
