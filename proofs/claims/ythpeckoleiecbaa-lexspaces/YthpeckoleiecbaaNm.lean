/-
  Which texts may be names: the program's and the document's; a word of letters' kind.
-/
import Derived.Test.YthpeckoleiecbaaRs
namespace Go.Proofs.Ythpeckoleiecbaa
open Go.RowKit
theorem run_all (p : UInt8 → Bool) : ∀ l : List UInt8, (runN p l == l.length) = l.all p
  | [] => rfl
  | c :: r => by
    cases h : p c with
    | true =>
      rw [run_pos p c r h, List.all_cons, h, Bool.true_and, ← run_all p r, List.length_cons, Bool.eq_iff_iff, beq_iff_eq, beq_iff_eq]
      omega
    | false =>
      rw [run_neg p c r h, List.all_cons, h, Bool.false_and]
      rfl
theorem nameL_cons (c : UInt8) (r : List UInt8) : nameL (c :: r) = (decide ((c :: r).length ≤ 16) && isL c && (c :: r).all isLD && !wordL (c :: r)) := rfl
theorem nameL_eq (s : ByteArray) (h : 0 < s.size) : nameL s.toList = (decide (s.size ≤ 16) && isL s[0] && (runN isLD s.toList == s.size) && !wordL s.toList) := by
  have e := drop_at s 0 h
  rw [List.drop_zero] at e
  conv => lhs; rw [e]
  rw [nameL_cons, ← e, ← run_all, size_toList]
theorem toList_ne (s : ByteArray) (h : 0 < s.size) : ¬ s.toList = [] := by
  intro e
  have : s.size = 0 := by rw [← size_toList, e]; rfl
  omega
theorem toList_nil (s : ByteArray) (h : s.size = 0) : s.toList = [] := by
  have := size_toList s
  rw [h] at this
  exact List.eq_nil_of_length_eq_zero this
set_option maxRecDepth 100000 in
set_option maxHeartbeats 1000000 in
theorem name_any (s : ByteArray) (w : World) (hs : (s.size : Int) ≤ 9223372036854775807) : Calls Try.prog 10 #[.string s] w fun e w' => e = .returned (.bool (nameL s.toList)) ∧ w' = w := by
  by_cases h0 : 0 < s.size
  · rw [nameL_eq s h0]
    have n1 := toList_ne s h0
    have n2 : s.toList.isEmpty = false := by simpa using n1
    have i0 : (0 : Int) < s.size := by omega
    have CL : Hid (∀ W, Calls Try.prog 22 #[.int .u8 s[0].toNat] W fun e w' => e = .returned (.bool (isL s[0])) ∧ w' = W) := fun W => isLetter_any s[0] W
    have CR : Hid (∀ W, Calls Try.prog 23 #[.string s, .int .i64 0] W fun e w' => e = .returned (.int .i64 (runN isLD s.toList : Nat)) ∧ w' = W) := fun W => by
      have := behindName_any s 0 W (Nat.zero_le _) hs
      rw [List.drop_zero, Nat.zero_add] at this
      exact this
    have CW : Hid (∀ W, Calls Try.prog 12 #[.string s] W fun e w' => e = .returned (.bool (wordL s.toList)) ∧ w' = W) := fun W => word_any s W
    have er : ((runN isLD s.toList : Int) == (s.size : Int)) = (runN isLD s.toList == s.size) := by
      rw [Bool.eq_iff_iff, beq_iff_eq, beq_iff_eq]; omega
    generalize runN isLD s.toList = R at *
    generalize (R == s.size) = b at *
    generalize wordL s.toList = x at *
    generalize isL s[0] = a at *
    by_cases h16 : s.size ≤ 16
    · have i16 : (s.size : Int) ≤ 16 := by omega
      rw [decide_eq_true h16]
      clear h16
      cases a <;> cases b <;> cases x
      all_goals
        go_enter Try.func10, Try.ntmps10
        go_wp2_with (first
          | (go_at_call 22; refine (CL.out _).mono ?_; rintro e w1 ⟨rfl, rfl⟩; clear CL)
          | (go_at_call 23; refine (CR.out _).mono ?_; rintro e w1 ⟨rfl, rfl⟩; clear CR)
          | (go_at_call 12; refine (CW.out _).mono ?_; rintro e w1 ⟨rfl, rfl⟩; clear CW))
        go_ret
        exact ⟨rfl, rfl⟩
    · have i16 : ¬ (s.size : Int) ≤ 16 := by omega
      rw [decide_eq_false h16]
      clear h16
      go_enter Try.func10, Try.ntmps10
      go_wp2
      go_ret
      exact ⟨rfl, rfl⟩
  · have n1 := toList_nil s (by omega)
    rw [show nameL s.toList = false by rw [n1]; rfl]
    go_enter Try.func10, Try.ntmps10
    go_wp2
    go_ret
    exact ⟨rfl, rfl⟩
set_option maxRecDepth 100000 in
set_option maxHeartbeats 1000000 in
theorem nameKind_any (s : ByteArray) (w : World) (hs : (s.size : Int) ≤ 9223372036854775807) : Calls Try.prog 29 #[.string s] w fun e w' => e = .returned (.int .i64 (nameK s.toList)) ∧ w' = w := by
  have CN : Hid (∀ W, Calls Try.prog 10 #[.string s] W fun e w' => e = .returned (.bool (nameL s.toList)) ∧ w' = W) := fun W => name_any s W hs
  have CW : Hid (∀ W, Calls Try.prog 12 #[.string s] W fun e w' => e = .returned (.bool (wordL s.toList)) ∧ w' = W) := fun W => word_any s W
  unfold nameK
  generalize wordL s.toList = a at *
  generalize nameL s.toList = b at *
  cases a <;> cases b
  all_goals
    go_enter Try.func29, Try.ntmps29
    go_wp2_with (first
      | (go_at_call 10; refine (CN.out _).mono ?_; rintro e w1 ⟨rfl, rfl⟩; clear CN)
      | (go_at_call 12; refine (CW.out _).mono ?_; rintro e w1 ⟨rfl, rfl⟩; clear CW))
    go_ret
    exact ⟨rfl, rfl⟩
set_option maxRecDepth 100000 in
set_option maxHeartbeats 2000000 in
theorem refName_any (s : ByteArray) (w : World) (hs : (s.size : Int) ≤ 9223372036854775807) : Calls Try.prog 11 #[.string s] w fun e w' => e = .returned (.bool (nameL s.toList)) ∧ w.grownBy w' none := by
  by_cases h0 : 0 < s.size
  · rw [nameL_eq s h0]
    have n1 := toList_ne s h0
    have n2 : s.toList.isEmpty = false := by simpa using n1
    have i0 : (0 : Int) < s.size := by omega
    have CL : Hid (∀ W, Calls Try.prog 20 #[.int .u8 s[0].toNat] W fun e w' => e = .returned (.bool (isL s[0])) ∧ w' = W) := fun W => refLetter_any s[0] W
    have CW : Hid (∀ W, Calls Try.prog 13 #[.string s] W fun e w' => e = .returned (.bool (wordL s.toList)) ∧ W.grownBy w' none) := fun W => refWord_any s W
    by_cases h16 : s.size ≤ 16
    · have i16 : ¬ (16 : Int) < s.size := by omega
      have i17 : (s.size : Int) ≤ 16 := by omega
      rw [decide_eq_true h16]
      clear h16
      generalize isL s[0] = a at *
      generalize wordL s.toList = x at *
      cases a with
      | false =>
        go_enter Try.func11, Try.ntmps11
        go_wp2_with (go_at_call 20; refine (CL.out _).mono ?_; rintro e w1 ⟨rfl, rfl⟩; clear CL)
        go_ret
        exact ⟨rfl, grown_refl _ _⟩
      | true =>
        cases x with
        | true =>
          go_enter Try.func11, Try.ntmps11
          go_wp2_with (first
            | (go_at_call 20; refine (CL.out _).mono ?_; rintro e w1 ⟨rfl, rfl⟩; clear CL)
            | (go_at_call 13; refine (CW.out _).mono ?_; rintro e w2 ⟨rfl, g2⟩; have G2 := hid g2; clear g2 CW))
          go_ret
          refine ⟨?_, G2.out⟩
          simp
        | false =>
          obtain ⟨b, eb⟩ : ∃ b, (runN isLD s.toList == s.size) = b := ⟨_, rfl⟩
          rw [eb]
          have EB : Hid (s.toList.all isLD = b) := by
            rw [← eb, ← run_all, size_toList]
            exact rfl
          clear eb
          have er : (true && true && b && !false) = b := by cases b <;> rfl
          rw [er]
          clear er
          go_enter Try.func11, Try.ntmps11
          go_wp2_with (first
            | (go_at_call 20; refine (CL.out _).mono ?_; rintro e w1 ⟨rfl, rfl⟩; clear CL)
            | (go_at_call 13; refine (CW.out _).mono ?_; rintro e w2 ⟨rfl, g2⟩; have G2 := hid g2; clear g2 CW))
          go_loop [3] (fun i => ∃ k : Nat, k ≤ s.size ∧ i = .int .i64 k ∧ Hid ((s.toList.drop k).all isLD = b)) (fun i => s.size - (intOf i).toNat)
          case atStart => exact ⟨0, Nat.zero_le _, rfl, EB⟩
          case round =>
            obtain ⟨k, hk, rfl, HK⟩ := hrel
            have k0 : (0 : Int) ≤ k := by omega
            by_cases hlt : k < s.size
            · have k1 : (k : Int) < s.size := by omega
              have C1 : Hid (∀ W, Calls Try.prog 20 #[.int .u8 s[k].toNat] W fun e w' => e = .returned (.bool (isL s[k])) ∧ w' = W) := fun W => refLetter_any s[k] W
              have C2 : Hid (∀ W, Calls Try.prog 18 #[.int .u8 s[k].toNat] W fun e w' => e = .returned (.bool (isD s[k])) ∧ w' = W) := fun W => refDigit_any s[k] W
              have e := HK.out
              rw [drop_at s k hlt, List.all_cons] at e
              have NX : Hid (isLD s[k] = true → (s.toList.drop (k + 1)).all isLD = b) := fun h => by rw [h, Bool.true_and] at e; exact e
              have NO : Hid (isLD s[k] = false → b = false) := fun h => by rw [h, Bool.false_and] at e; exact e.symm
              unfold isLD at NX NO
              clear e HK EB
              cases hl : isL s[k] with
              | true =>
                rw [hl] at C1 NX
                have NX' := hid (NX.out rfl)
                clear NX NO C2
                go_wp2_with (go_at_call 20; refine (C1.out _).mono ?_; rintro e w1 ⟨rfl, rfl⟩; clear C1)
                go_round
                case rel => exact ⟨k + 1, by omega, by go_num, NX'⟩
                case measure => simp [intOf]; omega
              | false =>
                cases hd : isD s[k] with
                | true =>
                  rw [hl] at C1
                  rw [hd] at C2
                  have NX' := hid (NX.out (by rw [hl, hd]; rfl))
                  clear NX NO
                  go_wp2_with (first
                    | (go_at_call 20; refine (C1.out _).mono ?_; rintro e w1 ⟨rfl, rfl⟩; clear C1)
                    | (go_at_call 18; refine (C2.out _).mono ?_; rintro e w1 ⟨rfl, rfl⟩; clear C2))
                  go_round
                  case rel => exact ⟨k + 1, by omega, by go_num, NX'⟩
                  case measure => simp [intOf]; omega
                | false =>
                  rw [hl] at C1
                  rw [hd] at C2
                  have hb := NO.out (by rw [hl, hd]; rfl)
                  subst hb
                  clear NX NO
                  go_wp2_with (first
                    | (go_at_call 20; refine (C1.out _).mono ?_; rintro e w1 ⟨rfl, rfl⟩; clear C1)
                    | (go_at_call 18; refine (C2.out _).mono ?_; rintro e w1 ⟨rfl, rfl⟩; clear C2))
                  go_ret
                  exact ⟨rfl, G2.out⟩
            · have k1 : ¬ (k : Int) < s.size := by omega
              have e := HK.out
              rw [drop_end s k hlt] at e
              have hb : b = true := e.symm
              subst hb
              clear HK EB e
              go_wp2
              go_ret
              exact ⟨rfl, G2.out⟩
    · have i16 : (16 : Int) < s.size := by omega
      rw [decide_eq_false h16]
      clear h16
      go_enter Try.func11, Try.ntmps11
      go_wp2
      go_ret
      exact ⟨rfl, grown_refl _ _⟩
  · have n1 := toList_nil s (by omega)
    rw [show nameL s.toList = false by rw [n1]; rfl]
    go_enter Try.func11, Try.ntmps11
    go_wp2
    go_ret
    exact ⟨rfl, grown_refl _ _⟩
end Go.Proofs.Ythpeckoleiecbaa
