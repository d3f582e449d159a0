/-
  Which texts may be names: the program's and the document's; a word of letters' kind.
-/
import Derived.Test.YthpeckoleiecbaaDoorRs
namespace Go.Proofs.YthpeckoleiecbaaDoor
open Go.RowKit
theorem run_all (p : UInt8 → Bool) : ∀ l : List UInt8, (runN p l == l.length) = l.all p
  | [] => rfl
  | c :: r => by
    cases h : p c with
    | true =>
      rw [run_pos p c r h, List.all_cons, h, Bool.true_and, ← run_all p r, List.length_cons, Bool.eq_iff_iff, beq_iff_eq, beq_iff_eq]
      omega
    | false =>
      rw [run_neg p c r h, List.all_cons, h, Bool.false_and]
      rfl
theorem nameL_cons (c : UInt8) (r : List UInt8) : nameL (c :: r) = (decide ((c :: r).length ≤ 16) && isL c && (c :: r).all isLD && !wordL (c :: r)) := rfl
theorem nameL_eq (s : ByteArray) (h : 0 < s.size) : nameL s.toList = (decide (s.size ≤ 16) && isL s[0] && (runN isLD s.toList == s.size) && !wordL s.toList) := by
  have e := drop_at s 0 h
  rw [List.drop_zero] at e
  conv => lhs; rw [e]
  rw [nameL_cons, ← e, ← run_all, size_toList]
theorem toList_ne (s : ByteArray) (h : 0 < s.size) : ¬ s.toList = [] := by
  intro e
  have : s.size = 0 := by rw [← size_toList, e]; rfl
  omega
theorem toList_nil (s : ByteArray) (h : s.size = 0) : s.toList = [] := by
  have := size_toList s
  rw [h] at this
  exact List.eq_nil_of_length_eq_zero this
set_option maxRecDepth 100000 in
set_option maxHeartbeats 1000000 in
theorem name_any (s : ByteArray) (w : World) (hs : (s.size : Int) ≤ 9223372036854775807) : Calls Tryd.prog 35 #[.string s] w fun e w' => e = .returned (.bool (nameL s.toList)) ∧ w' = w := by
  by_cases h0 : 0 < s.size
  · rw [nameL_eq s h0]
    have n1 := toList_ne s h0
    have n2 : s.toList.isEmpty = false := by simpa using n1
    have i0 : (0 : Int) < s.size := by omega
    have CL : Hid (∀ W, Calls Tryd.prog 19 #[.int .u8 s[0].toNat] W fun e w' => e = .returned (.bool (isL s[0])) ∧ w' = W) := fun W => isLetter_any s[0] W
    have CR : Hid (∀ W, Calls Tryd.prog 20 #[.string s, .int .i64 0] W fun e w' => e = .returned (.int .i64 (runN isLD s.toList : Nat)) ∧ w' = W) := fun W => by
      have := behindName_any s 0 W (Nat.zero_le _) hs
      rw [List.drop_zero, Nat.zero_add] at this
      exact this
    have CW : Hid (∀ W, Calls Tryd.prog 34 #[.string s] W fun e w' => e = .returned (.bool (wordL s.toList)) ∧ w' = W) := fun W => word_any s W
    have er : ((runN isLD s.toList : Int) == (s.size : Int)) = (runN isLD s.toList == s.size) := by
      rw [Bool.eq_iff_iff, beq_iff_eq, beq_iff_eq]; omega
    generalize runN isLD s.toList = R at *
    generalize (R == s.size) = b at *
    generalize wordL s.toList = x at *
    generalize isL s[0] = a at *
    by_cases h16 : s.size ≤ 16
    · have i16 : (s.size : Int) ≤ 16 := by omega
      rw [decide_eq_true h16]
      clear h16
      cases a <;> cases b <;> cases x
      all_goals
        go_enter Tryd.func35, Tryd.ntmps35
        go_wp2_with (first
          | (go_at_call 19; refine (CL.out _).mono ?_; rintro e w1 ⟨rfl, rfl⟩; clear CL)
          | (go_at_call 20; refine (CR.out _).mono ?_; rintro e w1 ⟨rfl, rfl⟩; clear CR)
          | (go_at_call 34; refine (CW.out _).mono ?_; rintro e w1 ⟨rfl, rfl⟩; clear CW))
        go_ret
        exact ⟨rfl, rfl⟩
    · have i16 : ¬ (s.size : Int) ≤ 16 := by omega
      rw [decide_eq_false h16]
      clear h16
      go_enter Tryd.func35, Tryd.ntmps35
      go_wp2
      go_ret
      exact ⟨rfl, rfl⟩
  · have n1 := toList_nil s (by omega)
    rw [show nameL s.toList = false by rw [n1]; rfl]
    go_enter Tryd.func35, Tryd.ntmps35
    go_wp2
    go_ret
    exact ⟨rfl, rfl⟩
set_option maxRecDepth 100000 in
set_option maxHeartbeats 1000000 in
theorem nameKind_any (s : ByteArray) (w : World) (hs : (s.size : Int) ≤ 9223372036854775807) : Calls Tryd.prog 21 #[.string s] w fun e w' => e = .returned (.int .i64 (nameK s.toList)) ∧ w' = w := by
  have CN : Hid (∀ W, Calls Tryd.prog 35 #[.string s] W fun e w' => e = .returned (.bool (nameL s.toList)) ∧ w' = W) := fun W => name_any s W hs
  have CW : Hid (∀ W, Calls Tryd.prog 34 #[.string s] W fun e w' => e = .returned (.bool (wordL s.toList)) ∧ w' = W) := fun W => word_any s W
  unfold nameK
  generalize wordL s.toList = a at *
  generalize nameL s.toList = b at *
  cases a <;> cases b
  all_goals
    go_enter Tryd.func21, Tryd.ntmps21
    go_wp2_with (first
      | (go_at_call 35; refine (CN.out _).mono ?_; rintro e w1 ⟨rfl, rfl⟩; clear CN)
      | (go_at_call 34; refine (CW.out _).mono ?_; rintro e w1 ⟨rfl, rfl⟩; clear CW))
    go_ret
    exact ⟨rfl, rfl⟩
end Go.Proofs.YthpeckoleiecbaaDoor
