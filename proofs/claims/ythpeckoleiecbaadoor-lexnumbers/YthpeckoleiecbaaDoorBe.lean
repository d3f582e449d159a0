/-
  The place behind bytes that are passed over: names, gaps, notes.
-/
import Derived.Test.YthpeckoleiecbaaDoorWd
namespace Go.Proofs.YthpeckoleiecbaaDoor
open Go.RowKit
theorem size_toList (s : ByteArray) : s.toList.length = s.size := by
  rw [ByteArray.toList_eq]
  rfl
theorem drop_at (s : ByteArray) (j : Nat) (h : j < s.size) : s.toList.drop j = s[j] :: s.toList.drop (j + 1) := by
  rw [ByteArray.toList_eq, List.drop_eq_getElem_cons (by simpa using h)]
  rfl
theorem drop_end (s : ByteArray) (j : Nat) (h : ¬ j < s.size) : s.toList.drop j = [] := by
  rw [List.drop_eq_nil_iff, size_toList]
  omega
set_option maxRecDepth 100000 in
set_option maxHeartbeats 1000000 in
theorem behindG_any (s : ByteArray) (k : Nat) (w : World) (hk : k ≤ s.size) (hs : (s.size : Int) ≤ 9223372036854775807) : Calls Tryd.prog 15 #[.string s, .int .i64 k, .func (.func 16) #[] #[]] w fun e w' => e = .returned (.int .i64 (k + runN isG (s.toList.drop k) : Nat)) ∧ w' = w := by
  obtain ⟨R, hR⟩ : ∃ R, k + runN isG (s.toList.drop k) = R := ⟨_, rfl⟩
  have HR : Hid (k + runN isG (s.toList.drop k) = R) := hR
  rw [hR]
  clear hR
  go_enter Tryd.func15, Tryd.ntmps15
  go_wp2
  go_loop [1] (fun i => ∃ j : Nat, j ≤ s.size ∧ i = .int .i64 j ∧ Hid (j + runN isG (s.toList.drop j) = R)) (fun i => s.size - (intOf i).toNat)
  case atStart => exact ⟨k, hk, rfl, HR⟩
  case round =>
    obtain ⟨j, hj, rfl, HJ⟩ := hrel
    have j0 : (0 : Int) ≤ j := by omega
    by_cases hlt : j < s.size
    · have j1 : (j : Int) < s.size := by omega
      have C : Hid (∀ W, Calls Tryd.prog 16 #[Value.int .u8 s[j].toNat] W fun e w' => e = .returned (.bool (isG s[j])) ∧ w' = W) := fun W => gap_any s[j] W
      have ed := drop_at s j hlt
      have HJ2 := HJ.out
      rw [ed] at HJ2
      clear ed HJ HR
      cases hp : isG s[j] with
      | true =>
        rw [run_pos _ _ _ hp] at HJ2
        have NX : Hid (j + 1 + runN isG (s.toList.drop (j + 1)) = R) := by show _ = _; omega
        rw [hp] at C
        clear HJ2 hp
        go_wp2_with (go_at_call 16; refine (C.out _).mono ?_; rintro e w1 ⟨rfl, rfl⟩; clear C)
        go_round
        case rel => exact ⟨j + 1, by omega, by go_num, NX⟩
        case measure => simp [intOf]; omega
      | false =>
        rw [run_neg _ _ _ hp] at HJ2
        have e : R = j := by omega
        subst e
        rw [hp] at C
        clear HJ2 hp
        go_wp2_with (go_at_call 16; refine (C.out _).mono ?_; rintro e w1 ⟨rfl, rfl⟩; clear C)
        go_ret
        exact ⟨rfl, rfl⟩
    · have j1 : ¬ (j : Int) < s.size := by omega
      have HJ2 := HJ.out
      rw [drop_end s j hlt] at HJ2
      have e : R = j := HJ2.symm
      subst e
      clear HJ2 HJ HR
      go_wp2
      go_ret
      exact ⟨rfl, rfl⟩
set_option maxRecDepth 100000 in
set_option maxHeartbeats 1000000 in
theorem behindN_any (s : ByteArray) (k : Nat) (w : World) (hk : k ≤ s.size) (hs : (s.size : Int) ≤ 9223372036854775807) : Calls Tryd.prog 15 #[.string s, .int .i64 k, .func (.func 18) #[] #[]] w fun e w' => e = .returned (.int .i64 (k + runN noLf (s.toList.drop k) : Nat)) ∧ w' = w := by
  obtain ⟨R, hR⟩ : ∃ R, k + runN noLf (s.toList.drop k) = R := ⟨_, rfl⟩
  have HR : Hid (k + runN noLf (s.toList.drop k) = R) := hR
  rw [hR]
  clear hR
  go_enter Tryd.func15, Tryd.ntmps15
  go_wp2
  go_loop [1] (fun i => ∃ j : Nat, j ≤ s.size ∧ i = .int .i64 j ∧ Hid (j + runN noLf (s.toList.drop j) = R)) (fun i => s.size - (intOf i).toNat)
  case atStart => exact ⟨k, hk, rfl, HR⟩
  case round =>
    obtain ⟨j, hj, rfl, HJ⟩ := hrel
    have j0 : (0 : Int) ≤ j := by omega
    by_cases hlt : j < s.size
    · have j1 : (j : Int) < s.size := by omega
      have C : Hid (∀ W, Calls Tryd.prog 18 #[Value.int .u8 s[j].toNat] W fun e w' => e = .returned (.bool (noLf s[j])) ∧ w' = W) := fun W => note_any s[j] W
      have ed := drop_at s j hlt
      have HJ2 := HJ.out
      rw [ed] at HJ2
      clear ed HJ HR
      cases hp : noLf s[j] with
      | true =>
        rw [run_pos _ _ _ hp] at HJ2
        have NX : Hid (j + 1 + runN noLf (s.toList.drop (j + 1)) = R) := by show _ = _; omega
        rw [hp] at C
        clear HJ2 hp
        go_wp2_with (go_at_call 18; refine (C.out _).mono ?_; rintro e w1 ⟨rfl, rfl⟩; clear C)
        go_round
        case rel => exact ⟨j + 1, by omega, by go_num, NX⟩
        case measure => simp [intOf]; omega
      | false =>
        rw [run_neg _ _ _ hp] at HJ2
        have e : R = j := by omega
        subst e
        rw [hp] at C
        clear HJ2 hp
        go_wp2_with (go_at_call 18; refine (C.out _).mono ?_; rintro e w1 ⟨rfl, rfl⟩; clear C)
        go_ret
        exact ⟨rfl, rfl⟩
    · have j1 : ¬ (j : Int) < s.size := by omega
      have HJ2 := HJ.out
      rw [drop_end s j hlt] at HJ2
      have e : R = j := HJ2.symm
      subst e
      clear HJ2 HJ HR
      go_wp2
      go_ret
      exact ⟨rfl, rfl⟩
set_option maxRecDepth 100000 in
set_option maxHeartbeats 1000000 in
theorem behindL_any (s : ByteArray) (k : Nat) (w : World) (hk : k ≤ s.size) (hs : (s.size : Int) ≤ 9223372036854775807) : Calls Tryd.prog 15 #[.string s, .int .i64 k, .func (.func 33) #[] #[]] w fun e w' => e = .returned (.int .i64 (k + runN isLD (s.toList.drop k) : Nat)) ∧ w' = w := by
  obtain ⟨R, hR⟩ : ∃ R, k + runN isLD (s.toList.drop k) = R := ⟨_, rfl⟩
  have HR : Hid (k + runN isLD (s.toList.drop k) = R) := hR
  rw [hR]
  clear hR
  go_enter Tryd.func15, Tryd.ntmps15
  go_wp2
  go_loop [1] (fun i => ∃ j : Nat, j ≤ s.size ∧ i = .int .i64 j ∧ Hid (j + runN isLD (s.toList.drop j) = R)) (fun i => s.size - (intOf i).toNat)
  case atStart => exact ⟨k, hk, rfl, HR⟩
  case round =>
    obtain ⟨j, hj, rfl, HJ⟩ := hrel
    have j0 : (0 : Int) ≤ j := by omega
    by_cases hlt : j < s.size
    · have j1 : (j : Int) < s.size := by omega
      have C : Hid (∀ W, Calls Tryd.prog 33 #[Value.int .u8 s[j].toNat] W fun e w' => e = .returned (.bool (isLD s[j])) ∧ w' = W) := fun W => nameByte_any s[j] W
      have ed := drop_at s j hlt
      have HJ2 := HJ.out
      rw [ed] at HJ2
      clear ed HJ HR
      cases hp : isLD s[j] with
      | true =>
        rw [run_pos _ _ _ hp] at HJ2
        have NX : Hid (j + 1 + runN isLD (s.toList.drop (j + 1)) = R) := by show _ = _; omega
        rw [hp] at C
        clear HJ2 hp
        go_wp2_with (go_at_call 33; refine (C.out _).mono ?_; rintro e w1 ⟨rfl, rfl⟩; clear C)
        go_round
        case rel => exact ⟨j + 1, by omega, by go_num, NX⟩
        case measure => simp [intOf]; omega
      | false =>
        rw [run_neg _ _ _ hp] at HJ2
        have e : R = j := by omega
        subst e
        rw [hp] at C
        clear HJ2 hp
        go_wp2_with (go_at_call 33; refine (C.out _).mono ?_; rintro e w1 ⟨rfl, rfl⟩; clear C)
        go_ret
        exact ⟨rfl, rfl⟩
    · have j1 : ¬ (j : Int) < s.size := by omega
      have HJ2 := HJ.out
      rw [drop_end s j hlt] at HJ2
      have e : R = j := HJ2.symm
      subst e
      clear HJ2 HJ HR
      go_wp2
      go_ret
      exact ⟨rfl, rfl⟩
set_option maxRecDepth 100000 in
theorem behindName_any (s : ByteArray) (k : Nat) (w : World) (hk : k ≤ s.size) (hs : (s.size : Int) ≤ 9223372036854775807) : Calls Tryd.prog 20 #[.string s, .int .i64 k] w fun e w' => e = .returned (.int .i64 (k + runN isLD (s.toList.drop k) : Nat)) ∧ w' = w := by
  have C : Hid (∀ W, Calls Tryd.prog 15 #[.string s, .int .i64 k, .func (.func 33) #[] #[]] W fun e w' => e = .returned (.int .i64 (k + runN isLD (s.toList.drop k) : Nat)) ∧ w' = W) := fun W => behindL_any s k W hk hs
  generalize k + runN isLD (s.toList.drop k) = R at *
  go_enter Tryd.func20, Tryd.ntmps20
  go_wp2_with (go_at_call 15; refine (C.out _).mono ?_; rintro e w1 ⟨rfl, rfl⟩; clear C)
  go_ret
  exact ⟨rfl, rfl⟩
theorem two_pre (s : ByteArray) : (s.extract 0 2).toList = s.toList.take 2 := by
  rw [ByteArray.toList_eq, ByteArray.toList_eq]
  simp
set_option maxRecDepth 100000 in
theorem slash_any (s : ByteArray) (w : World) : Calls Tryd.prog 17 #[.string s, .string ⟨#[47, 47]⟩] w fun e w' => e = .returned (.bool (s.toList.take 2 == [47, 47])) ∧ w' = w := by
  have C : Hid (∀ W, Calls Tryd.prog 32 #[.string s, .string ⟨#[47, 47]⟩] W fun e w' => e = .returned (.bool (s.toList.take 2 == [47, 47])) ∧ w' = W) := fun W => by
    by_cases h : 2 ≤ s.size
    · have h1 : (2 : Int) ≤ s.size := by omega
      have h2 := two_pre s
      rw [← h2]
      clear h h2
      go_enter Tryd.func32, Tryd.ntmps32
      go_wp2
      go_ret
      exact ⟨rfl, rfl⟩
    · have h1 : ¬ (2 : Int) ≤ s.size := by omega
      have h2 : (s.toList.take 2 == [47, 47]) = false := by
        rw [beq_eq_false_iff_ne]
        intro e
        have := congrArg List.length e
        rw [List.length_take, size_toList] at this
        simp at this
        omega
      rw [h2]
      clear h h2
      go_enter Tryd.func32, Tryd.ntmps32
      go_wp2
      go_ret
      exact ⟨rfl, rfl⟩
  go_enter Tryd.func17, Tryd.ntmps17
  go_wp2_with (go_at_call 32; refine (C.out _).mono ?_; rintro e w1 ⟨rfl, rfl⟩; clear C)
  go_ret
  exact ⟨rfl, rfl⟩
end Go.Proofs.YthpeckoleiecbaaDoor
