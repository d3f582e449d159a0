/-
  readFloat: 1e and a digit behind it.
-/
import Derived.Test.YtdodammplhlihaaGreatDoorRf
namespace Go.Proofs.YtdodammplhlihaaGreatDoor
open Go.RowKit
theorem lower_e (w : World) : Calls Tryz.prog 134 #[.int .u8 101] w fun e w' => e = .returned (.int .u8 101) ∧ w' = w := by
  have h : bits .or .u8 101 32 = 101 := by decide
  go_enter Tryz.func134, Tryz.ntmps134
  go_wp2
  go_ret
  exact ⟨rfl, rfl⟩
set_option maxRecDepth 100000 in
set_option maxHeartbeats 4000000 in
theorem readFloat_exp (s : ByteArray) (c : Nat) (w : World) (hs : s.size = 3) (g0 : 48 ≤ c) (g1 : c ≤ 57) (hd0 : ∀ h : 0 < s.size, (s[0]'h).toNat = 49) (hd1 : ∀ h : 1 < s.size, (s[1]'h).toNat = 101) (hd2 : ∀ h : 2 < s.size, (s[2]'h).toNat = c) :
    Calls Tryz.prog 115 #[.string s] w (RdP 1 ((c - 48 : Nat) : Int) 3 w) := by
  have l0 : 0 < s.size := by omega
  have l1 : 1 < s.size := by omega
  have l2 : 2 < s.size := by omega
  have t0 := hd0 l0
  have t1 := hd1 l1
  have t2 := hd2 l2
  have z : (s.size : Int) = 3 := by omega
  have hne : ¬ s = ByteArray.empty := fun e => by rw [e] at l0; exact absurd l0 (by decide)
  have b0 : (48 : Int) ≤ c := by omega
  have b1 : (c : Int) ≤ 57 := by omega
  have b2 : ((c : Int) == 95) = false := by simp; omega
  have b3 : ((c : Int) == 43) = false := by simp; omega
  have b4 : ((c : Int) == 45) = false := by simp; omega
  have b5 : ¬ (c : Int) < 48 := by omega
  have b6 : ¬ (57 : Int) < c := by omega
  have LE : Hid (∀ W, Calls Tryz.prog 134 #[.int .u8 101] W fun e w' => e = .returned (.int .u8 101) ∧ w' = W) := lower_e
  clear hd0 hd1 hd2
  go_enter Tryz.func115, Tryz.ntmps115
  go_wp2
  go_step3
  go_wp2
  go_step3
  go_wp2
  go_loop [2, 5, 7, 9, 13, 14, 15, 16, 17] (fun m tr i us st sd nd nm dp => tr = .bool false ∧ us = .bool false ∧ st = .bool false ∧ dp = .int .i64 0 ∧ ((i = .int .i64 0 ∧ m = .int .u64 0 ∧ sd = .bool false ∧ nd = .int .i64 0 ∧ nm = .int .i64 0) ∨ (i = .int .i64 1 ∧ m = .int .u64 1 ∧ sd = .bool true ∧ nd = .int .i64 1 ∧ nm = .int .i64 1))) (fun _ _ i _ _ _ _ _ _ => 3 - (intOf i).toNat)
  case atStart => exact ⟨rfl, rfl, rfl, rfl, Or.inl ⟨rfl, rfl, rfl, rfl, rfl⟩⟩
  case round =>
    obtain ⟨rfl, rfl, rfl, rfl, (⟨rfl, rfl, rfl, rfl, rfl⟩ | ⟨rfl, rfl, rfl, rfl, rfl⟩)⟩ := hrel
    · go_wp2
      go_round
      case rel => exact ⟨rfl, rfl, rfl, rfl, Or.inr ⟨by go_num, by go_num, rfl, by go_num, by go_num⟩⟩
      case measure => simp [intOf]
    · go_wp2_with (go_at_call 134; refine (LE.out _).mono ?_; clear LE; rintro e w1 ⟨rfl, hw⟩; have hw2 := hw.symm; clear hw; subst hw2)
      go_loop [7, 9, 20] (fun i us x => us = .bool false ∧ ((i = .int .i64 2 ∧ x = .int .i64 0) ∨ (i = .int .i64 3 ∧ x = .int .i64 ((c - 48 : Nat) : Int)))) (fun i _ _ => 3 - (intOf i).toNat)
      case atStart => exact ⟨rfl, Or.inl ⟨rfl, rfl⟩⟩
      case round =>
        obtain ⟨rfl, (⟨rfl, rfl⟩ | ⟨rfl, rfl⟩)⟩ := hrel
        · go_wp2
          go_round
          case rel => exact ⟨rfl, Or.inr ⟨by go_num, by go_num⟩⟩
          case measure => simp [intOf]
        · go_wp2
          exact bodyPost_ret (v := .tuple #[.int .u64 1, .int .i64 (1 + ((c - 48 : Nat) : Int) - 1), .bool false, .bool false, .bool false, .int .i64 3, .bool true]) (by simp [results, Tryz.results115, go_sem]) rfl ⟨by rw [show 1 + ((c - 48 : Nat) : Int) - 1 = ((c - 48 : Nat) : Int) by omega]; rfl, rfl⟩
end Go.Proofs.YtdodammplhlihaaGreatDoor
