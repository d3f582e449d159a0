/-
  ParseFloat and nearest of digits alone, and of 1e with a digit behind it.
-/
import Derived.Test.YtdodammplhlihaaGreatDoorPf
import Derived.Test.YtdodammplhlihaaGreatDoorRe
namespace Go.Proofs.YtdodammplhlihaaGreatDoor
open Go.RowKit
theorem f_nil : floatOfInt .f64 0 = 0 := by kernel_rfl
set_option maxRecDepth 100000 in
theorem bool2_false (w : World) : Calls Tryz.prog 123 #[.bool false] w fun e w' => e = .returned (.int .u64 0) ∧ w' = w := by
  go_enter Tryz.func123, Tryz.ntmps123
  go_wp2
  go_ret
  exact ⟨rfl, rfl⟩
def NeP (v : Nat) (n : Nat) (w : World) (e : Ending) (w' : World) : Prop := e = .returned (.tuple #[.float .f64 v, .int .i64 n, .nilIface]) ∧ w' = w
def SpP (w : World) (e : Ending) (w' : World) : Prop := e = .returned (.tuple #[.float .f64 0, .int .i64 0, .bool false]) ∧ w' = w
set_option maxRecDepth 100000 in
set_option maxHeartbeats 4000000 in
theorem atof_some (s : ByteArray) (m n v : Nat) (x : Int) (w : World) (hm : m ≠ 0) (x0 : 0 ≤ x) (x1 : x ≤ 8) (hG : Gl w) (hS : Calls Tryz.prog 114 #[.string s] w (SpP w))
    (hR : Calls Tryz.prog 115 #[.string s] w (RdP m x n w)) (hE : Calls Tryz.prog 125 #[.int .u64 m, .int .i64 x, .bool false] w (ExP v w)) : Calls Tryz.prog 101 #[.string s] w (NeP v n w) := by
  have S := hid hS
  have R := hid hR
  have E := hid hE
  have B := hid (bool2_false w)
  have g1 := hG.opt
  have m0 : ((m : Int) == 0) = false := by simp; omega
  have y1 : ¬ (310 : Int) < x := by omega
  have y2 : ¬ x < (-345 : Int) := by omega
  clear hS hR hE hG
  go_enter Tryz.func101, Tryz.ntmps101
  go_wp2_with (first
    | (go_at_call 114; refine S.out.mono ?_; clear S; rintro e w1 ⟨rfl, hw⟩; have hw2 := hw.symm; clear hw; subst hw2)
    | (go_at_call 115; refine R.out.mono ?_; clear R; rintro e w1 ⟨rfl, hw⟩; have hw2 := hw.symm; clear hw; subst hw2)
    | (go_at_call 123; refine B.out.mono ?_; clear B; rintro e w1 ⟨rfl, hw⟩; have hw2 := hw.symm; clear hw; subst hw2)
    | (go_at_call 125; refine E.out.mono ?_; clear E; rintro e w1 ⟨rfl, hw⟩; have hw2 := hw.symm; clear hw; subst hw2))
  exact bodyPost_ret (v := .tuple #[.float .f64 v, .int .i64 n, .nilIface]) (by simp [results, Tryz.results101, go_sem]) rfl ⟨rfl, rfl⟩
set_option maxRecDepth 100000 in
set_option maxHeartbeats 4000000 in
theorem atof_none (s : ByteArray) (n : Nat) (x : Int) (w : World) (hG : Gl w) (hS : Calls Tryz.prog 114 #[.string s] w (SpP w))
    (hR : Calls Tryz.prog 115 #[.string s] w (RdP 0 x n w)) : Calls Tryz.prog 101 #[.string s] w (NeP 0 n w) := by
  have S := hid hS
  have R := hid hR
  have B := hid (bool2_false w)
  have g1 := hG.opt
  have FB : (callFunc 124 #[.int .u64 (bits BinOp.or .u64 0 0)]).run Tryz.prog w = .ok (.value (.float .f64 0)) w := by kernel_rfl
  clear hS hR hG
  go_enter Tryz.func101, Tryz.ntmps101
  go_wp2_with (first
    | (go_at_call 114; refine S.out.mono ?_; clear S; rintro e w1 ⟨rfl, hw⟩; have hw2 := hw.symm; clear hw; subst hw2)
    | (go_at_call 115; refine R.out.mono ?_; clear R; rintro e w1 ⟨rfl, hw⟩; have hw2 := hw.symm; clear hw; subst hw2)
    | (go_at_call 123; refine B.out.mono ?_; clear B; rintro e w1 ⟨rfl, hw⟩; have hw2 := hw.symm; clear hw; subst hw2))
  exact bodyPost_ret (v := .tuple #[.float .f64 0, .int .i64 n, .nilIface]) (by simp [results, Tryz.results101, go_sem]) rfl ⟨rfl, rfl⟩
set_option maxRecDepth 100000 in
set_option maxHeartbeats 4000000 in
theorem prefix_any (s : ByteArray) (v n : Nat) (w : World) (h : Calls Tryz.prog 101 #[.string s] w (NeP v n w)) : Calls Tryz.prog 73 #[.string s, .int .i64 64] w (NeP v n w) := by
  have H := hid h
  clear h
  go_enter Tryz.func73, Tryz.ntmps73
  go_wp2_with (go_at_call 101; refine H.out.mono ?_; clear H; rintro e w1 ⟨rfl, hw⟩; have hw2 := hw.symm; clear hw; subst hw2)
  exact bodyPost_ret (v := .tuple #[.float .f64 v, .int .i64 n, .nilIface]) (by simp [results, Tryz.results73, go_sem]) rfl ⟨rfl, rfl⟩
set_option maxRecDepth 100000 in
set_option maxHeartbeats 4000000 in
theorem parse_in (s : ByteArray) (v n : Nat) (w : World) (hn : s.size = n) (h : Calls Tryz.prog 73 #[.string s, .int .i64 64] w (NeP v n w)) : Calls Tryz.prog 52 #[.string s, .int .i64 64] w fun e w' => e = .returned (.tuple #[.float .f64 v, .nilIface]) ∧ w' = w := by
  have H := hid h
  clear h
  subst hn
  go_enter Tryz.func52, Tryz.ntmps52
  go_wp2_with (go_at_call 73; refine H.out.mono ?_; clear H; rintro e w1 ⟨rfl, hw⟩; have hw2 := hw.symm; clear hw; subst hw2)
  exact bodyPost_ret (v := .tuple #[.float .f64 v, .nilIface]) (by simp [results, Tryz.results52, go_sem]) rfl ⟨rfl, rfl⟩
set_option maxRecDepth 100000 in
set_option maxHeartbeats 4000000 in
theorem parse_out (s : ByteArray) (v : Nat) (w : World) (h : Calls Tryz.prog 52 #[.string s, .int .i64 64] w fun e w' => e = .returned (.tuple #[.float .f64 v, .nilIface]) ∧ w' = w) : Calls Tryz.prog 35 #[.string s, .int .i64 64] w fun e w' => e = .returned (.tuple #[.float .f64 v, .nilIface]) ∧ w' = w := by
  have H := hid h
  clear h
  go_enter Tryz.func35, Tryz.ntmps35
  go_wp2_with (go_at_call 52; refine H.out.mono ?_; clear H; rintro e w1 ⟨rfl, hw⟩; have hw2 := hw.symm; clear hw; subst hw2)
  exact bodyPost_ret (v := .tuple #[.float .f64 v, .nilIface]) (by simp [results, Tryz.results35, go_sem]) rfl ⟨rfl, rfl⟩
def NrP (v : Nat) (w : World) (e : Ending) (w' : World) : Prop := e = .returned (.float .f64 v) ∧ w' = w
set_option maxRecDepth 100000 in
set_option maxHeartbeats 4000000 in
theorem nearest_of (s : ByteArray) (v : Nat) (w : World) (h : Calls Tryz.prog 35 #[.string s, .int .i64 64] w fun e w' => e = .returned (.tuple #[.float .f64 v, .nilIface]) ∧ w' = w) : Calls Tryz.prog 17 #[.string s] w (NrP v w) := by
  have H := hid h
  clear h
  go_enter Tryz.func17, Tryz.ntmps17
  go_wp2_with (go_at_call 35; refine H.out.mono ?_; clear H; rintro e w1 ⟨rfl, hw⟩; have hw2 := hw.symm; clear hw; subst hw2)
  go_ret
  exact ⟨rfl, rfl⟩
theorem nearest_up (s : ByteArray) (v : Nat) (w : World) (h : Calls Tryz.prog 101 #[.string s] w (NeP v s.size w)) : Calls Tryz.prog 17 #[.string s] w (NrP v w) :=
  nearest_of s v w (parse_out s v w (parse_in s v s.size w rfl (prefix_any s v s.size w h)))
/-- Digits alone: the number that they are. -/
theorem nearest_digits (s : ByteArray) (w : World) (h0 : 0 < s.size) (h15 : s.size ≤ 15) (hd : ∀ k (h : k < s.size), isD (s[k]'h)) (hG : Gl w) : Calls Tryz.prog 17 #[.string s] w (NrP (floatOfInt .f64 (val s.data.toList)) w) := by
  refine nearest_up s _ w ?_
  have hR := readFloat_digits s w h0 (by omega) hd
  have hS : Calls Tryz.prog 114 #[.string s] w (SpP w) := special_dig s w h0 (hd 0 h0)
  have hv : val s.data.toList < 10 ^ 15 := by
    have h1 := val_lt s.data.toList (fun c hc => by
      obtain ⟨k, hk, rfl⟩ := List.getElem_of_mem hc
      rw [toL_len] at hk
      rw [toL_get s k hk]
      exact hd k hk) s.size (by rw [toL_len]; exact Nat.le_refl _)
    rw [List.take_of_length_le (by rw [toL_len]; exact Nat.le_refl _)] at h1
    exact Nat.lt_of_lt_of_le h1 (Nat.pow_le_pow_right (by decide) h15)
  by_cases hm : val s.data.toList = 0
  · rw [hm] at hR ⊢
    rw [show ((0 : Nat) : Int) = 0 from rfl, f_nil]
    exact atof_none s s.size 0 w hG hS hR
  · exact atof_some s _ s.size _ 0 w hm (by decide) (by decide) hG hS hR (exact_zero _ w (by omega) hG)
theorem dig8 (x : Nat) (x0 : 1 ≤ x) (x1 : x ≤ 8) : (UInt8.ofNat (48 + x)).toNat = 48 + x := by
  have : x = 1 ∨ x = 2 ∨ x = 3 ∨ x = 4 ∨ x = 5 ∨ x = 6 ∨ x = 7 ∨ x = 8 := by omega
  rcases this with rfl | rfl | rfl | rfl | rfl | rfl | rfl | rfl <;> rfl
/-- 1e and a digit: that power of ten. -/
theorem nearest_exp (s : ByteArray) (x : Nat) (w : World) (hs : s = ⟨#[49, 101, UInt8.ofNat (48 + x)]⟩) (x0 : 1 ≤ x) (x1 : x ≤ 8) (hG : Gl w) : Calls Tryz.prog 17 #[.string s] w (NrP (floatOfInt .f64 ((10 ^ x : Nat) : Int)) w) := by
  refine nearest_up s _ w ?_
  have hz : s.size = 3 := by rw [hs]; rfl
  have hS : Calls Tryz.prog 114 #[.string s] w (SpP w) := special_dig s w (by omega) (by subst hs; exact ⟨show 48 ≤ (49 : UInt8).toNat by decide, show (49 : UInt8).toNat ≤ 57 by decide⟩)
  have hR := readFloat_exp s (48 + x) w hz (by omega) (by omega) (by subst hs; intro _; rfl) (by subst hs; intro _; rfl) (by subst hs; intro _; exact dig8 x x0 x1)
  rw [show 48 + x - 48 = x by omega] at hR
  rw [hz]
  have hE : Calls Tryz.prog 125 #[.int .u64 (1 : Nat), .int .i64 (x : Int), .bool false] w (ExP (floatOfInt .f64 ((10 ^ x : Nat) : Int)) w) := by
    have : x = 1 ∨ x = 2 ∨ x = 3 ∨ x = 4 ∨ x = 5 ∨ x = 6 ∨ x = 7 ∨ x = 8 := by omega
    rcases this with rfl | rfl | rfl | rfl | rfl | rfl | rfl | rfl
    · exact exact_exp1 w hG
    · exact exact_exp2 w hG
    · exact exact_exp3 w hG
    · exact exact_exp4 w hG
    · exact exact_exp5 w hG
    · exact exact_exp6 w hG
    · exact exact_exp7 w hG
    · exact exact_exp8 w hG
  exact atof_some s 1 3 _ x w (by decide) (by omega) (by omega) hG hS hR hE
end Go.Proofs.YtdodammplhlihaaGreatDoor
