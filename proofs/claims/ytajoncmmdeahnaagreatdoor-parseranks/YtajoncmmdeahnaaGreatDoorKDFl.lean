/-
  readFloat: 1e and a digit behind it. ParseFloat and nearest of digits alone, and of 1e with a digit behind it. Quotients of whole numbers as numbers with a point: never what is no number.
-/
import Derived.Test.YtajoncmmdeahnaaGreatDoorKDPf
namespace Go.Proofs.YtajoncmmdeahnaaGreatDoor.Dg
open Go.RowKit
theorem lower_e (w : World) : Calls Tryz.prog 273 #[.int .u8 101] w fun e w' => e = .returned (.int .u8 101) ∧ w' = w := by
  have h : bits .or .u8 101 32 = 101 := by decide
  go_enter Tryz.func273, Tryz.ntmps273
  go_wp2
  go_ret
  exact ⟨rfl, rfl⟩
set_option maxRecDepth 100000 in
set_option maxHeartbeats 4000000 in
theorem readFloat_exp (s : ByteArray) (c : Nat) (w : World) (hs : s.size = 3) (g0 : 48 ≤ c) (g1 : c ≤ 57) (hd0 : ∀ h : 0 < s.size, (s[0]'h).toNat = 49) (hd1 : ∀ h : 1 < s.size, (s[1]'h).toNat = 101) (hd2 : ∀ h : 2 < s.size, (s[2]'h).toNat = c) :
    Calls Tryz.prog 281 #[.string s] w (RdP 1 ((c - 48 : Nat) : Int) 3 w) := by
  have l0 : 0 < s.size := by omega
  have l1 : 1 < s.size := by omega
  have l2 : 2 < s.size := by omega
  have t0 := hd0 l0
  have t1 := hd1 l1
  have t2 := hd2 l2
  have z : (s.size : Int) = 3 := by omega
  have hne : ¬ s = ByteArray.empty := fun e => by rw [e] at l0; exact absurd l0 (by decide)
  have b0 : (48 : Int) ≤ c := by omega
  have b1 : (c : Int) ≤ 57 := by omega
  have b2 : ((c : Int) == 95) = false := by simp; omega
  have b3 : ((c : Int) == 43) = false := by simp; omega
  have b4 : ((c : Int) == 45) = false := by simp; omega
  have b5 : ¬ (c : Int) < 48 := by omega
  have b6 : ¬ (57 : Int) < c := by omega
  have LE : Hid (∀ W, Calls Tryz.prog 273 #[.int .u8 101] W fun e w' => e = .returned (.int .u8 101) ∧ w' = W) := lower_e
  clear hd0 hd1 hd2
  go_enter Tryz.func281, Tryz.ntmps281
  go_wp2
  go_step3
  go_wp2
  go_step3
  go_wp2
  go_loop [2, 5, 7, 9, 13, 14, 15, 16, 17] (fun m tr i us st sd nd nm dp => tr = .bool false ∧ us = .bool false ∧ st = .bool false ∧ dp = .int .i64 0 ∧ ((i = .int .i64 0 ∧ m = .int .u64 0 ∧ sd = .bool false ∧ nd = .int .i64 0 ∧ nm = .int .i64 0) ∨ (i = .int .i64 1 ∧ m = .int .u64 1 ∧ sd = .bool true ∧ nd = .int .i64 1 ∧ nm = .int .i64 1))) (fun _ _ i _ _ _ _ _ _ => 3 - (intOf i).toNat)
  case atStart => exact ⟨rfl, rfl, rfl, rfl, Or.inl ⟨rfl, rfl, rfl, rfl, rfl⟩⟩
  case round =>
    obtain ⟨rfl, rfl, rfl, rfl, (⟨rfl, rfl, rfl, rfl, rfl⟩ | ⟨rfl, rfl, rfl, rfl, rfl⟩)⟩ := hrel
    · go_wp2
      go_round
      case rel => exact ⟨rfl, rfl, rfl, rfl, Or.inr ⟨by go_num, by go_num, rfl, by go_num, by go_num⟩⟩
      case measure => simp [intOf]
    · go_wp2_with (go_at_call 273; refine (LE.out _).mono ?_; clear LE; rintro e w1 ⟨rfl, hw⟩; have hw2 := hw.symm; clear hw; subst hw2)
      go_loop [7, 9, 20] (fun i us x => us = .bool false ∧ ((i = .int .i64 2 ∧ x = .int .i64 0) ∨ (i = .int .i64 3 ∧ x = .int .i64 ((c - 48 : Nat) : Int)))) (fun i _ _ => 3 - (intOf i).toNat)
      case atStart => exact ⟨rfl, Or.inl ⟨rfl, rfl⟩⟩
      case round =>
        obtain ⟨rfl, (⟨rfl, rfl⟩ | ⟨rfl, rfl⟩)⟩ := hrel
        · go_wp2
          go_round
          case rel => exact ⟨rfl, Or.inr ⟨by go_num, by go_num⟩⟩
          case measure => simp [intOf]
        · go_wp2
          exact bodyPost_ret (v := .tuple #[.int .u64 1, .int .i64 (1 + ((c - 48 : Nat) : Int) - 1), .bool false, .bool false, .bool false, .int .i64 3, .bool true]) (by simp [results, Tryz.results281, go_sem]) rfl ⟨by rw [show 1 + ((c - 48 : Nat) : Int) - 1 = ((c - 48 : Nat) : Int) by omega]; rfl, rfl⟩
end Go.Proofs.YtajoncmmdeahnaaGreatDoor.Dg
namespace Go.Proofs.YtajoncmmdeahnaaGreatDoor.Dg
open Go.RowKit
theorem f_nil : floatOfInt .f64 0 = 0 := by kernel_rfl
set_option maxRecDepth 100000 in
theorem bool2_false (w : World) : Calls Tryz.prog 289 #[.bool false] w fun e w' => e = .returned (.int .u64 0) ∧ w' = w := by
  go_enter Tryz.func289, Tryz.ntmps289
  go_wp2
  go_ret
  exact ⟨rfl, rfl⟩
def NeP (v : Nat) (n : Nat) (w : World) (e : Ending) (w' : World) : Prop := e = .returned (.tuple #[.float .f64 v, .int .i64 n, .nilIface]) ∧ w' = w
def SpP (w : World) (e : Ending) (w' : World) : Prop := e = .returned (.tuple #[.float .f64 0, .int .i64 0, .bool false]) ∧ w' = w
set_option maxRecDepth 100000 in
set_option maxHeartbeats 4000000 in
theorem atof_some (s : ByteArray) (m n v : Nat) (x : Int) (w : World) (hm : m ≠ 0) (x0 : 0 ≤ x) (x1 : x ≤ 8) (hG : Gl w) (hS : Calls Tryz.prog 280 #[.string s] w (SpP w))
    (hR : Calls Tryz.prog 281 #[.string s] w (RdP m x n w)) (hE : Calls Tryz.prog 291 #[.int .u64 m, .int .i64 x, .bool false] w (ExP v w)) : Calls Tryz.prog 266 #[.string s] w (NeP v n w) := by
  have S := hid hS
  have R := hid hR
  have E := hid hE
  have B := hid (bool2_false w)
  have g1 := hG.opt
  have m0 : ((m : Int) == 0) = false := by simp; omega
  have y1 : ¬ (310 : Int) < x := by omega
  have y2 : ¬ x < (-345 : Int) := by omega
  clear hS hR hE hG
  go_enter Tryz.func266, Tryz.ntmps266
  go_wp2_with (first
    | (go_at_call 280; refine S.out.mono ?_; clear S; rintro e w1 ⟨rfl, hw⟩; have hw2 := hw.symm; clear hw; subst hw2)
    | (go_at_call 281; refine R.out.mono ?_; clear R; rintro e w1 ⟨rfl, hw⟩; have hw2 := hw.symm; clear hw; subst hw2)
    | (go_at_call 289; refine B.out.mono ?_; clear B; rintro e w1 ⟨rfl, hw⟩; have hw2 := hw.symm; clear hw; subst hw2)
    | (go_at_call 291; refine E.out.mono ?_; clear E; rintro e w1 ⟨rfl, hw⟩; have hw2 := hw.symm; clear hw; subst hw2))
  exact bodyPost_ret (v := .tuple #[.float .f64 v, .int .i64 n, .nilIface]) (by simp [results, Tryz.results266, go_sem]) rfl ⟨rfl, rfl⟩
set_option maxRecDepth 100000 in
set_option maxHeartbeats 4000000 in
theorem atof_none (s : ByteArray) (n : Nat) (x : Int) (w : World) (hG : Gl w) (hS : Calls Tryz.prog 280 #[.string s] w (SpP w))
    (hR : Calls Tryz.prog 281 #[.string s] w (RdP 0 x n w)) : Calls Tryz.prog 266 #[.string s] w (NeP 0 n w) := by
  have S := hid hS
  have R := hid hR
  have B := hid (bool2_false w)
  have g1 := hG.opt
  have FB : (callFunc 290 #[.int .u64 (bits BinOp.or .u64 0 0)]).run Tryz.prog w = .ok (.value (.float .f64 0)) w := by kernel_rfl
  clear hS hR hG
  go_enter Tryz.func266, Tryz.ntmps266
  go_wp2_with (first
    | (go_at_call 280; refine S.out.mono ?_; clear S; rintro e w1 ⟨rfl, hw⟩; have hw2 := hw.symm; clear hw; subst hw2)
    | (go_at_call 281; refine R.out.mono ?_; clear R; rintro e w1 ⟨rfl, hw⟩; have hw2 := hw.symm; clear hw; subst hw2)
    | (go_at_call 289; refine B.out.mono ?_; clear B; rintro e w1 ⟨rfl, hw⟩; have hw2 := hw.symm; clear hw; subst hw2))
  exact bodyPost_ret (v := .tuple #[.float .f64 0, .int .i64 n, .nilIface]) (by simp [results, Tryz.results266, go_sem]) rfl ⟨rfl, rfl⟩
set_option maxRecDepth 100000 in
set_option maxHeartbeats 4000000 in
theorem prefix_any (s : ByteArray) (v n : Nat) (w : World) (h : Calls Tryz.prog 266 #[.string s] w (NeP v n w)) : Calls Tryz.prog 239 #[.string s, .int .i64 64] w (NeP v n w) := by
  have H := hid h
  clear h
  go_enter Tryz.func239, Tryz.ntmps239
  go_wp2_with (go_at_call 266; refine H.out.mono ?_; clear H; rintro e w1 ⟨rfl, hw⟩; have hw2 := hw.symm; clear hw; subst hw2)
  exact bodyPost_ret (v := .tuple #[.float .f64 v, .int .i64 n, .nilIface]) (by simp [results, Tryz.results239, go_sem]) rfl ⟨rfl, rfl⟩
set_option maxRecDepth 100000 in
set_option maxHeartbeats 4000000 in
theorem parse_in (s : ByteArray) (v n : Nat) (w : World) (hn : s.size = n) (h : Calls Tryz.prog 239 #[.string s, .int .i64 64] w (NeP v n w)) : Calls Tryz.prog 209 #[.string s, .int .i64 64] w fun e w' => e = .returned (.tuple #[.float .f64 v, .nilIface]) ∧ w' = w := by
  have H := hid h
  clear h
  subst hn
  go_enter Tryz.func209, Tryz.ntmps209
  go_wp2_with (go_at_call 239; refine H.out.mono ?_; clear H; rintro e w1 ⟨rfl, hw⟩; have hw2 := hw.symm; clear hw; subst hw2)
  exact bodyPost_ret (v := .tuple #[.float .f64 v, .nilIface]) (by simp [results, Tryz.results209, go_sem]) rfl ⟨rfl, rfl⟩
set_option maxRecDepth 100000 in
set_option maxHeartbeats 4000000 in
theorem parse_out (s : ByteArray) (v : Nat) (w : World) (h : Calls Tryz.prog 209 #[.string s, .int .i64 64] w fun e w' => e = .returned (.tuple #[.float .f64 v, .nilIface]) ∧ w' = w) : Calls Tryz.prog 173 #[.string s, .int .i64 64] w fun e w' => e = .returned (.tuple #[.float .f64 v, .nilIface]) ∧ w' = w := by
  have H := hid h
  clear h
  go_enter Tryz.func173, Tryz.ntmps173
  go_wp2_with (go_at_call 209; refine H.out.mono ?_; clear H; rintro e w1 ⟨rfl, hw⟩; have hw2 := hw.symm; clear hw; subst hw2)
  exact bodyPost_ret (v := .tuple #[.float .f64 v, .nilIface]) (by simp [results, Tryz.results173, go_sem]) rfl ⟨rfl, rfl⟩
def NrP (v : Nat) (w : World) (e : Ending) (w' : World) : Prop := e = .returned (.float .f64 v) ∧ w' = w
set_option maxRecDepth 100000 in
set_option maxHeartbeats 4000000 in
theorem nearest_of (s : ByteArray) (v : Nat) (w : World) (h : Calls Tryz.prog 173 #[.string s, .int .i64 64] w fun e w' => e = .returned (.tuple #[.float .f64 v, .nilIface]) ∧ w' = w) : Calls Tryz.prog 130 #[.string s] w (NrP v w) := by
  have H := hid h
  clear h
  go_enter Tryz.func130, Tryz.ntmps130
  go_wp2_with (go_at_call 173; refine H.out.mono ?_; clear H; rintro e w1 ⟨rfl, hw⟩; have hw2 := hw.symm; clear hw; subst hw2)
  go_ret
  exact ⟨rfl, rfl⟩
theorem nearest_up (s : ByteArray) (v : Nat) (w : World) (h : Calls Tryz.prog 266 #[.string s] w (NeP v s.size w)) : Calls Tryz.prog 130 #[.string s] w (NrP v w) :=
  nearest_of s v w (parse_out s v w (parse_in s v s.size w rfl (prefix_any s v s.size w h)))
theorem nearest_digits (s : ByteArray) (w : World) (h0 : 0 < s.size) (h15 : s.size ≤ 15) (hd : ∀ k (h : k < s.size), isD (s[k]'h)) (hG : Gl w) : Calls Tryz.prog 130 #[.string s] w (NrP (floatOfInt .f64 (val s.data.toList)) w) := by
  refine nearest_up s _ w ?_
  have hR := readFloat_digits s w h0 (by omega) hd
  have hS : Calls Tryz.prog 280 #[.string s] w (SpP w) := special_dig s w h0 (hd 0 h0)
  have hv : val s.data.toList < 10 ^ 15 := by
    have h1 := val_lt s.data.toList (fun c hc => by
      obtain ⟨k, hk, rfl⟩ := List.getElem_of_mem hc
      rw [toL_len] at hk
      rw [toL_get s k hk]
      exact hd k hk) s.size (by rw [toL_len]; exact Nat.le_refl _)
    rw [List.take_of_length_le (by rw [toL_len]; exact Nat.le_refl _)] at h1
    exact Nat.lt_of_lt_of_le h1 (Nat.pow_le_pow_right (by decide) h15)
  by_cases hm : val s.data.toList = 0
  · rw [hm] at hR ⊢
    rw [show ((0 : Nat) : Int) = 0 from rfl, f_nil]
    exact atof_none s s.size 0 w hG hS hR
  · exact atof_some s _ s.size _ 0 w hm (by decide) (by decide) hG hS hR (exact_zero _ w (by omega) hG)
theorem dig8 (x : Nat) (x0 : 1 ≤ x) (x1 : x ≤ 8) : (UInt8.ofNat (48 + x)).toNat = 48 + x := by
  have : x = 1 ∨ x = 2 ∨ x = 3 ∨ x = 4 ∨ x = 5 ∨ x = 6 ∨ x = 7 ∨ x = 8 := by omega
  rcases this with rfl | rfl | rfl | rfl | rfl | rfl | rfl | rfl <;> rfl
theorem nearest_exp (s : ByteArray) (x : Nat) (w : World) (hs : s = ⟨#[49, 101, UInt8.ofNat (48 + x)]⟩) (x0 : 1 ≤ x) (x1 : x ≤ 8) (hG : Gl w) : Calls Tryz.prog 130 #[.string s] w (NrP (floatOfInt .f64 ((10 ^ x : Nat) : Int)) w) := by
  refine nearest_up s _ w ?_
  have hz : s.size = 3 := by rw [hs]; rfl
  have hS : Calls Tryz.prog 280 #[.string s] w (SpP w) := special_dig s w (by omega) (by subst hs; exact ⟨show 48 ≤ (49 : UInt8).toNat by decide, show (49 : UInt8).toNat ≤ 57 by decide⟩)
  have hR := readFloat_exp s (48 + x) w hz (by omega) (by omega) (by subst hs; intro _; rfl) (by subst hs; intro _; rfl) (by subst hs; intro _; exact dig8 x x0 x1)
  rw [show 48 + x - 48 = x by omega] at hR
  rw [hz]
  have hE : Calls Tryz.prog 291 #[.int .u64 (1 : Nat), .int .i64 (x : Int), .bool false] w (ExP (floatOfInt .f64 ((10 ^ x : Nat) : Int)) w) := by
    have : x = 1 ∨ x = 2 ∨ x = 3 ∨ x = 4 ∨ x = 5 ∨ x = 6 ∨ x = 7 ∨ x = 8 := by omega
    rcases this with rfl | rfl | rfl | rfl | rfl | rfl | rfl | rfl
    · exact exact_exp1 w hG
    · exact exact_exp2 w hG
    · exact exact_exp3 w hG
    · exact exact_exp4 w hG
    · exact exact_exp5 w hG
    · exact exact_exp6 w hG
    · exact exact_exp7 w hG
    · exact exact_exp8 w hG
  exact atof_some s 1 3 _ x w (by decide) (by omega) (by omega) hG hS hR hE
end Go.Proofs.YtajoncmmdeahnaaGreatDoor.Dg
namespace Go.Proofs.YtajoncmmdeahnaaGreatDoor.Dg
open Ieee Go.RowKit
def Fin0 (d : Datum) : Prop := (∃ m p, d = .number false m p) ∨ d = .infinity false
theorem read_rung (r : Nat) (h : r ≤ double.infRung) : Fin0 (double.read r) := by
  have hs : double.infRung < double.signWeight := by decide
  have e1 : r / double.signWeight = 0 := Nat.div_eq_of_lt (by omega)
  have e2 : r % double.signWeight = r := Nat.mod_eq_of_lt (by omega)
  unfold Format.read
  simp only [e1, e2]
  by_cases h1 : r < double.binade
  · rw [if_pos h1]; exact Or.inl ⟨_, _, rfl⟩
  · rw [if_neg h1]
    by_cases h2 : r < double.infRung
    · rw [if_pos h2]; exact Or.inl ⟨_, _, rfl⟩
    · rw [if_neg h2, if_pos (by omega)]; exact Or.inr rfl
theorem nearest_rung (m : Nat) (p : Int) : double.nearest false m p ≤ double.infRung := by
  unfold Format.nearest Format.word
  by_cases h : m = 0
  · rw [if_pos h]; simp
  · rw [if_neg h]
    simp only [Bool.false_eq_true, if_false]
    exact Nat.min_le_right _ _
theorem write_rung {d : Datum} (h : Fin0 d) : double.write d ≤ double.infRung := by
  rcases h with ⟨m, p, rfl⟩ | rfl
  · exact nearest_rung m p
  · show double.word false double.infRung ≤ _
    simp [Format.word]
theorem order_self {d : Datum} (h : Fin0 d) : d.order d = some .eq := by
  rcases h with ⟨m, p, rfl⟩ | rfl
  · unfold Datum.order
    simp
  · rfl
theorem quot_fin {a b : Datum} (k : Nat) (ha : Fin0 a) (hb : ∃ n j, b = .number false n j ∧ n ≠ 0) : ∃ d, a.quotient k b = some d ∧ Fin0 d := by
  obtain ⟨n, j, rfl, hn⟩ := hb
  rcases ha with ⟨m, p, rfl⟩ | rfl
  · unfold Datum.quotient
    simp only [hn, if_false]
    exact ⟨_, rfl, Or.inl ⟨_, _, rfl⟩⟩
  · exact ⟨_, rfl, Or.inr rfl⟩
theorem fl_rung (m : Nat) : floatOfInt .f64 m ≤ double.infRung := by
  show FloatKind.f64.nearest (m : Int) ≤ _
  unfold FloatKind.nearest
  have h : decide ((m : Int) < 0) = false := decide_eq_false (by omega)
  exact write_rung (Or.inl ⟨(m : Int).natAbs, 0, by rw [h]⟩)
def okB : Datum → Bool
  | .number false n _ => n != 0
  | _ => false
theorem okB_ex {d : Datum} (h : okB d = true) : ∃ n j, d = .number false n j ∧ n ≠ 0 := by
  cases d with
  | number s n j =>
    cases s with
    | false => exact ⟨n, j, rfl, by simpa [okB] using h⟩
    | true => cases h
  | infinity s => cases h
  | nan s f => cases h
theorem pow_read (x : Nat) (x0 : 1 ≤ x) (x1 : x ≤ 8) : okB (double.read (floatOfInt .f64 ((10 ^ x : Nat) : Int))) = true := by
  have : x = 1 ∨ x = 2 ∨ x = 3 ∨ x = 4 ∨ x = 5 ∨ x = 6 ∨ x = 7 ∨ x = 8 := by omega
  rcases this with rfl | rfl | rfl | rfl | rfl | rfl | rfl | rfl
  · decide +kernel
  · decide +kernel
  · decide +kernel
  · decide +kernel
  · decide +kernel
  · decide +kernel
  · decide +kernel
  · decide +kernel
theorem div_ok (m x : Nat) (x0 : 1 ≤ x) (x1 : x ≤ 8) : ∃ q : Nat, FloatKind.f64.format.div (floatOfInt .f64 m) (floatOfInt .f64 ((10 ^ x : Nat) : Int)) = some q ∧ FloatKind.f64.format.order q q = some .eq ∧ q < 9223372036854775808 := by
  obtain ⟨d, h1, h2⟩ := quot_fin (double.fractionBits + 2) (read_rung _ (fl_rung m)) (okB_ex (pow_read x x0 x1))
  refine ⟨double.write d, ?_, ?_, ?_⟩
  · show ((double.read _).quotient (double.fractionBits + 2) (double.read _)).map double.write = _
    rw [h1]; rfl
  · exact order_self (read_rung _ (write_rung h2))
  · have := write_rung h2
    have : double.infRung < 9223372036854775808 := by decide
    omega
def quo (m x : Nat) : Nat := (FloatKind.f64.format.div (floatOfInt .f64 m) (floatOfInt .f64 ((10 ^ x : Nat) : Int))).getD 0
theorem quo_is (m x : Nat) (x0 : 1 ≤ x) (x1 : x ≤ 8) : FloatKind.f64.format.div (floatOfInt .f64 m) (floatOfInt .f64 ((10 ^ x : Nat) : Int)) = some (quo m x) ∧ FloatKind.f64.format.order (quo m x) (quo m x) = some .eq ∧ quo m x < 9223372036854775808 := by
  obtain ⟨q, h1, h2, h3⟩ := div_ok m x x0 x1
  have e : quo m x = q := by unfold quo; rw [h1]; rfl
  rw [e]
  exact ⟨h1, h2, h3⟩
theorem quo_run (m x : Nat) (w : World) (x0 : 1 ≤ x) (x1 : x ≤ 8) : (binOp BinOp.quo 167 (.float .f64 (floatOfInt .f64 m)) (.float .f64 (floatOfInt .f64 ((10 ^ x : Nat) : Int)))).run Tryz.prog w = .ok (.float .f64 (quo m x)) w := by
  have h := (quo_is m x x0 x1).1
  generalize floatOfInt .f64 ((10 ^ x : Nat) : Int) = B at *
  generalize floatOfInt .f64 (m : Int) = A at *
  simp [binOp, Op.floatArith, h]
end Go.Proofs.YtajoncmmdeahnaaGreatDoor.Dg
