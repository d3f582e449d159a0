/-
  The contracts of the functions that touch no memory: the turn of a number's bits (twice), a power of two, a round's number.
-/
import Derived.Test.YtncplpgelfjfjaaDoorNum
import Derived.Test.YtncplpgelfjfjaaDoorProg
namespace Go.Proofs.YtncplpgelfjfjaaDoor
open Go.RowKit
theorem ret_int {k : IntKind} {a b : Int} (h : a = b) : Ending.returned (.int k a) = .returned (.int k b) := by rw [h]
theorem rot_eq (x : BitVec 64) (k : Int) (h0 : 0 ≤ k) (h1 : k < 64) : bits .or .u64 (IntKind.u64.wrap (U x * 2 ^ k.toNat)) (U x / 2 ^ (64 - k).toNat) = U (rotl x k.toNat) := by
  rw [shlU, shrU, orU, show (64 - k).toNat = 64 - k.toNat by omega]; rfl
set_option maxHeartbeats 400000 in
theorem rot_any (x : BitVec 64) (k : Int) (w : World) (h0 : 0 ≤ k) (h1 : k < 64) :
    Calls Tryd.prog 28 #[.int .u64 (U x), .int .i64 k] w fun e w' => e = .returned (.int .u64 (U (rotl x k.toNat))) ∧ w' = w := by
  have ha := and63 k h0 h1
  have hx0 := U_lo x
  have hx1 := U_hi x
  go_enter Tryd.func28, Tryd.ntmps28
  go_wp2
  go_ret
  exact ⟨ret_int (rot_eq x k h0 h1), rfl⟩
set_option maxHeartbeats 400000 in
theorem turned_any (x : BitVec 64) (k : Int) (w : World) (h0 : 0 ≤ k) (h1 : k < 64) :
    Calls Tryd.prog 29 #[.int .u64 (U x), .int .i64 k] w fun e w' => e = .returned (.int .u64 (U (rotl x k.toNat))) ∧ w' = w := by
  have hx0 := U_lo x
  have hx1 := U_hi x
  by_cases hk : k = 0
  · subst hk
    go_enter Tryd.func29, Tryd.ntmps29
    go_wp2
    go_ret
    exact ⟨ret_int (by rw [show (0 : Int).toNat = 0 from rfl, rotl_zero]), rfl⟩
  · have hb : (k == 0) = false := beq_eq_false_iff_ne.2 hk
    go_enter Tryd.func29, Tryd.ntmps29
    go_wp2
    go_ret
    exact ⟨ret_int (rot_eq x k h0 h1), rfl⟩
set_option maxHeartbeats 400000 in
theorem power_any (n : Nat) (w : World) (hn : n < 60) :
    Calls Tryd.prog 31 #[.int .i64 n] w fun e w' => e = .returned (.int .i64 (2 ^ n : Nat)) ∧ w' = w := by
  go_enter Tryd.func31, Tryd.ntmps31
  go_wp2
  go_loop [3, 4] (fun k i => ∃ j : Nat, j ≤ n ∧ i = .int .i64 j ∧ k = .int .i64 (2 ^ j : Nat)) (fun _ i => n - (intOf i).toNat)
  case atStart => exact ⟨0, Nat.zero_le _, rfl, rfl⟩
  case round =>
    obtain ⟨j, hj, rfl, rfl⟩ := hrel
    have hp : (2 ^ j : Nat) ≤ 2 ^ 60 := Nat.pow_le_pow_right (by omega) (by omega)
    have hp0 : 0 < (2 ^ j : Nat) := Nat.pow_pos (by omega)
    have hs : Hid (2 ^ (j + 1) = 2 ^ j + 2 ^ j) := by unfold Hid; rw [Nat.pow_succ]; omega
    generalize (2 ^ j : Nat) = q at *
    by_cases hlt : j < n
    · go_wp2
      go_round
      case rel => exact ⟨j + 1, by omega, by go_num, by rw [hs.out]; go_num⟩
      case measure => simp [intOf]; omega
    · go_wp2
      go_ret
      have e : j = n := by omega
      subst e
      refine ⟨ret_int ?_, rfl⟩
      have := hs.out
      rw [Nat.pow_succ] at this
      show (q : Int) = (2 ^ j : Nat)
      omega

/-- The register behind so many steps. -/
def reg : Nat → Int
  | 0 => 1
  | i + 1 => if 255 < reg i + reg i then bits .xor .i64 (reg i + reg i) 369 else reg i + reg i
theorem reg_bound : ∀ i, i < 169 → 0 ≤ reg i ∧ reg i ≤ 255 := by
  have h : ((List.range 169).all fun i => decide (0 ≤ reg i) && decide (reg i ≤ 255)) = true := by decide +kernel
  intro i hi
  have := List.all_eq_true.1 h i (List.mem_range.2 hi)
  simpa using this
/-- The number of a round behind so many steps, as the walk writes it. -/
def outc (n : Nat) : Nat → Int
  | 0 => 0
  | j + 1 => if 7 * n ≤ j ∧ reg j % 2 = 1 then IntKind.u64.wrap (outc n j + IntKind.u64.wrap (2 ^ min (IntKind.u64.wrap (wrap64 (2 ^ (j - 7 * n) - 1))).toNat 64)) else outc n j
def marksL : List Nat := [1, 32898, 9223372036854808714, 9223372039002292224, 32907, 2147483649, 9223372039002292353, 9223372036854808585, 138, 136, 2147516425, 2147483658, 2147516555, 9223372036854775947, 9223372036854808713, 9223372036854808579, 9223372036854808578, 9223372036854775936, 32778, 9223372039002259466, 9223372039002292353, 9223372036854808704, 2147483649, 9223372039002292232]
def rc (n : Nat) : BitVec 64 := BitVec.ofNat 64 (marksL.getD n 0)
theorem outc_rc (n : Nat) (hn : n < 24) : outc n (7 * n + 7) = U (rc n) := by
  have h : ((List.range 24).all fun n => outc n (7 * n + 7) == U (rc n)) = true := by decide +kernel
  have := List.all_eq_true.1 h n (List.mem_range.2 hn)
  simpa using this
set_option maxRecDepth 100000 in
set_option maxHeartbeats 1000000 in
theorem constant_any (n : Nat) (w : World) (hn : n < 24) :
    Calls Tryd.prog 30 #[.int .i64 n] w fun e w' => e = .returned (.int .u64 (U (rc n))) ∧ w' = w := by
  go_enter Tryd.func30, Tryd.ntmps30
  go_wp2
  go_loop [3, 4, 5] (fun o r i => ∃ j : Nat, j ≤ 7 * n + 7 ∧ i = .int .i64 j ∧ r = .int .i64 (reg j) ∧ o = .int .u64 (outc n j)) (fun _ _ i => 7 * n + 7 - (intOf i).toNat)
  case atStart => exact ⟨0, Nat.zero_le _, rfl, rfl, rfl⟩
  case round =>
    obtain ⟨j, hj, rfl, rfl, rfl⟩ := hrel
    by_cases hlt : j < 7 * n + 7
    · obtain ⟨hr0, hr1⟩ := reg_bound j (by omega)
      have hs : Hid (reg (j + 1) = if 255 < reg j + reg j then bits .xor .i64 (reg j + reg j) 369 else reg j + reg j) := rfl
      have ho : Hid (outc n (j + 1) = if 7 * n ≤ j ∧ reg j % 2 = 1 then IntKind.u64.wrap (outc n j + IntKind.u64.wrap (2 ^ min (IntKind.u64.wrap (wrap64 (2 ^ (j - 7 * n) - 1))).toNat 64)) else outc n j) := rfl
      generalize reg j = q at *
      generalize outc n j = o at *
      have hn' : 7 * (n : Int) < 200 := by omega
      by_cases h7 : 7 * n ≤ j
      · by_cases h2 : q % 2 = 1
        all_goals
          by_cases h3 : 255 < q + q
          all_goals
            go_wp2_with (go_at_call 31; rw [show ((j : Int) - 7 * (n : Int)) = ((j - 7 * n : Nat) : Int) by omega]; refine (power_any (j - 7 * n) _ (by omega)).mono ?_; rintro e w' ⟨rfl, rfl⟩)
            go_round
            case rel => exact ⟨j + 1, by omega, by go_num, by rw [hs.out]; first | rw [if_pos (by omega)] | rw [if_neg (by omega)], by rw [ho.out]; simp [h7, h2]⟩
            case measure => simp [intOf]; omega
      · have hd : decide (7 * (n : Int) ≤ (j : Int)) = false := by simp; omega
        by_cases h3 : 255 < q + q
        all_goals
          go_wp2
          go_round
          case rel => exact ⟨j + 1, by omega, by go_num, by rw [hs.out]; first | rw [if_pos (by omega)] | rw [if_neg (by omega)], by rw [ho.out]; simp [h7]⟩
          case measure => simp [intOf]; omega
    · have e : j = 7 * n + 7 := by omega
      have hn' : 7 * (n : Int) < 200 := by omega
      have hc : Hid (outc n (7 * n + 7) = U (rc n)) := outc_rc n hn
      subst e
      generalize outc n (7 * n + 7) = o at *
      generalize reg (7 * n + 7) = q at *
      go_wp2
      go_ret
      exact ⟨ret_int hc.out, rfl⟩
end Go.Proofs.YtncplpgelfjfjaaDoor
