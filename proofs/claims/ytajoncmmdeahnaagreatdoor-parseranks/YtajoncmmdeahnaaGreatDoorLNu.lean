/-
  Numbers: the run of digits and a point, and its kind.
-/
import Derived.Test.YtajoncmmdeahnaaGreatDoorKLNm
import Derived.Lib.Strings
import Derived.Lib.Slices
import Derived.Lib.Walk
import Derived.Lib.Bytealg
namespace Go.Proofs.YtajoncmmdeahnaaGreatDoor.Lw
open Go.RowKit
def runP : Bool → List UInt8 → Nat
  | _, [] => 0
  | q, c :: r => if c == 46 && !q then runP true r + 1 else if isD c then runP q r + 1 else 0
theorem runP_true : ∀ l, runP true l = runN isD l
  | [] => rfl
  | c :: r => by
    have ih := runP_true r
    unfold runP
    rw [Bool.not_true, Bool.and_false, if_neg (by decide)]
    cases h : isD c with
    | true => rw [run_pos _ _ _ h, ih]; rfl
    | false => rw [run_neg _ _ _ h]; rfl
theorem runP_false : ∀ l, runP false l = numN l
  | [] => rfl
  | c :: r => by
    have ih := runP_false r
    unfold runP
    rw [Bool.not_false, Bool.and_true]
    by_cases hc : c = 46
    · subst hc
      rw [if_pos (by decide), runP_true]
      unfold numN
      rw [List.dropWhile_cons_of_neg (by decide), run_neg isD 46 r (by decide)]
      show runN isD r + 1 = 0 + 1 + runN isD r
      omega
    · rw [if_neg (by simpa using hc)]
      cases h : isD c with
      | true =>
        rw [ih]
        unfold numN
        rw [List.dropWhile_cons_of_pos h, run_pos isD c r h]
        rw [if_pos rfl]
        split <;> omega
      | false =>
        unfold numN
        rw [List.dropWhile_cons_of_neg (by simp [h]), run_neg isD c r h]
        rw [if_neg (by decide)]
        split
        · rename_i e
          injection e with e1 _
          exact absurd e1 hc
        · rfl
set_option maxRecDepth 100000 in
theorem point_yes (c : UInt8) (b : Nat) (w : World) (hc : c = 46) (hb : Blk w b 4 #[.bool false]) : Calls Tryz.prog 117 #[.int .u8 c.toNat, .pointer (some ⟨b, 0, none⟩)] w fun e w' => e = .returned (.bool true) ∧ w' = w.setCell ⟨b, 0, none⟩ (.bool true) := by
  subst hc
  have c0 := hb.cell 0
  simp at c0
  have f0 := hb.frozen 0
  rw [show ((46 : UInt8).toNat : Int) = 46 from rfl]
  go_enter Tryz.func117, Tryz.ntmps117
  go_wp2
  go_ret
  exact ⟨rfl, rfl⟩
set_option maxRecDepth 100000 in
theorem point_no (c : UInt8) (b : Nat) (q : Bool) (w : World) (hc : (c == 46 && !q) = false) (hb : Blk w b 4 #[.bool q]) : Calls Tryz.prog 117 #[.int .u8 c.toNat, .pointer (some ⟨b, 0, none⟩)] w fun e w' => e = .returned (.bool (isD c)) ∧ w' = w := by
  have c0 := hb.cell 0
  simp at c0
  have C : Hid (∀ W, Calls Tryz.prog 74 #[.int .u8 c.toNat] W fun e w' => e = .returned (.bool (isD c)) ∧ w' = W) := isDigit_any c
  rw [byte_eq, show ((46 : UInt8).toNat : Int) = 46 from rfl] at hc
  generalize (c.toNat : Int) = x at *
  generalize isD c = d at *
  cases q with
  | true =>
    cases h : (x == 46)
    all_goals
      go_enter Tryz.func117, Tryz.ntmps117
      go_wp2_with (go_at_call 74; refine (C.out _).mono ?_; rintro e w1 ⟨rfl, rfl⟩; clear C)
      go_ret
      exact ⟨rfl, rfl⟩
  | false =>
    rw [Bool.not_false, Bool.and_true] at hc
    go_enter Tryz.func117, Tryz.ntmps117
    go_wp2_with (go_at_call 74; refine (C.out _).mono ?_; rintro e w1 ⟨rfl, rfl⟩; clear C)
    go_ret
    exact ⟨rfl, rfl⟩
set_option maxRecDepth 100000 in
set_option maxHeartbeats 1000000 in
theorem behindP_any (s : ByteArray) (k b : Nat) (w w0 : World) (hk : k ≤ s.size) (hs : (s.size : Int) ≤ 9223372036854775807) (hb : Blk w b 4 #[.bool false]) (hw : w0.grownBy w none) (hb0 : w0.heap.size ≤ b) :
    Calls Tryz.prog 67 #[.string s, .int .i64 k, .func (.func 117) #[] #[.pointer (some ⟨b, 0, none⟩)]] w fun e w' => e = .returned (.int .i64 (k + numN (s.toList.drop k) : Nat)) ∧ w0.grownBy w' none := by
  rw [← runP_false]
  obtain ⟨R, hR⟩ : ∃ R, k + runP false (s.toList.drop k) = R := ⟨_, rfl⟩
  have HR : Hid (k + runP false (s.toList.drop k) = R) := hR
  rw [hR]
  have HB := hid hb
  have HW := hid hw
  clear hR hb hw
  go_enter Tryz.func67, Tryz.ntmps67
  go_wp2
  go_loopw [1] (fun i wr => ∃ (j : Nat) (q : Bool), j ≤ s.size ∧ i = .int .i64 j ∧ Hid (j + runP q (s.toList.drop j) = R) ∧ Blk wr b 4 #[.bool q] ∧ w0.grownBy wr none) (fun i _ => s.size - (intOf i).toNat)
  case atStart => exact ⟨k, false, hk, rfl, HR, HB.out, HW.out⟩
  case round =>
    obtain ⟨j, q, hj, rfl, HJ, hb, hw⟩ := hrel
    have j0 : (0 : Int) ≤ j := by omega
    have BB := hid hb
    have WW := hid hw
    clear hb hw HB HW HR
    by_cases hlt : j < s.size
    · have j1 : (j : Int) < s.size := by omega
      have HJ2 := HJ.out
      rw [drop_at s j hlt] at HJ2
      unfold runP at HJ2
      cases hc : (s[j] == 46 && !q) with
      | true =>
        rw [hc, if_pos rfl] at HJ2
        rw [Bool.and_eq_true, beq_iff_eq, Bool.not_eq_true'] at hc
        obtain ⟨hc, rfl⟩ := hc
        have C := hid (point_yes s[j] b wr hc BB.out)
        have NX : Hid (j + 1 + runP true (s.toList.drop (j + 1)) = R) := by show _ = _; omega
        clear HJ HJ2 hc
        go_wp2_with (go_at_call 117; refine C.out.mono ?_; rintro e w1 ⟨rfl, rfl⟩; clear C)
        go_round
        case rel => exact ⟨j + 1, true, by omega, by go_num, NX, BB.out.set 0 _, grown_set_new WW.out _ hb0⟩
        case measure => simp [intOf]; omega
      | false =>
        have C := hid (point_no s[j] b q wr hc BB.out)
        rw [hc, if_neg (by decide)] at HJ2
        clear hc HJ
        cases hd : isD s[j] with
        | true =>
          rw [hd, if_pos rfl] at HJ2
          have NX : Hid (j + 1 + runP q (s.toList.drop (j + 1)) = R) := by show _ = _; omega
          rw [hd] at C
          clear HJ2 hd
          go_wp2_with (go_at_call 117; refine C.out.mono ?_; rintro e w1 ⟨rfl, rfl⟩; clear C)
          go_round
          case rel => exact ⟨j + 1, q, by omega, by go_num, NX, BB.out, WW.out⟩
          case measure => simp [intOf]; omega
        | false =>
          rw [hd, if_neg (by decide)] at HJ2
          have e : R = j := by omega
          subst e
          rw [hd] at C
          clear HJ2 hd
          go_wp2_with (go_at_call 117; refine C.out.mono ?_; rintro e w1 ⟨rfl, rfl⟩; clear C)
          go_ret
          exact ⟨rfl, WW.out⟩
    · have j1 : ¬ (j : Int) < s.size := by omega
      have HJ2 := HJ.out
      rw [drop_end s j hlt] at HJ2
      have e : R = j := by rw [← HJ2]; cases q <;> rfl
      subst e
      clear HJ2 HJ
      go_wp2
      go_ret
      exact ⟨rfl, WW.out⟩
set_option maxRecDepth 100000 in
set_option maxHeartbeats 1000000 in
theorem behindNumber_any (s : ByteArray) (k : Nat) (w : World) (hk : k ≤ s.size) (hs : (s.size : Int) ≤ 9223372036854775807) : Calls Tryz.prog 75 #[.string s, .int .i64 k] w fun e w' => e = .returned (.int .i64 (k + numN (s.toList.drop k) : Nat)) ∧ w.grownBy w' none := by
  have C := hid (fun W b h1 h2 h3 => behindP_any s k b W w hk hs h1 h2 h3)
  generalize k + numN (s.toList.drop k) = R at *
  go_enter Tryz.func75, Tryz.ntmps75
  go_wp2_with (go_at_call 67; refine (C.out _ w.heap.size (by first | exact Blk.new w 4 _ | exact (Blk.new w 4 _).set 0 _) (by first | exact grown_alloc (grown_refl _ _) _ | exact grown_set_new (grown_alloc (grown_refl _ _) _) _ (Nat.le_refl _)) (Nat.le_refl _)).mono ?_; rintro e w1 ⟨rfl, hg⟩; have G1 := hid hg; clear hg C)
  go_ret
  exact ⟨rfl, G1.out⟩
end Go.Proofs.YtajoncmmdeahnaaGreatDoor.Lw
