/-
  The checker: formed.
-/
import Derived.Test.YtajoncmmdeahnaaGreatDoorKCd
import Derived.Test.YtajoncmmdeahnaaGreatDoorQh
namespace Go.Proofs.YtajoncmmdeahnaaGreatDoor
open Go.RowKit
namespace Ck
set_option maxRecDepth 100000 in
set_option maxHeartbeats 1000000 in
theorem form1 (t : Int) (s : ByteArray) (n : Int) (p : Option Addr) (l c : Nat) (w : World) : Calls Tryz.prog 27 #[.agg #[.int .i64 1, .int .i64 t, .string s, .int .i64 n, .slice p l c]] w (BP (bareB t s n) w) := by
  have C49 : Hid (∀ W, Calls Tryz.prog 49 #[.agg #[.int .i64 1, .int .i64 t, .string s, .int .i64 n, .slice p l c]] W (BP (bareB t s n) W)) := fun W => isBare_any 1 t s n p l c W
  generalize bareB t s n = a at *
  cases a
  all_goals
    go_enter Tryz.func27, Tryz.ntmps27
    go_wp2_with (first
      | (go_at_call 49; refine (C49.out _).mono ?_; rintro e w1 ⟨rfl, g⟩; have G1 := hid (grown_none (grown_alloc (grown_refl w none) _) g); clear g))
    go_ret
    first
      | exact ⟨rfl, G1.out⟩
      | exact ⟨rfl, grown_alloc (grown_refl w none) _⟩
set_option maxRecDepth 100000 in
set_option maxHeartbeats 1000000 in
theorem form2 (t : Int) (s : ByteArray) (n : Int) (p : Option Addr) (l c : Nat) (w : World) (hs : (s.size : Int) ≤ 9223372036854775807) : Calls Tryz.prog 27 #[.agg #[.int .i64 2, .int .i64 t, .string s, .int .i64 n, .slice p l c]] w (BP (typedB t s n && l == 1) w) := by
  have C50 : Hid (∀ W, Calls Tryz.prog 50 #[.agg #[.int .i64 2, .int .i64 t, .string s, .int .i64 n, .slice p l c]] W (BP (typedB t s n) W)) := fun W => isTyped_any 2 t s n p l c W hs
  generalize typedB t s n = a at *
  clear hs
  cases a <;> cases h4 : (l == 1)
  all_goals
    have i1 := natI1 l
    rw [h4] at i1
    clear h4
    go_enter Tryz.func27, Tryz.ntmps27
    go_wp2_with (first
      | (go_at_call 50; refine (C50.out _).mono ?_; rintro e w1 ⟨rfl, g⟩; have G1 := hid (grown_none (grown_alloc (grown_refl w none) _) g); clear g))
    go_ret
    first
      | exact ⟨rfl, G1.out⟩
      | exact ⟨rfl, grown_alloc (grown_refl w none) _⟩
set_option maxRecDepth 100000 in
set_option maxHeartbeats 1000000 in
theorem form3 (t : Int) (s : ByteArray) (n : Int) (p : Option Addr) (l c : Nat) (w : World) (hs : (s.size : Int) ≤ 9223372036854775807) : Calls Tryz.prog 27 #[.agg #[.int .i64 3, .int .i64 t, .string s, .int .i64 n, .slice p l c]] w (BP (typedB t s n && decide (1 ≤ l) && decide (l ≤ 7)) w) := by
  have C50 : Hid (∀ W, Calls Tryz.prog 50 #[.agg #[.int .i64 3, .int .i64 t, .string s, .int .i64 n, .slice p l c]] W (BP (typedB t s n) W)) := fun W => isTyped_any 3 t s n p l c W hs
  generalize typedB t s n = a at *
  clear hs
  cases a <;> cases h5 : decide (1 ≤ l) <;> cases h4 : decide (l ≤ 7)
  all_goals
    have i7 := natLe7 l
    rw [h4] at i7
    clear h4
    have i9 := natGe1 l
    rw [h5] at i9
    clear h5
    go_enter Tryz.func27, Tryz.ntmps27
    go_wp2_with (first
      | (go_at_call 50; refine (C50.out _).mono ?_; rintro e w1 ⟨rfl, g⟩; have G1 := hid (grown_none (grown_alloc (grown_refl w none) _) g); clear g))
    go_ret
    first
      | exact ⟨rfl, G1.out⟩
      | exact ⟨rfl, grown_alloc (grown_refl w none) _⟩
set_option maxRecDepth 100000 in
set_option maxHeartbeats 1000000 in
theorem form5 (t : Int) (s : ByteArray) (n : Int) (p : Option Addr) (l c : Nat) (w : World) (hs : (s.size : Int) ≤ 9223372036854775807) : Calls Tryz.prog 27 #[.agg #[.int .i64 5, .int .i64 t, .string s, .int .i64 n, .slice p l c]] w (BP (typedB t s n && l == 0) w) := by
  have C50 : Hid (∀ W, Calls Tryz.prog 50 #[.agg #[.int .i64 5, .int .i64 t, .string s, .int .i64 n, .slice p l c]] W (BP (typedB t s n) W)) := fun W => isTyped_any 5 t s n p l c W hs
  generalize typedB t s n = a at *
  clear hs
  cases a <;> cases h4 : (l == 0)
  all_goals
    have i0 := natI0 l
    rw [h4] at i0
    clear h4
    go_enter Tryz.func27, Tryz.ntmps27
    go_wp2_with (first
      | (go_at_call 50; refine (C50.out _).mono ?_; rintro e w1 ⟨rfl, g⟩; have G1 := hid (grown_none (grown_alloc (grown_refl w none) _) g); clear g))
    go_ret
    first
      | exact ⟨rfl, G1.out⟩
      | exact ⟨rfl, grown_alloc (grown_refl w none) _⟩
set_option maxRecDepth 100000 in
set_option maxHeartbeats 1000000 in
theorem form4 (t : Int) (s : ByteArray) (n : Int) (p : Option Addr) (l c : Nat) (w : World) (hs : (s.size : Int) ≤ 9223372036854775807) : Calls Tryz.prog 27 #[.agg #[.int .i64 4, .int .i64 t, .string s, .int .i64 n, .slice p l c]] w (BP (t == 0 && n == 0 && nmB s.data.toList && l == 1) w) := by
  have CN : Hid (∀ W, Calls Tryz.prog 51 #[.string s] W fun e w' => e = .returned (.bool (nmB s.data.toList)) ∧ w' = W) := fun W => isName_data s W hs
  generalize nmB s.data.toList = nb at *
  clear hs
  cases h2 : (t == 0) <;> cases h3 : (n == 0) <;> cases nb <;> cases h4 : (l == 1)
  all_goals
    have i1 := natI1 l
    rw [h4] at i1
    clear h4
    go_enter Tryz.func27, Tryz.ntmps27
    go_wp2_with (first
      | (go_at_call 51; refine (CN.out _).mono ?_; rintro e w1 ⟨rfl, hw⟩; replace hw := hw.symm; subst hw; clear CN))
    go_ret
    first
      | exact ⟨rfl, G1.out⟩
      | exact ⟨rfl, grown_alloc (grown_refl w none) _⟩
set_option maxRecDepth 100000 in
set_option maxHeartbeats 1000000 in
theorem form7 (t : Int) (s : ByteArray) (n : Int) (p : Option Addr) (l c : Nat) (w : World) (hs : (s.size : Int) ≤ 9223372036854775807) : Calls Tryz.prog 27 #[.agg #[.int .i64 7, .int .i64 t, .string s, .int .i64 n, .slice p l c]] w (BP (t == 0 && n == 0 && nmB s.data.toList && l == 1) w) := by
  have CN : Hid (∀ W, Calls Tryz.prog 51 #[.string s] W fun e w' => e = .returned (.bool (nmB s.data.toList)) ∧ w' = W) := fun W => isName_data s W hs
  generalize nmB s.data.toList = nb at *
  clear hs
  cases h2 : (t == 0) <;> cases h3 : (n == 0) <;> cases nb <;> cases h4 : (l == 1)
  all_goals
    have i1 := natI1 l
    rw [h4] at i1
    clear h4
    go_enter Tryz.func27, Tryz.ntmps27
    go_wp2_with (first
      | (go_at_call 51; refine (CN.out _).mono ?_; rintro e w1 ⟨rfl, hw⟩; replace hw := hw.symm; subst hw; clear CN))
    go_ret
    first
      | exact ⟨rfl, G1.out⟩
      | exact ⟨rfl, grown_alloc (grown_refl w none) _⟩
set_option maxRecDepth 100000 in
set_option maxHeartbeats 1000000 in
theorem form8 (t : Int) (s : ByteArray) (n : Int) (p : Option Addr) (l c : Nat) (w : World) (hs : (s.size : Int) ≤ 9223372036854775807) : Calls Tryz.prog 27 #[.agg #[.int .i64 8, .int .i64 t, .string s, .int .i64 n, .slice p l c]] w (BP (t == 0 && n == 0 && nmB s.data.toList && l == 1) w) := by
  have CN : Hid (∀ W, Calls Tryz.prog 51 #[.string s] W fun e w' => e = .returned (.bool (nmB s.data.toList)) ∧ w' = W) := fun W => isName_data s W hs
  generalize nmB s.data.toList = nb at *
  clear hs
  cases h2 : (t == 0) <;> cases h3 : (n == 0) <;> cases nb <;> cases h4 : (l == 1)
  all_goals
    have i1 := natI1 l
    rw [h4] at i1
    clear h4
    go_enter Tryz.func27, Tryz.ntmps27
    go_wp2_with (first
      | (go_at_call 51; refine (CN.out _).mono ?_; rintro e w1 ⟨rfl, hw⟩; replace hw := hw.symm; subst hw; clear CN))
    go_ret
    first
      | exact ⟨rfl, G1.out⟩
      | exact ⟨rfl, grown_alloc (grown_refl w none) _⟩
set_option maxRecDepth 100000 in
set_option maxHeartbeats 1000000 in
theorem form6 (t : Int) (s : ByteArray) (n : Int) (p : Option Addr) (l c : Nat) (w : World) : Calls Tryz.prog 27 #[.agg #[.int .i64 6, .int .i64 t, .string s, .int .i64 n, .slice p l c]] w (BP (bareB t s n && decide (l ≤ 32)) w) := by
  have C49 : Hid (∀ W, Calls Tryz.prog 49 #[.agg #[.int .i64 6, .int .i64 t, .string s, .int .i64 n, .slice p l c]] W (BP (bareB t s n) W)) := fun W => isBare_any 6 t s n p l c W
  generalize bareB t s n = a at *
  cases a <;> cases h4 : decide (l ≤ 32)
  all_goals
    have i7 := natLe32 l
    rw [h4] at i7
    clear h4
    go_enter Tryz.func27, Tryz.ntmps27
    go_wp2_with (first
      | (go_at_call 49; refine (C49.out _).mono ?_; rintro e w1 ⟨rfl, g⟩; have G1 := hid (grown_none (grown_alloc (grown_refl w none) _) g); clear g))
    go_ret
    first
      | exact ⟨rfl, G1.out⟩
      | exact ⟨rfl, grown_alloc (grown_refl w none) _⟩
set_option maxRecDepth 100000 in
set_option maxHeartbeats 1000000 in
theorem form9 (t : Int) (s : ByteArray) (n : Int) (p : Option Addr) (l c : Nat) (w : World) : Calls Tryz.prog 27 #[.agg #[.int .i64 9, .int .i64 t, .string s, .int .i64 n, .slice p l c]] w (BP (bareB t s n && (l == 2 || l == 3)) w) := by
  have C49 : Hid (∀ W, Calls Tryz.prog 49 #[.agg #[.int .i64 9, .int .i64 t, .string s, .int .i64 n, .slice p l c]] W (BP (bareB t s n) W)) := fun W => isBare_any 9 t s n p l c W
  generalize bareB t s n = a at *
  cases a <;> cases h5 : (l == 2) <;> cases h4 : (l == 3)
  all_goals first | (exfalso; rw [beq_iff_eq] at h4 h5; omega) | skip
  all_goals
    have i2 := natI2 l
    rw [h5] at i2
    clear h5
    have i3 := natI3 l
    rw [h4] at i3
    clear h4
    go_enter Tryz.func27, Tryz.ntmps27
    go_wp2_with (first
      | (go_at_call 49; refine (C49.out _).mono ?_; rintro e w1 ⟨rfl, g⟩; have G1 := hid (grown_none (grown_alloc (grown_refl w none) _) g); clear g))
    go_ret
    first
      | exact ⟨rfl, G1.out⟩
      | exact ⟨rfl, grown_alloc (grown_refl w none) _⟩
set_option maxRecDepth 100000 in
set_option maxHeartbeats 1000000 in
theorem form10 (t : Int) (s : ByteArray) (n : Int) (p : Option Addr) (l c : Nat) (w : World) : Calls Tryz.prog 27 #[.agg #[.int .i64 10, .int .i64 t, .string s, .int .i64 n, .slice p l c]] w (BP (bareB t s n && l == 2) w) := by
  have C49 : Hid (∀ W, Calls Tryz.prog 49 #[.agg #[.int .i64 10, .int .i64 t, .string s, .int .i64 n, .slice p l c]] W (BP (bareB t s n) W)) := fun W => isBare_any 10 t s n p l c W
  generalize bareB t s n = a at *
  cases a <;> cases h4 : (l == 2)
  all_goals
    have i2 := natI2 l
    rw [h4] at i2
    clear h4
    go_enter Tryz.func27, Tryz.ntmps27
    go_wp2_with (first
      | (go_at_call 49; refine (C49.out _).mono ?_; rintro e w1 ⟨rfl, g⟩; have G1 := hid (grown_none (grown_alloc (grown_refl w none) _) g); clear g))
    go_ret
    first
      | exact ⟨rfl, G1.out⟩
      | exact ⟨rfl, grown_alloc (grown_refl w none) _⟩
set_option maxRecDepth 100000 in
set_option maxHeartbeats 1000000 in
theorem form11 (t : Int) (s : ByteArray) (n : Int) (p : Option Addr) (l c : Nat) (w : World) : Calls Tryz.prog 27 #[.agg #[.int .i64 11, .int .i64 t, .string s, .int .i64 n, .slice p l c]] w (BP (bareB t s n && l == 1) w) := by
  have C49 : Hid (∀ W, Calls Tryz.prog 49 #[.agg #[.int .i64 11, .int .i64 t, .string s, .int .i64 n, .slice p l c]] W (BP (bareB t s n) W)) := fun W => isBare_any 11 t s n p l c W
  generalize bareB t s n = a at *
  cases a <;> cases h4 : (l == 1)
  all_goals
    have i1 := natI1 l
    rw [h4] at i1
    clear h4
    go_enter Tryz.func27, Tryz.ntmps27
    go_wp2_with (first
      | (go_at_call 49; refine (C49.out _).mono ?_; rintro e w1 ⟨rfl, g⟩; have G1 := hid (grown_none (grown_alloc (grown_refl w none) _) g); clear g))
    go_ret
    first
      | exact ⟨rfl, G1.out⟩
      | exact ⟨rfl, grown_alloc (grown_refl w none) _⟩
set_option maxRecDepth 100000 in
set_option maxHeartbeats 1000000 in
theorem form12 (t : Int) (s : ByteArray) (n : Int) (p : Option Addr) (l c : Nat) (w : World) : Calls Tryz.prog 27 #[.agg #[.int .i64 12, .int .i64 t, .string s, .int .i64 n, .slice p l c]] w (BP (bareB t s n && l == 1) w) := by
  have C49 : Hid (∀ W, Calls Tryz.prog 49 #[.agg #[.int .i64 12, .int .i64 t, .string s, .int .i64 n, .slice p l c]] W (BP (bareB t s n) W)) := fun W => isBare_any 12 t s n p l c W
  generalize bareB t s n = a at *
  cases a <;> cases h4 : (l == 1)
  all_goals
    have i1 := natI1 l
    rw [h4] at i1
    clear h4
    go_enter Tryz.func27, Tryz.ntmps27
    go_wp2_with (first
      | (go_at_call 49; refine (C49.out _).mono ?_; rintro e w1 ⟨rfl, g⟩; have G1 := hid (grown_none (grown_alloc (grown_refl w none) _) g); clear g))
    go_ret
    first
      | exact ⟨rfl, G1.out⟩
      | exact ⟨rfl, grown_alloc (grown_refl w none) _⟩
set_option maxRecDepth 100000 in
set_option maxHeartbeats 1000000 in
theorem form13 (t : Int) (s : ByteArray) (n : Int) (p : Option Addr) (l c : Nat) (w : World) : Calls Tryz.prog 27 #[.agg #[.int .i64 13, .int .i64 t, .string s, .int .i64 n, .slice p l c]] w (BP (bareB t s n && l == 1) w) := by
  have C49 : Hid (∀ W, Calls Tryz.prog 49 #[.agg #[.int .i64 13, .int .i64 t, .string s, .int .i64 n, .slice p l c]] W (BP (bareB t s n) W)) := fun W => isBare_any 13 t s n p l c W
  generalize bareB t s n = a at *
  cases a <;> cases h4 : (l == 1)
  all_goals
    have i1 := natI1 l
    rw [h4] at i1
    clear h4
    go_enter Tryz.func27, Tryz.ntmps27
    go_wp2_with (first
      | (go_at_call 49; refine (C49.out _).mono ?_; rintro e w1 ⟨rfl, g⟩; have G1 := hid (grown_none (grown_alloc (grown_refl w none) _) g); clear g))
    go_ret
    first
      | exact ⟨rfl, G1.out⟩
      | exact ⟨rfl, grown_alloc (grown_refl w none) _⟩
set_option maxRecDepth 100000 in
set_option maxHeartbeats 1000000 in
theorem form14 (t : Int) (s : ByteArray) (n : Int) (p : Option Addr) (l c : Nat) (w : World) : Calls Tryz.prog 27 #[.agg #[.int .i64 14, .int .i64 t, .string s, .int .i64 n, .slice p l c]] w (BP (bareB t s n && l == 0) w) := by
  have C49 : Hid (∀ W, Calls Tryz.prog 49 #[.agg #[.int .i64 14, .int .i64 t, .string s, .int .i64 n, .slice p l c]] W (BP (bareB t s n) W)) := fun W => isBare_any 14 t s n p l c W
  generalize bareB t s n = a at *
  cases a <;> cases h4 : (l == 0)
  all_goals
    have i0 := natI0 l
    rw [h4] at i0
    clear h4
    go_enter Tryz.func27, Tryz.ntmps27
    go_wp2_with (first
      | (go_at_call 49; refine (C49.out _).mono ?_; rintro e w1 ⟨rfl, g⟩; have G1 := hid (grown_none (grown_alloc (grown_refl w none) _) g); clear g))
    go_ret
    first
      | exact ⟨rfl, G1.out⟩
      | exact ⟨rfl, grown_alloc (grown_refl w none) _⟩
set_option maxRecDepth 100000 in
set_option maxHeartbeats 1000000 in
theorem formO (k t : Int) (n1 : k ≠ 1) (n2 : k ≠ 2) (n3 : k ≠ 3) (n5 : k ≠ 5) (n4 : k ≠ 4) (n7 : k ≠ 7) (n8 : k ≠ 8) (n6 : k ≠ 6) (n9 : k ≠ 9) (n10 : k ≠ 10) (n11 : k ≠ 11) (n12 : k ≠ 12) (n13 : k ≠ 13) (n14 : k ≠ 14) (s : ByteArray) (n : Int) (p : Option Addr) (l c : Nat) (w : World) (hs : (s.size : Int) ≤ 9223372036854775807) (hG : Pm.GlB w w.heap.size) (b : Bool) (hb : fexpB k s n l = some b) : Calls Tryz.prog 27 #[.agg #[.int .i64 k, .int .i64 t, .string s, .int .i64 n, .slice p l c]] w (BP (b) w) := by
  have C52 : Hid (∀ W, w.grownBy W none → Calls Tryz.prog 52 #[.agg #[.int .i64 k, .int .i64 t, .string s, .int .i64 n, .slice p l c]] W (BP b W)) := fun W hW => fexp_any k t s n p l c W hs ((hG.keptR hW (by simp)).up hW.size) b hb
  have k1 : (k == 1) = false := by rw [beq_eq_false_iff_ne]; exact n1
  have k2 : (k == 2) = false := by rw [beq_eq_false_iff_ne]; exact n2
  have k3 : (k == 3) = false := by rw [beq_eq_false_iff_ne]; exact n3
  have k5 : (k == 5) = false := by rw [beq_eq_false_iff_ne]; exact n5
  have k4 : (k == 4) = false := by rw [beq_eq_false_iff_ne]; exact n4
  have k7 : (k == 7) = false := by rw [beq_eq_false_iff_ne]; exact n7
  have k8 : (k == 8) = false := by rw [beq_eq_false_iff_ne]; exact n8
  have k6 : (k == 6) = false := by rw [beq_eq_false_iff_ne]; exact n6
  have k9 : (k == 9) = false := by rw [beq_eq_false_iff_ne]; exact n9
  have k10 : (k == 10) = false := by rw [beq_eq_false_iff_ne]; exact n10
  have k11 : (k == 11) = false := by rw [beq_eq_false_iff_ne]; exact n11
  have k12 : (k == 12) = false := by rw [beq_eq_false_iff_ne]; exact n12
  have k13 : (k == 13) = false := by rw [beq_eq_false_iff_ne]; exact n13
  have k14 : (k == 14) = false := by rw [beq_eq_false_iff_ne]; exact n14
  clear n1 n2 n3 n5 n4 n7 n8 n6 n9 n10 n11 n12 n13 n14 hG hb hs
  cases b
  all_goals
    go_enter Tryz.func27, Tryz.ntmps27
    go_wp2_with (first
      | (go_at_call 52; refine (C52.out _ (grown_alloc (grown_refl w none) _)).mono ?_; rintro e w1 ⟨rfl, g⟩; have G1 := hid (grown_none (grown_alloc (grown_refl w none) _) g); clear g))
    go_ret
    first
      | exact ⟨rfl, G1.out⟩
      | exact ⟨rfl, grown_alloc (grown_refl w none) _⟩
theorem form_any (k t : Int) (s : ByteArray) (n : Int) (p : Option Addr) (l c : Nat) (w : World) (hs : (s.size : Int) ≤ 9223372036854775807) (hG : Pm.GlB w w.heap.size) (b : Bool) (hb : formB k t s n l = some b) : Calls Tryz.prog 27 #[.agg #[.int .i64 k, .int .i64 t, .string s, .int .i64 n, .slice p l c]] w (BP b w) := by
  unfold formB at hb
  by_cases k1 : k = 1
  · subst k1; rw [if_pos (rfl)] at hb; injection hb with hb; subst hb; exact form1 t s n p l c w
  rw [if_neg k1] at hb
  by_cases k2 : k = 2
  · subst k2; rw [if_pos (rfl)] at hb; injection hb with hb; subst hb; exact form2 t s n p l c w hs
  rw [if_neg k2] at hb
  by_cases k3 : k = 3
  · subst k3; rw [if_pos (rfl)] at hb; injection hb with hb; subst hb; exact form3 t s n p l c w hs
  rw [if_neg k3] at hb
  by_cases k5 : k = 5
  · subst k5; rw [if_pos (rfl)] at hb; injection hb with hb; subst hb; exact form5 t s n p l c w hs
  rw [if_neg k5] at hb
  by_cases k4 : k = 4
  · subst k4; rw [if_pos (Or.inl rfl)] at hb; injection hb with hb; subst hb; exact form4 t s n p l c w hs
  by_cases k7 : k = 7
  · subst k7; rw [if_pos (Or.inr (Or.inl rfl))] at hb; injection hb with hb; subst hb; exact form7 t s n p l c w hs
  by_cases k8 : k = 8
  · subst k8; rw [if_pos (Or.inr (Or.inr rfl))] at hb; injection hb with hb; subst hb; exact form8 t s n p l c w hs
  rw [if_neg (fun h => h.elim k4 (fun h => h.elim k7 k8))] at hb
  by_cases k6 : k = 6
  · subst k6; rw [if_pos (rfl)] at hb; injection hb with hb; subst hb; exact form6 t s n p l c w
  rw [if_neg k6] at hb
  by_cases k9 : k = 9
  · subst k9; rw [if_pos (rfl)] at hb; injection hb with hb; subst hb; exact form9 t s n p l c w
  rw [if_neg k9] at hb
  by_cases k10 : k = 10
  · subst k10; rw [if_pos (rfl)] at hb; injection hb with hb; subst hb; exact form10 t s n p l c w
  rw [if_neg k10] at hb
  by_cases k11 : k = 11
  · subst k11; rw [if_pos (Or.inl rfl)] at hb; injection hb with hb; subst hb; exact form11 t s n p l c w
  by_cases k12 : k = 12
  · subst k12; rw [if_pos (Or.inr (Or.inl rfl))] at hb; injection hb with hb; subst hb; exact form12 t s n p l c w
  by_cases k13 : k = 13
  · subst k13; rw [if_pos (Or.inr (Or.inr rfl))] at hb; injection hb with hb; subst hb; exact form13 t s n p l c w
  rw [if_neg (fun h => h.elim k11 (fun h => h.elim k12 k13))] at hb
  by_cases k14 : k = 14
  · subst k14; rw [if_pos (rfl)] at hb; injection hb with hb; subst hb; exact form14 t s n p l c w
  rw [if_neg k14] at hb
  exact formO k t k1 k2 k3 k5 k4 k7 k8 k6 k9 k10 k11 k12 k13 k14 s n p l c w hs hG b hb
end Ck
end Go.Proofs.YtajoncmmdeahnaaGreatDoor
