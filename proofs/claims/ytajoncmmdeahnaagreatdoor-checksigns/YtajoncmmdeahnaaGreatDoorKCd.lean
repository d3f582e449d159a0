/-
  The checker: which nodes some text has. The checker: which nodes some text has: expressions, and all.
-/
import Derived.Test.YtajoncmmdeahnaaGreatDoorKAIv
import Derived.Test.YtajoncmmdeahnaaGreatDoorKDPs
import Derived.Test.YtajoncmmdeahnaaGreatDoorPi6
import Derived.Test.YtajoncmmdeahnaaGreatDoorKPb
import Derived.Test.YtajoncmmdeahnaaGreatDoorQf
import Derived.Deep.RegionLaw
namespace Go.Proofs.YtajoncmmdeahnaaGreatDoor
open Go.RowKit
namespace Ck
def eB (s : ByteArray) : Bool := s.data.toList.isEmpty
def bareB (t : Int) (s : ByteArray) (n : Int) : Bool := t == 0 && eB s && n == 0
def tyB (t : Int) : Bool := t == 1 || t == 2 || t == 3
def typedB (t : Int) (s : ByteArray) (n : Int) : Bool := tyB t && nmB s.data.toList && n == 0
/-- Whether digits with a point are in their one form; nothing is said of other texts. -/
def dgB (s : List UInt8) : Option Bool := if 16 < s.length then some false else match s.dropWhile Pm.dgt with
  | 46 :: B => if B.all Pm.dgt then some (Pm.ahD (s.takeWhile Pm.dgt) ++ 46 :: Pm.beD B == s) else none
  | _ => none
def btN (s : List UInt8) : Option Int := if Pm.okFl s then some (Pm.flN s).num else none
def fexpB (k : Int) (s : ByteArray) (n : Int) (l : Nat) : Option Bool :=
  if k = 20 then some (eB s && decide (0 ≤ n) && l == 0)
  else if k = 21 then (if dgB s.data.toList = some true ∧ btN s.data.toList = some n then some (l == 0) else none)
  else if k = 22 then some (eB s && (n == 0 || n == 1) && l == 0)
  else if k = 23 then some (n == 0 && nmB s.data.toList && l == 0)
  else if k = 24 then some (n == 0 && nmB s.data.toList && decide (l ≤ 6))
  else if k = 25 ∨ k = 26 then some (n == 0)
  else some (n == 0 && eB s)
def formB (k t : Int) (s : ByteArray) (n : Int) (l : Nat) : Option Bool :=
  if k = 1 then some (bareB t s n)
  else if k = 2 then some (typedB t s n && l == 1)
  else if k = 3 then some (typedB t s n && decide (1 ≤ l) && decide (l ≤ 7))
  else if k = 5 then some (typedB t s n && l == 0)
  else if k = 4 ∨ k = 7 ∨ k = 8 then some (t == 0 && n == 0 && nmB s.data.toList && l == 1)
  else if k = 6 then some (bareB t s n && decide (l ≤ 32))
  else if k = 9 then some (bareB t s n && (l == 2 || l == 3))
  else if k = 10 then some (bareB t s n && l == 2)
  else if k = 11 ∨ k = 12 ∨ k = 13 then some (bareB t s n && l == 1)
  else if k = 14 then some (bareB t s n && l == 0)
  else fexpB k s n l
def BP (b : Bool) (w : World) (e : Ending) (w' : World) : Prop := e = .returned (.bool b) ∧ w.grownBy w' none
theorem natI (l m : Nat) : ((l : Int) == (m : Int)) = (l == m) := by rw [Bool.eq_iff_iff, beq_iff_eq, beq_iff_eq]; omega
theorem natI0 (l : Nat) : ((l : Int) == 0) = (l == 0) := natI l 0
theorem natI1 (l : Nat) : ((l : Int) == 1) = (l == 1) := natI l 1
theorem natI2 (l : Nat) : ((l : Int) == 2) = (l == 2) := natI l 2
theorem natI3 (l : Nat) : ((l : Int) == 3) = (l == 3) := natI l 3
theorem natLe (l m : Nat) : decide ((l : Int) ≤ (m : Int)) = decide (l ≤ m) := by rw [decide_eq_decide]; omega
theorem eB_iff (s : ByteArray) : (s.toList = []) ↔ eB s = true := by unfold eB; rw [List.isEmpty_iff, ByteArray.toList_eq]
theorem isName_data (s : ByteArray) (w : World) (hs : (s.size : Int) ≤ 9223372036854775807) : Calls Tryz.prog 51 #[.string s] w fun e w' => e = .returned (.bool (nmB s.data.toList)) ∧ w' = w := by
  rw [← ByteArray.toList_eq]
  exact isName_any s w hs
set_option maxRecDepth 100000 in
set_option maxHeartbeats 1000000 in
theorem isBare_any (k t : Int) (s : ByteArray) (n : Int) (p : Option Addr) (l c : Nat) (w : World) : Calls Tryz.prog 49 #[.agg #[.int .i64 k, .int .i64 t, .string s, .int .i64 n, .slice p l c]] w (BP (bareB t s n) w) := by
  unfold bareB
  have e1 := eB_iff s
  cases h1 : (t == 0) <;> cases h2 : eB s <;> cases h3 : (n == 0)
  all_goals
    rw [h2] at e1
    simp only [Bool.false_eq_true, iff_false, iff_true] at e1
    clear h2
    go_enter Tryz.func49, Tryz.ntmps49
    go_wp2_with fail
    go_ret
    first
      | exact ⟨rfl, G1.out⟩
      | exact ⟨rfl, grown_alloc (grown_refl w none) _⟩
theorem typeName_any (t : Int) (w : World) : Calls Tryz.prog 84 #[.int .i64 t] w fun e w' => (∃ s : ByteArray, e = .returned (.string s) ∧ (s.toList = [] ↔ tyB t = false)) ∧ w' = w := by
  by_cases h1 : t = 1
  · subst h1
    go_enter Tryz.func84, Tryz.ntmps84
    go_wp2
    go_ret
    exact ⟨⟨_, rfl, by rw [ByteArray.toList_eq]; simp [tyB]⟩, rfl⟩
  by_cases h2 : t = 2
  · subst h2
    go_enter Tryz.func84, Tryz.ntmps84
    go_wp2
    go_ret
    exact ⟨⟨_, rfl, by rw [ByteArray.toList_eq]; simp [tyB]⟩, rfl⟩
  by_cases h3 : t = 3
  · subst h3
    go_enter Tryz.func84, Tryz.ntmps84
    go_wp2
    go_ret
    exact ⟨⟨_, rfl, by rw [ByteArray.toList_eq]; simp [tyB]⟩, rfl⟩
  have e1 : (t == 1) = false := by rw [beq_eq_false_iff_ne]; exact h1
  have e2 : (t == 2) = false := by rw [beq_eq_false_iff_ne]; exact h2
  have e3 : (t == 3) = false := by rw [beq_eq_false_iff_ne]; exact h3
  clear h1 h2 h3
  have e4 : tyB t = false := by unfold tyB; rw [e1, e2, e3]; rfl
  go_enter Tryz.func84, Tryz.ntmps84
  go_wp2
  go_ret
  exact ⟨⟨_, rfl, by rw [e4, ByteArray.toList_eq]; simp⟩, rfl⟩
set_option maxRecDepth 100000 in
set_option maxHeartbeats 1000000 in
theorem isTyped_any (k t : Int) (s : ByteArray) (n : Int) (p : Option Addr) (l c : Nat) (w : World) (hs : (s.size : Int) ≤ 9223372036854775807) : Calls Tryz.prog 50 #[.agg #[.int .i64 k, .int .i64 t, .string s, .int .i64 n, .slice p l c]] w (BP (typedB t s n) w) := by
  have CN : Hid (∀ W, Calls Tryz.prog 51 #[.string s] W fun e w' => e = .returned (.bool (nmB s.data.toList)) ∧ w' = W) := fun W => isName_data s W hs
  obtain ⟨ts, hts⟩ : ∃ ts : Bool, tyB t = ts := ⟨_, rfl⟩
  have CT : Hid (∀ W, Calls Tryz.prog 84 #[.int .i64 t] W fun e w' => (∃ s : ByteArray, e = .returned (.string s) ∧ (s.toList = [] ↔ ts = false)) ∧ w' = W) := fun W => by rw [← hts]; exact typeName_any t W
  unfold typedB
  rw [hts]
  generalize nmB s.data.toList = nb at *
  clear hts hs
  cases ts <;> cases nb <;> cases h3 : (n == 0)
  all_goals
    go_enter Tryz.func50, Tryz.ntmps50
    go_wp2_with (first
      | (go_at_call 84; refine (CT.out _).mono ?_; rintro e w1 ⟨⟨s9, rfl, h9⟩, hw⟩; replace hw := hw.symm; subst hw; simp only [Bool.true_eq_false, iff_false, iff_true] at h9; (try have h8 : s9.toList.isEmpty = false := by simpa using h9); clear CT)
      | (go_at_call 51; refine (CN.out _).mono ?_; rintro e w1 ⟨rfl, hw⟩; replace hw := hw.symm; subst hw; clear CN))
    go_ret
    first
      | exact ⟨rfl, G1.out⟩
      | exact ⟨rfl, grown_alloc (grown_refl w none) _⟩
theorem dgB_parts {s : List UInt8} {b : Bool} (h : dgB s = some b) (h16 : ¬ 16 < s.length) : s = s.takeWhile Pm.dgt ++ 46 :: (s.dropWhile Pm.dgt).drop 1 ∧ (∀ c ∈ s.takeWhile Pm.dgt, Dg.isD c) ∧ (∀ c ∈ (s.dropWhile Pm.dgt).drop 1, Dg.isD c) ∧ b = (Pm.ahD (s.takeWhile Pm.dgt) ++ 46 :: Pm.beD ((s.dropWhile Pm.dgt).drop 1) == s) := by
  have e0 := List.takeWhile_append_dropWhile (p := Pm.dgt) (l := s)
  have ha : ∀ c ∈ s.takeWhile Pm.dgt, Dg.isD c := fun c hc => Pm.dgt_iff (List.all_eq_true.1 List.all_takeWhile c hc)
  unfold dgB at h
  rw [if_neg h16] at h
  split at h
  · rename_i B hB
    by_cases hb : B.all Pm.dgt = true
    · rw [if_pos hb] at h
      injection h with h
      rw [hB] at e0 ⊢
      exact ⟨e0.symm, ha, fun c hc => Pm.dgt_iff (List.all_eq_true.1 hb c hc), h.symm⟩
    · rw [if_neg hb] at h
      cases h
  · cases h
set_option maxRecDepth 100000 in
set_option maxHeartbeats 1000000 in
theorem isDigits_any (s : ByteArray) (b : Bool) (w : World) (h : dgB s.data.toList = some b) : Calls Tryz.prog 95 #[.string s] w (BP b w) := by
  have hl : s.data.toList.length = s.size := Array.length_toList
  by_cases h16 : 16 < s.data.toList.length
  · unfold dgB at h
    rw [if_pos h16] at h
    injection h with h
    subst h
    have i16 : decide ((s.size : Int) ≤ 16) = false := by rw [decide_eq_false_iff_not]; omega
    clear h16 hl
    go_enter Tryz.func95, Tryz.ntmps95
    go_wp2_with fail
    go_ret
    exact ⟨rfl, grown_refl _ _⟩
  · obtain ⟨e, hA, hB, rfl⟩ := dgB_parts h h16
    have i16 : decide ((s.size : Int) ≤ 16) = true := by rw [decide_eq_true_eq]; omega
    generalize hAA : s.data.toList.takeWhile Pm.dgt = A at *
    generalize hBB : (s.data.toList.dropWhile Pm.dgt).drop 1 = B at *
    have hs : s = Dg.mkS (A ++ 46 :: B) := by
      apply Lw.bytes_ext
      rw [e]
      show _ = (A ++ 46 :: B).toArray.toList
      simp
    have hlen : A.length + B.length ≤ 40 := by
      have := congrArg List.length e
      rw [List.length_append, List.length_cons] at this
      omega
    have C : Hid (∀ W, Calls Tryz.prog 129 #[.string s] W fun e w' => e = .returned (.string (Dg.mkS (Pm.ahD A ++ 46 :: Pm.beD B))) ∧ W.grownBy w' none) := fun W => by
      rw [hs]
      exact Dg.digits_any A B W hA hB hlen
    have EQ : ((Dg.mkS (Pm.ahD A ++ 46 :: Pm.beD B)).toList == s.toList) = (Pm.ahD A ++ 46 :: Pm.beD B == s.data.toList) := by
      rw [ByteArray.toList_eq, ByteArray.toList_eq]
      show ((Pm.ahD A ++ 46 :: Pm.beD B).toArray.toList == _) = _
      simp
    rw [← EQ]
    clear EQ hlen hs hBB hAA e h16 h hl hA hB
    go_enter Tryz.func95, Tryz.ntmps95
    go_wp2_with (go_at_call 129; refine (C.out _).mono ?_; rintro e w1 ⟨rfl, g⟩; have G1 := hid g; clear g C)
    go_ret
    exact ⟨rfl, G1.out⟩
end Ck
end Go.Proofs.YtajoncmmdeahnaaGreatDoor
namespace Go.Proofs.YtajoncmmdeahnaaGreatDoor
open Go.RowKit
namespace Ck
theorem natLe6 (l : Nat) : decide ((l : Int) ≤ 6) = decide (l ≤ 6) := natLe l 6
theorem natLe7 (l : Nat) : decide ((l : Int) ≤ 7) = decide (l ≤ 7) := natLe l 7
theorem natLe32 (l : Nat) : decide ((l : Int) ≤ 32) = decide (l ≤ 32) := natLe l 32
theorem natGe1 (l : Nat) : decide (1 ≤ (l : Int)) = decide (1 ≤ l) := natLe 1 l
set_option maxRecDepth 100000 in
set_option maxHeartbeats 1000000 in
theorem fexp20 (t : Int) (s : ByteArray) (n : Int) (p : Option Addr) (l c : Nat) (w : World) : Calls Tryz.prog 52 #[.agg #[.int .i64 20, .int .i64 t, .string s, .int .i64 n, .slice p l c]] w (BP (eB s && decide (0 ≤ n) && l == 0) w) := by
  have e1 := eB_iff s
  cases h2 : eB s <;> cases h3 : decide (0 ≤ n) <;> cases h4 : (l == 0)
  all_goals
    have e5 : s.toList.isEmpty = eB s := by unfold eB; rw [ByteArray.toList_eq]
    rw [h2] at e1 e5
    simp only [Bool.false_eq_true, iff_false, iff_true] at e1
    clear h2
    have i0 := natI0 l
    rw [h4] at i0
    clear h4
    go_enter Tryz.func52, Tryz.ntmps52
    go_wp2_with fail
    go_ret
    first
      | exact ⟨rfl, G1.out⟩
      | exact ⟨rfl, grown_alloc (grown_refl w none) _⟩
set_option maxRecDepth 100000 in
set_option maxHeartbeats 1000000 in
theorem fexp22 (t : Int) (s : ByteArray) (n : Int) (p : Option Addr) (l c : Nat) (w : World) : Calls Tryz.prog 52 #[.agg #[.int .i64 22, .int .i64 t, .string s, .int .i64 n, .slice p l c]] w (BP (eB s && (n == 0 || n == 1) && l == 0) w) := by
  have e1 := eB_iff s
  cases h2 : eB s <;> cases h3 : (n == 0) <;> cases h5 : (n == 1) <;> cases h4 : (l == 0)
  all_goals first | (exfalso; rw [beq_iff_eq] at h3 h5; omega) | skip
  all_goals
    have e5 : s.toList.isEmpty = eB s := by unfold eB; rw [ByteArray.toList_eq]
    rw [h2] at e1 e5
    simp only [Bool.false_eq_true, iff_false, iff_true] at e1
    clear h2
    have i0 := natI0 l
    rw [h4] at i0
    clear h4
    go_enter Tryz.func52, Tryz.ntmps52
    go_wp2_with fail
    go_ret
    first
      | exact ⟨rfl, G1.out⟩
      | exact ⟨rfl, grown_alloc (grown_refl w none) _⟩
set_option maxRecDepth 100000 in
set_option maxHeartbeats 1000000 in
theorem fexp23 (t : Int) (s : ByteArray) (n : Int) (p : Option Addr) (l c : Nat) (w : World) (hs : (s.size : Int) ≤ 9223372036854775807) : Calls Tryz.prog 52 #[.agg #[.int .i64 23, .int .i64 t, .string s, .int .i64 n, .slice p l c]] w (BP (n == 0 && nmB s.data.toList && l == 0) w) := by
  have CN : Hid (∀ W, Calls Tryz.prog 51 #[.string s] W fun e w' => e = .returned (.bool (nmB s.data.toList)) ∧ w' = W) := fun W => isName_data s W hs
  generalize nmB s.data.toList = nb at *
  clear hs
  cases h3 : (n == 0) <;> cases nb <;> cases h4 : (l == 0)
  all_goals
    have i0 := natI0 l
    rw [h4] at i0
    clear h4
    go_enter Tryz.func52, Tryz.ntmps52
    go_wp2_with (first
      | (go_at_call 51; refine (CN.out _).mono ?_; rintro e w1 ⟨rfl, hw⟩; replace hw := hw.symm; subst hw; clear CN))
    go_ret
    first
      | exact ⟨rfl, G1.out⟩
      | exact ⟨rfl, grown_alloc (grown_refl w none) _⟩
set_option maxRecDepth 100000 in
set_option maxHeartbeats 1000000 in
theorem fexp24 (t : Int) (s : ByteArray) (n : Int) (p : Option Addr) (l c : Nat) (w : World) (hs : (s.size : Int) ≤ 9223372036854775807) : Calls Tryz.prog 52 #[.agg #[.int .i64 24, .int .i64 t, .string s, .int .i64 n, .slice p l c]] w (BP (n == 0 && nmB s.data.toList && decide (l ≤ 6)) w) := by
  have CN : Hid (∀ W, Calls Tryz.prog 51 #[.string s] W fun e w' => e = .returned (.bool (nmB s.data.toList)) ∧ w' = W) := fun W => isName_data s W hs
  generalize nmB s.data.toList = nb at *
  clear hs
  cases h3 : (n == 0) <;> cases nb <;> cases h4 : decide (l ≤ 6)
  all_goals
    have i0 := natLe6 l
    rw [h4] at i0
    clear h4
    go_enter Tryz.func52, Tryz.ntmps52
    go_wp2_with (first
      | (go_at_call 51; refine (CN.out _).mono ?_; rintro e w1 ⟨rfl, hw⟩; replace hw := hw.symm; subst hw; clear CN))
    go_ret
    first
      | exact ⟨rfl, G1.out⟩
      | exact ⟨rfl, grown_alloc (grown_refl w none) _⟩
set_option maxRecDepth 100000 in
set_option maxHeartbeats 1000000 in
theorem fexp25 (t : Int) (s : ByteArray) (n : Int) (p : Option Addr) (l c : Nat) (w : World) : Calls Tryz.prog 52 #[.agg #[.int .i64 25, .int .i64 t, .string s, .int .i64 n, .slice p l c]] w (BP (n == 0) w) := by
  cases h3 : (n == 0)
  all_goals
    go_enter Tryz.func52, Tryz.ntmps52
    go_wp2_with fail
    go_ret
    first
      | exact ⟨rfl, G1.out⟩
      | exact ⟨rfl, grown_alloc (grown_refl w none) _⟩
set_option maxRecDepth 100000 in
set_option maxHeartbeats 1000000 in
theorem fexp26 (t : Int) (s : ByteArray) (n : Int) (p : Option Addr) (l c : Nat) (w : World) : Calls Tryz.prog 52 #[.agg #[.int .i64 26, .int .i64 t, .string s, .int .i64 n, .slice p l c]] w (BP (n == 0) w) := by
  cases h3 : (n == 0)
  all_goals
    go_enter Tryz.func52, Tryz.ntmps52
    go_wp2_with fail
    go_ret
    first
      | exact ⟨rfl, G1.out⟩
      | exact ⟨rfl, grown_alloc (grown_refl w none) _⟩
set_option maxRecDepth 100000 in
set_option maxHeartbeats 1000000 in
theorem fexpO (k t : Int) (n20 : k ≠ 20) (n21 : k ≠ 21) (n22 : k ≠ 22) (n23 : k ≠ 23) (n24 : k ≠ 24) (n25 : k ≠ 25) (n26 : k ≠ 26) (s : ByteArray) (n : Int) (p : Option Addr) (l c : Nat) (w : World) : Calls Tryz.prog 52 #[.agg #[.int .i64 k, .int .i64 t, .string s, .int .i64 n, .slice p l c]] w (BP (n == 0 && eB s) w) := by
  have k20 : (k == 20) = false := by rw [beq_eq_false_iff_ne]; exact n20
  have k21 : (k == 21) = false := by rw [beq_eq_false_iff_ne]; exact n21
  have k22 : (k == 22) = false := by rw [beq_eq_false_iff_ne]; exact n22
  have k23 : (k == 23) = false := by rw [beq_eq_false_iff_ne]; exact n23
  have k24 : (k == 24) = false := by rw [beq_eq_false_iff_ne]; exact n24
  have k25 : (k == 25) = false := by rw [beq_eq_false_iff_ne]; exact n25
  have k26 : (k == 26) = false := by rw [beq_eq_false_iff_ne]; exact n26
  clear n20 n21 n22 n23 n24 n25 n26
  have e1 := eB_iff s
  cases h3 : (n == 0) <;> cases h2 : eB s
  all_goals
    have e5 : s.toList.isEmpty = eB s := by unfold eB; rw [ByteArray.toList_eq]
    rw [h2] at e1 e5
    simp only [Bool.false_eq_true, iff_false, iff_true] at e1
    clear h2
    go_enter Tryz.func52, Tryz.ntmps52
    go_wp2_with fail
    go_ret
    first
      | exact ⟨rfl, G1.out⟩
      | exact ⟨rfl, grown_alloc (grown_refl w none) _⟩
set_option maxRecDepth 100000 in
set_option maxHeartbeats 4000000 in
theorem fexp21 (t : Int) (s : ByteArray) (n : Int) (p : Option Addr) (l c : Nat) (w : World) (hG : Pm.GlB w w.heap.size) (b : Bool) (hb : fexpB 21 s n l = some b) : Calls Tryz.prog 52 #[.agg #[.int .i64 21, .int .i64 t, .string s, .int .i64 n, .slice p l c]] w (BP b w) := by
  unfold fexpB at hb
  rw [if_neg (by decide), if_pos rfl] at hb
  by_cases hd : dgB s.data.toList = some true ∧ btN s.data.toList = some n
  · rw [if_pos hd] at hb
    injection hb with hb
    subst hb
    obtain ⟨hd, hB⟩ := hd
    have C95 : Hid (∀ W, Calls Tryz.prog 95 #[.string s] W (BP true W)) := fun W => isDigits_any s true W hd
    have C96 : Hid (∀ W, w.grownBy W none → Calls Tryz.prog 96 #[.string s] W fun e w' => e = .returned (.int .i64 n) ∧ W.grownBy w' none) := fun W hW => by
      unfold btN at hB
      by_cases ho : Pm.okFl s.data.toList = true
      · rw [if_pos ho] at hB
        injection hB with hB
        subst hB
        obtain ⟨q1, q2, q3, q4, q5⟩ := Pm.okFl_parts ho
        have hs : s = Dg.mkS (s.data.toList.takeWhile Pm.dgt ++ 46 :: (s.data.toList.dropWhile Pm.dgt).drop 1) := by
          rw [← q1]
          apply Lw.bytes_ext
          show _ = s.data.toList.toArray.toList
          simp
        have hG2 := hG.keptR hW (by simp)
        obtain ⟨g, o, n9, c9, h1, h2, h3, h4⟩ := hG2.pow
        have h := Dg.bits_any _ _ W ⟨hG2.opt, hG2.man, ⟨g, o, n9, c9, h1, h2, h4⟩⟩ q2 q3 q4 q5
        rw [← hs] at h
        exact h
      · rw [if_neg ho] at hB
        cases hB
    have i0 := natI0 l
    clear hd hB hG
    generalize (l == 0) = lb at *
    go_enter Tryz.func52, Tryz.ntmps52
    go_wp2_with fail
    have GD := hid (grown_drew (grown_alloc (grown_refl w none) (.cells #[.int .i64 21, .int .i64 t, .string s, .int .i64 n, .slice p l c] 27)))
    have YD := hid (Blk.new w 27 #[.int .i64 21, .int .i64 t, .string s, .int .i64 n, .slice p l c]).drew
    go_region_law (first
      | (go_simp; go_at_call 95; refine (C95.out _).mono ?_; rintro e w1 ⟨rfl, g⟩; have G1 := hid (grown_none GD.out g); have Y1 := YD.out.kept g (by simp); have y2 := Y1.cell 2; have y3 := Y1.cell 3; simp at y2 y3; have YH := hid Y1; clear g Y1)
      | (go_simp; go_at_call 96; refine (C96.out _ G1.out).mono ?_; rintro e w2 ⟨rfl, g⟩; have G2 := hid (grown_none G1.out g); have Y2 := YH.out.kept g (by simp); have z2 := Y2.cell 2; have z3 := Y2.cell 3; simp at z2 z3; clear g Y2))
    all_goals
      go_wp2
      go_simp
      refine bodyPost_ret (v := .bool lb) ?_ ?_ ⟨rfl, G2.out⟩
      · simp [results, Tryz.results52, go_sem]
      · simp [go_sem]
  · rw [if_neg hd] at hb
    cases hb
theorem fexp_any (k t : Int) (s : ByteArray) (n : Int) (p : Option Addr) (l c : Nat) (w : World) (hs : (s.size : Int) ≤ 9223372036854775807) (hG : Pm.GlB w w.heap.size) (b : Bool) (hb : fexpB k s n l = some b) : Calls Tryz.prog 52 #[.agg #[.int .i64 k, .int .i64 t, .string s, .int .i64 n, .slice p l c]] w (BP b w) := by
  by_cases k1 : k = 21
  · subst k1; exact fexp21 t s n p l c w hG b hb
  unfold fexpB at hb
  by_cases k0 : k = 20
  · subst k0; rw [if_pos rfl] at hb; injection hb with hb; subst hb; exact fexp20 t s n p l c w
  rw [if_neg k0, if_neg k1] at hb
  by_cases k2 : k = 22
  · subst k2; rw [if_pos rfl] at hb; injection hb with hb; subst hb; exact fexp22 t s n p l c w
  rw [if_neg k2] at hb
  by_cases k3 : k = 23
  · subst k3; rw [if_pos rfl] at hb; injection hb with hb; subst hb; exact fexp23 t s n p l c w hs
  rw [if_neg k3] at hb
  by_cases k4 : k = 24
  · subst k4; rw [if_pos rfl] at hb; injection hb with hb; subst hb; exact fexp24 t s n p l c w hs
  rw [if_neg k4] at hb
  by_cases k5 : k = 25
  · subst k5; rw [if_pos (Or.inl rfl)] at hb; injection hb with hb; subst hb; exact fexp25 t s n p l c w
  by_cases k6 : k = 26
  · subst k6; rw [if_pos (Or.inr rfl)] at hb; injection hb with hb; subst hb; exact fexp26 t s n p l c w
  rw [if_neg (fun h => h.elim k5 k6)] at hb
  injection hb with hb
  subst hb
  exact fexpO k t k0 k1 k2 k3 k4 k5 k6 s n p l c w
end Ck
end Go.Proofs.YtajoncmmdeahnaaGreatDoor
