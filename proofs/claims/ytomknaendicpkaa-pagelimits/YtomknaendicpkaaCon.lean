/-
  slices.ContainsFunc at the two functions that page hands it; which pages may be.
-/
import Derived.Test.YtomknaendicpkaaSl
namespace Go.Proofs.Ytomknaendicpkaa
open Go.RowKit
/-- A place that is not below 0 just where b. -/
def IdxPost (e : Ending) (b : Bool) : Prop := ∃ i : Int, e = .returned (.int .i64 i) ∧ decide (0 ≤ i) = b
def longB (s : ByteArray) : Bool := decide (8192 < (s.size : Int))
def outB (n : Int) : Bool := decide (n < 0) || decide (2147483647 < n)
set_option maxRecDepth 100000 in
set_option maxHeartbeats 400000 in
theorem tooLong_any (s : ByteArray) (w : World) : Calls Try.prog 44 #[.string s] w fun e w' => e = .returned (.bool (longB s)) ∧ w' = w := by
  unfold longB
  go_enter Try.func44, Try.ntmps44
  go_wp2
  go_ret
  exact ⟨rfl, rfl⟩
set_option maxRecDepth 100000 in
set_option maxHeartbeats 400000 in
theorem noPlace_any (n : Int) (w : World) : Calls Try.prog 46 #[.int .i64 n] w fun e w' => e = .returned (.bool (outB n)) ∧ w' = w := by
  unfold outB
  by_cases h : n < 0
  · go_enter Try.func46, Try.ntmps46
    go_wp2
    go_ret
    simp [h]
  · go_enter Try.func46, Try.ntmps46
    go_wp2
    go_ret
    simp
    omega
theorem any_false {α : Type} {p : α → Bool} {l : List α} (h : ∀ j, (hj : j < l.length) → p l[j] = false) : l.any p = false := by
  rw [List.any_eq_false]
  intro x hx
  obtain ⟨j, hj, rfl⟩ := List.getElem_of_mem hx
  simp [h j hj]
theorem any_true {α : Type} {p : α → Bool} {l : List α} {k : Nat} (hk : k < l.length) (h : p l[k] = true) : l.any p = true := by
  rw [List.any_eq_true]
  exact ⟨l[k], List.getElem_mem hk, h⟩
set_option maxRecDepth 100000 in
set_option maxHeartbeats 1000000 in
theorem idxS_any (a : Value) (l : List ByteArray) (w : World) (ha : RowV Value.string w a l) (hl : l.length ≤ 9223372036854775807) :
    Calls Try.prog 56 #[a, .func (.func 44) #[] #[]] w fun e w' => IdxPost e (l.any longB) ∧ w.grownBy w' none := by
  obtain ⟨pa, ca, ga, oa, rfl, hpa, hca⟩ := ha
  have HA : Hid (∀ i, (h : i < l.length) → w.cell? ⟨ga, oa + i, none⟩ = some (Value.string l[i])) := hca
  have PA : Hid (0 < l.length → pa = some ⟨ga, oa, none⟩) := hpa
  clear hca hpa
  obtain ⟨x, hx⟩ : ∃ x, l.any longB = x := ⟨_, rfl⟩
  have EX : Hid (l.any longB = x) := hx
  rw [hx]
  clear hx
  have hll : (l.length : Int) ≤ 9223372036854775807 := by omega
  go_enter Try.func56, Try.ntmps56
  go_wp2
  go_loopw [8] (fun i wr => ∃ k : Nat, k ≤ l.length ∧ i = .int .i64 k ∧ w.grownBy wr none ∧ Hid (∀ j, (h1 : j < l.length) → j < k → longB l[j] = false)) (fun i _ => l.length - (intOf i).toNat)
  case atStart => exact ⟨0, Nat.zero_le _, rfl, grown_refl _ _, fun j _ h => absurd h (Nat.not_lt_zero _)⟩
  case round =>
    obtain ⟨k, hk, rfl, hg, HK⟩ := hrel
    have HG : Hid (w.grownBy wr none) := hg
    clear hg
    have k0 : (0 : Int) ≤ k := by omega
    by_cases hlt : k < l.length
    · have hp := PA.out (by omega)
      subst hp
      have c0 := cell_kept HG.out (HA.out k hlt)
      have k1 : (k : Int) < l.length := by omega
      clear HA
      have C : Hid (∀ W, Calls Try.prog 44 #[Value.string l[k]] W fun e w' => e = .returned (.bool (longB l[k])) ∧ w' = W) := fun W => tooLong_any l[k] W
      by_cases he : longB l[k] = true
      · have ex : x = true := by rw [← EX.out]; exact any_true hlt he
        subst ex
        rw [he] at C
        clear HK he
        generalize l[k] = s at *
        go_wp2_with (go_at_call 44; refine (C.out _).mono ?_; rintro e w1 ⟨rfl, rfl⟩)
        go_ret
        exact ⟨⟨_, rfl, decide_eq_true k0⟩, HG.out⟩
      · have he' : longB l[k] = false := by simpa using he
        have next : Hid (∀ j, (h1 : j < l.length) → j < k + 1 → longB l[j] = false) := fun j h1 hj => by
          by_cases e : j = k
          · subst e; exact he'
          · exact HK.out j h1 (by omega)
        rw [he'] at C
        clear HK he he'
        generalize l[k] = s at *
        go_wp2_with (go_at_call 44; refine (C.out _).mono ?_; rintro e w1 ⟨rfl, rfl⟩)
        go_round
        case rel => exact ⟨k + 1, by omega, by go_num, HG.out, next⟩
        case measure => simp [intOf]; omega
    · obtain rfl : k = l.length := by omega
      have ex : x = false := by rw [← EX.out]; exact any_false (fun j h1 => HK.out j h1 h1)
      subst ex
      clear HA HK
      go_wp2
      go_ret
      exact ⟨⟨_, rfl, rfl⟩, HG.out⟩
set_option maxRecDepth 100000 in
set_option maxHeartbeats 400000 in
theorem conS_any (a : Value) (l : List ByteArray) (w : World) (ha : RowV Value.string w a l) (hl : l.length ≤ 9223372036854775807) :
    Calls Try.prog 43 #[a, .func (.func 44) #[] #[]] w fun e w' => e = .returned (.bool (l.any longB)) ∧ w.grownBy w' none := by
  have C : Hid (Calls Try.prog 56 #[a, .func (.func 44) #[] #[]] w fun e w' => IdxPost e (l.any longB) ∧ w.grownBy w' none) := idxS_any a l w ha hl
  obtain ⟨pa, ca, ga, oa, rfl, hpa, hca⟩ := ha
  clear hpa hca
  generalize l.any longB = x at *
  go_enter Try.func43, Try.ntmps43
  go_wp2_with (go_at_call 56; refine C.out.mono ?_; rintro e w1 ⟨⟨i, rfl, hi⟩, hg⟩)
  go_ret
  exact ⟨rfl, hg⟩
set_option maxRecDepth 100000 in
set_option maxHeartbeats 1000000 in
theorem idxI_any (a : Value) (l : List Int) (w : World) (ha : RowV (Value.int .i64) w a l) (hl : l.length ≤ 9223372036854775807) :
    Calls Try.prog 57 #[a, .func (.func 46) #[] #[]] w fun e w' => IdxPost e (l.any outB) ∧ w.grownBy w' none := by
  obtain ⟨pa, ca, ga, oa, rfl, hpa, hca⟩ := ha
  have HA : Hid (∀ i, (h : i < l.length) → w.cell? ⟨ga, oa + i, none⟩ = some ((Value.int .i64) l[i])) := hca
  have PA : Hid (0 < l.length → pa = some ⟨ga, oa, none⟩) := hpa
  clear hca hpa
  obtain ⟨x, hx⟩ : ∃ x, l.any outB = x := ⟨_, rfl⟩
  have EX : Hid (l.any outB = x) := hx
  rw [hx]
  clear hx
  have hll : (l.length : Int) ≤ 9223372036854775807 := by omega
  go_enter Try.func57, Try.ntmps57
  go_wp2
  go_loopw [8] (fun i wr => ∃ k : Nat, k ≤ l.length ∧ i = .int .i64 k ∧ w.grownBy wr none ∧ Hid (∀ j, (h1 : j < l.length) → j < k → outB l[j] = false)) (fun i _ => l.length - (intOf i).toNat)
  case atStart => exact ⟨0, Nat.zero_le _, rfl, grown_refl _ _, fun j _ h => absurd h (Nat.not_lt_zero _)⟩
  case round =>
    obtain ⟨k, hk, rfl, hg, HK⟩ := hrel
    have HG : Hid (w.grownBy wr none) := hg
    clear hg
    have k0 : (0 : Int) ≤ k := by omega
    by_cases hlt : k < l.length
    · have hp := PA.out (by omega)
      subst hp
      have c0 := cell_kept HG.out (HA.out k hlt)
      have k1 : (k : Int) < l.length := by omega
      clear HA
      have C : Hid (∀ W, Calls Try.prog 46 #[(Value.int .i64) l[k]] W fun e w' => e = .returned (.bool (outB l[k])) ∧ w' = W) := fun W => noPlace_any l[k] W
      by_cases he : outB l[k] = true
      · have ex : x = true := by rw [← EX.out]; exact any_true hlt he
        subst ex
        rw [he] at C
        clear HK he
        generalize l[k] = s at *
        go_wp2_with (go_at_call 46; refine (C.out _).mono ?_; rintro e w1 ⟨rfl, rfl⟩)
        go_ret
        exact ⟨⟨_, rfl, decide_eq_true k0⟩, HG.out⟩
      · have he' : outB l[k] = false := by simpa using he
        have next : Hid (∀ j, (h1 : j < l.length) → j < k + 1 → outB l[j] = false) := fun j h1 hj => by
          by_cases e : j = k
          · subst e; exact he'
          · exact HK.out j h1 (by omega)
        rw [he'] at C
        clear HK he he'
        generalize l[k] = s at *
        go_wp2_with (go_at_call 46; refine (C.out _).mono ?_; rintro e w1 ⟨rfl, rfl⟩)
        go_round
        case rel => exact ⟨k + 1, by omega, by go_num, HG.out, next⟩
        case measure => simp [intOf]; omega
    · obtain rfl : k = l.length := by omega
      have ex : x = false := by rw [← EX.out]; exact any_false (fun j h1 => HK.out j h1 h1)
      subst ex
      clear HA HK
      go_wp2
      go_ret
      exact ⟨⟨_, rfl, rfl⟩, HG.out⟩
set_option maxRecDepth 100000 in
set_option maxHeartbeats 400000 in
theorem conI_any (a : Value) (l : List Int) (w : World) (ha : RowV (Value.int .i64) w a l) (hl : l.length ≤ 9223372036854775807) :
    Calls Try.prog 45 #[a, .func (.func 46) #[] #[]] w fun e w' => e = .returned (.bool (l.any outB)) ∧ w.grownBy w' none := by
  have C : Hid (Calls Try.prog 57 #[a, .func (.func 46) #[] #[]] w fun e w' => IdxPost e (l.any outB) ∧ w.grownBy w' none) := idxI_any a l w ha hl
  obtain ⟨pa, ca, ga, oa, rfl, hpa, hca⟩ := ha
  clear hpa hca
  generalize l.any outB = x at *
  go_enter Try.func45, Try.ntmps45
  go_wp2_with (go_at_call 57; refine C.out.mono ?_; rintro e w1 ⟨⟨i, rfl, hi⟩, hg⟩)
  go_ret
  exact ⟨rfl, hg⟩
end Go.Proofs.Ytomknaendicpkaa
