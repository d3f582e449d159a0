/-
  The document's own signs.
-/
import Derived.Test.YthpeckoleiecbaaRn
import Derived.Shelf.RegionOpen
import Derived.Deep.QuietTactic
import Derived.BigQuiet
namespace Go.Proofs.Ythpeckoleiecbaa
open Go.RowKit
def oneB : ByteArray := ⟨#[40, 41, 123, 125, 44, 59, 61, 43, 45, 42, 47, 37, 60, 62, 33]⟩
theorem oneB_list : oneB.toList = oneL := by unfold oneB oneL; rw [ByteArray.toList_eq]
theorem oneB_size : oneB.size = 15 := rfl
theorem one_yes (c : UInt8) (i : Nat) (h : i < oneB.size) (e : (oneB[i] == c) = true) : oneL.contains c = true := by
  rw [List.contains_iff_mem, ← oneB_list, ByteArray.toList_eq, ← beq_iff_eq.1 e]
  exact List.getElem_mem (l := oneB.data.toList) (by simpa using h)
theorem one_no (c : UInt8) (h : ∀ i, (hi : i < oneB.size) → (oneB[i] == c) = false) : oneL.contains c = false := by
  rw [← Bool.not_eq_true, List.contains_iff_mem, ← oneB_list, ByteArray.toList_eq]
  intro hm
  obtain ⟨i, hi, e⟩ := List.getElem_of_mem hm
  have := h i (by simpa using hi)
  rw [beq_eq_false_iff_ne] at this
  exact this e
set_option maxRecDepth 100000 in
set_option maxHeartbeats 4000000 in
theorem refSign_any (s : ByteArray) (k : Nat) (w : World) (hk : k < s.size) (hs : (s.size : Int) ≤ 4096) : Calls Try.prog 21 #[.string s, .int .i64 k] w fun e w' => e = .returned (.int .i64 (signN (s.toList.drop k))) ∧ w.grownBy w' none := by
  have ed := drop_at s k hk
  obtain ⟨R, hR⟩ : ∃ R, signN (s.toList.drop k) = R := ⟨_, rfl⟩
  have HR : Hid ((if twoL.contains ((s.toList.drop k).take 2) then 2 else if oneL.contains s[k] then 1 else 0) = R) := by
    rw [← hR, ed]
    exact (signN_cons _ _).symm
  rw [hR]
  have k0 : (0 : Int) ≤ k := by omega
  have k1 : (k : Int) < s.size := by omega
  clear hR ed
  by_cases hT : (s.toList.drop k).take 2 ∈ twoL
  · have e : R = 2 := by rw [← HR.out, if_pos (List.contains_iff_mem.2 hT)]
    subst e
    clear HR
    have h2 : k + 2 ≤ s.size := by
      have hl : ((s.toList.drop k).take 2).length = 2 := by
        unfold twoL at hT
        simp only [List.mem_cons, List.not_mem_nil, or_false] at hT
        rcases hT with h | h | h | h | h | h | h <;> rw [h] <;> rfl
      rw [List.length_take, List.length_drop, size_toList] at hl
      omega
    rw [← extract_take s k 2] at hT
    have i1 : (k : Int) + 1 < s.size := by omega
    have i2 : (k : Int) + 2 ≤ s.size := by omega
    have i3 : ((k : Int) + 2).toNat = k + 2 := by omega
    have i4 : (k : Int) ≤ (k : Int) + 2 := by omega
    unfold twoL at hT
    simp only [List.mem_cons, List.not_mem_nil, or_false] at hT
    clear h2
    rcases hT with h | h | h | h | h | h | h
    all_goals (
      go_enter Try.func21, Try.ntmps21
      go_wp2
      go_ret
      exact ⟨rfl, grown_refl _ _⟩)
  · have nT : twoL.contains ((s.toList.drop k).take 2) = false := by rw [← Bool.not_eq_true, List.contains_iff_mem]; exact hT
    have HR2 : Hid ((if oneL.contains s[k] then 1 else 0) = R) := by have := HR.out; rw [nT] at this; exact this
    clear HR nT
    rw [← extract_take s k 2] at hT
    unfold twoL at hT
    simp only [List.mem_cons, List.not_mem_nil, or_false, not_or] at hT
    obtain ⟨a0, a1, a2, a3, a4, a5, a6⟩ := hT
    have f : ∀ l : List UInt8, ¬ (s.extract k (k + 2)).toList = l → ((s.extract k (k + 2)).toList == l) = false := fun l h => by rw [beq_eq_false_iff_ne]; exact h
    replace a0 := f _ a0
    replace a1 := f _ a1
    replace a2 := f _ a2
    replace a3 := f _ a3
    replace a4 := f _ a4
    replace a5 := f _ a5
    replace a6 := f _ a6
    clear f
    by_cases h2 : k + 2 ≤ s.size
    · have i1 : (k : Int) + 1 < s.size := by omega
      have i2 : (k : Int) + 2 ≤ s.size := by omega
      have i3 : ((k : Int) + 2).toNat = k + 2 := by omega
      have i4 : (k : Int) ≤ (k : Int) + 2 := by omega
      clear h2
      go_enter Try.func21, Try.ntmps21
      go_wp2
      go_loopw [7] (fun i wr => ∃ j : Nat, j ≤ 15 ∧ i = .int .i64 j ∧ w.grownBy wr none ∧ Hid (∀ i, (hi : i < oneB.size) → i < j → (oneB[i] == s[k]) = false)) (fun i _ => 15 - (intOf i).toNat)
      case atStart => exact ⟨0, Nat.zero_le _, rfl, grown_refl _ _, fun j _ h => absurd h (Nat.not_lt_zero _)⟩
      case round =>
        obtain ⟨j, hj, rfl, hg, HJ⟩ := hrel
        have GG := hid hg
        clear hg
        have j0 : (0 : Int) ≤ j := by omega
        by_cases hlt : j < 15
        · have j1 : (j : Int) < 15 := by omega
          have hlo : j < oneB.size := hlt
          cases hc : (oneB[j] == s[k]) with
          | true =>
            have e : R = 1 := by
              rw [← HR2.out, one_yes s[k] j hlo hc]
              rfl
            subst e
            rw [byte_eq] at hc
            unfold oneB at hc
            clear HJ HR2
            go_wp2_with fail
            go_quiet (fail)
            go_wp2
            go_ret
            exact ⟨rfl, grown_drewN GG.out _⟩
          | false =>
            have NX : Hid (∀ i, (hi : i < oneB.size) → i < j + 1 → (oneB[i] == s[k]) = false) := fun i hi h => by
              by_cases e : i = j
              · subst e; exact hc
              · exact HJ.out i hi (by omega)
            rw [byte_eq] at hc
            unfold oneB at hc
            clear HJ
            go_wp2_with fail
            go_quiet (fail)
            go_wp2
            go_round
            case rel => exact ⟨j + 1, by omega, by go_num, grown_drewN GG.out _, NX⟩
            case measure => simp [intOf]; omega
        · have j1 : ¬ (j : Int) < 15 := by omega
          have e : R = 0 := by
            rw [← HR2.out, one_no s[k] (fun i hi => HJ.out i hi (by rw [oneB_size] at hi; omega))]
            rfl
          subst e
          clear HJ HR2
          go_wp2
          go_ret
          exact ⟨rfl, GG.out⟩
    · have i1 : ¬ (k : Int) + 1 < s.size := by omega
      clear h2 a0 a1 a2 a3 a4 a5 a6
      go_enter Try.func21, Try.ntmps21
      go_wp2
      go_loopw [7] (fun i wr => ∃ j : Nat, j ≤ 15 ∧ i = .int .i64 j ∧ w.grownBy wr none ∧ Hid (∀ i, (hi : i < oneB.size) → i < j → (oneB[i] == s[k]) = false)) (fun i _ => 15 - (intOf i).toNat)
      case atStart => exact ⟨0, Nat.zero_le _, rfl, grown_refl _ _, fun j _ h => absurd h (Nat.not_lt_zero _)⟩
      case round =>
        obtain ⟨j, hj, rfl, hg, HJ⟩ := hrel
        have GG := hid hg
        clear hg
        have j0 : (0 : Int) ≤ j := by omega
        by_cases hlt : j < 15
        · have j1 : (j : Int) < 15 := by omega
          have hlo : j < oneB.size := hlt
          cases hc : (oneB[j] == s[k]) with
          | true =>
            have e : R = 1 := by
              rw [← HR2.out, one_yes s[k] j hlo hc]
              rfl
            subst e
            rw [byte_eq] at hc
            unfold oneB at hc
            clear HJ HR2
            go_wp2_with fail
            go_quiet (fail)
            go_wp2
            go_ret
            exact ⟨rfl, grown_drewN GG.out _⟩
          | false =>
            have NX : Hid (∀ i, (hi : i < oneB.size) → i < j + 1 → (oneB[i] == s[k]) = false) := fun i hi h => by
              by_cases e : i = j
              · subst e; exact hc
              · exact HJ.out i hi (by omega)
            rw [byte_eq] at hc
            unfold oneB at hc
            clear HJ
            go_wp2_with fail
            go_quiet (fail)
            go_wp2
            go_round
            case rel => exact ⟨j + 1, by omega, by go_num, grown_drewN GG.out _, NX⟩
            case measure => simp [intOf]; omega
        · have j1 : ¬ (j : Int) < 15 := by omega
          have e : R = 0 := by
            rw [← HR2.out, one_no s[k] (fun i hi => HJ.out i hi (by rw [oneB_size] at hi; omega))]
            rfl
          subst e
          clear HJ HR2
          go_wp2
          go_ret
          exact ⟨rfl, GG.out⟩
end Go.Proofs.Ythpeckoleiecbaa
