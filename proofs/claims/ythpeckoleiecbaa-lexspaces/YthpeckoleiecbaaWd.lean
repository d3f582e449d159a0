/-
  Which words are kept: the program's and the document's.
-/
import Derived.Test.YthpeckoleiecbaaBa
namespace Go.Proofs.Ythpeckoleiecbaa
open Go.RowKit
set_option maxRecDepth 100000 in
set_option maxHeartbeats 1000000 in
theorem word_any (s : ByteArray) (w : World) : Calls Try.prog 12 #[.string s] w fun e w' => e = .returned (.bool (wordL s.toList)) ∧ w' = w := by
  obtain ⟨b, hb⟩ : ∃ b, wordL s.toList = b := ⟨_, rfl⟩
  rw [hb]
  have H := hid hb
  clear hb
  go_enter Try.func12, Try.ntmps12
  go_wp2
  all_goals (
    first
      | (exfalso; simp_all; done)
      | (go_ret
         refine ret_bool (Eq.trans ?_ H.out)
         simp only [wordL, keptL, List.contains_cons, Bool.true_or, Bool.or_true, Bool.false_or, List.contains_nil, *]))
def keptB : List ByteArray := [⟨#[102, 117, 110, 99]⟩, ⟨#[116, 101, 115, 116]⟩, ⟨#[118, 97, 114]⟩, ⟨#[105, 102]⟩, ⟨#[101, 108, 115, 101]⟩, ⟨#[102, 111, 114]⟩, ⟨#[114, 101, 116, 117, 114, 110]⟩, ⟨#[97, 115, 115, 101, 114, 116]⟩, ⟨#[115, 107, 105, 112]⟩, ⟨#[116, 114, 117, 101]⟩, ⟨#[102, 97, 108, 115, 101]⟩, ⟨#[105, 110, 116]⟩, ⟨#[102, 108, 111, 97, 116]⟩, ⟨#[98, 111, 111, 108]⟩]
theorem keptB_len : keptB.length = 14 := rfl
theorem keptB_lists : keptB.map ByteArray.toList = keptL := by
  simp only [keptB, keptL, List.map_cons, List.map_nil, ByteArray.toList_eq]
set_option maxRecDepth 100000 in
theorem kept_any (w : World) : Calls Try.prog 24 #[] w fun e w' => e = .returned (.slice (some ⟨w.heap.size, 0, none⟩) 14 14) ∧ w' = w.alloc (.cells (keptB.map Value.string).toArray 9) := by
  go_enter Try.func24, Try.ntmps24
  go_wp2
  go_ret
  exact ⟨rfl, rfl⟩
theorem wordL_no (l : List UInt8) (h : ∀ j, (hj : j < keptB.length) → (keptB[j].toList == l) = false) : wordL l = false := by
  unfold wordL
  rw [← keptB_lists, ← Bool.not_eq_true, List.contains_iff_mem, List.mem_map]
  rintro ⟨b, hb, rfl⟩
  obtain ⟨j, hj, rfl⟩ := List.getElem_of_mem hb
  have := h j hj
  simp at this
theorem wordL_yes (l : List UInt8) (j : Nat) (hj : j < keptB.length) (h : (keptB[j].toList == l) = true) : wordL l = true := by
  unfold wordL
  rw [← keptB_lists, List.contains_iff_mem, List.mem_map]
  exact ⟨keptB[j], List.getElem_mem hj, beq_iff_eq.1 h⟩
set_option maxRecDepth 100000 in
set_option maxHeartbeats 1000000 in
theorem refWord_any (s : ByteArray) (w : World) : Calls Try.prog 13 #[.string s] w fun e w' => e = .returned (.bool (wordL s.toList)) ∧ w.grownBy w' none := by
  obtain ⟨b, hb⟩ : ∃ b, wordL s.toList = b := ⟨_, rfl⟩
  rw [hb]
  have H := hid hb
  clear hb
  have B0 : Hid (Blk (w.alloc (.cells (keptB.map Value.string).toArray 9)) w.heap.size 9 (keptB.map Value.string).toArray) := Blk.new w 9 _
  have CK : Hid (∀ W, Calls Try.prog 24 #[] W fun e w' => e = .returned (.slice (some ⟨W.heap.size, 0, none⟩) 14 14) ∧ w' = W.alloc (.cells (keptB.map Value.string).toArray 9)) := kept_any
  generalize hA : (w.alloc (.cells (keptB.map Value.string).toArray 9)) = w1 at *
  have G0 : Hid (w.grownBy w1 none) := by rw [← hA]; exact grown_alloc (grown_refl _ _) _
  have HA := hid hA
  clear hA
  go_enter Try.func13, Try.ntmps13
  go_wp2_with (go_at_call 24; refine (CK.out _).mono ?_; rintro e wx ⟨rfl, rfl⟩; rw [HA.out]; clear CK)
  go_loop [4] (fun i => ∃ k : Nat, k ≤ 14 ∧ i = .int .i64 k ∧ ∀ j, (hj : j < keptB.length) → j < k → (keptB[j].toList == s.toList) = false) (fun i => 14 - (intOf i).toNat)
  case atStart => exact ⟨0, Nat.zero_le _, rfl, fun j _ h => absurd h (Nat.not_lt_zero _)⟩
  case round =>
    obtain ⟨k, hk, rfl, hall⟩ := hrel
    have K := hid hall
    clear hall
    have k0 : (0 : Int) ≤ k := by omega
    by_cases hlt : k < 14
    · have k1 : (k : Int) < 14 := by omega
      have hkl : k < keptB.length := hlt
      have c0 : w1.cell? ⟨w.heap.size, k, none⟩ = some (.string keptB[k]) := by
        rw [B0.out.cell k]
        simp [hkl]
      cases hc : (keptB[k].toList == s.toList) with
      | true =>
        have hb : b = true := H.out.symm.trans (wordL_yes _ k hkl hc)
        subst hb
        generalize keptB[k] = a at *
        clear K B0
        go_wp2
        go_ret
        exact ⟨rfl, G0.out⟩
      | false =>
        have next : Hid (∀ j, (hj : j < keptB.length) → j < k + 1 → (keptB[j].toList == s.toList) = false) := fun j hj h => by
          by_cases e : j = k
          · subst e; exact hc
          · exact K.out j hj (by omega)
        generalize keptB[k] = a at *
        clear K B0
        go_wp2
        go_round
        case rel => exact ⟨k + 1, by omega, by go_num, next.out⟩
        case measure => simp [intOf]; omega
    · have k1 : ¬ (k : Int) < 14 := by omega
      have e14 : keptB.length ≤ k := by rw [keptB_len]; omega
      have hb : b = false := H.out.symm.trans (wordL_no _ (fun j hj => K.out j hj (by omega)))
      subst hb
      clear K B0
      go_wp2
      go_ret
      exact ⟨rfl, G0.out⟩
end Go.Proofs.Ythpeckoleiecbaa
