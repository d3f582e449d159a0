/-
  The document's Digits and Parts.
-/
import Derived.Test.YtdodammplhlihaaGreatDoorBt
namespace Go.Proofs.YtdodammplhlihaaGreatDoor
open Go.RowKit
/-- Noughts ahead, but for the last sign. -/
def keepL : List UInt8 → List UInt8
  | [] => []
  | [c] => [c]
  | c :: d :: r => if z0 c then keepL (d :: r) else c :: d :: r
theorem keepL_dA : ∀ A : List UInt8, A ≠ [] → keepL A = dA A
  | [], h => absurd rfl h
  | [c], _ => by
    unfold keepL dA trimL orN
    cases h : z0 c with
    | true =>
      have e : c = 48 := by simpa [z0] using h
      subst e
      rfl
    | false => simp [List.dropWhile, h]
  | c :: d :: r, _ => by
    unfold keepL
    cases h : z0 c with
    | true =>
      rw [if_pos rfl, keepL_dA (d :: r) (by simp)]
      unfold dA trimL
      rw [List.dropWhile_cons_of_pos h]
    | false =>
      rw [if_neg (by decide)]
      unfold dA trimL orN
      rw [List.dropWhile_cons_of_neg (by rw [h]; decide), if_neg (by simp)]
theorem keepL_cons (c : UInt8) (r : List UInt8) (hr : r ≠ []) : keepL (c :: r) = if z0 c then keepL r else c :: r := by
  cases r with
  | nil => exact absurd rfl hr
  | cons d r => rfl
theorem keepL_step (A : List UInt8) (k : Nat) (h : k + 1 < A.length) (hz : z0 (A[k]'(by omega)) = true) : keepL (A.drop k) = keepL (A.drop (k + 1)) := by
  rw [List.drop_eq_getElem_cons (show k < A.length by omega), keepL_cons _ _ (by intro e; have := congrArg List.length e; simp at this; omega), hz, if_pos rfl]
theorem keepL_stop (A : List UInt8) (k : Nat) (h : k < A.length) (hz : k + 1 = A.length ∨ z0 (A[k]'h) = false) : keepL (A.drop k) = A.drop k := by
  rw [List.drop_eq_getElem_cons h]
  by_cases hr : A.drop (k + 1) = []
  · rw [hr]; rfl
  · rw [keepL_cons _ _ hr]
    rcases hz with hz | hz
    · exact absurd (List.drop_eq_nil_of_le (by omega)) hr
    · rw [hz, if_neg (by decide)]
def keepR (l : List UInt8) : List UInt8 := (keepL l.reverse).reverse
theorem keepR_dB (B : List UInt8) (h : B ≠ []) : keepR B = dB B := by
  unfold keepR
  rw [keepL_dA _ (by simpa using h)]
  unfold dA dB trimL trimR orN
  by_cases h0 : B.reverse.dropWhile z0 = []
  · rw [if_pos h0, h0]; rfl
  · rw [if_neg h0, if_neg (by simpa using h0)]
theorem keepR_step (B : List UInt8) (j : Nat) (h0 : 1 ≤ j) (h : j < B.length) (hz : z0 (B[j]'h) = true) : keepR (B.take (j + 1)) = keepR (B.take j) := by
  unfold keepR
  rw [List.take_succ_eq_append_getElem h, List.reverse_append, List.reverse_singleton, List.singleton_append, keepL_cons _ _ (by intro e; have h9 := congrArg List.length e; rw [List.length_reverse, List.length_take, List.length_nil] at h9; omega), hz, if_pos rfl]
theorem keepR_stop (B : List UInt8) (j : Nat) (h : j < B.length) (hz : j = 0 ∨ z0 (B[j]'h) = false) : keepR (B.take (j + 1)) = B.take (j + 1) := by
  unfold keepR
  rw [List.take_succ_eq_append_getElem h, List.reverse_append, List.reverse_singleton, List.singleton_append]
  by_cases hr : (B.take j).reverse = []
  · rw [hr]
    have : B.take j = [] := by simpa using hr
    rw [this]; rfl
  · rw [keepL_cons _ _ hr]
    rcases hz with hz | hz
    · subst hz; exact absurd (by simp) hr
    · rw [hz, if_neg (by decide)]; simp
set_option maxRecDepth 100000 in
set_option maxHeartbeats 4000000 in
theorem rdigits_any (A B : List UInt8) (w : World) (hA : ∀ c ∈ A, isD c) (hB : ∀ c ∈ B, isD c) (a0 : 1 ≤ A.length) (b0 : 1 ≤ B.length) (hl : A.length + B.length ≤ 40) : Calls Tryz.prog 11 #[.string (mkS (A ++ 46 :: B))] w (StP (dA A ++ 46 :: dB B) w) := by
  have ll : (A ++ 46 :: B).length = A.length + 1 + B.length := by simp; omega
  obtain ⟨s, hs⟩ : ∃ s, mkS (A ++ 46 :: B) = s := ⟨_, rfl⟩
  have sz : s.size = A.length + 1 + B.length := by rw [← hs, mkS_size, ll]
  have GA : Hid (∀ k (h : k < s.size) (h' : k < A.length), s[k]'h = A[k]'h') := fun k h h' => by
    subst hs
    rw [mkS_get, List.getElem_append_left h']
  have GP : Hid (∀ h : A.length < s.size, s[A.length]'h = 46) := fun h => by
    subst hs
    rw [mkS_get]; simp
  have GBy : Hid (∀ j (h : A.length + 1 + j < s.size) (h' : j < B.length), s[A.length + 1 + j]'h = B[j]'h') := fun j h h' => by
    subst hs
    rw [mkS_get, List.getElem_append_right (by omega)]
    simp only [show A.length + 1 + j - A.length = j + 1 by omega, List.getElem_cons_succ]
  have EX : Hid (∀ k j, k ≤ A.length → j ≤ B.length → s.extract k (A.length + 1 + j) = mkS (A.drop k ++ 46 :: B.take j)) := fun k j h1 h2 => by
    subst hs
    rw [ext_mk]
    congr 1
    rw [List.take_append, List.take_of_length_le (by omega), show A.length + 1 + j - A.length = j + 1 by omega, List.take_succ_cons, List.drop_append, show k - A.length = 0 by omega, List.drop_zero]
  have HA := hid hA
  have HB := hid hB
  rw [hs]
  have n1 : (A.length : Int) ≤ 40 := by omega
  have n2 : (s.size : Int) ≤ 41 := by omega
  have SZ := hid sz
  obtain ⟨a, ha⟩ : ∃ a, A.length = a := ⟨_, rfl⟩
  have EA := hid ha
  have B0 := hid b0
  have n3 : (a : Int) < s.size := by omega
  have n4 : (1 : Int) ≤ a := by omega
  have n5 : (a : Int) ≤ 40 := by omega
  have n6 : (a : Int) + 2 ≤ s.size := by omega
  clear hs hA hB hl sz ll b0 n1
  go_enter Tryz.func11, Tryz.ntmps11
  go_wp2
  go_loop [3] (fun v => ∃ k : Nat, v = .int .i64 k ∧ k ≤ a) (fun v => a - (intOf v).toNat)
  case atStart => exact ⟨0, rfl, Nat.zero_le _⟩
  case round =>
    obtain ⟨k, rfl, hk⟩ := hrel
    have k0 : (0 : Int) ≤ k := by omega
    have k1 : (k : Int) < s.size := by omega
    have ks : k < s.size := by omega
    by_cases hka : k < a
    · obtain ⟨c, hc⟩ : ∃ c : Nat, (s[k]'ks).toNat = c := ⟨_, rfl⟩
      have hd : isD (s[k]'ks) := by
        rw [GA.out k ks (by rw [EA.out]; exact hka)]
        exact HA.out _ (List.getElem_mem _)
      have c1 : ((c : Int) == 46) = false := by have := hd.1; simp; omega
      have c2 : ((c : Int) != 46) = true := by simp at c1 ⊢; exact c1
      clear hd
      go_wp2
      go_round
      case rel => exact ⟨k + 1, by go_num, by omega⟩
      case measure => simp [intOf]; omega
    · have hkk : k = a := by omega
      have e46 : (s[k]'ks).toNat = 46 := by
        subst hkk
        have h := GP.out (by rw [EA.out]; exact ks)
        simp only [EA.out] at h
        rw [h]; rfl
      clear hka k0 k1 hk
      subst hkk
      go_wp2
      go_loop [4] (fun v => ∃ f : Nat, v = .int .i64 f ∧ f < k ∧ keepL (A.drop f) = keepL A) (fun v => k - (intOf v).toNat)
      case atStart => exact ⟨0, rfl, by omega, by rw [List.drop_zero]⟩
      case round =>
        obtain ⟨f, rfl, hf, hkf⟩ := hrel
        have KF := hid hkf
        have f0 : (0 : Int) ≤ f := by omega
        have f1 : (f : Int) < s.size := by omega
        have fs : f < s.size := by omega
        have fA : f < A.length := by rw [EA.out]; exact hf
        obtain ⟨c, hc⟩ : ∃ c : Nat, (s[f]'fs).toNat = c := ⟨_, rfl⟩
        have hcA : (A[f]'fA).toNat = c := by rw [← GA.out f fs fA]; exact hc
        have hzf := z0_iff (A[f]'fA)
        rw [hcA] at hzf
        clear hkf
        by_cases hgo : f + 1 < k ∧ c = 48
        · have g1 : (f : Int) + 1 < k := by omega
          have g2 : ((c : Int) == 48) = true := by simp; omega
          rw [g2] at hzf
          have KS := hid ((keepL_step A f (by rw [EA.out]; exact hgo.1) hzf).symm.trans KF.out)
          clear hgo hzf
          go_wp2
          go_round
          case rel => exact ⟨f + 1, by go_num, by omega, KS.out⟩
          case measure => simp [intOf]; omega
        · have KS : Hid (A.drop f = dA A) := by
            have h1 := keepL_stop A f fA (by
              by_cases h2 : f + 1 < k
              · right
                have h3 : ¬ c = 48 := fun e => hgo ⟨h2, e⟩
                rw [hzf]
                simp; omega
              · left; rw [EA.out]; omega)
            exact (h1.symm.trans KF.out).trans (keepL_dA A (by intro e; rw [e] at a0; simp at a0))
          clear hzf KF
          by_cases h2 : f + 1 < k
          · have g1 : (f : Int) + 1 < k := by omega
            have h3 : ¬ c = 48 := fun e => hgo ⟨h2, e⟩
            have g2 : ((c : Int) == 48) = false := by simp; omega
            clear h3
            clear hgo h2
            go_wp2
            go_loop [5] (fun v => ∃ E j : Nat, v = .int .i64 E ∧ E = k + 1 + j ∧ 1 ≤ j ∧ j ≤ B.length ∧ keepR (B.take j) = keepR B) (fun v => (intOf v).toNat)
            case atStart =>
              refine ⟨s.size, B.length, rfl, ?_, B0.out, Nat.le_refl _, by rw [List.take_length]⟩
              have h8 := SZ.out
              rw [EA.out] at h8
              exact h8
            case round =>
              obtain ⟨E, j, rfl, hE, j1, j2, hkj⟩ := hrel
              have KJ := hid hkj
              have SZ2 := SZ.out
              rw [EA.out] at SZ2
              have js : k + 1 + (j - 1) < s.size := by omega
              have jB : j - 1 < B.length := by omega
              obtain ⟨D, hD⟩ : ∃ D, k + 1 + (j - 1) = D := ⟨_, rfl⟩
              have hDs : D < s.size := by omega
              obtain ⟨c2, hc2⟩ : ∃ c2 : Nat, (s[D]'hDs).toNat = c2 := ⟨_, rfl⟩
              have hcB : (B[j - 1]'jB).toNat = c2 := by
                have h9 := GBy.out (j - 1) (by rw [EA.out]; exact js) jB
                simp only [EA.out, hD] at h9
                rw [← h9]; exact hc2
              have hzj := z0_iff (B[j - 1]'jB)
              rw [hcB] at hzj
              have w1 : (E : Int) - 1 = D := by omega
              have w2 : (D : Int) < s.size := by omega
              have w3 : (0 : Int) ≤ D := by omega
              have w4 : (E : Int) ≤ 41 := by omega
              have w5 : (E : Int) ≤ s.size := by omega
              have w6 : (f : Int) ≤ E := by omega
              have w7 : (0 : Int) ≤ E := by omega
              have ex := EX.out f j (by omega) j2
              rw [EA.out, ← hE] at ex
              have KK := hid KS.out
              clear hkj
              by_cases hgo2 : 1 < j ∧ c2 = 48
              · have r1 : (k : Int) + 2 < E := by omega
                have r2 : ((c2 : Int) == 48) = true := by simp; omega
                rw [r2] at hzj
                have h7 := keepR_step B (j - 1) (by omega) jB hzj
                rw [show j - 1 + 1 = j by omega] at h7
                have HJ := hid (h7.symm.trans KJ.out)
                have LJ := hid (And.intro hE (And.intro hgo2.1 j2))
                clear hgo2 hzj h7 ex hE
                go_wp2
                go_round
                case rel => exact ⟨D, j - 1, by go_num, by have := LJ.out; omega, by have := LJ.out; omega, by have := LJ.out; omega, HJ.out⟩
                case measure => have := LJ.out; simp [intOf]; omega
              · have HB2 : Hid (B.take j = dB B) := by
                  have h1 := keepR_stop B (j - 1) jB (by
                    by_cases h2 : 1 < j
                    · right
                      have h3 : ¬ c2 = 48 := fun e => hgo2 ⟨h2, e⟩
                      rw [hzj]; simp; omega
                    · left; omega)
                  rw [show j - 1 + 1 = j by omega] at h1
                  exact (h1.symm.trans KJ.out).trans (keepR_dB B (by intro e; have := B0.out; rw [e] at this; simp at this))
                rw [HB2.out, KK.out] at ex
                by_cases h2 : 1 < j
                · have h3 : ¬ c2 = 48 := fun e => hgo2 ⟨h2, e⟩
                  have r1 : (k : Int) + 2 < E := by omega
                  have r2 : ((c2 : Int) == 48) = false := by simp; omega
                  clear hgo2 hzj h2 h3 hE
                  go_wp2
                  go_ret
                  exact ⟨rfl, rfl⟩
                · have r1 : ¬ (k : Int) + 2 < E := by omega
                  clear hgo2 hzj h2 hE
                  go_wp2
                  go_ret
                  exact ⟨rfl, rfl⟩
          · have g1 : ¬ (f : Int) + 1 < k := by omega
            clear hgo h2
            go_wp2
            go_loop [5] (fun v => ∃ E j : Nat, v = .int .i64 E ∧ E = k + 1 + j ∧ 1 ≤ j ∧ j ≤ B.length ∧ keepR (B.take j) = keepR B) (fun v => (intOf v).toNat)
            case atStart =>
              refine ⟨s.size, B.length, rfl, ?_, B0.out, Nat.le_refl _, by rw [List.take_length]⟩
              have h8 := SZ.out
              rw [EA.out] at h8
              exact h8
            case round =>
              obtain ⟨E, j, rfl, hE, j1, j2, hkj⟩ := hrel
              have KJ := hid hkj
              have SZ2 := SZ.out
              rw [EA.out] at SZ2
              have js : k + 1 + (j - 1) < s.size := by omega
              have jB : j - 1 < B.length := by omega
              obtain ⟨D, hD⟩ : ∃ D, k + 1 + (j - 1) = D := ⟨_, rfl⟩
              have hDs : D < s.size := by omega
              obtain ⟨c2, hc2⟩ : ∃ c2 : Nat, (s[D]'hDs).toNat = c2 := ⟨_, rfl⟩
              have hcB : (B[j - 1]'jB).toNat = c2 := by
                have h9 := GBy.out (j - 1) (by rw [EA.out]; exact js) jB
                simp only [EA.out, hD] at h9
                rw [← h9]; exact hc2
              have hzj := z0_iff (B[j - 1]'jB)
              rw [hcB] at hzj
              have w1 : (E : Int) - 1 = D := by omega
              have w2 : (D : Int) < s.size := by omega
              have w3 : (0 : Int) ≤ D := by omega
              have w4 : (E : Int) ≤ 41 := by omega
              have w5 : (E : Int) ≤ s.size := by omega
              have w6 : (f : Int) ≤ E := by omega
              have w7 : (0 : Int) ≤ E := by omega
              have ex := EX.out f j (by omega) j2
              rw [EA.out, ← hE] at ex
              have KK := hid KS.out
              clear hkj
              by_cases hgo2 : 1 < j ∧ c2 = 48
              · have r1 : (k : Int) + 2 < E := by omega
                have r2 : ((c2 : Int) == 48) = true := by simp; omega
                rw [r2] at hzj
                have h7 := keepR_step B (j - 1) (by omega) jB hzj
                rw [show j - 1 + 1 = j by omega] at h7
                have HJ := hid (h7.symm.trans KJ.out)
                have LJ := hid (And.intro hE (And.intro hgo2.1 j2))
                clear hgo2 hzj h7 ex hE
                go_wp2
                go_round
                case rel => exact ⟨D, j - 1, by go_num, by have := LJ.out; omega, by have := LJ.out; omega, by have := LJ.out; omega, HJ.out⟩
                case measure => have := LJ.out; simp [intOf]; omega
              · have HB2 : Hid (B.take j = dB B) := by
                  have h1 := keepR_stop B (j - 1) jB (by
                    by_cases h2 : 1 < j
                    · right
                      have h3 : ¬ c2 = 48 := fun e => hgo2 ⟨h2, e⟩
                      rw [hzj]; simp; omega
                    · left; omega)
                  rw [show j - 1 + 1 = j by omega] at h1
                  exact (h1.symm.trans KJ.out).trans (keepR_dB B (by intro e; have := B0.out; rw [e] at this; simp at this))
                rw [HB2.out, KK.out] at ex
                by_cases h2 : 1 < j
                · have h3 : ¬ c2 = 48 := fun e => hgo2 ⟨h2, e⟩
                  have r1 : (k : Int) + 2 < E := by omega
                  have r2 : ((c2 : Int) == 48) = false := by simp; omega
                  clear hgo2 hzj h2 h3 hE
                  go_wp2
                  go_ret
                  exact ⟨rfl, rfl⟩
                · have r1 : ¬ (k : Int) + 2 < E := by omega
                  clear hgo2 hzj h2 hE
                  go_wp2
                  go_ret
                  exact ⟨rfl, rfl⟩
end Go.Proofs.YtdodammplhlihaaGreatDoor
