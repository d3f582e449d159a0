/-
  The document's own passing over of spaces and notes.
-/
import Derived.Test.YthpeckoleiecbaaGp
namespace Go.Proofs.Ythpeckoleiecbaa
open Go.RowKit
theorem gap_at (s : ByteArray) (j : Nat) (h : j < s.size) (hg : isG s[j] = true) : gapE s (j + 1) = gapE s j := by
  unfold gapE
  rw [drop_at s j h, skip_gap _ _ hg]
theorem gap_stop (s : ByteArray) (j : Nat) (h : j < s.size) (hg : isG s[j] = false) (hn : ∀ (h1 : j + 1 < s.size), s[j] = 47 → s[j + 1] ≠ 47) : gapE s j = j := by
  refine gap_here s j (by omega) ?_
  rw [drop_at s j h]
  refine skip_word _ _ hg ?_
  rintro ⟨e1, e2⟩
  by_cases h1 : j + 1 < s.size
  · rw [drop_at s (j + 1) h1] at e2
    simp at e2
    exact hn h1 e1 e2
  · rw [drop_end s (j + 1) h1] at e2
    cases e2
theorem note_at (s : ByteArray) (j : Nat) (h : j + 1 < s.size) (e1 : s[j] = 47) (e2 : s[j + 1] = 47) : gapE s (j + runN noLf (s.toList.drop j)) = gapE s j := by
  refine (gap_note s j ?_).1
  rw [drop_at s j (by omega), drop_at s (j + 1) h, e1, e2]
  rfl
theorem gap_end (s : ByteArray) (j : Nat) (hj : j ≤ s.size) (h : ¬ j < s.size) : gapE s j = j := by
  refine gap_here s j hj ?_
  rw [drop_end s j h]
  rfl
theorem isG_no {c : UInt8} (h : isG c = false) : (((c.toNat : Int) == 32) = false) ∧ (((c.toNat : Int) == 9) = false) ∧ (((c.toNat : Int) == 10) = false) := by
  rw [isG_iff] at h
  simp only [Bool.or_eq_false_iff] at h
  exact ⟨h.1.1, h.1.2, h.2⟩
set_option maxRecDepth 100000 in
set_option maxHeartbeats 1000000 in
theorem refSkip_any (s : ByteArray) (k : Nat) (w : World) (hk : k ≤ s.size) (hs : (s.size : Int) ≤ 4096) : Calls Try.prog 17 #[.string s, .int .i64 k] w fun e w' => e = .returned (.int .i64 (gapE s k)) ∧ w' = w := by
  obtain ⟨R, hR⟩ : ∃ R, gapE s k = R := ⟨_, rfl⟩
  have HR : Hid (gapE s k = R) := hR
  rw [hR]
  clear hR
  go_enter Try.func17, Try.ntmps17
  go_wp2
  go_loop [1] (fun i => ∃ j : Nat, j ≤ s.size ∧ i = .int .i64 j ∧ Hid (gapE s j = R)) (fun i => s.size - (intOf i).toNat)
  case atStart => exact ⟨k, hk, rfl, HR⟩
  case round =>
    obtain ⟨j, hj, rfl, HJ⟩ := hrel
    have j0 : (0 : Int) ≤ j := by omega
    clear HR
    by_cases hlt : j < s.size
    · have j1 : (j : Int) < s.size := by omega
      cases hg : isG s[j] with
      | true =>
        have NX : Hid (gapE s (j + 1) = R) := (gap_at s j hlt hg).trans HJ.out
        rw [isG_iff] at hg
        clear HJ
        go_wp2
        all_goals (first
          | (exfalso; simp_all; done)
          | (go_round
             case rel => exact ⟨j + 1, by omega, by go_num, NX⟩
             case measure => simp [intOf]; omega))
      | false =>
        obtain ⟨t1, t2, t3⟩ := isG_no hg
        by_cases hn : ∀ (h1 : j + 1 < s.size), s[j] = 47 → s[j + 1] ≠ 47
        · have e : R = j := HJ.out.symm.trans (gap_stop s j hlt hg hn)
          subst e
          clear HJ hg
          cases h47 : ((s[R].toNat : Int) == 47) with
          | false =>
            have h47' : ((s[R].toNat : Int) != 47) = true := by simp [bne, h47]
            clear hn h47
            go_wp2
            go_ret
            exact ⟨rfl, rfl⟩
          | true =>
            have h47' : ((s[R].toNat : Int) != 47) = false := by simp [bne, h47]
            by_cases h1 : R + 1 < s.size
            · have e47 : s[R] = 47 := by
                rw [← UInt8.toNat_inj]
                have := beq_iff_eq.1 h47
                show _ = 47
                omega
              have n47 := hn h1 e47
              have t4 : ((s[R + 1].toNat : Int) != 47) = true := by
                simp only [bne_iff_ne, ne_eq]
                intro h
                exact n47 (by rw [← UInt8.toNat_inj]; show _ = 47; omega)
              have j2 : ((R : Int) + 1) < s.size := by omega
              have j3 : (0 : Int) ≤ (R : Int) + 1 := by omega
              have j4 : ((R : Int) + 1).toNat = R + 1 := by omega
              clear hn h47 e47 n47
              go_wp2
              go_ret
              exact ⟨rfl, rfl⟩
            · have j2 : ¬ ((R : Int) + 1) < s.size := by omega
              clear hn h47
              go_wp2
              go_ret
              exact ⟨rfl, rfl⟩
        · obtain ⟨h1, e47, e48⟩ : ∃ h1 : j + 1 < s.size, s[j] = 47 ∧ (s[j + 1]'h1) = 47 := by
            refine Classical.byContradiction fun hc => hn fun h1 h2 h3 => hc ⟨h1, h2, h3⟩
          clear hn
          have j2 : ((j : Int) + 1) < s.size := by omega
          have j3 : (0 : Int) ≤ (j : Int) + 1 := by omega
          have j4 : ((j : Int) + 1).toNat = j + 1 := by omega
          have j5 : decide ((s.size : Int) ≤ (j : Int) + 1) = false := by simp; omega
          have j6 : ¬ ((s.size : Int) ≤ (j : Int) + 1) := by omega
          have NT : Hid (gapE s (j + runN noLf (s.toList.drop j)) = R) := (note_at s j h1 e47 e48).trans HJ.out
          have h47 : ((s[j].toNat : Int) != 47) = false := by rw [e47]; rfl
          have h48 : (((s[j + 1]'h1).toNat : Int) != 47) = false := by rw [e48]; rfl
          have E47 := hid e47
          clear hg HJ e47 e48
          go_wp2
          go_loop [1] (fun i => ∃ z : Nat, j ≤ z ∧ z ≤ s.size ∧ i = .int .i64 z ∧ Hid (gapE s (z + runN noLf (s.toList.drop z)) = R)) (fun i => s.size - (intOf i).toNat)
          case atStart => exact ⟨j, Nat.le_refl _, by omega, rfl, NT⟩
          case round =>
            obtain ⟨z, hz1, hz2, rfl, HZ⟩ := hrel
            have z0 : (0 : Int) ≤ z := by omega
            clear NT
            by_cases hlz : z < s.size
            · have z1 : (z : Int) < s.size := by omega
              cases hc : noLf s[z] with
              | true =>
                have NX : Hid (gapE s (z + 1 + runN noLf (s.toList.drop (z + 1))) = R) := by
                  have := HZ.out
                  rw [drop_at s z hlz, run_pos _ _ _ hc] at this
                  rw [show z + 1 + runN noLf (s.toList.drop (z + 1)) = z + (runN noLf (s.toList.drop (z + 1)) + 1) by omega]
                  exact this
                rw [noLf_iff] at hc
                clear HZ E47
                go_wp2
                go_round
                case rel => exact ⟨z + 1, by omega, by omega, by go_num, NX⟩
                case measure => simp [intOf]; omega
              | false =>
                have NX : Hid (gapE s z = R) := by
                  have := HZ.out
                  rw [drop_at s z hlz, run_neg _ _ _ hc] at this
                  exact this
                have zj : j < z := by
                  by_cases e : z = j
                  · subst e
                    rw [E47.out] at hc
                    exact absurd hc (by decide)
                  · omega
                rw [noLf_iff] at hc
                clear HZ E47
                go_wp2
                go_round
                case rel => exact ⟨z, by omega, rfl, NX⟩
                case measure => simp [intOf]; omega
            · have z1 : ¬ (z : Int) < s.size := by omega
              have NX : Hid (gapE s z = R) := by
                have := HZ.out
                rw [drop_end s z hlz] at this
                exact this
              clear HZ E47
              go_wp2
              go_round
              case rel => exact ⟨z, by omega, rfl, NX⟩
              case measure => simp [intOf]; omega
    · have j1 : ¬ (j : Int) < s.size := by omega
      have e : R = j := HJ.out.symm.trans (gap_end s j hj hlt)
      subst e
      clear HJ
      go_wp2
      go_ret
      exact ⟨rfl, rfl⟩
end Go.Proofs.Ythpeckoleiecbaa
