/-
  Which texts may be names: the program's and the document's.
-/
import Derived.Test.YtddnjlnnkeiplaaDk
namespace Go.Proofs.Ytddnjlnnkeiplaa
open Go.RowKit Go.Maps
theorem okB_iff (c : UInt8) : okB c = true ↔ ((c.toNat : Int) = 46 ∨ (97 ≤ (c.toNat : Int) ∧ (c.toNat : Int) ≤ 122)) := by
  unfold okB
  simp only [Bool.or_eq_true, Bool.and_eq_true, beq_iff_eq, decide_eq_true_eq, UInt8.le_iff_toNat_le, ← UInt8.toNat_inj]
  show _ ↔ _
  rw [show (46 : UInt8).toNat = 46 from rfl, show (97 : UInt8).toNat = 97 from rfl, show (122 : UInt8).toNat = 122 from rfl]
  omega
theorem take_snoc (s : ByteArray) (k : Nat) (h : k < s.size) : s.data.toList.take (k + 1) = s.data.toList.take k ++ [s[k]] := by
  rw [List.take_succ_eq_append_getElem (by simpa using h)]; rfl
theorem all_step (s : ByteArray) (k : Nat) (h : k < s.size) (ha : (s.data.toList.take k).all okB = true) : (s.data.toList.take (k + 1)).all okB = okB s[k] := by
  rw [take_snoc s k h, List.all_append, ha]
  simp
theorem all_no (s : ByteArray) (k : Nat) (h : k < s.size) (hn : okB s[k] = false) : s.data.toList.all okB = false := by
  rw [← Bool.not_eq_true, List.all_eq_true]
  intro hall
  have : s[k] ∈ s.data.toList := by
    have e : s[k] = s.data.toList[k]'(by simpa using h) := rfl
    rw [e]
    exact List.getElem_mem _
  rw [hall _ this] at hn
  cases hn
theorem all_end (s : ByteArray) (k : Nat) (h : ¬ k < s.size) (ha : (s.data.toList.take k).all okB = true) : s.data.toList.all okB = true := by
  rw [← ha, List.take_of_length_le (by simp; omega)]
set_option maxRecDepth 100000 in
set_option maxHeartbeats 1000000 in
theorem name_any (s : ByteArray) (w : World) (hs : s.size ≤ maxLen) : Calls Try.prog 59 #[.string s] w fun e w' => e = .returned (.bool (nameB s)) ∧ w' = w := by
  unfold maxLen at hs
  by_cases h1 : s.size < 1
  · have e : nameB s = false := by unfold nameB; simp; intro h; omega
    rw [e]
    have i1 : (s.size : Int) < 1 := by omega
    go_enter Try.func59, Try.ntmps59
    go_wp2
    go_ret
    exact ⟨rfl, rfl⟩
  by_cases h2 : 16 < s.size
  · have e : nameB s = false := by unfold nameB; simp; intro _ h; omega
    rw [e]
    have i1 : ¬ (s.size : Int) < 1 := by omega
    have i2 : (16 : Int) < s.size := by omega
    go_enter Try.func59, Try.ntmps59
    go_wp2
    go_ret
    exact ⟨rfl, rfl⟩
  have e : nameB s = s.data.toList.all okB := by
    unfold nameB
    rw [show decide (1 ≤ s.size) = true from decide_eq_true (by omega), show decide (s.size ≤ 16) = true from decide_eq_true (by omega)]
    rfl
  rw [e]
  have i1 : ¬ (s.size : Int) < 1 := by omega
  have i2 : ¬ (16 : Int) < s.size := by omega
  have i3 : (s.size : Int) ≤ 16 := by omega
  have b1 : decide ((s.size : Int) < 1) = false := by simp; omega
  have b2 : decide ((16 : Int) < s.size) = false := by simp; omega
  clear e
  obtain ⟨z, ez⟩ : ∃ z, s.data.toList.all okB = z := ⟨_, rfl⟩
  rw [ez]
  have EZ : Hid (s.data.toList.all okB = z) := ez
  clear ez
  go_enter Try.func59, Try.ntmps59
  go_wp2
  go_loop [14] (fun i => ∃ k : Nat, k ≤ s.size ∧ i = .int .i64 k ∧ (s.data.toList.take k).all okB = true) (fun i => s.size - (intOf i).toNat)
  case atStart => exact ⟨0, Nat.zero_le _, rfl, rfl⟩
  case round =>
    obtain ⟨k, hk, rfl, hall⟩ := hrel
    have HA : Hid ((s.data.toList.take k).all okB = true) := hall
    clear hall
    by_cases hlt : k < s.size
    · have k0 : (0 : Int) ≤ (k : Int) := by omega
      have k1 : (k : Int) < (s.size : Int) := by omega
      have k2 : (k : Int) ≤ 16 := by omega
      have HI := okB_iff s[k]
      have HS := all_step s k hlt HA.out
      have hbx : (s[k].toNat : Int) < 256 := by have := s[k].toNat_lt; omega
      have hb0 : (0 : Int) ≤ (s[k].toNat : Int) := by omega
      by_cases hok : okB s[k] = true
      · have HT : Hid ((s.data.toList.take (k + 1)).all okB = true) := by rw [HS]; exact hok
        rcases HI.1 hok with h46 | ⟨h97, h122⟩
        · have t1 : ((s[k].toNat : Int) != 46) = false := by simp; omega
          clear HI HS hok h46
          go_wp2
          go_round
          case rel => exact ⟨k + 1, by omega, by go_num, HT.out⟩
          case measure => simp [intOf]; omega
        · have t1 : ((s[k].toNat : Int) != 46) = true := by simp; omega
          have t2 : ¬ ((s[k].toNat : Int) < 97) := by omega
          have t3 : ¬ (122 < (s[k].toNat : Int)) := by omega
          clear HI HS hok
          go_wp2
          go_round
          case rel => exact ⟨k + 1, by omega, by go_num, HT.out⟩
          case measure => simp [intOf]; omega
      · have hno : okB s[k] = false := by simpa using hok
        have hz : z = false := EZ.out.symm.trans (all_no s k hlt hno)
        subst hz
        clear EZ
        have hne : ¬ ((s[k].toNat : Int) = 46) := fun h => hok (HI.2 (Or.inl h))
        have t1 : ((s[k].toNat : Int) != 46) = true := by simp; omega
        by_cases t2 : (s[k].toNat : Int) < 97
        · clear HI HS hok hno hne
          go_wp2
          go_ret
          exact ⟨rfl, rfl⟩
        · have t3 : 122 < (s[k].toNat : Int) := by
            by_cases t : 122 < (s[k].toNat : Int)
            · exact t
            · exact absurd (HI.2 (Or.inr ⟨by omega, by omega⟩)) hok
          clear HI HS hok hno hne
          go_wp2
          go_ret
          exact ⟨rfl, rfl⟩
    · have k1 : ¬ (k : Int) < (s.size : Int) := by omega
      have hz : z = true := EZ.out.symm.trans (all_end s k hlt HA.out)
      subst hz
      clear EZ
      go_wp2
      go_ret
      exact ⟨rfl, rfl⟩
theorem nameB_all (s : ByteArray) (h : s.data.toList.all okB = true) : nameB s = (decide (1 ≤ s.size) && decide (s.size ≤ 16)) := by
  unfold nameB
  rw [h, Bool.and_true]
theorem nameB_no (s : ByteArray) (h : s.data.toList.all okB = false) : nameB s = false := by
  unfold nameB
  rw [h, Bool.and_false]
theorem empty_of_size (s : ByteArray) (h : s.size = 0) : s = ⟨#[]⟩ := bytes_ext (by
  have : s.data.toList.length = 0 := by simpa using h
  rw [List.length_eq_zero_iff] at this
  rw [this])
end Go.Proofs.Ytddnjlnnkeiplaa
