/-
  The contract of the document's Number.
-/
import Derived.Test.YtdodammplhlihaaGreatDoorWText
namespace Go.Proofs.YtdodammplhlihaaGreatDoor.Tr
open Go.RowKit
theorem append_list (a b : ByteArray) : (a ++ b).data.toList = a.data.toList ++ b.data.toList := by
  rw [ByteArray.data_append, Array.toList_append]
theorem bytes_ext {a b : ByteArray} (h : a.data.toList = b.data.toList) : a = b := ByteArray.ext (Array.toList_inj.1 h)
theorem one_byte (W : World) (b : Nat) (cap : Nat) (n : Int) (m : Nat) (hm : m < 256) (hn : n = (m : Int)) (h : W.cell? ⟨b, 0, none⟩ = some (.int .u8 n)) :
    (convert 24 9 (.slice (some ⟨b, 0, none⟩) 1 cap)).run Tryz.prog W = .ok (.string ⟨#[UInt8.ofNat m]⟩) W := by
  have e := run_convert_bytes_back (P := Tryz.prog) W 24 9 5 ⟨b, 0, none⟩ cap [UInt8.ofNat m] Tryz.underlying24 Tryz.underlying5 Tryz.underlying9 (fun j hj => by
    have hj0 : j = 0 := by simpa using hj
    subst hj0
    rw [add_off, h, hn]
    show some (Value.int .u8 (m : Int)) = some (Value.int .u8 ((UInt8.ofNat m).toNat : Int))
    rw [UInt8.toNat_ofNat', Nat.mod_eq_of_lt hm])
  exact e
theorem div_step (m j : Nat) : m / 2 ^ (8 * j) / 256 = m / 2 ^ (8 * (j + 1)) := by
  rw [Nat.div_div_eq_div_mul, show (256 : Nat) = 2 ^ 8 from rfl, ← Nat.pow_add]
  congr 2
theorem numL_succ (n k : Nat) : numL n (k + 1) = numL n k ++ [UInt8.ofNat (n / 2 ^ (8 * k) % 256)] := by
  unfold numL
  rw [List.range_succ, List.map_append]
  rfl
set_option maxRecDepth 100000 in
set_option maxHeartbeats 400000 in
theorem refNumber_any (n : Nat) (bytes : Int) (w : World) (hn : n < 18446744073709551616) : Calls Tryz.prog 4 #[.int .u64 n, .int .i64 bytes] w fun e w' => e = .returned (.string (numS n (asked bytes))) ∧ w.grownBy w' none := by
  obtain ⟨k, ek⟩ : ∃ k, asked bytes = k := ⟨_, rfl⟩
  have hk8 : k ≤ 8 := by rw [← ek]; unfold asked; omega
  have hkb : ∀ j : Nat, j < k → (j : Int) < bytes := fun j hj => by rw [← ek] at hj; unfold asked at hj; omega
  have hke : k < 8 → bytes ≤ (k : Int) := fun h => by rw [← ek] at h ⊢; unfold asked at h ⊢; omega
  rw [ek]
  obtain ⟨R, eR⟩ : ∃ R, numS n k = R := ⟨_, rfl⟩
  rw [eR]
  have ER : Hid (numS n k = R) := eR
  have HB : Hid (∀ j : Nat, j < k → (j : Int) < bytes) := hkb
  have HE : Hid (k < 8 → bytes ≤ (k : Int)) := hke
  clear eR ek hkb hke
  go_enter Tryz.func4, Tryz.ntmps4
  go_wp2
  go_loopw [0, 5, 6] (fun x v i wr => ∃ (B : ByteArray) (j : Nat), j ≤ k ∧ i = .int .i64 j ∧ x = .int .u64 ((n / 2 ^ (8 * j) : Nat) : Int) ∧ v = .string B ∧ B.data.toList = numL n j ∧ w.grownBy wr none) (fun _ _ i _ => 8 - (intOf i).toNat)
  case atStart =>
    refine ⟨_, 0, Nat.zero_le _, rfl, ?_, rfl, rfl, grown_refl _ _⟩
    rw [Nat.mul_zero, Nat.pow_zero, Nat.div_one]
  case round =>
    obtain ⟨B, j, hj, rfl, rfl, rfl, hB, h3⟩ := hrel
    have H3 : Hid (w.grownBy wr none) := h3
    have HBl : Hid (B.data.toList = numL n j) := hB
    have hBs : B.size = j := by rw [← bytes_len, hB, numL_len]
    have hBi : (B.size : Int) ≤ 8 := by omega
    clear h3 hB
    have hle : n / 2 ^ (8 * j) ≤ n := Nat.div_le_self _ _
    have j0 : (0 : Int) ≤ (j : Int) := by omega
    by_cases hjk : j < k
    · have d1 : (j : Int) < bytes := HB.out j hjk
      have d2 : (j : Int) < 8 := by omega
      have ST : Hid (numL n (j + 1) = numL n j ++ [UInt8.ofNat (n / 2 ^ (8 * j) % 256)]) := numL_succ n j
      have SS : Hid (n / 2 ^ (8 * j) / 256 = n / 2 ^ (8 * (j + 1))) := div_step n j
      generalize n / 2 ^ (8 * j) = x at *
      have x0 : (0 : Int) ≤ (x : Int) := by omega
      have x1 : (x : Int) < 18446744073709551616 := by omega
      have hcv := one_byte (wr.alloc (.cells #[.int .u8 ((x : Int) % 256)] 5)) wr.heap.size 1 ((x : Int) % 256) (x % 256) (by omega) (by omega) (by rw [(Blk.new wr 5 #[.int .u8 ((x : Int) % 256)]).cell]; rfl)
      obtain ⟨V, hV⟩ : ∃ V : ByteArray, V = ⟨#[UInt8.ofNat (x % 256)]⟩ := ⟨_, rfl⟩
      have hVs : V.size = 1 := by rw [hV]; rfl
      have HVl : Hid (V.data.toList = [UInt8.ofNat (x % 256)]) := by
        have e : V.data.toList = [UInt8.ofNat (x % 256)] := by rw [hV]
        exact e
      rw [← hV] at hcv
      clear hV hn hle
      go_wp2
      go_roundw
      case rel =>
        refine ⟨_, j + 1, by omega, by go_num, ?_, rfl, ?_, grown_alloc H3.out _⟩
        · rw [← SS.out]; rfl
        · rw [append_list, HBl.out, HVl.out, ST.out]
      case measure => simp [intOf]; omega
    · have e : j = k := by omega
      subst e
      have eB : B = R := by
        rw [← ER.out]
        exact bytes_ext HBl.out
      subst eB
      clear hn hle
      generalize n / 2 ^ (8 * j) = x at *
      by_cases h8 : j < 8
      · have d1 : ¬ ((j : Int) < bytes) := by have := HE.out h8; omega
        go_wp2
        go_ret
        exact ⟨rfl, H3.out⟩
      · have d2 : ¬ ((j : Int) < 8) := by omega
        by_cases d1 : (j : Int) < bytes
        · go_wp2
          go_ret
          exact ⟨rfl, H3.out⟩
        · go_wp2
          go_ret
          exact ⟨rfl, H3.out⟩
end Go.Proofs.YtdodammplhlihaaGreatDoor.Tr
