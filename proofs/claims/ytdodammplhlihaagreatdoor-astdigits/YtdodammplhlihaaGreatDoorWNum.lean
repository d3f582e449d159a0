/-
  The contract of wire.Number: a number's lowest bytes, the lowest first.
-/
import Derived.Test.YtdodammplhlihaaGreatDoorWClone
import Derived.WalkKit
import Derived.Laws.IdiomStrings
namespace Go.Proofs.YtdodammplhlihaaGreatDoor.Tr
open Go.RowKit
/-- The byte at a place. -/
def byt (n i : Nat) : Nat := n / 2 ^ (8 * i) % 256
def numL (n k : Nat) : List UInt8 := (List.range k).map (fun i => UInt8.ofNat (byt n i))
def numS (n k : Nat) : ByteArray := ⟨(numL n k).toArray⟩
theorem numL_len (n k : Nat) : (numL n k).length = k := by
  unfold numL
  rw [List.length_map, List.length_range]
theorem numL_at (n k i : Nat) (h : i < (numL n k).length) : (((numL n k)[i].toNat : Nat) : Int) = ((byt n i : Nat) : Int) := by
  have e : (numL n k)[i] = UInt8.ofNat (byt n i) := (List.getElem_map _).trans (by rw [List.getElem_range])
  rw [e, UInt8.toNat_ofNat', Nat.mod_eq_of_lt]
  exact Nat.mod_lt _ (by decide)
theorem add_off (b j : Nat) : (⟨b, 0, none⟩ : Addr).add j = ⟨b, j, none⟩ := by
  cases j <;> simp [Addr.add]
theorem zero8 : (#[.int .u8 0, .int .u8 0, .int .u8 0, .int .u8 0, .int .u8 0, .int .u8 0, .int .u8 0, .int .u8 0] : Array Value) = arr .u8 8 (fun _ => 0) := by rfl
theorem num_run (n k cap : Nat) (hk : k ≤ 8) (w : World) (b : Nat) (t : TypeId) (h : Blk w b t (arr .u8 8 (fun i => (byt n i : Nat)))) : (convert 24 9 (.slice (some ⟨b, 0, none⟩) k cap)).run Tryz.prog w = .ok (.string (numS n k)) w := by
  have e := run_convert_bytes_back (P := Tryz.prog) w 24 9 5 ⟨b, 0, none⟩ cap (numL n k) Tryz.underlying24 Tryz.underlying5 Tryz.underlying9 (fun j hj => by
    rw [numL_at]
    have := h.ints j (by rw [numL_len] at hj; omega)
    rw [add_off]
    exact this)
  rw [numL_len] at e
  exact e
theorem byt_int (n i : Nat) : (n : Int) / 2 ^ (8 * i) % 256 = ((byt n i : Nat) : Int) := by
  unfold byt
  have e : ∀ m : Nat, (2 : Int) ^ m = ((2 ^ m : Nat) : Int) := fun m => (Int.natCast_pow 2 m).symm
  rw [e]
  generalize 2 ^ (8 * i) = m
  rfl
/-- How many bytes are asked for. -/
def asked (b : Int) : Nat := (min (max b 0) 8).toNat
set_option maxRecDepth 100000 in
set_option maxHeartbeats 400000 in
theorem number_any (n : Nat) (bytes : Int) (w : World) (hn : n < 18446744073709551616) : Calls Tryz.prog 85 #[.int .u64 n, .int .i64 bytes] w fun e w' => e = .returned (.string (numS n (asked bytes))) ∧ w.grownBy w' none := by
  have i0 : (n : Int) < 18446744073709551616 := by omega
  have i1 : (0 : Int) ≤ (n : Int) := by omega
  obtain ⟨k, ek⟩ : ∃ k, asked bytes = k := ⟨_, rfl⟩
  have hk8 : k ≤ 8 := by rw [← ek]; unfold asked; omega
  have hmm : min (max bytes 0) 8 = (k : Int) := by rw [← ek]; unfold asked; omega
  rw [ek]
  obtain ⟨R, eR⟩ : ∃ R, numS n k = R := ⟨_, rfl⟩
  rw [eR]
  have ER : Hid (numS n k = R) := eR
  clear eR ek hn
  go_enter Tryz.func85, Tryz.ntmps85
  go_wp2
  go_loopw [7] (fun i wr => ∃ k : Nat, k ≤ 8 ∧ i = .int .i64 k ∧ Blk wr w.heap.size 149 (arr .u8 8 (fun j => if j < k then ((byt n j : Nat) : Int) else 0)) ∧ w.grownBy wr none) (fun i _ => 8 - (intOf i).toNat)
  case atStart =>
    refine ⟨0, by omega, rfl, ?_, grown_alloc (grown_refl _ _) _⟩
    have h := Blk.new w 149 #[.int .u8 0, .int .u8 0, .int .u8 0, .int .u8 0, .int .u8 0, .int .u8 0, .int .u8 0, .int .u8 0]
    rw [zero8] at h
    exact h.congr (fun i _ => by rw [if_neg (Nat.not_lt_zero i)])
  case round =>
    obtain ⟨j, hj, rfl, h2, h3⟩ := hrel
    by_cases hlt : j < 8
    · have cb := h2.ints j hlt
      have fb := h2.frozen j
      have k0 : (0 : Int) ≤ (j : Int) := by omega
      have k1 : (j : Int) < 8 := by omega
      have EB : Hid ((n : Int) / 2 ^ (8 * j) % 256 = ((byt n j : Nat) : Int)) := byt_int n j
      have H2 : Hid (Blk wr w.heap.size 149 (arr .u8 8 (fun i => if i < j then ((byt n i : Nat) : Int) else 0))) := h2
      have H3 : Hid (w.grownBy wr none) := h3
      clear h2 h3
      go_wp2
      go_roundw
      case rel =>
        refine ⟨j + 1, by omega, by go_num, (H2.out.seti j _).congr (fun i hi => ?_), grown_set_new H3.out _ (Nat.le_refl _)⟩
        rw [EB.out]
        unfold upd
        by_cases e : i = j
        · rw [if_pos e, if_pos (by omega), e]
        · rw [if_neg e]
          dsimp only
          by_cases e2 : i < j
          · rw [if_pos e2, if_pos (by omega)]
          · rw [if_neg e2, if_neg (by omega)]
      case measure => simp [intOf]; omega
    · have e : j = 8 := by omega
      subst e
      have H2 : Hid (Blk wr w.heap.size 149 (arr .u8 8 (fun i => ((byt n i : Nat) : Int)))) := h2.congr (fun i hi => by rw [if_pos hi])
      have H3 : Hid (w.grownBy wr none) := h3
      clear h2 h3
      have k2 : (k : Int) ≤ 8 := by omega
      have R0 := num_run n k 8 hk8 _ _ _ H2.out
      rw [ER.out] at R0
      go_wp2
      go_ret
      exact ⟨rfl, H3.out⟩
end Go.Proofs.YtdodammplhlihaaGreatDoor.Tr
