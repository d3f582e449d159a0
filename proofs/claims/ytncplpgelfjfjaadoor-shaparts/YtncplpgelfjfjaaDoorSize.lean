/-
  The contract of sha.size: a text's length in eight bytes, the lowest first.
-/
import Derived.Test.YtncplpgelfjfjaaDoorSumAll
namespace Go.Proofs.YtncplpgelfjfjaaDoor
open Go.RowKit
def sizeB (n i : Nat) : Nat := n / 2 ^ (8 * i) % 256
def sizeL (n : Nat) : List UInt8 := (List.range 8).map (fun i => UInt8.ofNat (sizeB n i))
def sizeS (n : Nat) : ByteArray := ⟨(sizeL n).toArray⟩
theorem sizeL_len (n : Nat) : (sizeL n).length = 8 := by
  unfold sizeL
  rw [List.length_map, List.length_range]
theorem sizeL_at (n i : Nat) (h : i < (sizeL n).length) : (((sizeL n)[i].toNat : Nat) : Int) = ((sizeB n i : Nat) : Int) := by
  have e : (sizeL n)[i] = UInt8.ofNat (sizeB n i) := (List.getElem_map _).trans (by rw [List.getElem_range])
  rw [e, UInt8.toNat_ofNat', Nat.mod_eq_of_lt]
  exact Nat.mod_lt _ (by decide)
theorem zero8 : (#[.int .u8 0, .int .u8 0, .int .u8 0, .int .u8 0, .int .u8 0, .int .u8 0, .int .u8 0, .int .u8 0] : Array Value) = arr .u8 8 (fun _ => 0) := by rfl
theorem size_run (n : Nat) (w : World) (b : Nat) (t : TypeId) (h : Blk w b t (arr .u8 8 (fun i => (sizeB n i : Nat)))) : (convert 47 9 (.slice (some ⟨b, 0, none⟩) 8 8)).run Tryd.prog w = .ok (.string (sizeS n)) w := by
  have e := run_convert_bytes_back (P := Tryd.prog) w 47 9 5 ⟨b, 0, none⟩ 8 (sizeL n) Tryd.underlying47 Tryd.underlying5 Tryd.underlying9 (fun j hj => by
    rw [sizeL_at]
    have := h.ints j (by rw [sizeL_len] at hj; exact hj)
    rw [add_off]
    exact this)
  rw [sizeL_len] at e
  exact e
theorem sizeB_int (n i : Nat) : (n : Int) / 2 ^ (8 * i) % 256 = ((sizeB n i : Nat) : Int) := by
  unfold sizeB
  have e : ∀ m : Nat, (2 : Int) ^ m = ((2 ^ m : Nat) : Int) := fun m => (Int.natCast_pow 2 m).symm
  rw [e]
  generalize 2 ^ (8 * i) = m
  rfl
set_option maxRecDepth 100000 in
set_option maxHeartbeats 400000 in
theorem size_any (s : ByteArray) (w : World) (hs : s.size ≤ 1000000) : Calls Tryd.prog 27 #[.string s] w fun e w' => e = .returned (.string (sizeS s.size)) ∧ w.grownBy w' none := by
  obtain ⟨n, en⟩ : ∃ n, s.size = n := ⟨_, rfl⟩
  have i0 : (n : Int) ≤ 1000000 := by omega
  have i1 : (0 : Int) ≤ (n : Int) := by omega
  rw [en]
  obtain ⟨R, eR⟩ : ∃ R, sizeS n = R := ⟨_, rfl⟩
  rw [eR]
  have ER : Hid (sizeS n = R) := eR
  clear hs eR
  go_enter Tryd.func27, Tryd.ntmps27
  go_wp2
  go_loopw [9] (fun i wr => ∃ k : Nat, k ≤ 8 ∧ i = .int .i64 k ∧ Blk wr w.heap.size 57 (arr .u8 8 (fun j => if j < k then ((sizeB n j : Nat) : Int) else 0)) ∧ w.grownBy wr none) (fun i _ => 8 - (intOf i).toNat)
  case atStart =>
    refine ⟨0, by omega, rfl, ?_, grown_alloc (grown_refl _ _) _⟩
    have h := Blk.new w 57 #[.int .u8 0, .int .u8 0, .int .u8 0, .int .u8 0, .int .u8 0, .int .u8 0, .int .u8 0, .int .u8 0]
    rw [zero8] at h
    exact h.congr (fun i _ => by rw [if_neg (Nat.not_lt_zero i)])
  case round =>
    obtain ⟨k, hk, rfl, h2, h3⟩ := hrel
    by_cases hlt : k < 8
    · have cb := h2.ints k hlt
      have fb := h2.frozen k
      have k0 : (0 : Int) ≤ (k : Int) := by omega
      have k1 : (k : Int) < 8 := by omega
      have EB : Hid ((n : Int) / 2 ^ (8 * k) % 256 = ((sizeB n k : Nat) : Int)) := sizeB_int n k
      have H2 : Hid (Blk wr w.heap.size 57 (arr .u8 8 (fun j => if j < k then ((sizeB n j : Nat) : Int) else 0))) := h2
      have H3 : Hid (w.grownBy wr none) := h3
      clear h2 h3
      go_wp2
      go_roundw
      case rel =>
        refine ⟨k + 1, by omega, by go_num, (H2.out.seti k _).congr (fun i hi => ?_), grown_set_new H3.out _ (Nat.le_refl _)⟩
        rw [EB.out]
        unfold upd
        by_cases e : i = k
        · rw [if_pos e, if_pos (by omega), e]
        · rw [if_neg e]
          dsimp only
          by_cases e2 : i < k
          · rw [if_pos e2, if_pos (by omega)]
          · rw [if_neg e2, if_neg (by omega)]
      case measure => simp [intOf]; omega
    · have e : k = 8 := by omega
      subst e
      have H2 : Hid (Blk wr w.heap.size 57 (arr .u8 8 (fun i => ((sizeB n i : Nat) : Int)))) := h2.congr (fun i hi => by rw [if_pos hi])
      have H3 : Hid (w.grownBy wr none) := h3
      clear h2 h3
      have R := size_run n _ _ _ H2.out
      rw [ER.out] at R
      go_wp2
      go_ret
      exact ⟨rfl, H3.out⟩
end Go.Proofs.YtncplpgelfjfjaaDoor
