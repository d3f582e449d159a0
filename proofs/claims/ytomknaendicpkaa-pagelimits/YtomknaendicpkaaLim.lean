/-
  PageLimits: what its walk needs.
-/
import Derived.Test.YtomknaendicpkaaLimMath
import Derived.Test.YtomknaendicpkaaAwake
import Derived.Test.YtomknaendicpkaaFresh
import Derived.Test.YtomknaendicpkaaRef
import Derived.Laws.OwnMore
import Derived.Deep.QuietTactic
import Derived.BigQuiet
namespace Go.Proofs.Ytomknaendicpkaa
open Go.RowKit
theorem and_le (n : Int) (m : Nat) (hm : m < 1000) : ∃ k : Nat, bits .and .i64 n m = (k : Int) ∧ k ≤ m := by
  have h1 : (BitVec.ofInt 64 (m : Int)).toNat = m := by
    rw [BitVec.toNat_ofInt]
    omega
  have key : (BitVec.ofInt 64 n &&& BitVec.ofInt 64 (m : Int)).toNat ≤ m := by
    rw [BitVec.toNat_and, h1]
    exact Nat.and_le_right
  refine ⟨(BitVec.ofInt 64 n &&& BitVec.ofInt 64 (m : Int)).toNat, ?_, key⟩
  show IntKind.i64.wrap ((BitVec.ofInt 64 n &&& BitVec.ofInt 64 (m : Int)).toNat : Nat) = _
  generalize (BitVec.ofInt 64 n &&& BitVec.ofInt 64 (m : Int)).toNat = x at *
  rw [IntKind.wrap_i64]
  omega
theorem kys_snoc (i k : Nat) : kys i k ++ [ky k i] = kys (i + 1) k := by
  unfold kys
  rw [List.range_succ, List.map_append]
  rfl
theorem made_arr (k : Nat) : madeCells (Value.int .u8 0).cells (k * 1) = arr .u8 k (fun _ => 0) := by
  apply Array.ext
  · rw [size_madeCells, arr_size, Nat.mul_one]
  · intro i h1 h2
    rw [arr_size] at h2
    simp [madeCells, arr, Value.cells]
    rw [Nat.mod_one]
    rfl
theorem info5' : (Try.prog.info? 5).map (fun i => (i.zero, i.size, i.bytes)) = some (some (.int .u8 0), 1, 1) := info5
theorem make_bytes (k : Nat) (w : World) (hk : k ≤ 10000) : (Instr.makeSlice 48 (.int .i64 k) (.int .i64 k)).run Try.prog w = .ok (.slice (some ⟨w.heap.size, 0, none⟩) k k) (w.alloc (.cells (arr .u8 k (fun _ => 0)) 5)) := by
  obtain ⟨i5, hi, hz0, hz1, hz2⟩ := info_parts info5
  have h := run_make (P := Try.prog) w 48 5 i5 _ Try.underlying48 hi hz0 .i64 .i64 k k (by omega) (Int.le_refl _) (by rw [hz2]; omega) (by omega)
  rw [hz1, Int.toNat_natCast, made_arr] at h
  exact h
theorem bytes_own {w : World} {b k : Nat} (c : Nat) (f : Nat → Int) (h : Blk w b 5 (arr .u8 k f)) (hk : k ≤ 10000) (hc : c < 256) (hf : ∀ i, i < k → f i = c) : w.ownsRow b 5 1 (.slice (some ⟨b, 0, none⟩) k k) (List.replicate k (UInt8.ofNat c)).length (byL (List.replicate k (UInt8.ofNat c))) := by
  have e : (arr .u8 k f).toList = byL (List.replicate k (UInt8.ofNat c)) := by
    apply List.ext_getElem
    · simp [arr, byL]
    · intro i h1 h2
      have hi : i < k := by simpa [arr] using h1
      simp [arr, byL, hf i hi]
      omega
  refine ⟨by simp [byL], Or.inr ⟨b, k, _, by simp, Nat.le_refl _, h, by simp, by unfold maxLen; omega, by rw [arr_size]; omega, ?_⟩⟩
  rw [e]
  apply List.take_of_length_le
  simp [byL]
def vlL (n V : Nat) : List ByteArray := (List.replicate n ⟨#[]⟩).set (n - 1) (zeros V)
theorem vlL_len (n V : Nat) : (vlL n V).length = n := by simp [vlL]
theorem zeros_size (V : Nat) : (zeros V).size = V := by
  show (List.replicate V _).toArray.size = V
  simp
theorem vlL_long (n V : Nat) (hn : 0 < n) (hV : ¬ V ≤ 8192) : (vlL n V).any longB = true := by
  rw [List.any_eq_true]
  refine ⟨zeros V, ?_, ?_⟩
  · unfold vlL
    rw [List.mem_iff_getElem]
    exact ⟨n - 1, by simp; omega, by simp⟩
  · unfold longB
    rw [zeros_size]
    exact decide_eq_true (by omega)
theorem vlL_ok (n V : Nat) (hV : V ≤ 8192) : (vlL n V).any longB = false := by
  rw [List.any_eq_false]
  intro x hx
  unfold vlL at hx
  rcases List.mem_or_eq_of_mem_set hx with h | h
  · have := List.eq_of_mem_replicate h
    subst this
    decide
  · subst h
    unfold longB
    rw [zeros_size]
    simp
    omega
theorem mayK_eq (l : List ByteArray) : mayK l = (!decide (8 < (l.length : Int)) && riseB ⟨#[]⟩ l) := rfl
theorem lim_many (n k : Nat) (V : List ByteArray) (kd : List Int) (h : ¬ n ≤ 8) : mayP ⟨true, kys n k, V, kd⟩ = false := by
  unfold mayP
  rw [mayK_eq, decide_eq_true (p := 8 < ((kys n k).length : Int)) (by rw [kys_len]; omega)]
  simp
theorem lim_key (n k : Nat) (V : List ByteArray) (kd : List Int) (hn : 0 < n) (h : ¬ 1 ≤ k ∨ ¬ k ≤ 64) : mayP ⟨true, kys n k, V, kd⟩ = false := by
  obtain ⟨m, rfl⟩ : ∃ m, n = m + 1 := ⟨n - 1, by omega⟩
  have hr : riseB ⟨#[]⟩ (kys (m + 1) k) = false := by
    rcases h with h | h
    · obtain rfl : k = 0 := by omega
      exact rise_zero m
    · exact rise_long m k (by omega)
  unfold mayP
  rw [mayK_eq, hr]
  simp
theorem lim_val (n k V : Nat) (hn : 0 < n) (h : ¬ V ≤ 8192) : mayP ⟨true, kys n k, vlL n V, []⟩ = false := by
  unfold mayP
  rw [rest_leaf_long (vlL_long n V hn h)]
  simp
theorem lim_kids (n k : Nat) (V : List ByteArray) : mayP ⟨true, kys n k, V, [0]⟩ = false := by
  unfold mayP
  rw [rest_leaf_bad (Or.inl (by decide))]
  simp
theorem lim_ok (n k V : Nat) (h8 : n ≤ 8) (h1 : 1 ≤ k) (h64 : k ≤ 64) (hV : V ≤ 8192) : mayP ⟨true, kys n k, vlL n V, []⟩ = true := by
  obtain ⟨m, rfl⟩ : ∃ m, k = m + 1 := ⟨k - 1, by omega⟩
  unfold mayP
  rw [mayK_eq, decide_eq_false (p := 8 < ((kys n (m + 1)).length : Int)) (by rw [kys_len]; omega), rise_kys n m (by omega) h64, rest_leaf_ok rfl (by rw [vlL_len, kys_len]) (vlL_ok n V hV)]
  rfl
theorem lim_none (k : Nat) : mayP ⟨true, kys 0 k, [], []⟩ = true := by
  unfold mayP
  rw [mayK_eq]
  rfl
theorem lim_twice (n k : Nat) (V : List ByteArray) (kd : List Int) (h : 1 < n) : mayP ⟨true, (kys n k).set 1 (ky k 0), V, kd⟩ = false := by
  obtain ⟨m, rfl⟩ : ∃ m, n = m + 2 := ⟨n - 2, by omega⟩
  have e : ∃ r, (kys (m + 2) k).set 1 (ky k 0) = ky k 0 :: ky k 0 :: r := by
    unfold kys
    rw [List.range_succ_eq_map, List.map_cons, List.range_succ_eq_map]
    exact ⟨_, rfl⟩
  obtain ⟨r, hr⟩ := e
  unfold mayP
  rw [mayK_eq, hr, rise_twice]
  simp
theorem row_set {w : World} {base n : Nat} {v : Value} {l : List ByteArray} (t : ByteArray) (j : Nat) (hj : j < l.length) (h : w.ownsRow base 9 1 v n (strs l)) : ∃ g cap, v = .slice (some ⟨g, 0, none⟩) n cap ∧ base ≤ g ∧ v.ownBlock = some g ∧ w.cell? ⟨g, j, none⟩ = some (.string l[j]) ∧ w.frozen? ⟨g, j, none⟩ = false ∧ (w.setCell ⟨g, j, none⟩ (.string t)).ownsRow base 9 1 v n (strs (l.set j t)) := by
  have h0 := h
  obtain ⟨h1, h2⟩ := h
  have hn : n = l.length := by simp [strs] at h1; omega
  rcases h2 with ⟨_, e⟩ | ⟨g, cap, cur, rfl, hb, hh, hcap, hmx, hsz, htk⟩
  · omega
  · have hB : Blk w g 9 cur := hh
    refine ⟨g, cap, rfl, hb, rfl, ?_, hB.frozen j, ⟨by simp [strs]; omega, Or.inr ⟨g, cap, cur.setIfInBounds j (.string t), rfl, hb, hB.set j _, hcap, hmx, by simpa using hsz, ?_⟩⟩⟩
    · have := h0.cellAt j (by omega)
      rw [this]
      simp [strs, hj]
    · have e1 : (cur.setIfInBounds j (.string t)).toList = cur.toList.set j (.string t) := by simp
      rw [e1, List.take_set, htk]
      unfold strs
      rw [List.map_set]
theorem zeros_own {w : World} {b k : Nat} (h : Blk w b 5 (arr .u8 k (fun _ => 0))) (hk : k ≤ 10000) : (convert 48 9 (.slice (some ⟨b, 0, none⟩) k k)).run Try.prog w = .ok (.string (zeros k)) w := owned_str _ w _ _ (bytes_own 0 _ h hk (by omega) (fun _ _ => rfl))
end Go.Proofs.Ytomknaendicpkaa
