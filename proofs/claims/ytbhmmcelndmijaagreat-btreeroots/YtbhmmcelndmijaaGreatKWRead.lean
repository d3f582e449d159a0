/-
  The contract of wire.Number: a number's lowest bytes, the lowest first. The contract of wire.Number: a number's lowest bytes, the lowest first. The contracts of the reader's small functions: what a reader holds, what ends it, what is taken of it.
-/
import Derived.Test.YtbhmmcelndmijaaGreatKWClone
import Derived.WalkKit
import Derived.Laws.IdiomStrings
namespace Go.Proofs.YtbhmmcelndmijaaGreat.Pa
open Go.RowKit
/-- The byte at a place. -/
def byt (n i : Nat) : Nat := n / 2 ^ (8 * i) % 256
def numL (n k : Nat) : List UInt8 := (List.range k).map (fun i => UInt8.ofNat (byt n i))
def numS (n k : Nat) : ByteArray := ⟨(numL n k).toArray⟩
theorem numL_len (n k : Nat) : (numL n k).length = k := by
  unfold numL
  rw [List.length_map, List.length_range]
theorem numL_at (n k i : Nat) (h : i < (numL n k).length) : (((numL n k)[i].toNat : Nat) : Int) = ((byt n i : Nat) : Int) := by
  have e : (numL n k)[i] = UInt8.ofNat (byt n i) := (List.getElem_map _).trans (by rw [List.getElem_range])
  rw [e, UInt8.toNat_ofNat', Nat.mod_eq_of_lt]
  exact Nat.mod_lt _ (by decide)
theorem add_off (b j : Nat) : (⟨b, 0, none⟩ : Addr).add j = ⟨b, j, none⟩ := by
  cases j <;> simp [Addr.add]
theorem zero8 : (#[.int .u8 0, .int .u8 0, .int .u8 0, .int .u8 0, .int .u8 0, .int .u8 0, .int .u8 0, .int .u8 0] : Array Value) = arr .u8 8 (fun _ => 0) := by rfl
theorem num_run (n k cap : Nat) (hk : k ≤ 8) (w : World) (b : Nat) (t : TypeId) (h : Blk w b t (arr .u8 8 (fun i => (byt n i : Nat)))) : (convert 85 9 (.slice (some ⟨b, 0, none⟩) k cap)).run Tryz.prog w = .ok (.string (numS n k)) w := by
  have e := run_convert_bytes_back (P := Tryz.prog) w 85 9 5 ⟨b, 0, none⟩ cap (numL n k) Tryz.underlying85 Tryz.underlying5 Tryz.underlying9 (fun j hj => by
    rw [numL_at]
    have := h.ints j (by rw [numL_len] at hj; omega)
    rw [add_off]
    exact this)
  rw [numL_len] at e
  exact e
theorem byt_int (n i : Nat) : (n : Int) / 2 ^ (8 * i) % 256 = ((byt n i : Nat) : Int) := by
  unfold byt
  have e : ∀ m : Nat, (2 : Int) ^ m = ((2 ^ m : Nat) : Int) := fun m => (Int.natCast_pow 2 m).symm
  rw [e]
  generalize 2 ^ (8 * i) = m
  rfl
/-- How many bytes are asked for. -/
def asked (b : Int) : Nat := (min (max b 0) 8).toNat
set_option maxRecDepth 100000 in
set_option maxHeartbeats 400000 in
theorem number_any (n : Nat) (bytes : Int) (w : World) (hn : n < 18446744073709551616) : Calls Tryz.prog 130 #[.int .u64 n, .int .i64 bytes] w fun e w' => e = .returned (.string (numS n (asked bytes))) ∧ w.grownBy w' none := by
  have i0 : (n : Int) < 18446744073709551616 := by omega
  have i1 : (0 : Int) ≤ (n : Int) := by omega
  obtain ⟨k, ek⟩ : ∃ k, asked bytes = k := ⟨_, rfl⟩
  have hk8 : k ≤ 8 := by rw [← ek]; unfold asked; omega
  have hmm : min (max bytes 0) 8 = (k : Int) := by rw [← ek]; unfold asked; omega
  rw [ek]
  obtain ⟨R, eR⟩ : ∃ R, numS n k = R := ⟨_, rfl⟩
  rw [eR]
  have ER : Hid (numS n k = R) := eR
  clear eR ek hn
  go_enter Tryz.func130, Tryz.ntmps130
  go_wp2
  go_loopw [7] (fun i wr => ∃ k : Nat, k ≤ 8 ∧ i = .int .i64 k ∧ Blk wr w.heap.size 196 (arr .u8 8 (fun j => if j < k then ((byt n j : Nat) : Int) else 0)) ∧ w.grownBy wr none) (fun i _ => 8 - (intOf i).toNat)
  case atStart =>
    refine ⟨0, by omega, rfl, ?_, grown_alloc (grown_refl _ _) _⟩
    have h := Blk.new w 196 #[.int .u8 0, .int .u8 0, .int .u8 0, .int .u8 0, .int .u8 0, .int .u8 0, .int .u8 0, .int .u8 0]
    rw [zero8] at h
    exact h.congr (fun i _ => by rw [if_neg (Nat.not_lt_zero i)])
  case round =>
    obtain ⟨j, hj, rfl, h2, h3⟩ := hrel
    by_cases hlt : j < 8
    · have cb := h2.ints j hlt
      have fb := h2.frozen j
      have k0 : (0 : Int) ≤ (j : Int) := by omega
      have k1 : (j : Int) < 8 := by omega
      have EB : Hid ((n : Int) / 2 ^ (8 * j) % 256 = ((byt n j : Nat) : Int)) := byt_int n j
      have H2 : Hid (Blk wr w.heap.size 196 (arr .u8 8 (fun i => if i < j then ((byt n i : Nat) : Int) else 0))) := h2
      have H3 : Hid (w.grownBy wr none) := h3
      clear h2 h3
      go_wp2
      go_roundw
      case rel =>
        refine ⟨j + 1, by omega, by go_num, (H2.out.seti j _).congr (fun i hi => ?_), grown_set_new H3.out _ (Nat.le_refl _)⟩
        rw [EB.out]
        unfold upd
        by_cases e : i = j
        · rw [if_pos e, if_pos (by omega), e]
        · rw [if_neg e]
          dsimp only
          by_cases e2 : i < j
          · rw [if_pos e2, if_pos (by omega)]
          · rw [if_neg e2, if_neg (by omega)]
      case measure => simp [intOf]; omega
    · have e : j = 8 := by omega
      subst e
      have H2 : Hid (Blk wr w.heap.size 196 (arr .u8 8 (fun i => ((byt n i : Nat) : Int)))) := h2.congr (fun i hi => by rw [if_pos hi])
      have H3 : Hid (w.grownBy wr none) := h3
      clear h2 h3
      have k2 : (k : Int) ≤ 8 := by omega
      have R0 := num_run n k 8 hk8 _ _ _ H2.out
      rw [ER.out] at R0
      go_wp2
      go_ret
      exact ⟨rfl, H3.out⟩
end Go.Proofs.YtbhmmcelndmijaaGreat.Pa
namespace Go.Proofs.YtbhmmcelndmijaaGreat.Wi
open Go.RowKit
/-- The byte at a place. -/
def byt (n i : Nat) : Nat := n / 2 ^ (8 * i) % 256
def numL (n k : Nat) : List UInt8 := (List.range k).map (fun i => UInt8.ofNat (byt n i))
def numS (n k : Nat) : ByteArray := ⟨(numL n k).toArray⟩
theorem numL_len (n k : Nat) : (numL n k).length = k := by
  unfold numL
  rw [List.length_map, List.length_range]
theorem numL_at (n k i : Nat) (h : i < (numL n k).length) : (((numL n k)[i].toNat : Nat) : Int) = ((byt n i : Nat) : Int) := by
  have e : (numL n k)[i] = UInt8.ofNat (byt n i) := (List.getElem_map _).trans (by rw [List.getElem_range])
  rw [e, UInt8.toNat_ofNat', Nat.mod_eq_of_lt]
  exact Nat.mod_lt _ (by decide)
theorem add_off (b j : Nat) : (⟨b, 0, none⟩ : Addr).add j = ⟨b, j, none⟩ := by
  cases j <;> simp [Addr.add]
theorem zero8 : (#[.int .u8 0, .int .u8 0, .int .u8 0, .int .u8 0, .int .u8 0, .int .u8 0, .int .u8 0, .int .u8 0] : Array Value) = arr .u8 8 (fun _ => 0) := by rfl
theorem num_run (n k cap : Nat) (hk : k ≤ 8) (w : World) (b : Nat) (t : TypeId) (h : Blk w b t (arr .u8 8 (fun i => (byt n i : Nat)))) : (convert 85 9 (.slice (some ⟨b, 0, none⟩) k cap)).run Tryz.prog w = .ok (.string (numS n k)) w := by
  have e := run_convert_bytes_back (P := Tryz.prog) w 85 9 5 ⟨b, 0, none⟩ cap (numL n k) Tryz.underlying85 Tryz.underlying5 Tryz.underlying9 (fun j hj => by
    rw [numL_at]
    have := h.ints j (by rw [numL_len] at hj; omega)
    rw [add_off]
    exact this)
  rw [numL_len] at e
  exact e
theorem byt_int (n i : Nat) : (n : Int) / 2 ^ (8 * i) % 256 = ((byt n i : Nat) : Int) := by
  unfold byt
  have e : ∀ m : Nat, (2 : Int) ^ m = ((2 ^ m : Nat) : Int) := fun m => (Int.natCast_pow 2 m).symm
  rw [e]
  generalize 2 ^ (8 * i) = m
  rfl
/-- How many bytes are asked for. -/
def asked (b : Int) : Nat := (min (max b 0) 8).toNat
set_option maxRecDepth 100000 in
set_option maxHeartbeats 400000 in
theorem number_any (n : Nat) (bytes : Int) (w : World) (hn : n < 18446744073709551616) : Calls Tryz.prog 130 #[.int .u64 n, .int .i64 bytes] w fun e w' => e = .returned (.string (numS n (asked bytes))) ∧ w.grownBy w' none := by
  have i0 : (n : Int) < 18446744073709551616 := by omega
  have i1 : (0 : Int) ≤ (n : Int) := by omega
  obtain ⟨k, ek⟩ : ∃ k, asked bytes = k := ⟨_, rfl⟩
  have hk8 : k ≤ 8 := by rw [← ek]; unfold asked; omega
  have hmm : min (max bytes 0) 8 = (k : Int) := by rw [← ek]; unfold asked; omega
  rw [ek]
  obtain ⟨R, eR⟩ : ∃ R, numS n k = R := ⟨_, rfl⟩
  rw [eR]
  have ER : Hid (numS n k = R) := eR
  clear eR ek hn
  go_enter Tryz.func130, Tryz.ntmps130
  go_wp2
  go_loopw [7] (fun i wr => ∃ k : Nat, k ≤ 8 ∧ i = .int .i64 k ∧ Blk wr w.heap.size 196 (arr .u8 8 (fun j => if j < k then ((byt n j : Nat) : Int) else 0)) ∧ w.grownBy wr none) (fun i _ => 8 - (intOf i).toNat)
  case atStart =>
    refine ⟨0, by omega, rfl, ?_, grown_alloc (grown_refl _ _) _⟩
    have h := Blk.new w 196 #[.int .u8 0, .int .u8 0, .int .u8 0, .int .u8 0, .int .u8 0, .int .u8 0, .int .u8 0, .int .u8 0]
    rw [zero8] at h
    exact h.congr (fun i _ => by rw [if_neg (Nat.not_lt_zero i)])
  case round =>
    obtain ⟨j, hj, rfl, h2, h3⟩ := hrel
    by_cases hlt : j < 8
    · have cb := h2.ints j hlt
      have fb := h2.frozen j
      have k0 : (0 : Int) ≤ (j : Int) := by omega
      have k1 : (j : Int) < 8 := by omega
      have EB : Hid ((n : Int) / 2 ^ (8 * j) % 256 = ((byt n j : Nat) : Int)) := byt_int n j
      have H2 : Hid (Blk wr w.heap.size 196 (arr .u8 8 (fun i => if i < j then ((byt n i : Nat) : Int) else 0))) := h2
      have H3 : Hid (w.grownBy wr none) := h3
      clear h2 h3
      go_wp2
      go_roundw
      case rel =>
        refine ⟨j + 1, by omega, by go_num, (H2.out.seti j _).congr (fun i hi => ?_), grown_set_new H3.out _ (Nat.le_refl _)⟩
        rw [EB.out]
        unfold upd
        by_cases e : i = j
        · rw [if_pos e, if_pos (by omega), e]
        · rw [if_neg e]
          dsimp only
          by_cases e2 : i < j
          · rw [if_pos e2, if_pos (by omega)]
          · rw [if_neg e2, if_neg (by omega)]
      case measure => simp [intOf]; omega
    · have e : j = 8 := by omega
      subst e
      have H2 : Hid (Blk wr w.heap.size 196 (arr .u8 8 (fun i => ((byt n i : Nat) : Int)))) := h2.congr (fun i hi => by rw [if_pos hi])
      have H3 : Hid (w.grownBy wr none) := h3
      clear h2 h3
      have k2 : (k : Int) ≤ 8 := by omega
      have R0 := num_run n k 8 hk8 _ _ _ H2.out
      rw [ER.out] at R0
      go_wp2
      go_ret
      exact ⟨rfl, H3.out⟩
end Go.Proofs.YtbhmmcelndmijaaGreat.Wi
namespace Go.Proofs.YtbhmmcelndmijaaGreat.Wi
open Go.RowKit
/-- A reader's cells: what is left, how many were taken, the error. -/
def rd (s : ByteArray) (at' : Nat) (e : Nat) : Array Value := #[.string s, .int .i64 at', .int .i64 e]
/-- The reader behind an error. -/
def failS (s : ByteArray) (e f : Nat) : ByteArray := if f = 0 ∨ e ≠ 0 then s else ⟨#[]⟩
def failE (e f : Nat) : Nat := if f = 0 ∨ e ≠ 0 then e else f
theorem _root_.Go.Proofs.YtbhmmcelndmijaaGreat.Blk.rd0 {w : World} {b : Nat} {t : TypeId} {s : ByteArray} {a e : Nat} (h : Blk w b t (rd s a e)) : w.cell? ⟨b, 0, none⟩ = some (.string s) := by rw [h.cell]; rfl
theorem _root_.Go.Proofs.YtbhmmcelndmijaaGreat.Blk.rd1 {w : World} {b : Nat} {t : TypeId} {s : ByteArray} {a e : Nat} (h : Blk w b t (rd s a e)) : w.cell? ⟨b, 1, none⟩ = some (.int .i64 a) := by rw [h.cell]; rfl
theorem _root_.Go.Proofs.YtbhmmcelndmijaaGreat.Blk.rd2 {w : World} {b : Nat} {t : TypeId} {s : ByteArray} {a e : Nat} (h : Blk w b t (rd s a e)) : w.cell? ⟨b, 2, none⟩ = some (.int .i64 e) := by rw [h.cell]; rfl
theorem _root_.Go.Proofs.YtbhmmcelndmijaaGreat.Blk.set0 {w : World} {b : Nat} {t : TypeId} {s : ByteArray} {a e : Nat} (h : Blk w b t (rd s a e)) (s' : ByteArray) : Blk (w.setCell ⟨b, 0, none⟩ (.string s')) b t (rd s' a e) := h.set 0 _
theorem _root_.Go.Proofs.YtbhmmcelndmijaaGreat.Blk.set1 {w : World} {b : Nat} {t : TypeId} {s : ByteArray} {a e : Nat} (h : Blk w b t (rd s a e)) (a' : Nat) : Blk (w.setCell ⟨b, 1, none⟩ (.int .i64 a')) b t (rd s a' e) := h.set 1 _
theorem _root_.Go.Proofs.YtbhmmcelndmijaaGreat.Blk.set2 {w : World} {b : Nat} {t : TypeId} {s : ByteArray} {a e : Nat} (h : Blk w b t (rd s a e)) (e' : Nat) : Blk (w.setCell ⟨b, 2, none⟩ (.int .i64 e')) b t (rd s a e') := h.set 2 _
set_option maxRecDepth 100000 in
set_option maxHeartbeats 400000 in
theorem newReader_any (s : ByteArray) (w : World) : Calls Tryz.prog 55 #[.string s] w fun e w' => e = .returned (.pointer (some ⟨w.heap.size, 0, none⟩)) ∧ Blk w' w.heap.size 141 (rd s 0 0) ∧ w.grownBy w' none := by
  go_enter Tryz.func55, Tryz.ntmps55
  go_wp2
  go_ret
  exact ⟨rfl, Blk.new _ _ _, grown_alloc (grown_refl _ _) _⟩
set_option maxRecDepth 100000 in
set_option maxHeartbeats 400000 in
theorem fail_any (b : Nat) (s : ByteArray) (a e f : Nat) (w : World) (h : Blk w b 141 (rd s a e)) : Calls Tryz.prog 80 #[.pointer (some ⟨b, 0, none⟩), .int .i64 f] w fun r w' => r = .returned (.tuple #[]) ∧ Blk w' b 141 (rd (failS s e f) a (failE e f)) ∧ w.grownBy w' (some b) := by
  have H : Hid (Blk w b 141 (rd s a e)) := h
  have c2 := h.rd2
  have c0 := h.rd0
  have f0 := h.frozen 0
  have f2 := h.frozen 2
  clear h
  by_cases hf : f = 0
  · subst hf
    go_enter Tryz.func80, Tryz.ntmps80
    go_wp2
    refine bodyPost_ret (results_none rfl _ _ _) rfl ?_
    refine ⟨rfl, ?_, grown_refl _ _⟩
    have e1 : failS s e 0 = s := by unfold failS; rw [if_pos (Or.inl rfl)]
    have e2 : failE e 0 = e := by unfold failE; rw [if_pos (Or.inl rfl)]
    rw [e1, e2]
    exact H.out
  · have hf' : ((f : Int) == 0) = false := by rw [beq_eq_false_iff_ne]; omega
    by_cases he : e = 0
    · subst he
      have e1 : failS s 0 f = ⟨#[]⟩ := by unfold failS; rw [if_neg (by simp; exact hf)]
      have e2 : failE 0 f = f := by unfold failE; rw [if_neg (by simp; exact hf)]
      rw [e1, e2]
      clear e1 e2
      go_enter Tryz.func80, Tryz.ntmps80
      go_wp2
      go_end0
      exact ⟨rfl, (H.out.set2 f).set0 _, grown_set (grown_set (grown_refl _ _) _ _) _ _⟩
    · have he' : ((e : Int) != 0) = true := by rw [bne_iff_ne]; omega
      have e1 : failS s e f = s := by unfold failS; rw [if_pos (Or.inr he)]
      have e2 : failE e f = e := by unfold failE; rw [if_pos (Or.inr he)]
      rw [e1, e2]
      clear e1 e2
      go_enter Tryz.func80, Tryz.ntmps80
      go_wp2
      refine bodyPost_ret (results_none rfl _ _ _) rfl ?_
      exact ⟨rfl, H.out, grown_refl _ _⟩
set_option maxRecDepth 100000 in
set_option maxHeartbeats 400000 in
theorem err_any (b : Nat) (s : ByteArray) (a e : Nat) (w : World) (h : Blk w b 141 (rd s a e)) : Calls Tryz.prog 81 #[.pointer (some ⟨b, 0, none⟩)] w fun r w' => r = .returned (.int .i64 e) ∧ w' = w := by
  have c2 := h.rd2
  clear h
  go_enter Tryz.func81, Tryz.ntmps81
  go_wp2
  go_ret
  exact ⟨rfl, rfl⟩
set_option maxRecDepth 100000 in
set_option maxHeartbeats 400000 in
theorem at_any (b : Nat) (s : ByteArray) (a e : Nat) (w : World) (h : Blk w b 141 (rd s a e)) : Calls Tryz.prog 110 #[.pointer (some ⟨b, 0, none⟩)] w fun r w' => r = .returned (.int .i64 a) ∧ w' = w := by
  have c2 := h.rd1
  clear h
  go_enter Tryz.func110, Tryz.ntmps110
  go_wp2
  go_ret
  exact ⟨rfl, rfl⟩
/-- The reader at its end. -/
def endF (s : ByteArray) : Nat := if 0 < s.size then 5 else 0
/-- What is taken, and the reader behind it. -/
def takeV (s : ByteArray) (n : Nat) : ByteArray := if s.size < n then ⟨#[]⟩ else s.extract 0 n
def takeS (s : ByteArray) (e n : Nat) : ByteArray := if s.size < n then failS s e 4 else s.extract n s.size
def takeA (s : ByteArray) (a n : Nat) : Nat := if s.size < n then a else a + n
def takeE (s : ByteArray) (e n : Nat) : Nat := if s.size < n then failE e 4 else e
set_option maxRecDepth 100000 in
set_option maxHeartbeats 400000 in
theorem take_any (b : Nat) (s : ByteArray) (a e n : Nat) (w : World) (h : Blk w b 141 (rd s a e)) (ha : (a : Int) + (s.size : Int) ≤ 9000000000000000000) (hn : (n : Int) ≤ 9223372036854775807) : Calls Tryz.prog 103 #[.pointer (some ⟨b, 0, none⟩), .int .i64 n] w fun r w' => r = .returned (.string (takeV s n)) ∧ Blk w' b 141 (rd (takeS s e n) (takeA s a n) (takeE s e n)) ∧ w.grownBy w' (some b) := by
  have H : Hid (Blk w b 141 (rd s a e)) := h
  have c0 := h.rd0
  have c1 := h.rd1
  have f0 := h.frozen 0
  have f1 := h.frozen 1
  clear h
  by_cases hlt : s.size < n
  · have d1 : (s.size : Int) < (n : Int) := by omega
    have e1 : takeV s n = ⟨#[]⟩ := if_pos hlt
    have e2 : takeS s e n = failS s e 4 := if_pos hlt
    have e3 : takeA s a n = a := if_pos hlt
    have e4 : takeE s e n = failE e 4 := if_pos hlt
    rw [e1, e2, e3, e4]
    clear e1 e2 e3 e4
    go_enter Tryz.func103, Tryz.ntmps103
    go_wp2_with (go_at_call 80; refine (fail_any b s a e 4 _ H.out).mono ?_; rintro r w1 ⟨rfl, hb1, hg1⟩; have B1 : Hid (Blk w1 b 141 (rd (failS s e 4) a (failE e 4))) := hb1; have G1 : Hid (w.grownBy w1 (some b)) := hg1; clear hb1 hg1)
    go_ret
    exact ⟨rfl, B1.out, G1.out⟩
  · have d1 : ¬ ((s.size : Int) < (n : Int)) := by omega
    have d2 : (n : Int) ≤ (s.size : Int) := by omega
    have d3 : (0 : Int) ≤ (n : Int) := by omega
    have d4 : (0 : Int) ≤ (a : Int) := by omega
    have e1 : takeV s n = s.extract 0 n := if_neg hlt
    have e2 : takeS s e n = s.extract n s.size := if_neg hlt
    have e3 : takeA s a n = a + n := if_neg hlt
    have e4 : takeE s e n = e := if_neg hlt
    rw [e1, e2, e3, e4]
    clear e1 e2 e3 e4
    go_enter Tryz.func103, Tryz.ntmps103
    go_wp2
    go_ret
    exact ⟨rfl, (H.out.set0 _).set1 (a + n), grown_set (grown_set (grown_refl _ _) _ _) _ _⟩
theorem takeV_size (s : ByteArray) (n : Nat) : (takeV s n).size ≤ s.size := by
  unfold takeV
  split
  · exact Nat.zero_le _
  · rw [ByteArray.size_extract]; omega
set_option maxRecDepth 100000 in
set_option maxHeartbeats 400000 in
theorem bytes_any (b : Nat) (s : ByteArray) (a e n : Nat) (w : World) (h : Blk w b 141 (rd s a e)) (ha : (a : Int) + (s.size : Int) ≤ 281474976710656) (hn : (n : Int) ≤ 9223372036854775807) : Calls Tryz.prog 123 #[.pointer (some ⟨b, 0, none⟩), .int .i64 n] w fun r w' => r = .returned (.string (takeV s n)) ∧ Blk w' b 141 (rd (takeS s e n) (takeA s a n) (takeE s e n)) ∧ w.grownBy w' (some b) := by
  have H : Hid (Blk w b 141 (rd s a e)) := h
  have hv := takeV_size s n
  clear h
  have d1 : ¬ ((n : Int) < 0) := by omega
  have C : Hid (Calls Tryz.prog 103 #[.pointer (some ⟨b, 0, none⟩), .int .i64 n] w fun r w' => r = .returned (.string (takeV s n)) ∧ Blk w' b 141 (rd (takeS s e n) (takeA s a n) (takeE s e n)) ∧ w.grownBy w' (some b)) := take_any b s a e n w H.out (by omega) hn
  generalize takeV s n = V at *
  generalize takeS s e n = S at *
  generalize takeA s a n = A at *
  generalize takeE s e n = E at *
  go_enter Tryz.func123, Tryz.ntmps123
  go_wp2_with (first | (go_at_call 103; refine C.out.mono ?_; rintro r w1 ⟨rfl, hb1, hg1⟩; have B1 : Hid (Blk w1 b 141 (rd S A E)) := hb1; have G1 : Hid (w.grownBy w1 (some b)) := hg1; clear hb1 hg1) | (go_at_call 131; refine (clone_any V _ (by omega)).mono ?_; rintro r w2 ⟨rfl, hg2⟩; have B2 : Hid (Blk w2 b 141 (rd S A E)) := B1.out.kept hg2 (by simp); have G2 : Hid (w.grownBy w2 (some b)) := grown_none G1.out hg2; clear hg2))
  go_ret
  exact ⟨rfl, B2.out, G2.out⟩
set_option maxRecDepth 100000 in
set_option maxHeartbeats 400000 in
theorem bytesNeg_any (b : Nat) (s : ByteArray) (a e : Nat) (n : Int) (w : World) (h : Blk w b 141 (rd s a e)) (hn : n < 0) : Calls Tryz.prog 123 #[.pointer (some ⟨b, 0, none⟩), .int .i64 n] w fun r w' => r = .returned (.string ⟨#[]⟩) ∧ Blk w' b 141 (rd (failS s e 1) a (failE e 1)) ∧ w.grownBy w' (some b) := by
  have H : Hid (Blk w b 141 (rd s a e)) := h
  clear h
  go_enter Tryz.func123, Tryz.ntmps123
  go_wp2_with (go_at_call 80; refine (fail_any b s a e 1 _ H.out).mono ?_; rintro r w1 ⟨rfl, hb1, hg1⟩; have B1 : Hid (Blk w1 b 141 (rd (failS s e 1) a (failE e 1))) := hb1; have G1 : Hid (w.grownBy w1 (some b)) := hg1; clear hb1 hg1)
  go_ret
  exact ⟨rfl, B1.out, G1.out⟩
/-- The number that bytes tell, the lowest first. -/
def leT (s : ByteArray) : Nat → Nat
  | 0 => 0
  | k + 1 => leT s k + (s.data.getD k 0).toNat * 2 ^ (8 * k)
theorem leT_lt (s : ByteArray) (k : Nat) : leT s k < 2 ^ (8 * k) := by
  induction k with
  | zero => exact Nat.one_pos
  | succ k ih =>
    have hb : (s.data.getD k 0).toNat < 256 := UInt8.toNat_lt _
    rw [show 8 * (k + 1) = 8 * k + 8 by omega, Nat.pow_add]
    show leT s k + (s.data.getD k 0).toNat * 2 ^ (8 * k) < 2 ^ (8 * k) * 256
    have h2 : (s.data.getD k 0).toNat * 2 ^ (8 * k) ≤ 255 * 2 ^ (8 * k) := Nat.mul_le_mul_right _ (by omega)
    omega
theorem getD_byte (a : ByteArray) (k : Nat) (h : k < a.size) : a.data.getD k 0 = a[k]'h := by
  rw [Array.getD_eq_getD_getElem?, Array.getElem?_eq_getElem h]
  rfl
theorem le_step (s : ByteArray) (k : Nat) (hk : k < 8) (hs : k < s.size) (x c : Nat) (hx : leT s k = x) (hc : (s[k]'hs).toNat = c) : bits .or .u64 (x : Int) (IntKind.u64.wrap ((c : Int) * 2 ^ (8 * k))) = ((leT s (k + 1) : Nat) : Int) := by
  have hlt := leT_lt s k
  have hc2 : c < 256 := by rw [← hc]; exact UInt8.toNat_lt _
  have e : ∀ m : Nat, (2 : Int) ^ m = ((2 ^ m : Nat) : Int) := fun m => (Int.natCast_pow 2 m).symm
  have hp : c * 2 ^ (8 * k) < 2 ^ 64 := by
    have h1 : c * 2 ^ (8 * k) ≤ 255 * 2 ^ (8 * k) := Nat.mul_le_mul_right _ (by omega)
    have h2 : 2 ^ (8 * k) ≤ 2 ^ 56 := Nat.pow_le_pow_right (by omega) (by omega)
    omega
  have hx2 : x < 2 ^ 64 := by
    rw [hx] at hlt
    have h2 : 2 ^ (8 * k) ≤ 2 ^ 56 := Nat.pow_le_pow_right (by omega) (by omega)
    omega
  rw [e, ← Int.natCast_mul, IntKind.wrap_u64, show ((c * 2 ^ (8 * k) : Nat) : Int) % 18446744073709551616 = ((c * 2 ^ (8 * k) : Nat) : Int) by omega, u64_or_nat _ _ hx2 hp, Nat.or_comm, nat_join (8 * k) _ _ (Nat.mul_mod_left _ _) (by rw [← hx]; exact hlt)]
  show _ = ((leT s k + (s.data.getD k 0).toNat * 2 ^ (8 * k) : Nat) : Int)
  rw [getD_byte s k hs, hc, hx, Nat.add_comm]
set_option maxRecDepth 100000 in
set_option maxHeartbeats 400000 in
theorem rnumber_any (b : Nat) (s : ByteArray) (a e n : Nat) (w : World) (h : Blk w b 141 (rd s a e)) (ha : (a : Int) + (s.size : Int) ≤ 281474976710656) (hn : n ≤ 8) : Calls Tryz.prog 76 #[.pointer (some ⟨b, 0, none⟩), .int .i64 n] w fun r w' => r = .returned (.int .u64 ((leT (takeV s n) (takeV s n).size : Nat) : Int)) ∧ Blk w' b 141 (rd (takeS s e n) (takeA s a n) (takeE s e n)) ∧ w.grownBy w' (some b) := by
  have H : Hid (Blk w b 141 (rd s a e)) := h
  clear h
  have hv : (takeV s n).size ≤ 8 := by
    unfold takeV
    split
    · exact Nat.zero_le _
    · rw [ByteArray.size_extract]; omega
  have d1 : ¬ ((n : Int) < 0) := by omega
  have d2 : ¬ ((8 : Int) < (n : Int)) := by omega
  have C : Hid (Calls Tryz.prog 103 #[.pointer (some ⟨b, 0, none⟩), .int .i64 n] w fun r w' => r = .returned (.string (takeV s n)) ∧ Blk w' b 141 (rd (takeS s e n) (takeA s a n) (takeE s e n)) ∧ w.grownBy w' (some b)) := take_any b s a e n w H.out (by omega) (by omega)
  generalize takeV s n = V at *
  generalize takeS s e n = S at *
  generalize takeA s a n = A at *
  generalize takeE s e n = E at *
  have v0 : (V.size : Int) ≤ 8 := by omega
  go_enter Tryz.func76, Tryz.ntmps76
  go_wp2_with (go_at_call 103; refine C.out.mono ?_; rintro r w1 ⟨rfl, hb1, hg1⟩; have B1 : Hid (Blk w1 b 141 (rd S A E)) := hb1; have G1 : Hid (w.grownBy w1 (some b)) := hg1; clear hb1 hg1)
  go_loop [6, 23] (fun x i => ∃ k : Nat, k ≤ V.size ∧ i = .int .i64 k ∧ x = .int .u64 ((leT V k : Nat) : Int)) (fun _ i => V.size - (intOf i).toNat)
  case atStart => exact ⟨0, Nat.zero_le _, rfl, rfl⟩
  case round =>
    obtain ⟨k, hk, rfl, rfl⟩ := hrel
    by_cases hlt : k < V.size
    · obtain ⟨c, ec⟩ : ∃ c : Nat, (V[k]'hlt).toNat = c := ⟨_, rfl⟩
      obtain ⟨x, ex⟩ : ∃ x, leT V k = x := ⟨_, rfl⟩
      have ES : Hid (bits .or .u64 (x : Int) (IntKind.u64.wrap ((c : Int) * 2 ^ (8 * k))) = ((leT V (k + 1) : Nat) : Int)) := le_step V k (by omega) hlt x c ex ec
      have c256 : c < 256 := by rw [← ec]; exact UInt8.toNat_lt _
      have k0 : (0 : Int) ≤ (k : Int) := by omega
      have k1 : (k : Int) < (V.size : Int) := by omega
      have k2 : (k : Int) < 8 := by omega
      have c0 : (0 : Int) ≤ (c : Int) := by omega
      have c1 : (c : Int) < 256 := by omega
      rw [ex]
      clear ex
      go_wp2
      go_round
      case rel => exact ⟨k + 1, by omega, by go_num, by rw [ES.out]⟩
      case measure => simp [intOf]; omega
    · have e : k = V.size := by omega
      subst e
      go_wp2
      go_ret
      exact ⟨rfl, B1.out, G1.out⟩
set_option maxRecDepth 100000 in
set_option maxHeartbeats 400000 in
theorem rnumberBad_any (b : Nat) (s : ByteArray) (a e : Nat) (n : Int) (w : World) (h : Blk w b 141 (rd s a e)) (hn : n < 0 ∨ 8 < n) : Calls Tryz.prog 76 #[.pointer (some ⟨b, 0, none⟩), .int .i64 n] w fun r w' => r = .returned (.int .u64 0) ∧ Blk w' b 141 (rd (failS s e 1) a (failE e 1)) ∧ w.grownBy w' (some b) := by
  have H : Hid (Blk w b 141 (rd s a e)) := h
  clear h
  by_cases h0 : n < 0
  · clear hn
    go_enter Tryz.func76, Tryz.ntmps76
    go_wp2_with (go_at_call 80; refine (fail_any b s a e 1 _ H.out).mono ?_; rintro r w1 ⟨rfl, hb1, hg1⟩; have B1 : Hid (Blk w1 b 141 (rd (failS s e 1) a (failE e 1))) := hb1; have G1 : Hid (w.grownBy w1 (some b)) := hg1; clear hb1 hg1)
    go_ret
    exact ⟨rfl, B1.out, G1.out⟩
  · have h8 : 8 < n := by omega
    clear hn
    go_enter Tryz.func76, Tryz.ntmps76
    go_wp2_with (go_at_call 80; refine (fail_any b s a e 1 _ H.out).mono ?_; rintro r w1 ⟨rfl, hb1, hg1⟩; have B1 : Hid (Blk w1 b 141 (rd (failS s e 1) a (failE e 1))) := hb1; have G1 : Hid (w.grownBy w1 (some b)) := hg1; clear hb1 hg1)
    go_ret
    exact ⟨rfl, B1.out, G1.out⟩
end Go.Proofs.YtbhmmcelndmijaaGreat.Wi
