/-
  The contracts of the reader's small functions: what a reader holds, what ends it, what is taken of it. The contracts of the writer: bytes that grow. The contracts of Reader.Count and Reader.Text, and of the laws' own look whether the program is awake.
-/
import Derived.Test.YtbhmmcelndmijaaGreatKWNum
import Derived.Lib.AppendStr
namespace Go.Proofs.YtbhmmcelndmijaaGreat.Wi
open Go.RowKit
/-- A reader's cells: what is left, how many were taken, the error. -/
def rd (s : ByteArray) (at' : Nat) (e : Nat) : Array Value := #[.string s, .int .i64 at', .int .i64 e]
/-- The reader behind an error. -/
def failS (s : ByteArray) (e f : Nat) : ByteArray := if f = 0 ∨ e ≠ 0 then s else ⟨#[]⟩
def failE (e f : Nat) : Nat := if f = 0 ∨ e ≠ 0 then e else f
theorem _root_.Go.Proofs.YtbhmmcelndmijaaGreat.Blk.rd0 {w : World} {b : Nat} {t : TypeId} {s : ByteArray} {a e : Nat} (h : Blk w b t (rd s a e)) : w.cell? ⟨b, 0, none⟩ = some (.string s) := by rw [h.cell]; rfl
theorem _root_.Go.Proofs.YtbhmmcelndmijaaGreat.Blk.rd1 {w : World} {b : Nat} {t : TypeId} {s : ByteArray} {a e : Nat} (h : Blk w b t (rd s a e)) : w.cell? ⟨b, 1, none⟩ = some (.int .i64 a) := by rw [h.cell]; rfl
theorem _root_.Go.Proofs.YtbhmmcelndmijaaGreat.Blk.rd2 {w : World} {b : Nat} {t : TypeId} {s : ByteArray} {a e : Nat} (h : Blk w b t (rd s a e)) : w.cell? ⟨b, 2, none⟩ = some (.int .i64 e) := by rw [h.cell]; rfl
theorem _root_.Go.Proofs.YtbhmmcelndmijaaGreat.Blk.set0 {w : World} {b : Nat} {t : TypeId} {s : ByteArray} {a e : Nat} (h : Blk w b t (rd s a e)) (s' : ByteArray) : Blk (w.setCell ⟨b, 0, none⟩ (.string s')) b t (rd s' a e) := h.set 0 _
theorem _root_.Go.Proofs.YtbhmmcelndmijaaGreat.Blk.set1 {w : World} {b : Nat} {t : TypeId} {s : ByteArray} {a e : Nat} (h : Blk w b t (rd s a e)) (a' : Nat) : Blk (w.setCell ⟨b, 1, none⟩ (.int .i64 a')) b t (rd s a' e) := h.set 1 _
theorem _root_.Go.Proofs.YtbhmmcelndmijaaGreat.Blk.set2 {w : World} {b : Nat} {t : TypeId} {s : ByteArray} {a e : Nat} (h : Blk w b t (rd s a e)) (e' : Nat) : Blk (w.setCell ⟨b, 2, none⟩ (.int .i64 e')) b t (rd s a e') := h.set 2 _
set_option maxRecDepth 100000 in
set_option maxHeartbeats 400000 in
theorem newReader_any (s : ByteArray) (w : World) : Calls Tryz.prog 55 #[.string s] w fun e w' => e = .returned (.pointer (some ⟨w.heap.size, 0, none⟩)) ∧ Blk w' w.heap.size 141 (rd s 0 0) ∧ w.grownBy w' none := by
  go_enter Tryz.func55, Tryz.ntmps55
  go_wp2
  go_ret
  exact ⟨rfl, Blk.new _ _ _, grown_alloc (grown_refl _ _) _⟩
set_option maxRecDepth 100000 in
set_option maxHeartbeats 400000 in
theorem fail_any (b : Nat) (s : ByteArray) (a e f : Nat) (w : World) (h : Blk w b 141 (rd s a e)) : Calls Tryz.prog 80 #[.pointer (some ⟨b, 0, none⟩), .int .i64 f] w fun r w' => r = .returned (.tuple #[]) ∧ Blk w' b 141 (rd (failS s e f) a (failE e f)) ∧ w.grownBy w' (some b) := by
  have H : Hid (Blk w b 141 (rd s a e)) := h
  have c2 := h.rd2
  have c0 := h.rd0
  have f0 := h.frozen 0
  have f2 := h.frozen 2
  clear h
  by_cases hf : f = 0
  · subst hf
    go_enter Tryz.func80, Tryz.ntmps80
    go_wp2
    refine bodyPost_ret (results_none rfl _ _ _) rfl ?_
    refine ⟨rfl, ?_, grown_refl _ _⟩
    have e1 : failS s e 0 = s := by unfold failS; rw [if_pos (Or.inl rfl)]
    have e2 : failE e 0 = e := by unfold failE; rw [if_pos (Or.inl rfl)]
    rw [e1, e2]
    exact H.out
  · have hf' : ((f : Int) == 0) = false := by rw [beq_eq_false_iff_ne]; omega
    by_cases he : e = 0
    · subst he
      have e1 : failS s 0 f = ⟨#[]⟩ := by unfold failS; rw [if_neg (by simp; exact hf)]
      have e2 : failE 0 f = f := by unfold failE; rw [if_neg (by simp; exact hf)]
      rw [e1, e2]
      clear e1 e2
      go_enter Tryz.func80, Tryz.ntmps80
      go_wp2
      go_end0
      exact ⟨rfl, (H.out.set2 f).set0 _, grown_set (grown_set (grown_refl _ _) _ _) _ _⟩
    · have he' : ((e : Int) != 0) = true := by rw [bne_iff_ne]; omega
      have e1 : failS s e f = s := by unfold failS; rw [if_pos (Or.inr he)]
      have e2 : failE e f = e := by unfold failE; rw [if_pos (Or.inr he)]
      rw [e1, e2]
      clear e1 e2
      go_enter Tryz.func80, Tryz.ntmps80
      go_wp2
      refine bodyPost_ret (results_none rfl _ _ _) rfl ?_
      exact ⟨rfl, H.out, grown_refl _ _⟩
set_option maxRecDepth 100000 in
set_option maxHeartbeats 400000 in
theorem err_any (b : Nat) (s : ByteArray) (a e : Nat) (w : World) (h : Blk w b 141 (rd s a e)) : Calls Tryz.prog 81 #[.pointer (some ⟨b, 0, none⟩)] w fun r w' => r = .returned (.int .i64 e) ∧ w' = w := by
  have c2 := h.rd2
  clear h
  go_enter Tryz.func81, Tryz.ntmps81
  go_wp2
  go_ret
  exact ⟨rfl, rfl⟩
set_option maxRecDepth 100000 in
set_option maxHeartbeats 400000 in
theorem at_any (b : Nat) (s : ByteArray) (a e : Nat) (w : World) (h : Blk w b 141 (rd s a e)) : Calls Tryz.prog 110 #[.pointer (some ⟨b, 0, none⟩)] w fun r w' => r = .returned (.int .i64 a) ∧ w' = w := by
  have c2 := h.rd1
  clear h
  go_enter Tryz.func110, Tryz.ntmps110
  go_wp2
  go_ret
  exact ⟨rfl, rfl⟩
/-- The reader at its end. -/
def endF (s : ByteArray) : Nat := if 0 < s.size then 5 else 0
/-- What is taken, and the reader behind it. -/
def takeV (s : ByteArray) (n : Nat) : ByteArray := if s.size < n then ⟨#[]⟩ else s.extract 0 n
def takeS (s : ByteArray) (e n : Nat) : ByteArray := if s.size < n then failS s e 4 else s.extract n s.size
def takeA (s : ByteArray) (a n : Nat) : Nat := if s.size < n then a else a + n
def takeE (s : ByteArray) (e n : Nat) : Nat := if s.size < n then failE e 4 else e
set_option maxRecDepth 100000 in
set_option maxHeartbeats 400000 in
theorem take_any (b : Nat) (s : ByteArray) (a e n : Nat) (w : World) (h : Blk w b 141 (rd s a e)) (ha : (a : Int) + (s.size : Int) ≤ 9000000000000000000) (hn : (n : Int) ≤ 9223372036854775807) : Calls Tryz.prog 103 #[.pointer (some ⟨b, 0, none⟩), .int .i64 n] w fun r w' => r = .returned (.string (takeV s n)) ∧ Blk w' b 141 (rd (takeS s e n) (takeA s a n) (takeE s e n)) ∧ w.grownBy w' (some b) := by
  have H : Hid (Blk w b 141 (rd s a e)) := h
  have c0 := h.rd0
  have c1 := h.rd1
  have f0 := h.frozen 0
  have f1 := h.frozen 1
  clear h
  by_cases hlt : s.size < n
  · have d1 : (s.size : Int) < (n : Int) := by omega
    have e1 : takeV s n = ⟨#[]⟩ := if_pos hlt
    have e2 : takeS s e n = failS s e 4 := if_pos hlt
    have e3 : takeA s a n = a := if_pos hlt
    have e4 : takeE s e n = failE e 4 := if_pos hlt
    rw [e1, e2, e3, e4]
    clear e1 e2 e3 e4
    go_enter Tryz.func103, Tryz.ntmps103
    go_wp2_with (go_at_call 80; refine (fail_any b s a e 4 _ H.out).mono ?_; rintro r w1 ⟨rfl, hb1, hg1⟩; have B1 : Hid (Blk w1 b 141 (rd (failS s e 4) a (failE e 4))) := hb1; have G1 : Hid (w.grownBy w1 (some b)) := hg1; clear hb1 hg1)
    go_ret
    exact ⟨rfl, B1.out, G1.out⟩
  · have d1 : ¬ ((s.size : Int) < (n : Int)) := by omega
    have d2 : (n : Int) ≤ (s.size : Int) := by omega
    have d3 : (0 : Int) ≤ (n : Int) := by omega
    have d4 : (0 : Int) ≤ (a : Int) := by omega
    have e1 : takeV s n = s.extract 0 n := if_neg hlt
    have e2 : takeS s e n = s.extract n s.size := if_neg hlt
    have e3 : takeA s a n = a + n := if_neg hlt
    have e4 : takeE s e n = e := if_neg hlt
    rw [e1, e2, e3, e4]
    clear e1 e2 e3 e4
    go_enter Tryz.func103, Tryz.ntmps103
    go_wp2
    go_ret
    exact ⟨rfl, (H.out.set0 _).set1 (a + n), grown_set (grown_set (grown_refl _ _) _ _) _ _⟩
theorem takeV_size (s : ByteArray) (n : Nat) : (takeV s n).size ≤ s.size := by
  unfold takeV
  split
  · exact Nat.zero_le _
  · rw [ByteArray.size_extract]; omega
set_option maxRecDepth 100000 in
set_option maxHeartbeats 400000 in
theorem bytes_any (b : Nat) (s : ByteArray) (a e n : Nat) (w : World) (h : Blk w b 141 (rd s a e)) (ha : (a : Int) + (s.size : Int) ≤ 281474976710656) (hn : (n : Int) ≤ 9223372036854775807) : Calls Tryz.prog 123 #[.pointer (some ⟨b, 0, none⟩), .int .i64 n] w fun r w' => r = .returned (.string (takeV s n)) ∧ Blk w' b 141 (rd (takeS s e n) (takeA s a n) (takeE s e n)) ∧ w.grownBy w' (some b) := by
  have H : Hid (Blk w b 141 (rd s a e)) := h
  have hv := takeV_size s n
  clear h
  have d1 : ¬ ((n : Int) < 0) := by omega
  have C : Hid (Calls Tryz.prog 103 #[.pointer (some ⟨b, 0, none⟩), .int .i64 n] w fun r w' => r = .returned (.string (takeV s n)) ∧ Blk w' b 141 (rd (takeS s e n) (takeA s a n) (takeE s e n)) ∧ w.grownBy w' (some b)) := take_any b s a e n w H.out (by omega) hn
  generalize takeV s n = V at *
  generalize takeS s e n = S at *
  generalize takeA s a n = A at *
  generalize takeE s e n = E at *
  go_enter Tryz.func123, Tryz.ntmps123
  go_wp2_with (first | (go_at_call 103; refine C.out.mono ?_; rintro r w1 ⟨rfl, hb1, hg1⟩; have B1 : Hid (Blk w1 b 141 (rd S A E)) := hb1; have G1 : Hid (w.grownBy w1 (some b)) := hg1; clear hb1 hg1) | (go_at_call 131; refine (clone_any V _ (by omega)).mono ?_; rintro r w2 ⟨rfl, hg2⟩; have B2 : Hid (Blk w2 b 141 (rd S A E)) := B1.out.kept hg2 (by simp); have G2 : Hid (w.grownBy w2 (some b)) := grown_none G1.out hg2; clear hg2))
  go_ret
  exact ⟨rfl, B2.out, G2.out⟩
set_option maxRecDepth 100000 in
set_option maxHeartbeats 400000 in
theorem bytesNeg_any (b : Nat) (s : ByteArray) (a e : Nat) (n : Int) (w : World) (h : Blk w b 141 (rd s a e)) (hn : n < 0) : Calls Tryz.prog 123 #[.pointer (some ⟨b, 0, none⟩), .int .i64 n] w fun r w' => r = .returned (.string ⟨#[]⟩) ∧ Blk w' b 141 (rd (failS s e 1) a (failE e 1)) ∧ w.grownBy w' (some b) := by
  have H : Hid (Blk w b 141 (rd s a e)) := h
  clear h
  go_enter Tryz.func123, Tryz.ntmps123
  go_wp2_with (go_at_call 80; refine (fail_any b s a e 1 _ H.out).mono ?_; rintro r w1 ⟨rfl, hb1, hg1⟩; have B1 : Hid (Blk w1 b 141 (rd (failS s e 1) a (failE e 1))) := hb1; have G1 : Hid (w.grownBy w1 (some b)) := hg1; clear hb1 hg1)
  go_ret
  exact ⟨rfl, B1.out, G1.out⟩
/-- The number that bytes tell, the lowest first. -/
def leT (s : ByteArray) : Nat → Nat
  | 0 => 0
  | k + 1 => leT s k + (s.data.getD k 0).toNat * 2 ^ (8 * k)
theorem leT_lt (s : ByteArray) (k : Nat) : leT s k < 2 ^ (8 * k) := by
  induction k with
  | zero => exact Nat.one_pos
  | succ k ih =>
    have hb : (s.data.getD k 0).toNat < 256 := UInt8.toNat_lt _
    rw [show 8 * (k + 1) = 8 * k + 8 by omega, Nat.pow_add]
    show leT s k + (s.data.getD k 0).toNat * 2 ^ (8 * k) < 2 ^ (8 * k) * 256
    have h2 : (s.data.getD k 0).toNat * 2 ^ (8 * k) ≤ 255 * 2 ^ (8 * k) := Nat.mul_le_mul_right _ (by omega)
    omega
theorem getD_byte (a : ByteArray) (k : Nat) (h : k < a.size) : a.data.getD k 0 = a[k]'h := by
  rw [Array.getD_eq_getD_getElem?, Array.getElem?_eq_getElem h]
  rfl
theorem le_step (s : ByteArray) (k : Nat) (hk : k < 8) (hs : k < s.size) (x c : Nat) (hx : leT s k = x) (hc : (s[k]'hs).toNat = c) : bits .or .u64 (x : Int) (IntKind.u64.wrap ((c : Int) * 2 ^ (8 * k))) = ((leT s (k + 1) : Nat) : Int) := by
  have hlt := leT_lt s k
  have hc2 : c < 256 := by rw [← hc]; exact UInt8.toNat_lt _
  have e : ∀ m : Nat, (2 : Int) ^ m = ((2 ^ m : Nat) : Int) := fun m => (Int.natCast_pow 2 m).symm
  have hp : c * 2 ^ (8 * k) < 2 ^ 64 := by
    have h1 : c * 2 ^ (8 * k) ≤ 255 * 2 ^ (8 * k) := Nat.mul_le_mul_right _ (by omega)
    have h2 : 2 ^ (8 * k) ≤ 2 ^ 56 := Nat.pow_le_pow_right (by omega) (by omega)
    omega
  have hx2 : x < 2 ^ 64 := by
    rw [hx] at hlt
    have h2 : 2 ^ (8 * k) ≤ 2 ^ 56 := Nat.pow_le_pow_right (by omega) (by omega)
    omega
  rw [e, ← Int.natCast_mul, IntKind.wrap_u64, show ((c * 2 ^ (8 * k) : Nat) : Int) % 18446744073709551616 = ((c * 2 ^ (8 * k) : Nat) : Int) by omega, u64_or_nat _ _ hx2 hp, Nat.or_comm, nat_join (8 * k) _ _ (Nat.mul_mod_left _ _) (by rw [← hx]; exact hlt)]
  show _ = ((leT s k + (s.data.getD k 0).toNat * 2 ^ (8 * k) : Nat) : Int)
  rw [getD_byte s k hs, hc, hx, Nat.add_comm]
set_option maxRecDepth 100000 in
set_option maxHeartbeats 400000 in
theorem rnumber_any (b : Nat) (s : ByteArray) (a e n : Nat) (w : World) (h : Blk w b 141 (rd s a e)) (ha : (a : Int) + (s.size : Int) ≤ 281474976710656) (hn : n ≤ 8) : Calls Tryz.prog 76 #[.pointer (some ⟨b, 0, none⟩), .int .i64 n] w fun r w' => r = .returned (.int .u64 ((leT (takeV s n) (takeV s n).size : Nat) : Int)) ∧ Blk w' b 141 (rd (takeS s e n) (takeA s a n) (takeE s e n)) ∧ w.grownBy w' (some b) := by
  have H : Hid (Blk w b 141 (rd s a e)) := h
  clear h
  have hv : (takeV s n).size ≤ 8 := by
    unfold takeV
    split
    · exact Nat.zero_le _
    · rw [ByteArray.size_extract]; omega
  have d1 : ¬ ((n : Int) < 0) := by omega
  have d2 : ¬ ((8 : Int) < (n : Int)) := by omega
  have C : Hid (Calls Tryz.prog 103 #[.pointer (some ⟨b, 0, none⟩), .int .i64 n] w fun r w' => r = .returned (.string (takeV s n)) ∧ Blk w' b 141 (rd (takeS s e n) (takeA s a n) (takeE s e n)) ∧ w.grownBy w' (some b)) := take_any b s a e n w H.out (by omega) (by omega)
  generalize takeV s n = V at *
  generalize takeS s e n = S at *
  generalize takeA s a n = A at *
  generalize takeE s e n = E at *
  have v0 : (V.size : Int) ≤ 8 := by omega
  go_enter Tryz.func76, Tryz.ntmps76
  go_wp2_with (go_at_call 103; refine C.out.mono ?_; rintro r w1 ⟨rfl, hb1, hg1⟩; have B1 : Hid (Blk w1 b 141 (rd S A E)) := hb1; have G1 : Hid (w.grownBy w1 (some b)) := hg1; clear hb1 hg1)
  go_loop [6, 23] (fun x i => ∃ k : Nat, k ≤ V.size ∧ i = .int .i64 k ∧ x = .int .u64 ((leT V k : Nat) : Int)) (fun _ i => V.size - (intOf i).toNat)
  case atStart => exact ⟨0, Nat.zero_le _, rfl, rfl⟩
  case round =>
    obtain ⟨k, hk, rfl, rfl⟩ := hrel
    by_cases hlt : k < V.size
    · obtain ⟨c, ec⟩ : ∃ c : Nat, (V[k]'hlt).toNat = c := ⟨_, rfl⟩
      obtain ⟨x, ex⟩ : ∃ x, leT V k = x := ⟨_, rfl⟩
      have ES : Hid (bits .or .u64 (x : Int) (IntKind.u64.wrap ((c : Int) * 2 ^ (8 * k))) = ((leT V (k + 1) : Nat) : Int)) := le_step V k (by omega) hlt x c ex ec
      have c256 : c < 256 := by rw [← ec]; exact UInt8.toNat_lt _
      have k0 : (0 : Int) ≤ (k : Int) := by omega
      have k1 : (k : Int) < (V.size : Int) := by omega
      have k2 : (k : Int) < 8 := by omega
      have c0 : (0 : Int) ≤ (c : Int) := by omega
      have c1 : (c : Int) < 256 := by omega
      rw [ex]
      clear ex
      go_wp2
      go_round
      case rel => exact ⟨k + 1, by omega, by go_num, by rw [ES.out]⟩
      case measure => simp [intOf]; omega
    · have e : k = V.size := by omega
      subst e
      go_wp2
      go_ret
      exact ⟨rfl, B1.out, G1.out⟩
set_option maxRecDepth 100000 in
set_option maxHeartbeats 400000 in
theorem rnumberBad_any (b : Nat) (s : ByteArray) (a e : Nat) (n : Int) (w : World) (h : Blk w b 141 (rd s a e)) (hn : n < 0 ∨ 8 < n) : Calls Tryz.prog 76 #[.pointer (some ⟨b, 0, none⟩), .int .i64 n] w fun r w' => r = .returned (.int .u64 0) ∧ Blk w' b 141 (rd (failS s e 1) a (failE e 1)) ∧ w.grownBy w' (some b) := by
  have H : Hid (Blk w b 141 (rd s a e)) := h
  clear h
  by_cases h0 : n < 0
  · clear hn
    go_enter Tryz.func76, Tryz.ntmps76
    go_wp2_with (go_at_call 80; refine (fail_any b s a e 1 _ H.out).mono ?_; rintro r w1 ⟨rfl, hb1, hg1⟩; have B1 : Hid (Blk w1 b 141 (rd (failS s e 1) a (failE e 1))) := hb1; have G1 : Hid (w.grownBy w1 (some b)) := hg1; clear hb1 hg1)
    go_ret
    exact ⟨rfl, B1.out, G1.out⟩
  · have h8 : 8 < n := by omega
    clear hn
    go_enter Tryz.func76, Tryz.ntmps76
    go_wp2_with (go_at_call 80; refine (fail_any b s a e 1 _ H.out).mono ?_; rintro r w1 ⟨rfl, hb1, hg1⟩; have B1 : Hid (Blk w1 b 141 (rd (failS s e 1) a (failE e 1))) := hb1; have G1 : Hid (w.grownBy w1 (some b)) := hg1; clear hb1 hg1)
    go_ret
    exact ⟨rfl, B1.out, G1.out⟩
end Go.Proofs.YtbhmmcelndmijaaGreat.Wi
namespace Go.Proofs.YtbhmmcelndmijaaGreat.Wi
open Go.RowKit
theorem info5 : (Tryz.prog.info? 5).map (fun i => (i.zero, i.size, i.bytes)) = some (some (.int .u8 0), 1, 1) := by kernel_rfl
theorem bytes_len (s : ByteArray) : s.data.toList.length = s.size := Array.length_toList
def byL (l : List UInt8) : List Value := l.map fun b => Value.int .u8 (b.toNat : Int)
/-- A writer's block, and that what it holds are these bytes. -/
def Wr (w : World) (b : Nat) (l : List UInt8) : Prop := ∃ v, Blk w b 80 #[v] ∧ w.ownsRow (b + 1) 5 1 v l.length (byL l)
theorem below_grown {w0 w w' : World} {b : Nat} (h : w0.grownBy w none) (g : Below b w w') (hb : w0.heap.size ≤ b) : w0.grownBy w' none :=
  ⟨g.os.trans h.os, g.tape.trans h.tape, g.output.trans h.output, Nat.le_trans h.size g.size, fun k hk hn => (g.block k (Nat.lt_of_lt_of_le hk hb)).trans (h.block k hk hn)⟩
theorem Wr.kept {w w' : World} {b : Nat} {l : List UInt8} (h : Wr w b l) (g : w.grownBy w' none) : Wr w' b l := by
  obtain ⟨v, h1, h2⟩ := h
  refine ⟨v, h1.kept g (by simp), h2.kept g ?_⟩
  cases hv : v.ownBlock with
  | none => exact Or.inl rfl
  | some b => exact Or.inr (by simp)
theorem byL_append (l : List UInt8) (s : ByteArray) : byL l ++ Lib.strCells s = byL (l ++ s.data.toList) := by
  unfold byL
  rw [List.map_append]
  rfl
theorem numS_list (n k : Nat) : (numS n k).data.toList = numL n k := rfl
theorem numS_size (n k : Nat) : (numS n k).size = k := by rw [← bytes_len, numS_list, numL_len]
theorem below_of {w w' : World} {b : Nat} (h : w.grownBy w' none) (hb : b < w.heap.size) : Below b w w' := (Below.refl b w).grown h (by omega) (fun k e => by cases e)
theorem Wr.lt {w : World} {b : Nat} {l : List UInt8} (h : Wr w b l) : b < w.heap.size := by
  obtain ⟨v, h1, _⟩ := h
  exact h1.lt
theorem owned_str (l : List UInt8) (w : World) (base : Nat) (v : Value) (h : w.ownsRow base 5 1 v l.length (byL l)) : (convert 85 9 v).run Tryz.prog w = .ok (.string ⟨l.toArray⟩) w := by
  rcases h.2 with ⟨rfl, h0⟩ | ⟨g, cap, cur, rfl, _, hg, _, _, _, hcur⟩
  · have : l = [] := List.eq_nil_of_length_eq_zero h0
    subst this
    rw [run_convert_bytes_string w 85 9 5 none 0 0 Tryz.underlying85 Tryz.underlying5 Tryz.underlying9]
    rfl
  · exact run_convert_bytes_back (P := Tryz.prog) w 85 9 5 ⟨g, 0, none⟩ cap l Tryz.underlying85 Tryz.underlying5 Tryz.underlying9 (fun j hj => by
      rw [add_off, cell_of_row w g j cur 5 (0, 0) hg, ← Array.getElem?_toList]
      have h2 := congrArg (fun l : List Value => l[j]?) hcur
      unfold byL at h2
      simp only [List.getElem?_take, List.getElem?_map, List.getElem?_eq_getElem hj] at h2
      rw [if_pos (by omega)] at h2
      rw [h2]
      rfl)
end Go.Proofs.YtbhmmcelndmijaaGreat.Wi
namespace Go.Proofs.YtbhmmcelndmijaaGreat.Wi
open Go.RowKit
/-- The count that stands ahead. -/
def cntR (s : ByteArray) : Nat := leT (takeV s 4) (takeV s 4).size
/-- The error that a count brings: 0 for none. -/
def cntF (s : ByteArray) (e : Nat) (most : Int) : Nat := if takeE s e 4 ≠ 0 then 0 else if most < 0 ∨ most < (cntR s : Int) then 3 else 0
def cntN (s : ByteArray) (e : Nat) (most : Int) : Nat := if takeE s e 4 ≠ 0 then 0 else if most < 0 ∨ most < (cntR s : Int) then 0 else cntR s
def cntS (s : ByteArray) (e : Nat) (most : Int) : ByteArray := failS (takeS s e 4) (takeE s e 4) (cntF s e most)
def cntE (s : ByteArray) (e : Nat) (most : Int) : Nat := failE (takeE s e 4) (cntF s e most)
theorem cntR_lt (s : ByteArray) : cntR s < 4294967296 := by
  have h1 := leT_lt (takeV s 4) (takeV s 4).size
  have h2 : (takeV s 4).size ≤ 4 := by
    unfold takeV
    split
    · exact Nat.zero_le _
    · rw [ByteArray.size_extract]; omega
  have h3 : 2 ^ (8 * (takeV s 4).size) ≤ 2 ^ 32 := Nat.pow_le_pow_right (by omega) (by omega)
  unfold cntR
  omega
set_option maxRecDepth 100000 in
set_option maxHeartbeats 400000 in
theorem count_any (b : Nat) (s : ByteArray) (a e : Nat) (most : Int) (w : World) (h : Blk w b 141 (rd s a e)) (ha : (a : Int) + (s.size : Int) ≤ 281474976710656) (hm : most ≤ 9223372036854775807) : Calls Tryz.prog 105 #[.pointer (some ⟨b, 0, none⟩), .int .i64 most] w fun r w' => r = .returned (.int .i64 (cntN s e most)) ∧ Blk w' b 141 (rd (cntS s e most) (takeA s a 4) (cntE s e most)) ∧ w.grownBy w' (some b) := by
  have C : Hid (Calls Tryz.prog 76 #[.pointer (some ⟨b, 0, none⟩), .int .i64 4] w fun r w' => r = .returned (.int .u64 ((cntR s : Nat) : Int)) ∧ Blk w' b 141 (rd (takeS s e 4) (takeA s a 4) (takeE s e 4)) ∧ w.grownBy w' (some b)) := rnumber_any b s a e 4 w h ha (by omega)
  have hlt := cntR_lt s
  unfold cntS cntE cntN cntF
  generalize cntR s = n at *
  generalize takeS s e 4 = S at *
  generalize takeA s a 4 = A at *
  generalize takeE s e 4 = E at *
  clear h
  have n0 : (n : Int) < 4294967296 := by omega
  have n1 : (0 : Int) ≤ (n : Int) := by omega
  by_cases hE : E ≠ 0
  · rw [if_pos hE, if_pos hE]
    have e1 : failS S E 0 = S := by unfold failS; rw [if_pos (Or.inl rfl)]
    have e2 : failE E 0 = E := by unfold failE; rw [if_pos (Or.inl rfl)]
    rw [e1, e2]
    have hE' : ((E : Int) != 0) = true := by rw [bne_iff_ne]; omega
    clear e1 e2 hE
    go_enter Tryz.func105, Tryz.ntmps105
    go_wp2_with (first | (go_at_call 76; refine C.out.mono ?_; rintro r w1 ⟨rfl, hb1, hg1⟩; have B1 : Hid (Blk w1 b 141 (rd S A E)) := hb1; have G1 : Hid (w.grownBy w1 (some b)) := hg1; clear hb1 hg1) | (go_at_call 81; refine (err_any b _ _ _ _ B1.out).mono ?_; rintro r w' ⟨rfl, hw⟩; have hw2 := hw.symm; clear hw; subst hw2))
    go_ret
    exact ⟨rfl, B1.out, G1.out⟩
  · have hE0 : E = 0 := by omega
    subst hE0
    rw [if_neg hE, if_neg hE]
    clear hE
    by_cases hbad : most < 0 ∨ most < (n : Int)
    · rw [if_pos hbad, if_pos hbad]
      by_cases h0 : most < 0
      · clear hbad
        go_enter Tryz.func105, Tryz.ntmps105
        go_wp2_with (first | (go_at_call 76; refine C.out.mono ?_; rintro r w1 ⟨rfl, hb1, hg1⟩; have B1 : Hid (Blk w1 b 141 (rd S A 0)) := hb1; have G1 : Hid (w.grownBy w1 (some b)) := hg1; clear hb1 hg1) | (go_at_call 81; refine (err_any b _ _ _ _ B1.out).mono ?_; rintro r w' ⟨rfl, hw⟩; have hw2 := hw.symm; clear hw; subst hw2) | (go_at_call 80; refine (fail_any b S A 0 3 _ B1.out).mono ?_; rintro r w2 ⟨rfl, hb2, hg2⟩; have B2 : Hid (Blk w2 b 141 (rd (failS S 0 3) A (failE 0 3))) := hb2; have G2 : Hid (w.grownBy w2 (some b)) := grown_trans G1.out hg2; clear hb2 hg2))
        go_ret
        exact ⟨rfl, B2.out, G2.out⟩
      · have h0' : (0 : Int) ≤ most := by omega
        have h1 : most < (n : Int) := by omega
        clear hbad h0
        go_enter Tryz.func105, Tryz.ntmps105
        go_wp2_with (first | (go_at_call 76; refine C.out.mono ?_; rintro r w1 ⟨rfl, hb1, hg1⟩; have B1 : Hid (Blk w1 b 141 (rd S A 0)) := hb1; have G1 : Hid (w.grownBy w1 (some b)) := hg1; clear hb1 hg1) | (go_at_call 81; refine (err_any b _ _ _ _ B1.out).mono ?_; rintro r w' ⟨rfl, hw⟩; have hw2 := hw.symm; clear hw; subst hw2) | (go_at_call 80; refine (fail_any b S A 0 3 _ B1.out).mono ?_; rintro r w2 ⟨rfl, hb2, hg2⟩; have B2 : Hid (Blk w2 b 141 (rd (failS S 0 3) A (failE 0 3))) := hb2; have G2 : Hid (w.grownBy w2 (some b)) := grown_trans G1.out hg2; clear hb2 hg2))
        go_ret
        exact ⟨rfl, B2.out, G2.out⟩
    · rw [if_neg hbad, if_neg hbad]
      have e1 : failS S 0 0 = S := by unfold failS; rw [if_pos (Or.inl rfl)]
      have e2 : failE 0 0 = 0 := by unfold failE; rw [if_pos (Or.inl rfl)]
      rw [e1, e2]
      have d1 : ¬ (most < 0) := by omega
      have hu2 : IntKind.u64.wrap most = most := by rw [IntKind.wrap_u64]; omega
      have d2 : ¬ (most < (n : Int)) := by omega
      have hw : IntKind.i64.wrap (n : Int) = (n : Int) := by rw [IntKind.wrap_i64]; omega
      clear hbad e1 e2 hm hlt ha n0 n1
      go_enter Tryz.func105, Tryz.ntmps105
      go_wp2_with (first | (go_at_call 76; refine C.out.mono ?_; rintro r w1 ⟨rfl, hb1, hg1⟩; have B1 : Hid (Blk w1 b 141 (rd S A 0)) := hb1; have G1 : Hid (w.grownBy w1 (some b)) := hg1; clear hb1 hg1) | (go_at_call 81; refine (err_any b _ _ _ _ B1.out).mono ?_; rintro r w' ⟨rfl, hw⟩; have hw2 := hw.symm; clear hw; subst hw2))
      go_ret
      exact ⟨rfl, B1.out, G1.out⟩
theorem failS_size (s : ByteArray) (e f : Nat) : (failS s e f).size ≤ s.size := by
  unfold failS
  split
  · exact Nat.le_refl _
  · exact Nat.zero_le _
theorem take_room (s : ByteArray) (a e n : Nat) : takeA s a n + (takeS s e n).size ≤ a + s.size := by
  unfold takeA takeS
  split
  · have := failS_size s e 4; omega
  · rw [ByteArray.size_extract]; omega
theorem cnt_room (s : ByteArray) (a e : Nat) (most : Int) : takeA s a 4 + (cntS s e most).size ≤ a + s.size := by
  have h1 := take_room s a e 4
  have h2 := failS_size (takeS s e 4) (takeE s e 4) (cntF s e most)
  unfold cntS
  omega
/-- The text that stands ahead, and the reader behind it. -/
def txtV (s : ByteArray) (e : Nat) (most : Int) : ByteArray := takeV (cntS s e most) (cntN s e most)
def txtS (s : ByteArray) (e : Nat) (most : Int) : ByteArray := takeS (cntS s e most) (cntE s e most) (cntN s e most)
def txtA (s : ByteArray) (a e : Nat) (most : Int) : Nat := takeA (cntS s e most) (takeA s a 4) (cntN s e most)
def txtE (s : ByteArray) (e : Nat) (most : Int) : Nat := takeE (cntS s e most) (cntE s e most) (cntN s e most)
theorem cntN_lt (s : ByteArray) (e : Nat) (most : Int) : cntN s e most < 4294967296 := by
  have := cntR_lt s
  unfold cntN
  split
  · omega
  · split <;> omega
set_option maxRecDepth 100000 in
set_option maxHeartbeats 400000 in
theorem text_any (b : Nat) (s : ByteArray) (a e : Nat) (most : Int) (w : World) (h : Blk w b 141 (rd s a e)) (ha : (a : Int) + (s.size : Int) ≤ 281474976710656) (hm : most ≤ 9223372036854775807) : Calls Tryz.prog 104 #[.pointer (some ⟨b, 0, none⟩), .int .i64 most] w fun r w' => r = .returned (.string (txtV s e most)) ∧ Blk w' b 141 (rd (txtS s e most) (txtA s a e most) (txtE s e most)) ∧ w.grownBy w' (some b) := by
  have C : Hid (Calls Tryz.prog 105 #[.pointer (some ⟨b, 0, none⟩), .int .i64 most] w fun r w' => r = .returned (.int .i64 (cntN s e most)) ∧ Blk w' b 141 (rd (cntS s e most) (takeA s a 4) (cntE s e most)) ∧ w.grownBy w' (some b)) := count_any b s a e most w h ha hm
  have hr := cnt_room s a e most
  have hn := cntN_lt s e most
  unfold txtV txtS txtA txtE
  generalize cntN s e most = n at *
  generalize cntS s e most = S at *
  generalize takeA s a 4 = A at *
  generalize cntE s e most = E at *
  have CB : Hid (∀ w, Blk w b 141 (rd S A E) → Calls Tryz.prog 123 #[.pointer (some ⟨b, 0, none⟩), .int .i64 n] w fun r w' => r = .returned (.string (takeV S n)) ∧ Blk w' b 141 (rd (takeS S E n) (takeA S A n) (takeE S E n)) ∧ w.grownBy w' (some b)) := fun w h => bytes_any b S A E n w h (by omega) (by omega)
  clear h hr hn
  generalize takeV S n = V at *
  go_enter Tryz.func104, Tryz.ntmps104
  go_wp2_with (first | (go_at_call 105; refine C.out.mono ?_; rintro r w1 ⟨rfl, hb1, hg1⟩; have B1 : Hid (Blk w1 b 141 (rd S A E)) := hb1; have G1 : Hid (w.grownBy w1 (some b)) := hg1; clear hb1 hg1) | (go_at_call 123; refine (CB.out _ B1.out).mono ?_; rintro r w2 ⟨rfl, hb2, hg2⟩; have B2 : Hid (Blk w2 b 141 (rd (takeS S E n) (takeA S A n) (takeE S E n))) := hb2; have G2 : Hid (w.grownBy w2 (some b)) := grown_trans G1.out hg2; clear hb2 hg2))
  go_ret
  exact ⟨rfl, B2.out, G2.out⟩
def abcS : ByteArray := ⟨#[3, 0, 0, 0, 97, 98, 99]⟩
end Go.Proofs.YtbhmmcelndmijaaGreat.Wi
