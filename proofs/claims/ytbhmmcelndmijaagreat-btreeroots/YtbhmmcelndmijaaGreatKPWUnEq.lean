/-
  The document's reader, which goes from hand to hand by value. The document's reader: numbers, counts, texts, marks and the end. Marks, digests and the end: the program's reader and the document's. The document's reader, which goes from hand to hand by value. The document's reader: numbers, counts, texts, marks and the end. Marks, digests and the end: the program's reader and the document's. The contracts of Frame: the program's and the document's. The contracts of Unframe: the program's and the document's. Frame, of texts as long as may be. The bytes of a number that was read out of bytes are these bytes.
-/
import Derived.Test.YtbhmmcelndmijaaGreatKWLow
import Derived.Laws.ResultCell
import Derived.Laws.Rows
import Derived.Test.YtbhmmcelndmijaaGreatKWAdl2
namespace Go.Proofs.YtbhmmcelndmijaaGreat.Pa
open Go.RowKit
theorem q_is_store {P : Program} {ops : Array Oper} {rest : List Oper} {o : Oper} {a : Act} {w : World} {Q : Exit → Act → World → Prop} (ty : TypeId) (x y : Operand) (_ho : o.op = .store ty x y) (h : wpList P ops Q (o :: rest) a w) : wpList P ops Q (o :: rest) a w := h
theorem _root_.Go.Proofs.YtbhmmcelndmijaaGreat.Blk.new2P (w : World) (o : Obj) (t : TypeId) (cs : Array Value) : Blk ((w.alloc o).alloc (.cells cs t)) (w.heap.size + 1) t cs := by
  have h := Blk.new (w.alloc o) t cs
  rwa [show (w.alloc o).heap.size = w.heap.size + 1 by simp] at h
/-- Behind an error nothing is left. -/
def Shut (s : ByteArray) (e : Nat) : Prop := e ≠ 0 → s = ⟨#[]⟩
theorem extract_nil (n m : Nat) : (⟨#[]⟩ : ByteArray).extract n m = ⟨#[]⟩ := by
  apply bytes_ext
  rw [ByteArray.data_extract, Array.toList_extract]
  simp
theorem take_shut (s : ByteArray) (e n : Nat) (he : Shut s e) : Shut (takeS s e n) (takeE s e n) := by
  intro h
  unfold takeS takeE at *
  by_cases h1 : s.size < n
  · rw [if_pos h1] at h
    rw [if_pos h1]
    unfold failS
    split
    · next q => exact he (by omega)
    · rfl
  · rw [if_neg h1] at h
    rw [if_neg h1, he h]
    exact extract_nil _ _
theorem fail_shut (s : ByteArray) (e f : Nat) (he : Shut s e) : Shut (failS s e f) (failE e f) := by
  intro h
  unfold failS failE at *
  by_cases h1 : f = 0 ∨ e ≠ 0
  · rw [if_pos h1] at h
    rw [if_pos h1]
    exact he h
  · rw [if_neg h1]
end Go.Proofs.YtbhmmcelndmijaaGreat.Pa
namespace Go.Proofs.YtbhmmcelndmijaaGreat.Pa
open Go.RowKit
theorem le_down (V : ByteArray) (k X c : Nat) (hk : k < V.size) (hV : V.size ≤ 8) (hc : (V[k]'hk).toNat = c) (h : X * 2 ^ (8 * (k + 1)) + leT V (k + 1) = leT V V.size) : (X * 256 + c) * 2 ^ (8 * k) + leT V k = leT V V.size ∧ X < 2 ^ 56 := by
  have e1 : (X * 256 + c) * 2 ^ (8 * k) + leT V k = leT V V.size := by
    rw [← h]
    show _ = X * 2 ^ (8 * (k + 1)) + (leT V k + (V.data.getD k 0).toNat * 2 ^ (8 * k))
    rw [getD_byte V k hk, hc, show 8 * (k + 1) = 8 * k + 8 by omega, Nat.pow_add, Nat.add_mul, Nat.mul_assoc, show (2 : Nat) ^ 8 = 256 from rfl, Nat.mul_comm 256]
    omega
  refine ⟨e1, ?_⟩
  have h1 := leT_lt V V.size
  have h2 : 2 ^ (8 * V.size) ≤ 2 ^ 64 := Nat.pow_le_pow_right (by omega) (by omega)
  have h3 : X * 256 + c ≤ (X * 256 + c) * 2 ^ (8 * k) := Nat.le_mul_of_pos_right _ (Nat.pow_pos (by decide))
  omega
theorem takeV_le (s : ByteArray) (n : Nat) : (takeV s n).size ≤ n := by
  unfold takeV
  split
  · exact Nat.zero_le _
  · rw [ByteArray.size_extract]; omega
theorem cntR_none (s : ByteArray) (e : Nat) (he : Shut s e) (h : takeE s e 4 ≠ 0) : cntR s = 0 := by
  have h1 : s.size < 4 := by
    by_cases h1 : s.size < 4
    · exact h1
    · unfold takeE at h
      rw [if_neg h1] at h
      rw [he h]
      decide
  unfold cntR
  have e4 : takeV s 4 = ⟨#[]⟩ := by unfold takeV; rw [if_pos h1]
  rw [e4]
  rfl
theorem cnt_shut (s : ByteArray) (e : Nat) (most : Int) (he : Shut s e) : Shut (cntS s e most) (cntE s e most) := fail_shut _ _ _ (take_shut _ _ _ he)
end Go.Proofs.YtbhmmcelndmijaaGreat.Pa
namespace Go.Proofs.YtbhmmcelndmijaaGreat.Pa
open Go.RowKit
def bolN (s : ByteArray) : Nat := leT (takeV s 1) (takeV s 1).size
def bolF (s : ByteArray) : Nat := if 1 < bolN s then 6 else 0
def bolS (s : ByteArray) (e : Nat) : ByteArray := failS (takeS s e 1) (takeE s e 1) (bolF s)
def bolE (s : ByteArray) (e : Nat) : Nat := failE (takeE s e 1) (bolF s)
theorem bolN_lt (s : ByteArray) : bolN s < 256 := by
  have h1 := leT_lt (takeV s 1) (takeV s 1).size
  have h2 := takeV_le s 1
  have h3 : 2 ^ (8 * (takeV s 1).size) ≤ 2 ^ 8 := Nat.pow_le_pow_right (by omega) (by omega)
  unfold bolN
  omega
theorem bolN_none (s : ByteArray) (e : Nat) (he : Shut s e) (h : takeE s e 1 ≠ 0) : bolN s = 0 := by
  have h1 : s.size < 1 := by
    by_cases h1 : s.size < 1
    · exact h1
    · unfold takeE at h
      rw [if_neg h1] at h
      rw [he h]
      decide
  unfold bolN
  have e4 : takeV s 1 = ⟨#[]⟩ := by unfold takeV; rw [if_pos h1]
  rw [e4]
  rfl
set_option maxRecDepth 100000 in
set_option maxHeartbeats 400000 in
theorem rbool_any (b : Nat) (s : ByteArray) (a e : Nat) (w : World) (h : Blk w b 141 (rd s a e)) (ha : (a : Int) + (s.size : Int) ≤ 9223372036854775807) : Calls Tryz.prog 75 #[.pointer (some ⟨b, 0, none⟩)] w fun r w' => r = .returned (.bool ((bolN s : Int) == 1)) ∧ Blk w' b 141 (rd (bolS s e) (takeA s a 1) (bolE s e)) ∧ w.grownBy w' (some b) := by
  have C : Hid (Calls Tryz.prog 76 #[.pointer (some ⟨b, 0, none⟩), .int .i64 1] w fun r w' => r = .returned (.int .u64 ((bolN s : Nat) : Int)) ∧ Blk w' b 141 (rd (takeS s e 1) (takeA s a 1) (takeE s e 1)) ∧ w.grownBy w' (some b)) := rnumber_any b s a e 1 w h ha (by omega)
  have hlt := bolN_lt s
  unfold bolS bolE bolF
  generalize bolN s = n at *
  generalize takeS s e 1 = S at *
  generalize takeA s a 1 = A at *
  generalize takeE s e 1 = E at *
  clear h
  have n0 : (n : Int) < 256 := by omega
  have n1 : (0 : Int) ≤ (n : Int) := by omega
  clear hlt
  by_cases hn : 1 < n
  · rw [if_pos hn]
    have h1 : (1 : Int) < (n : Int) := by omega
    have h2 : ((n : Int) == 1) = false := by simp; omega
    clear hn
    go_enter Tryz.func75, Tryz.ntmps75
    go_wp2_with (first | (go_at_call 76; refine C.out.mono ?_; rintro r w1 ⟨rfl, hb1, hg1⟩; have B1 : Hid (Blk w1 b 141 (rd S A E)) := hb1; have G1 : Hid (w.grownBy w1 (some b)) := hg1; clear hb1 hg1) | (go_at_call 80; refine (fail_any b S A E 6 _ B1.out).mono ?_; rintro r w2 ⟨rfl, hb2, hg2⟩; have B2 : Hid (Blk w2 b 141 (rd (failS S E 6) A (failE E 6))) := hb2; have G2 : Hid (w.grownBy w2 (some b)) := grown_trans G1.out hg2; clear hb2 hg2 B1 G1))
    go_ret
    exact ⟨by rw [h2]; rfl, B2.out, G2.out⟩
  · rw [if_neg hn]
    have e1 : failS S E 0 = S := by unfold failS; rw [if_pos (Or.inl rfl)]
    have e2 : failE E 0 = E := by unfold failE; rw [if_pos (Or.inl rfl)]
    rw [e1, e2]
    have h1 : ¬ ((1 : Int) < (n : Int)) := by omega
    clear hn e1 e2
    go_enter Tryz.func75, Tryz.ntmps75
    go_wp2_with (first | (go_at_call 76; refine C.out.mono ?_; rintro r w1 ⟨rfl, hb1, hg1⟩; have B1 : Hid (Blk w1 b 141 (rd S A E)) := hb1; have G1 : Hid (w.grownBy w1 (some b)) := hg1; clear hb1 hg1))
    go_ret
    exact ⟨rfl, B1.out, G1.out⟩
theorem bol_shut (s : ByteArray) (e : Nat) (he : Shut s e) : Shut (bolS s e) (bolE s e) := fail_shut _ _ _ (take_shut _ _ _ he)
end Go.Proofs.YtbhmmcelndmijaaGreat.Pa
namespace Go.Proofs.YtbhmmcelndmijaaGreat.Wi
open Go.RowKit
theorem q_is_store {P : Program} {ops : Array Oper} {rest : List Oper} {o : Oper} {a : Act} {w : World} {Q : Exit → Act → World → Prop} (ty : TypeId) (x y : Operand) (_ho : o.op = .store ty x y) (h : wpList P ops Q (o :: rest) a w) : wpList P ops Q (o :: rest) a w := h
theorem _root_.Go.Proofs.YtbhmmcelndmijaaGreat.Blk.new2 (w : World) (o : Obj) (t : TypeId) (cs : Array Value) : Blk ((w.alloc o).alloc (.cells cs t)) (w.heap.size + 1) t cs := by
  have h := Blk.new (w.alloc o) t cs
  rwa [show (w.alloc o).heap.size = w.heap.size + 1 by simp] at h
/-- Behind an error nothing is left. -/
def Shut (s : ByteArray) (e : Nat) : Prop := e ≠ 0 → s = ⟨#[]⟩
theorem extract_nil (n m : Nat) : (⟨#[]⟩ : ByteArray).extract n m = ⟨#[]⟩ := by
  apply bytes_ext
  rw [ByteArray.data_extract, Array.toList_extract]
  simp
theorem take_shut (s : ByteArray) (e n : Nat) (he : Shut s e) : Shut (takeS s e n) (takeE s e n) := by
  intro h
  unfold takeS takeE at *
  by_cases h1 : s.size < n
  · rw [if_pos h1] at h
    rw [if_pos h1]
    unfold failS
    split
    · next q => exact he (by omega)
    · rfl
  · rw [if_neg h1] at h
    rw [if_neg h1, he h]
    exact extract_nil _ _
theorem fail_shut (s : ByteArray) (e f : Nat) (he : Shut s e) : Shut (failS s e f) (failE e f) := by
  intro h
  unfold failS failE at *
  by_cases h1 : f = 0 ∨ e ≠ 0
  · rw [if_pos h1] at h
    rw [if_pos h1]
    exact he h
  · rw [if_neg h1]
end Go.Proofs.YtbhmmcelndmijaaGreat.Wi
namespace Go.Proofs.YtbhmmcelndmijaaGreat.Wi
open Go.RowKit
theorem le_down (V : ByteArray) (k X c : Nat) (hk : k < V.size) (hV : V.size ≤ 8) (hc : (V[k]'hk).toNat = c) (h : X * 2 ^ (8 * (k + 1)) + leT V (k + 1) = leT V V.size) : (X * 256 + c) * 2 ^ (8 * k) + leT V k = leT V V.size ∧ X < 2 ^ 56 := by
  have e1 : (X * 256 + c) * 2 ^ (8 * k) + leT V k = leT V V.size := by
    rw [← h]
    show _ = X * 2 ^ (8 * (k + 1)) + (leT V k + (V.data.getD k 0).toNat * 2 ^ (8 * k))
    rw [getD_byte V k hk, hc, show 8 * (k + 1) = 8 * k + 8 by omega, Nat.pow_add, Nat.add_mul, Nat.mul_assoc, show (2 : Nat) ^ 8 = 256 from rfl, Nat.mul_comm 256]
    omega
  refine ⟨e1, ?_⟩
  have h1 := leT_lt V V.size
  have h2 : 2 ^ (8 * V.size) ≤ 2 ^ 64 := Nat.pow_le_pow_right (by omega) (by omega)
  have h3 : X * 256 + c ≤ (X * 256 + c) * 2 ^ (8 * k) := Nat.le_mul_of_pos_right _ (Nat.pow_pos (by decide))
  omega
theorem takeV_le (s : ByteArray) (n : Nat) : (takeV s n).size ≤ n := by
  unfold takeV
  split
  · exact Nat.zero_le _
  · rw [ByteArray.size_extract]; omega
theorem cntR_none (s : ByteArray) (e : Nat) (he : Shut s e) (h : takeE s e 4 ≠ 0) : cntR s = 0 := by
  have h1 : s.size < 4 := by
    by_cases h1 : s.size < 4
    · exact h1
    · unfold takeE at h
      rw [if_neg h1] at h
      rw [he h]
      decide
  unfold cntR
  have e4 : takeV s 4 = ⟨#[]⟩ := by unfold takeV; rw [if_pos h1]
  rw [e4]
  rfl
theorem cnt_shut (s : ByteArray) (e : Nat) (most : Int) (he : Shut s e) : Shut (cntS s e most) (cntE s e most) := fail_shut _ _ _ (take_shut _ _ _ he)
end Go.Proofs.YtbhmmcelndmijaaGreat.Wi
namespace Go.Proofs.YtbhmmcelndmijaaGreat.Wi
open Go.RowKit
def bolN (s : ByteArray) : Nat := leT (takeV s 1) (takeV s 1).size
def bolF (s : ByteArray) : Nat := if 1 < bolN s then 6 else 0
def bolS (s : ByteArray) (e : Nat) : ByteArray := failS (takeS s e 1) (takeE s e 1) (bolF s)
def bolE (s : ByteArray) (e : Nat) : Nat := failE (takeE s e 1) (bolF s)
theorem bolN_lt (s : ByteArray) : bolN s < 256 := by
  have h1 := leT_lt (takeV s 1) (takeV s 1).size
  have h2 := takeV_le s 1
  have h3 : 2 ^ (8 * (takeV s 1).size) ≤ 2 ^ 8 := Nat.pow_le_pow_right (by omega) (by omega)
  unfold bolN
  omega
theorem bolN_none (s : ByteArray) (e : Nat) (he : Shut s e) (h : takeE s e 1 ≠ 0) : bolN s = 0 := by
  have h1 : s.size < 1 := by
    by_cases h1 : s.size < 1
    · exact h1
    · unfold takeE at h
      rw [if_neg h1] at h
      rw [he h]
      decide
  unfold bolN
  have e4 : takeV s 1 = ⟨#[]⟩ := by unfold takeV; rw [if_pos h1]
  rw [e4]
  rfl
theorem bol_shut (s : ByteArray) (e : Nat) (he : Shut s e) : Shut (bolS s e) (bolE s e) := fail_shut _ _ _ (take_shut _ _ _ he)
end Go.Proofs.YtbhmmcelndmijaaGreat.Wi
namespace Go.Proofs.YtbhmmcelndmijaaGreat.Wi
open Go.RowKit
/-- A text, framed. -/
def frmS (s : ByteArray) : ByteArray := numS s.size 4 ++ s ++ numS (adl (numS s.size 4 ++ s)) 4
theorem adl_lt (s : ByteArray) : adl s < 4294967296 := by
  unfold adl
  have h1 : ad2 s s.size % 65521 < 65521 := Nat.mod_lt _ (by decide)
  have h2 : ad1 s s.size % 65521 < 65521 := Nat.mod_lt _ (by decide)
  omega
theorem frmS_size (s : ByteArray) : (frmS s).size = s.size + 8 := by
  unfold frmS
  rw [ByteArray.size_append, ByteArray.size_append, numS_size, numS_size]
  omega
set_option maxRecDepth 100000 in
set_option maxHeartbeats 400000 in
theorem frame_any (s : ByteArray) (w : World) (hs : s.size ≤ 4000) : Calls Tryz.prog 120 #[.string s] w fun e w' => e = .returned (.string (frmS s)) ∧ w.grownBy w' none := by
  have CN : Hid (∀ w, Calls Tryz.prog 130 #[.int .u64 s.size, .int .i64 4] w fun e w' => e = .returned (.string (numS s.size 4)) ∧ w.grownBy w' none) := fun w => number_any s.size 4 w (by omega)
  have hz := numS_size s.size 4
  have hM : (numS s.size 4 ++ s).size ≤ 5000 := by rw [ByteArray.size_append, hz]; omega
  have CA : Hid (∀ w, Calls Tryz.prog 111 #[.string (numS s.size 4 ++ s)] w fun e w' => e = .returned (.int .u32 (adl (numS s.size 4 ++ s) : Nat)) ∧ w' = w) := fun w => adler_any _ w hM
  have hlt := adl_lt (numS s.size 4 ++ s)
  have CM : Hid (∀ w, Calls Tryz.prog 130 #[.int .u64 (adl (numS s.size 4 ++ s) : Nat), .int .i64 4] w fun e w' => e = .returned (.string (numS (adl (numS s.size 4 ++ s)) 4)) ∧ w.grownBy w' none) := fun w => number_any _ 4 w (by omega)
  have hz2 := numS_size (adl (numS s.size 4 ++ s)) 4
  unfold frmS
  generalize numS (adl (numS s.size 4 ++ s)) 4 = R at *
  generalize adl (numS s.size 4 ++ s) = c at *
  generalize numS s.size 4 = S at *
  have i0 : (s.size : Int) ≤ 4000 := by omega
  have i1 : (S.size : Int) = 4 := by omega
  have i2 : (R.size : Int) = 4 := by omega
  have i3 : IntKind.u64.wrap (c : Int) = (c : Int) := by rw [IntKind.wrap_u64]; omega
  clear hs hM hlt
  go_enter Tryz.func120, Tryz.ntmps120
  go_wp2_with (first | (go_at_call 130; refine (CN.out _).mono ?_; clear CN; rintro e w1 ⟨rfl, hg1⟩; have G1 : Hid (w.grownBy w1 none) := hg1; clear hg1) | (go_at_call 111; refine (CA.out _).mono ?_; rintro e w' ⟨rfl, hw⟩; have hw2 := hw.symm; clear hw; subst hw2) | (go_at_call 130; refine (CM.out _).mono ?_; clear CM; rintro e w2 ⟨rfl, hg2⟩; have G2 : Hid (w.grownBy w2 none) := grown_none G1.out hg2; clear hg2))
  go_ret
  exact ⟨rfl, G2.out⟩
end Go.Proofs.YtbhmmcelndmijaaGreat.Wi
namespace Go.Proofs.YtbhmmcelndmijaaGreat.Wi
open Go.RowKit
theorem results_tri {fn : Func} {a b c : Tmp} (h : fn.results = #[.tmp a, .tmp b, .tmp c]) (tmps : Array Value) (P : Program) (w : World) :
    (results fn tmps).run P w = .ok (.tuple #[tmps.getD a undef, tmps.getD b undef, tmps.getD c undef]) w := by
  simp only [results, h]
  simp
set_option maxRecDepth 100000 in
set_option maxHeartbeats 400000 in
theorem unframe_out (s : ByteArray) (p : Int) (w : World) (h : p < 0 ∨ (s.size : Int) < p) : Calls Tryz.prog 87 #[.string s, .int .i64 p] w fun e w' => e = .returned (.tuple #[.string ⟨#[]⟩, .int .i64 0, .int .i64 1]) ∧ w' = w := by
  by_cases h0 : p < 0
  · clear h
    go_enter Tryz.func87, Tryz.ntmps87
    go_wp2
    exact bodyPost_ret (results_tri Tryz.results87 _ _ _) rfl ⟨rfl, rfl⟩
  · have h1 : (s.size : Int) < p := by omega
    clear h
    go_enter Tryz.func87, Tryz.ntmps87
    go_wp2
    exact bodyPost_ret (results_tri Tryz.results87 _ _ _) rfl ⟨rfl, rfl⟩
/-- What is left of a text at a place; what Unframe takes there; where it stands; the check that lies there; the error. -/
def unR (s : ByteArray) (p : Nat) : ByteArray := s.extract p s.size
def unT (s : ByteArray) (p : Nat) : ByteArray := txtV (unR s p) 0 2147483647
def unS (s : ByteArray) (p : Nat) : ByteArray := txtS (unR s p) 0 2147483647
def unA (s : ByteArray) (p : Nat) : Nat := txtA (unR s p) 0 0 2147483647
def unE (s : ByteArray) (p : Nat) : Nat := txtE (unR s p) 0 2147483647
def unN (s : ByteArray) (p : Nat) : Nat := leT (takeV (unS s p) 4) (takeV (unS s p) 4).size
def unB (s : ByteArray) (p : Nat) : Nat := takeA (unS s p) (unA s p) 4
def unF (s : ByteArray) (p : Nat) : Nat := takeE (unS s p) (unE s p) 4
theorem un_room (s : ByteArray) (p : Nat) : unA s p + (unS s p).size ≤ (unR s p).size := by
  have h1 := take_room (cntS (unR s p) 0 2147483647) (takeA (unR s p) 0 4) (cntE (unR s p) 0 2147483647) (cntN (unR s p) 0 2147483647)
  have h2 := cnt_room (unR s p) 0 0 2147483647
  unfold unA unS txtA txtS
  omega
theorem unN_lt (s : ByteArray) (p : Nat) : unN s p < 4294967296 := by
  have h1 := leT_lt (takeV (unS s p) 4) (takeV (unS s p) 4).size
  have h2 := takeV_le (unS s p) 4
  have h3 : 2 ^ (8 * (takeV (unS s p) 4).size) ≤ 2 ^ 32 := Nat.pow_le_pow_right (by omega) (by omega)
  unfold unN
  omega
set_option maxRecDepth 100000 in
set_option maxHeartbeats 400000 in
theorem unframe_bad (s : ByteArray) (p : Nat) (w : World) (hs : s.size ≤ 4500) (hp : p ≤ s.size) (hF : unF s p ≠ 0) : Calls Tryz.prog 87 #[.string s, .int .i64 p] w fun e w' => e = .returned (.tuple #[.string ⟨#[]⟩, .int .i64 0, .int .i64 (unF s p : Nat)]) ∧ w.grownBy w' none := by
  have hR : (unR s p).size ≤ 4500 := by unfold unR; rw [ByteArray.size_extract]; omega
  have hrm := un_room s p
  have hRs : (unR s p).size = s.size - p := by unfold unR; rw [ByteArray.size_extract]; omega
  have CT : Hid (∀ w b, Blk w b 141 (rd (unR s p) 0 0) → Calls Tryz.prog 104 #[.pointer (some ⟨b, 0, none⟩), .int .i64 2147483647] w fun r w' => r = .returned (.string (unT s p)) ∧ Blk w' b 141 (rd (unS s p) (unA s p) (unE s p)) ∧ w.grownBy w' (some b)) := fun w b h => text_any b _ 0 0 2147483647 w h (by omega) (by omega)
  have CN : Hid (∀ w b, Blk w b 141 (rd (unS s p) (unA s p) (unE s p)) → Calls Tryz.prog 76 #[.pointer (some ⟨b, 0, none⟩), .int .i64 4] w fun r w' => r = .returned (.int .u64 (unN s p : Nat)) ∧ Blk w' b 141 (rd (takeS (unS s p) (unE s p) 4) (unB s p) (unF s p)) ∧ w.grownBy w' (some b)) := fun w b h => rnumber_any b _ _ _ 4 w h (by omega) (by omega)
  have CW : Hid (∀ w, Calls Tryz.prog 55 #[.string (s.extract p s.size)] w fun e w' => e = .returned (.pointer (some ⟨w.heap.size, 0, none⟩)) ∧ Blk w' w.heap.size 141 (rd (unR s p) 0 0) ∧ w.grownBy w' none) := fun w => newReader_any _ w
  generalize unF s p = F at *
  generalize unB s p = B at *
  generalize unN s p = N at *
  generalize unT s p = T at *
  generalize takeS (unS s p) (unE s p) 4 = Z at *
  generalize unS s p = S at *
  generalize unA s p = A at *
  generalize unE s p = E at *
  generalize unR s p = R at *
  have s0 : (s.size : Int) ≤ 4500 := by omega
  have p0 : (0 : Int) ≤ (p : Int) := by omega
  have p1 : (p : Int) ≤ (s.size : Int) := by omega
  have p2 : (p : Int) + (A : Int) ≤ (s.size : Int) := by omega
  have p3 : (0 : Int) ≤ (A : Int) := by omega
  have hF' : ((F : Int) != 0) = true := by rw [bne_iff_ne]; omega
  clear hs hp hR hrm hRs hF
  go_enter Tryz.func87, Tryz.ntmps87
  go_wp2_with (first | (go_at_call 55; refine (CW.out _).mono ?_; rintro e w1 ⟨rfl, hb1, hg1⟩; have B1 : Hid (Blk w1 w.heap.size 141 (rd R 0 0)) := hb1; have G1 : Hid (w.grownBy w1 none) := hg1; clear hb1 hg1) | (go_at_call 104; refine (CT.out _ _ B1.out).mono ?_; rintro e w2 ⟨rfl, hb2, hg2⟩; have B2 : Hid (Blk w2 w.heap.size 141 (rd S A E)) := hb2; have G2 : Hid (w.grownBy w2 none) := grown_through G1.out hg2 (Nat.le_refl _); clear hb2 hg2) | (go_at_call 110; refine (at_any w.heap.size S A E _ B2.out).mono ?_; rintro e w' ⟨rfl, hw⟩; have hw2 := hw.symm; clear hw; subst hw2) | (go_at_call 76; refine (CN.out _ _ B2.out).mono ?_; rintro e w3 ⟨rfl, hb3, hg3⟩; have B3 : Hid (Blk w3 w.heap.size 141 (rd Z B F)) := hb3; have G3 : Hid (w.grownBy w3 none) := grown_through G2.out hg3 (Nat.le_refl _); clear hb3 hg3) | (go_at_call 81; refine (err_any w.heap.size Z B F _ B3.out).mono ?_; rintro e w' ⟨rfl, hw⟩; have hw2 := hw.symm; clear hw; subst hw2))
  exact bodyPost_ret (results_tri Tryz.results87 _ _ _) rfl ⟨rfl, G3.out⟩
set_option maxRecDepth 100000 in
set_option maxHeartbeats 400000 in
theorem unframe_in (s : ByteArray) (p : Nat) (w : World) (hs : s.size ≤ 4500) (hp : p ≤ s.size) (hF : unF s p = 0) (V : ByteArray) (x y : Nat) (hV : (unN s p = adl (s.extract p (p + unA s p)) ∧ V = unT s p ∧ x = p + unB s p ∧ y = 0) ∨ (unN s p ≠ adl (s.extract p (p + unA s p)) ∧ V = ⟨#[]⟩ ∧ x = 0 ∧ y = 6)) : Calls Tryz.prog 87 #[.string s, .int .i64 p] w fun e w' => e = .returned (.tuple #[.string V, .int .i64 x, .int .i64 y]) ∧ w.grownBy w' none := by
  have hR : (unR s p).size ≤ 4500 := by unfold unR; rw [ByteArray.size_extract]; omega
  have hrm := un_room s p
  have hRs : (unR s p).size = s.size - p := by unfold unR; rw [ByteArray.size_extract]; omega
  have CT : Hid (∀ w b, Blk w b 141 (rd (unR s p) 0 0) → Calls Tryz.prog 104 #[.pointer (some ⟨b, 0, none⟩), .int .i64 2147483647] w fun r w' => r = .returned (.string (unT s p)) ∧ Blk w' b 141 (rd (unS s p) (unA s p) (unE s p)) ∧ w.grownBy w' (some b)) := fun w b h => text_any b _ 0 0 2147483647 w h (by omega) (by omega)
  have CN : Hid (∀ w b, Blk w b 141 (rd (unS s p) (unA s p) (unE s p)) → Calls Tryz.prog 76 #[.pointer (some ⟨b, 0, none⟩), .int .i64 4] w fun r w' => r = .returned (.int .u64 (unN s p : Nat)) ∧ Blk w' b 141 (rd (takeS (unS s p) (unE s p) 4) (unB s p) (unF s p)) ∧ w.grownBy w' (some b)) := fun w b h => rnumber_any b _ _ _ 4 w h (by omega) (by omega)
  have CW : Hid (∀ w, Calls Tryz.prog 55 #[.string (s.extract p s.size)] w fun e w' => e = .returned (.pointer (some ⟨w.heap.size, 0, none⟩)) ∧ Blk w' w.heap.size 141 (rd (unR s p) 0 0) ∧ w.grownBy w' none) := fun w => newReader_any _ w
  have hNl := unN_lt s p
  have hB : unB s p ≤ unA s p + 4 := by unfold unB takeA; split <;> omega
  have CA : Hid (∀ w, Calls Tryz.prog 111 #[.string (s.extract p (p + unA s p))] w fun e w' => e = .returned (.int .u32 (adl (s.extract p (p + unA s p)) : Nat)) ∧ w' = w) := fun w => adler_any _ w (by rw [ByteArray.size_extract]; omega)
  have hcl := adl_lt (s.extract p (p + unA s p))
  obtain ⟨c, ec⟩ : ∃ c, adl (s.extract p (p + unA s p)) = c := ⟨_, rfl⟩
  rw [ec] at CA hcl hV
  clear ec
  rw [hF] at CN
  clear hF
  generalize unB s p = B at *
  generalize unN s p = N at *
  generalize unT s p = T at *
  generalize takeS (unS s p) (unE s p) 4 = Z at *
  generalize unS s p = S at *
  generalize unA s p = A at *
  generalize unE s p = E at *
  generalize unR s p = R at *
  have s0 : (s.size : Int) ≤ 4500 := by omega
  have p0 : (0 : Int) ≤ (p : Int) := by omega
  have p1 : (p : Int) ≤ (s.size : Int) := by omega
  have p2 : (p : Int) + (A : Int) ≤ (s.size : Int) := by omega
  have p3 : (0 : Int) ≤ (A : Int) := by omega
  have b1 : (B : Int) ≤ 4600 := by omega
  have b0 : (0 : Int) ≤ (B : Int) := by omega
  have i3 : IntKind.u64.wrap (c : Int) = (c : Int) := by rw [IntKind.wrap_u64]; omega
  clear hs hp hR hrm hRs hNl hB hcl
  rcases hV with ⟨e1, rfl, rfl, rfl⟩ | ⟨e1, rfl, rfl, rfl⟩
  · have e2 : ((N : Int) == (c : Int)) = true := by rw [e1]; simp
    have e3 : ((N : Int) != (c : Int)) = false := by rw [bne, e2]; rfl
    clear e1 e2
    go_enter Tryz.func87, Tryz.ntmps87
    go_wp2_with (first | (go_at_call 111; refine (CA.out _).mono ?_; rintro e w' ⟨rfl, hw⟩; have hw2 := hw.symm; clear hw; subst hw2) | (go_at_call 55; refine (CW.out _).mono ?_; rintro e w1 ⟨rfl, hb1, hg1⟩; have B1 : Hid (Blk w1 w.heap.size 141 (rd R 0 0)) := hb1; have G1 : Hid (w.grownBy w1 none) := hg1; clear hb1 hg1) | (go_at_call 104; refine (CT.out _ _ B1.out).mono ?_; rintro e w2 ⟨rfl, hb2, hg2⟩; have B2 : Hid (Blk w2 w.heap.size 141 (rd S A E)) := hb2; have G2 : Hid (w.grownBy w2 none) := grown_through G1.out hg2 (Nat.le_refl _); clear hb2 hg2) | (go_at_call 110; refine (at_any w.heap.size Z B 0 _ B3.out).mono ?_; rintro e w' ⟨rfl, hw⟩; have hw2 := hw.symm; clear hw; subst hw2) | (go_at_call 110; refine (at_any w.heap.size S A E _ B2.out).mono ?_; rintro e w' ⟨rfl, hw⟩; have hw2 := hw.symm; clear hw; subst hw2) | (go_at_call 76; refine (CN.out _ _ B2.out).mono ?_; rintro e w3 ⟨rfl, hb3, hg3⟩; have B3 : Hid (Blk w3 w.heap.size 141 (rd Z B 0)) := hb3; have G3 : Hid (w.grownBy w3 none) := grown_through G2.out hg3 (Nat.le_refl _); clear hb3 hg3) | (go_at_call 81; refine (err_any w.heap.size Z B 0 _ B3.out).mono ?_; rintro e w' ⟨rfl, hw⟩; have hw2 := hw.symm; clear hw; subst hw2))
    exact bodyPost_ret (results_tri Tryz.results87 _ _ _) rfl ⟨rfl, G3.out⟩
  · have e2 : ((N : Int) == (c : Int)) = false := by simp; omega
    have e3 : ((N : Int) != (c : Int)) = true := by rw [bne, e2]; rfl
    clear e1 e2
    go_enter Tryz.func87, Tryz.ntmps87
    go_wp2_with (first | (go_at_call 111; refine (CA.out _).mono ?_; rintro e w' ⟨rfl, hw⟩; have hw2 := hw.symm; clear hw; subst hw2) | (go_at_call 55; refine (CW.out _).mono ?_; rintro e w1 ⟨rfl, hb1, hg1⟩; have B1 : Hid (Blk w1 w.heap.size 141 (rd R 0 0)) := hb1; have G1 : Hid (w.grownBy w1 none) := hg1; clear hb1 hg1) | (go_at_call 104; refine (CT.out _ _ B1.out).mono ?_; rintro e w2 ⟨rfl, hb2, hg2⟩; have B2 : Hid (Blk w2 w.heap.size 141 (rd S A E)) := hb2; have G2 : Hid (w.grownBy w2 none) := grown_through G1.out hg2 (Nat.le_refl _); clear hb2 hg2) | (go_at_call 110; refine (at_any w.heap.size Z B 0 _ B3.out).mono ?_; rintro e w' ⟨rfl, hw⟩; have hw2 := hw.symm; clear hw; subst hw2) | (go_at_call 110; refine (at_any w.heap.size S A E _ B2.out).mono ?_; rintro e w' ⟨rfl, hw⟩; have hw2 := hw.symm; clear hw; subst hw2) | (go_at_call 76; refine (CN.out _ _ B2.out).mono ?_; rintro e w3 ⟨rfl, hb3, hg3⟩; have B3 : Hid (Blk w3 w.heap.size 141 (rd Z B 0)) := hb3; have G3 : Hid (w.grownBy w3 none) := grown_through G2.out hg3 (Nat.le_refl _); clear hb3 hg3) | (go_at_call 81; refine (err_any w.heap.size Z B 0 _ B3.out).mono ?_; rintro e w' ⟨rfl, hw⟩; have hw2 := hw.symm; clear hw; subst hw2))
    exact bodyPost_ret (results_tri Tryz.results87 _ _ _) rfl ⟨rfl, G3.out⟩
end Go.Proofs.YtbhmmcelndmijaaGreat.Wi
namespace Go.Proofs.YtbhmmcelndmijaaGreat.Wi
open Go.RowKit
set_option maxRecDepth 100000 in
set_option maxHeartbeats 400000 in
theorem frame_big (s : ByteArray) (w : World) (hs : s.size ≤ 100000000) : Calls Tryz.prog 120 #[.string s] w fun e w' => e = .returned (.string (frmS s)) ∧ w.grownBy w' none := by
  have CN : Hid (∀ w, Calls Tryz.prog 130 #[.int .u64 s.size, .int .i64 4] w fun e w' => e = .returned (.string (numS s.size 4)) ∧ w.grownBy w' none) := fun w => number_any s.size 4 w (by omega)
  have hz := numS_size s.size 4
  have hM : (numS s.size 4 ++ s).size ≤ 1000000000 := by rw [ByteArray.size_append, hz]; omega
  have CA : Hid (∀ w, Calls Tryz.prog 111 #[.string (numS s.size 4 ++ s)] w fun e w' => e = .returned (.int .u32 (adl (numS s.size 4 ++ s) : Nat)) ∧ w' = w) := fun w => adler_big _ w hM
  have hlt := adl_lt (numS s.size 4 ++ s)
  have CM : Hid (∀ w, Calls Tryz.prog 130 #[.int .u64 (adl (numS s.size 4 ++ s) : Nat), .int .i64 4] w fun e w' => e = .returned (.string (numS (adl (numS s.size 4 ++ s)) 4)) ∧ w.grownBy w' none) := fun w => number_any _ 4 w (by omega)
  have hz2 := numS_size (adl (numS s.size 4 ++ s)) 4
  unfold frmS
  generalize numS (adl (numS s.size 4 ++ s)) 4 = R at *
  generalize adl (numS s.size 4 ++ s) = c at *
  generalize numS s.size 4 = S at *
  have i0 : (s.size : Int) ≤ 100000000 := by omega
  have i1 : (S.size : Int) = 4 := by omega
  have i2 : (R.size : Int) = 4 := by omega
  have i3 : IntKind.u64.wrap (c : Int) = (c : Int) := by rw [IntKind.wrap_u64]; omega
  clear hs hM hlt
  go_enter Tryz.func120, Tryz.ntmps120
  go_wp2_with (first | (go_at_call 130; refine (CN.out _).mono ?_; clear CN; rintro e w1 ⟨rfl, hg1⟩; have G1 : Hid (w.grownBy w1 none) := hg1; clear hg1) | (go_at_call 111; refine (CA.out _).mono ?_; rintro e w' ⟨rfl, hw⟩; have hw2 := hw.symm; clear hw; subst hw2) | (go_at_call 130; refine (CM.out _).mono ?_; clear CM; rintro e w2 ⟨rfl, hg2⟩; have G2 : Hid (w.grownBy w2 none) := grown_none G1.out hg2; clear hg2))
  go_ret
  exact ⟨rfl, G2.out⟩
end Go.Proofs.YtbhmmcelndmijaaGreat.Wi
namespace Go.Proofs.YtbhmmcelndmijaaGreat.Pa
open Go.RowKit
theorem byt_le (V : ByteArray) (k i : Nat) (h : i < k) : byt (leT V k) i = (V.data.getD i 0).toNat := by
  induction k with
  | zero => omega
  | succ k ih =>
    have hb : (V.data.getD i 0).toNat < 256 := UInt8.toNat_lt _
    have hlt := leT_lt V k
    unfold byt
    show (leT V k + (V.data.getD k 0).toNat * 2 ^ (8 * k)) / 2 ^ (8 * i) % 256 = _
    by_cases e : i = k
    · subst e
      rw [Nat.add_mul_div_right _ _ (Nat.pow_pos (by decide)), Nat.div_eq_of_lt hlt, Nat.zero_add, Nat.mod_eq_of_lt hb]
    · have h2 := ih (by omega)
      unfold byt at h2
      have e2 : 2 ^ (8 * k) = 2 ^ (8 * (k - i)) * 2 ^ (8 * i) := by rw [← Nat.pow_add]; congr 1; omega
      rw [e2, ← Nat.mul_assoc, Nat.add_mul_div_right _ _ (Nat.pow_pos (by decide)), show 8 * (k - i) = 8 * (k - i - 1) + 8 by omega, Nat.pow_add, show (2 : Nat) ^ 8 = 256 from rfl, ← Nat.mul_assoc, Nat.add_mul_mod_self_right, h2]
theorem numS_le (V : ByteArray) (k : Nat) (h : V.size = k) : numS (leT V k) k = V := by
  apply bytes_ext
  rw [numS_list]
  apply List.ext_getElem
  · rw [numL_len, bytes_len, h]
  · intro i h1 h2
    have hi : i < k := by rw [numL_len] at h1; exact h1
    have e1 := numL_at (leT V k) k i h1
    have e2 := byt_le V k i hi
    have e3 : V.data.getD i 0 = V.data.toList[i] := by
      rw [getD_byte V i (by omega)]
      rfl
    rw [e2, e3] at e1
    exact UInt8.toNat_inj.1 (by omega)
theorem takeE_zero (s : ByteArray) (e n : Nat) (h : takeE s e n = 0) : n ≤ s.size ∧ e = 0 := by
  unfold takeE failE at h
  by_cases h1 : s.size < n
  · rw [if_pos h1] at h
    split at h
    · next q => omega
    · omega
  · rw [if_neg h1] at h
    exact ⟨by omega, h⟩
theorem failE_zero (e f : Nat) (h : failE e f = 0) : e = 0 ∧ f = 0 := by
  unfold failE at h
  split at h
  · next q => omega
  · next q => omega
theorem ext_list (s : ByteArray) (p m : Nat) : (s.extract p m).data.toList = (s.data.toList.take m).drop p := by
  rw [ByteArray.data_extract, Array.toList_extract, List.extract_eq_take_drop, List.drop_take]
theorem ext_cut (s : ByteArray) (p n : Nat) (hp : p ≤ s.size) : s.extract p (p + (4 + n)) = (s.extract p s.size).extract 0 4 ++ ((s.extract p s.size).extract 4 (s.extract p s.size).size).extract 0 n := by
  apply bytes_ext
  rw [append_list]
  simp only [ext_list]
  have e1 : s.data.toList.take s.size = s.data.toList := List.take_of_length_le (by rw [bytes_len]; exact Nat.le_refl _)
  have e2 : (s.extract p s.size).size = s.size - p := by rw [ByteArray.size_extract]; omega
  rw [e1, e2, List.drop_take, List.take_of_length_le (l := s.data.toList.drop p) (i := s.size - p) (by rw [List.length_drop, bytes_len]; exact Nat.le_refl _), show p + (4 + n) - p = 4 + n by omega, List.take_add]
  simp
end Go.Proofs.YtbhmmcelndmijaaGreat.Pa
