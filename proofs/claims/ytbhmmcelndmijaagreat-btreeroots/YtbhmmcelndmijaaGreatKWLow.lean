/-
  The contracts of Reader.Count and Reader.Text, and of the laws' own look whether the program is awake. The contract of the document's Number. The contracts that the law WirePuts leans on: few, the document's Text and Hash, the writer's Bool. The law WireLowest walked: of whatever number and whatever count of bytes it answers true, and nothing that was there turns. The contract of the document's Number. The contracts that the law WirePuts leans on: few, the document's Text and Hash, the writer's Bool. The law WireLowest walked: of whatever number and whatever count of bytes it answers true, and nothing that was there turns.
-/
import Derived.Test.YtbhmmcelndmijaaGreatKWText
namespace Go.Proofs.YtbhmmcelndmijaaGreat.Pa
open Go.RowKit
/-- The count that stands ahead. -/
def cntR (s : ByteArray) : Nat := leT (takeV s 4) (takeV s 4).size
/-- The error that a count brings: 0 for none. -/
def cntF (s : ByteArray) (e : Nat) (most : Int) : Nat := if takeE s e 4 ≠ 0 then 0 else if most < 0 ∨ most < (cntR s : Int) then 3 else 0
def cntN (s : ByteArray) (e : Nat) (most : Int) : Nat := if takeE s e 4 ≠ 0 then 0 else if most < 0 ∨ most < (cntR s : Int) then 0 else cntR s
def cntS (s : ByteArray) (e : Nat) (most : Int) : ByteArray := failS (takeS s e 4) (takeE s e 4) (cntF s e most)
def cntE (s : ByteArray) (e : Nat) (most : Int) : Nat := failE (takeE s e 4) (cntF s e most)
theorem cntR_lt (s : ByteArray) : cntR s < 4294967296 := by
  have h1 := leT_lt (takeV s 4) (takeV s 4).size
  have h2 : (takeV s 4).size ≤ 4 := by
    unfold takeV
    split
    · exact Nat.zero_le _
    · rw [ByteArray.size_extract]; omega
  have h3 : 2 ^ (8 * (takeV s 4).size) ≤ 2 ^ 32 := Nat.pow_le_pow_right (by omega) (by omega)
  unfold cntR
  omega
set_option maxRecDepth 100000 in
set_option maxHeartbeats 400000 in
theorem count_any (b : Nat) (s : ByteArray) (a e : Nat) (most : Int) (w : World) (h : Blk w b 141 (rd s a e)) (ha : (a : Int) + (s.size : Int) ≤ 9223372036854775807) (hm : most ≤ 9223372036854775807) : Calls Tryz.prog 105 #[.pointer (some ⟨b, 0, none⟩), .int .i64 most] w fun r w' => r = .returned (.int .i64 (cntN s e most)) ∧ Blk w' b 141 (rd (cntS s e most) (takeA s a 4) (cntE s e most)) ∧ w.grownBy w' (some b) := by
  have C : Hid (Calls Tryz.prog 76 #[.pointer (some ⟨b, 0, none⟩), .int .i64 4] w fun r w' => r = .returned (.int .u64 ((cntR s : Nat) : Int)) ∧ Blk w' b 141 (rd (takeS s e 4) (takeA s a 4) (takeE s e 4)) ∧ w.grownBy w' (some b)) := rnumber_any b s a e 4 w h ha (by omega)
  have hlt := cntR_lt s
  unfold cntS cntE cntN cntF
  generalize cntR s = n at *
  generalize takeS s e 4 = S at *
  generalize takeA s a 4 = A at *
  generalize takeE s e 4 = E at *
  clear h
  have n0 : (n : Int) < 4294967296 := by omega
  have n1 : (0 : Int) ≤ (n : Int) := by omega
  by_cases hE : E ≠ 0
  · rw [if_pos hE, if_pos hE]
    have e1 : failS S E 0 = S := by unfold failS; rw [if_pos (Or.inl rfl)]
    have e2 : failE E 0 = E := by unfold failE; rw [if_pos (Or.inl rfl)]
    rw [e1, e2]
    have hE' : ((E : Int) != 0) = true := by rw [bne_iff_ne]; omega
    clear e1 e2 hE
    go_enter Tryz.func105, Tryz.ntmps105
    go_wp2_with (first | (go_at_call 76; refine C.out.mono ?_; rintro r w1 ⟨rfl, hb1, hg1⟩; have B1 : Hid (Blk w1 b 141 (rd S A E)) := hb1; have G1 : Hid (w.grownBy w1 (some b)) := hg1; clear hb1 hg1) | (go_at_call 81; refine (err_any b _ _ _ _ B1.out).mono ?_; rintro r w' ⟨rfl, hw⟩; have hw2 := hw.symm; clear hw; subst hw2))
    go_ret
    exact ⟨rfl, B1.out, G1.out⟩
  · have hE0 : E = 0 := by omega
    subst hE0
    rw [if_neg hE, if_neg hE]
    clear hE
    by_cases hbad : most < 0 ∨ most < (n : Int)
    · rw [if_pos hbad, if_pos hbad]
      by_cases h0 : most < 0
      · clear hbad
        go_enter Tryz.func105, Tryz.ntmps105
        go_wp2_with (first | (go_at_call 76; refine C.out.mono ?_; rintro r w1 ⟨rfl, hb1, hg1⟩; have B1 : Hid (Blk w1 b 141 (rd S A 0)) := hb1; have G1 : Hid (w.grownBy w1 (some b)) := hg1; clear hb1 hg1) | (go_at_call 81; refine (err_any b _ _ _ _ B1.out).mono ?_; rintro r w' ⟨rfl, hw⟩; have hw2 := hw.symm; clear hw; subst hw2) | (go_at_call 80; refine (fail_any b S A 0 3 _ B1.out).mono ?_; rintro r w2 ⟨rfl, hb2, hg2⟩; have B2 : Hid (Blk w2 b 141 (rd (failS S 0 3) A (failE 0 3))) := hb2; have G2 : Hid (w.grownBy w2 (some b)) := grown_trans G1.out hg2; clear hb2 hg2))
        go_ret
        exact ⟨rfl, B2.out, G2.out⟩
      · have h0' : (0 : Int) ≤ most := by omega
        have h1 : most < (n : Int) := by omega
        clear hbad h0
        go_enter Tryz.func105, Tryz.ntmps105
        go_wp2_with (first | (go_at_call 76; refine C.out.mono ?_; rintro r w1 ⟨rfl, hb1, hg1⟩; have B1 : Hid (Blk w1 b 141 (rd S A 0)) := hb1; have G1 : Hid (w.grownBy w1 (some b)) := hg1; clear hb1 hg1) | (go_at_call 81; refine (err_any b _ _ _ _ B1.out).mono ?_; rintro r w' ⟨rfl, hw⟩; have hw2 := hw.symm; clear hw; subst hw2) | (go_at_call 80; refine (fail_any b S A 0 3 _ B1.out).mono ?_; rintro r w2 ⟨rfl, hb2, hg2⟩; have B2 : Hid (Blk w2 b 141 (rd (failS S 0 3) A (failE 0 3))) := hb2; have G2 : Hid (w.grownBy w2 (some b)) := grown_trans G1.out hg2; clear hb2 hg2))
        go_ret
        exact ⟨rfl, B2.out, G2.out⟩
    · rw [if_neg hbad, if_neg hbad]
      have e1 : failS S 0 0 = S := by unfold failS; rw [if_pos (Or.inl rfl)]
      have e2 : failE 0 0 = 0 := by unfold failE; rw [if_pos (Or.inl rfl)]
      rw [e1, e2]
      have d1 : ¬ (most < 0) := by omega
      have hu2 : IntKind.u64.wrap most = most := by rw [IntKind.wrap_u64]; omega
      have d2 : ¬ (most < (n : Int)) := by omega
      have hw : IntKind.i64.wrap (n : Int) = (n : Int) := by rw [IntKind.wrap_i64]; omega
      clear hbad e1 e2 hm hlt ha n0 n1
      go_enter Tryz.func105, Tryz.ntmps105
      go_wp2_with (first | (go_at_call 76; refine C.out.mono ?_; rintro r w1 ⟨rfl, hb1, hg1⟩; have B1 : Hid (Blk w1 b 141 (rd S A 0)) := hb1; have G1 : Hid (w.grownBy w1 (some b)) := hg1; clear hb1 hg1) | (go_at_call 81; refine (err_any b _ _ _ _ B1.out).mono ?_; rintro r w' ⟨rfl, hw⟩; have hw2 := hw.symm; clear hw; subst hw2))
      go_ret
      exact ⟨rfl, B1.out, G1.out⟩
theorem failS_size (s : ByteArray) (e f : Nat) : (failS s e f).size ≤ s.size := by
  unfold failS
  split
  · exact Nat.le_refl _
  · exact Nat.zero_le _
theorem take_room (s : ByteArray) (a e n : Nat) : takeA s a n + (takeS s e n).size ≤ a + s.size := by
  unfold takeA takeS
  split
  · have := failS_size s e 4; omega
  · rw [ByteArray.size_extract]; omega
theorem cnt_room (s : ByteArray) (a e : Nat) (most : Int) : takeA s a 4 + (cntS s e most).size ≤ a + s.size := by
  have h1 := take_room s a e 4
  have h2 := failS_size (takeS s e 4) (takeE s e 4) (cntF s e most)
  unfold cntS
  omega
/-- The text that stands ahead, and the reader behind it. -/
def txtV (s : ByteArray) (e : Nat) (most : Int) : ByteArray := takeV (cntS s e most) (cntN s e most)
def txtS (s : ByteArray) (e : Nat) (most : Int) : ByteArray := takeS (cntS s e most) (cntE s e most) (cntN s e most)
def txtA (s : ByteArray) (a e : Nat) (most : Int) : Nat := takeA (cntS s e most) (takeA s a 4) (cntN s e most)
def txtE (s : ByteArray) (e : Nat) (most : Int) : Nat := takeE (cntS s e most) (cntE s e most) (cntN s e most)
theorem cntN_lt (s : ByteArray) (e : Nat) (most : Int) : cntN s e most < 4294967296 := by
  have := cntR_lt s
  unfold cntN
  split
  · omega
  · split <;> omega
set_option maxRecDepth 100000 in
set_option maxHeartbeats 400000 in
theorem text_any (b : Nat) (s : ByteArray) (a e : Nat) (most : Int) (w : World) (h : Blk w b 141 (rd s a e)) (ha : (a : Int) + (s.size : Int) ≤ 9223372036854775807) (hm : most ≤ 9223372036854775807) : Calls Tryz.prog 104 #[.pointer (some ⟨b, 0, none⟩), .int .i64 most] w fun r w' => r = .returned (.string (txtV s e most)) ∧ Blk w' b 141 (rd (txtS s e most) (txtA s a e most) (txtE s e most)) ∧ w.grownBy w' (some b) := by
  have C : Hid (Calls Tryz.prog 105 #[.pointer (some ⟨b, 0, none⟩), .int .i64 most] w fun r w' => r = .returned (.int .i64 (cntN s e most)) ∧ Blk w' b 141 (rd (cntS s e most) (takeA s a 4) (cntE s e most)) ∧ w.grownBy w' (some b)) := count_any b s a e most w h ha hm
  have hr := cnt_room s a e most
  have hn := cntN_lt s e most
  unfold txtV txtS txtA txtE
  generalize cntN s e most = n at *
  generalize cntS s e most = S at *
  generalize takeA s a 4 = A at *
  generalize cntE s e most = E at *
  have CB : Hid (∀ w, Blk w b 141 (rd S A E) → Calls Tryz.prog 123 #[.pointer (some ⟨b, 0, none⟩), .int .i64 n] w fun r w' => r = .returned (.string (takeV S n)) ∧ Blk w' b 141 (rd (takeS S E n) (takeA S A n) (takeE S E n)) ∧ w.grownBy w' (some b)) := fun w h => bytes_any b S A E n w h (by omega) (by omega)
  clear h hr hn
  generalize takeV S n = V at *
  go_enter Tryz.func104, Tryz.ntmps104
  go_wp2_with (first | (go_at_call 105; refine C.out.mono ?_; rintro r w1 ⟨rfl, hb1, hg1⟩; have B1 : Hid (Blk w1 b 141 (rd S A E)) := hb1; have G1 : Hid (w.grownBy w1 (some b)) := hg1; clear hb1 hg1) | (go_at_call 123; refine (CB.out _ B1.out).mono ?_; rintro r w2 ⟨rfl, hb2, hg2⟩; have B2 : Hid (Blk w2 b 141 (rd (takeS S E n) (takeA S A n) (takeE S E n))) := hb2; have G2 : Hid (w.grownBy w2 (some b)) := grown_trans G1.out hg2; clear hb2 hg2))
  go_ret
  exact ⟨rfl, B2.out, G2.out⟩
def abcS : ByteArray := ⟨#[3, 0, 0, 0, 97, 98, 99]⟩
end Go.Proofs.YtbhmmcelndmijaaGreat.Pa
namespace Go.Proofs.YtbhmmcelndmijaaGreat.Pa
open Go.RowKit
theorem append_list (a b : ByteArray) : (a ++ b).data.toList = a.data.toList ++ b.data.toList := by
  rw [ByteArray.data_append, Array.toList_append]
theorem bytes_ext {a b : ByteArray} (h : a.data.toList = b.data.toList) : a = b := ByteArray.ext (Array.toList_inj.1 h)
theorem one_byte (W : World) (b : Nat) (cap : Nat) (n : Int) (m : Nat) (hm : m < 256) (hn : n = (m : Int)) (h : W.cell? ⟨b, 0, none⟩ = some (.int .u8 n)) :
    (convert 85 9 (.slice (some ⟨b, 0, none⟩) 1 cap)).run Tryz.prog W = .ok (.string ⟨#[UInt8.ofNat m]⟩) W := by
  have e := run_convert_bytes_back (P := Tryz.prog) W 85 9 5 ⟨b, 0, none⟩ cap [UInt8.ofNat m] Tryz.underlying85 Tryz.underlying5 Tryz.underlying9 (fun j hj => by
    have hj0 : j = 0 := by simpa using hj
    subst hj0
    rw [add_off, h, hn]
    show some (Value.int .u8 (m : Int)) = some (Value.int .u8 ((UInt8.ofNat m).toNat : Int))
    rw [UInt8.toNat_ofNat', Nat.mod_eq_of_lt hm])
  exact e
theorem div_step (m j : Nat) : m / 2 ^ (8 * j) / 256 = m / 2 ^ (8 * (j + 1)) := by
  rw [Nat.div_div_eq_div_mul, show (256 : Nat) = 2 ^ 8 from rfl, ← Nat.pow_add]
  congr 2
theorem numL_succ (n k : Nat) : numL n (k + 1) = numL n k ++ [UInt8.ofNat (n / 2 ^ (8 * k) % 256)] := by
  unfold numL
  rw [List.range_succ, List.map_append]
  rfl
end Go.Proofs.YtbhmmcelndmijaaGreat.Pa
namespace Go.Proofs.YtbhmmcelndmijaaGreat.Pa
open Go.RowKit
/-- The first 600 bytes at most. -/
def fewS (s : ByteArray) : ByteArray := if 600 < s.size then s.extract 0 600 else s
theorem fewS_size (s : ByteArray) : (fewS s).size ≤ 600 := by
  unfold fewS
  split
  · rw [ByteArray.size_extract]; omega
  · omega
theorem fill_step (s : List UInt8) (j : Nat) : s ++ List.replicate j 0 ++ [0] = s ++ List.replicate (j + 1) 0 := by
  rw [List.replicate_succ', List.append_assoc]
set_option maxRecDepth 100000 in
set_option maxHeartbeats 400000 in
theorem wbool_any (b : Nat) (l : List UInt8) (r : Bool) (w : World) (h : Wr w b l) (hl : l.length ≤ 1000000000) : Calls Tryz.prog 115 #[.pointer (some ⟨b, 0, none⟩), .bool r] w fun e w' => e = .returned (.tuple #[]) ∧ Wr w' b (l ++ numL (if r then 1 else 0) 1) ∧ Below b w w' := by
  have H : Hid (Wr w b l) := h
  clear h
  cases r
  · have C : Hid (Calls Tryz.prog 116 #[.pointer (some ⟨b, 0, none⟩), .int .u64 0, .int .i64 1] w fun e w' => e = .returned (.tuple #[]) ∧ Wr w' b (l ++ numL 0 1) ∧ Below b w w') := wnumber_any b l 0 1 w H.out hl (by decide)
    go_enter Tryz.func115, Tryz.ntmps115
    go_wp2_with (go_at_call 116; refine C.out.mono ?_; rintro e w1 ⟨rfl, hb1, hg1⟩)
    go_end0
    exact ⟨rfl, hb1, hg1⟩
  · have C : Hid (Calls Tryz.prog 116 #[.pointer (some ⟨b, 0, none⟩), .int .u64 1, .int .i64 1] w fun e w' => e = .returned (.tuple #[]) ∧ Wr w' b (l ++ numL 1 1) ∧ Below b w w') := wnumber_any b l 1 1 w H.out hl (by decide)
    go_enter Tryz.func115, Tryz.ntmps115
    go_wp2_with (go_at_call 116; refine C.out.mono ?_; rintro e w1 ⟨rfl, hb1, hg1⟩)
    refine bodyPost_ret (results_none rfl _ _ _) rfl ?_
    exact ⟨rfl, hb1, hg1⟩
theorem setRow_blk {w : World} {g : Nat} {t : TypeId} {old : Array Value} (hg : Blk w g t old) (cells : Array Value) : Blk (w.setRow g cells) g t cells := setRow_heap w g old cells t (0, 0) hg
theorem setRow_grown (w : World) (g : Nat) (cells : Array Value) : w.grownBy (w.setRow g cells) (some g) :=
  ⟨rfl, rfl, rfl, by simp, fun k _ hn => setRow_other w g k cells (fun e => hn (by rw [e]))⟩
end Go.Proofs.YtbhmmcelndmijaaGreat.Pa
namespace Go.Proofs.YtbhmmcelndmijaaGreat.Pa
open Go.RowKit
theorem extract_all (s : ByteArray) (n : Nat) (h : s.size = n) : s.extract 0 n = s := by
  apply bytes_ext
  rw [ByteArray.data_extract, Array.toList_extract]
  show s.data.toList.extract 0 n = _
  rw [← h, ← bytes_len]
  simp only [List.extract_eq_take_drop, List.drop_zero, Nat.sub_zero, List.take_length]
theorem extract_none (s : ByteArray) (n m : Nat) (h : m ≤ n) : s.extract n m = ⟨#[]⟩ := by
  apply ByteArray.ext
  apply Array.eq_empty_of_size_eq_zero
  show (s.extract n m).size = 0
  rw [ByteArray.size_extract]
  omega
theorem num_at (n k i : Nat) (h : i < k) : ((numS n k).data.getD i 0).toNat = byt n i := by
  have h1 : i < (numL n k).length := by rw [numL_len]; exact h
  have e : (numS n k).data.getD i 0 = (numL n k)[i] := by
    show (numL n k).toArray.getD i 0 = _
    rw [Array.getD_eq_getD_getElem?, List.getElem?_toArray, List.getElem?_eq_getElem h1]
    rfl
  rw [e]
  have := numL_at n k i h1
  omega
theorem le_num (n k : Nat) : ∀ j, j ≤ k → leT (numS n k) j = n % 2 ^ (8 * j)
  | 0, _ => by rw [Nat.mul_zero, Nat.pow_zero, Nat.mod_one]; rfl
  | j + 1, h => by
    show leT (numS n k) j + ((numS n k).data.getD j 0).toNat * 2 ^ (8 * j) = _
    rw [le_num n k j (by omega), num_at n k j (by omega), show 8 * (j + 1) = 8 * j + 8 by omega, Nat.pow_add, Nat.mod_mul]
    unfold byt
    rw [Nat.mul_comm (2 ^ (8 * j))]
end Go.Proofs.YtbhmmcelndmijaaGreat.Pa
namespace Go.Proofs.YtbhmmcelndmijaaGreat.Wi
open Go.RowKit
theorem append_list (a b : ByteArray) : (a ++ b).data.toList = a.data.toList ++ b.data.toList := by
  rw [ByteArray.data_append, Array.toList_append]
theorem bytes_ext {a b : ByteArray} (h : a.data.toList = b.data.toList) : a = b := ByteArray.ext (Array.toList_inj.1 h)
theorem one_byte (W : World) (b : Nat) (cap : Nat) (n : Int) (m : Nat) (hm : m < 256) (hn : n = (m : Int)) (h : W.cell? ⟨b, 0, none⟩ = some (.int .u8 n)) :
    (convert 85 9 (.slice (some ⟨b, 0, none⟩) 1 cap)).run Tryz.prog W = .ok (.string ⟨#[UInt8.ofNat m]⟩) W := by
  have e := run_convert_bytes_back (P := Tryz.prog) W 85 9 5 ⟨b, 0, none⟩ cap [UInt8.ofNat m] Tryz.underlying85 Tryz.underlying5 Tryz.underlying9 (fun j hj => by
    have hj0 : j = 0 := by simpa using hj
    subst hj0
    rw [add_off, h, hn]
    show some (Value.int .u8 (m : Int)) = some (Value.int .u8 ((UInt8.ofNat m).toNat : Int))
    rw [UInt8.toNat_ofNat', Nat.mod_eq_of_lt hm])
  exact e
theorem div_step (m j : Nat) : m / 2 ^ (8 * j) / 256 = m / 2 ^ (8 * (j + 1)) := by
  rw [Nat.div_div_eq_div_mul, show (256 : Nat) = 2 ^ 8 from rfl, ← Nat.pow_add]
  congr 2
theorem numL_succ (n k : Nat) : numL n (k + 1) = numL n k ++ [UInt8.ofNat (n / 2 ^ (8 * k) % 256)] := by
  unfold numL
  rw [List.range_succ, List.map_append]
  rfl
end Go.Proofs.YtbhmmcelndmijaaGreat.Wi
namespace Go.Proofs.YtbhmmcelndmijaaGreat.Wi
open Go.RowKit
/-- The first 600 bytes at most. -/
def fewS (s : ByteArray) : ByteArray := if 600 < s.size then s.extract 0 600 else s
theorem fewS_size (s : ByteArray) : (fewS s).size ≤ 600 := by
  unfold fewS
  split
  · rw [ByteArray.size_extract]; omega
  · omega
theorem fill_step (s : List UInt8) (j : Nat) : s ++ List.replicate j 0 ++ [0] = s ++ List.replicate (j + 1) 0 := by
  rw [List.replicate_succ', List.append_assoc]
theorem setRow_blk {w : World} {g : Nat} {t : TypeId} {old : Array Value} (hg : Blk w g t old) (cells : Array Value) : Blk (w.setRow g cells) g t cells := setRow_heap w g old cells t (0, 0) hg
theorem setRow_grown (w : World) (g : Nat) (cells : Array Value) : w.grownBy (w.setRow g cells) (some g) :=
  ⟨rfl, rfl, rfl, by simp, fun k _ hn => setRow_other w g k cells (fun e => hn (by rw [e]))⟩
end Go.Proofs.YtbhmmcelndmijaaGreat.Wi
namespace Go.Proofs.YtbhmmcelndmijaaGreat.Wi
open Go.RowKit
theorem extract_all (s : ByteArray) (n : Nat) (h : s.size = n) : s.extract 0 n = s := by
  apply bytes_ext
  rw [ByteArray.data_extract, Array.toList_extract]
  show s.data.toList.extract 0 n = _
  rw [← h, ← bytes_len]
  simp only [List.extract_eq_take_drop, List.drop_zero, Nat.sub_zero, List.take_length]
theorem extract_none (s : ByteArray) (n m : Nat) (h : m ≤ n) : s.extract n m = ⟨#[]⟩ := by
  apply ByteArray.ext
  apply Array.eq_empty_of_size_eq_zero
  show (s.extract n m).size = 0
  rw [ByteArray.size_extract]
  omega
theorem num_at (n k i : Nat) (h : i < k) : ((numS n k).data.getD i 0).toNat = byt n i := by
  have h1 : i < (numL n k).length := by rw [numL_len]; exact h
  have e : (numS n k).data.getD i 0 = (numL n k)[i] := by
    show (numL n k).toArray.getD i 0 = _
    rw [Array.getD_eq_getD_getElem?, List.getElem?_toArray, List.getElem?_eq_getElem h1]
    rfl
  rw [e]
  have := numL_at n k i h1
  omega
theorem le_num (n k : Nat) : ∀ j, j ≤ k → leT (numS n k) j = n % 2 ^ (8 * j)
  | 0, _ => by rw [Nat.mul_zero, Nat.pow_zero, Nat.mod_one]; rfl
  | j + 1, h => by
    show leT (numS n k) j + ((numS n k).data.getD j 0).toNat * 2 ^ (8 * j) = _
    rw [le_num n k j (by omega), num_at n k j (by omega), show 8 * (j + 1) = 8 * j + 8 by omega, Nat.pow_add, Nat.mod_mul]
    unfold byt
    rw [Nat.mul_comm (2 ^ (8 * j))]
end Go.Proofs.YtbhmmcelndmijaaGreat.Wi
