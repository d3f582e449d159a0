/-
  The contracts of Reader.Count and Reader.Text, and of the laws' own look whether the program is awake.
-/
import Derived.Test.YtiokjdjlopeliaaWrite
namespace Go.Proofs.Ytiokjdjlopeliaa
open Go.RowKit
/-- The count that stands ahead. -/
def cntR (s : ByteArray) : Nat := leT (takeV s 4) (takeV s 4).size
/-- The error that a count brings: 0 for none. -/
def cntF (s : ByteArray) (e : Nat) (most : Int) : Nat := if takeE s e 4 ≠ 0 then 0 else if most < 0 ∨ most < (cntR s : Int) then 3 else 0
def cntN (s : ByteArray) (e : Nat) (most : Int) : Nat := if takeE s e 4 ≠ 0 then 0 else if most < 0 ∨ most < (cntR s : Int) then 0 else cntR s
def cntS (s : ByteArray) (e : Nat) (most : Int) : ByteArray := failS (takeS s e 4) (takeE s e 4) (cntF s e most)
def cntE (s : ByteArray) (e : Nat) (most : Int) : Nat := failE (takeE s e 4) (cntF s e most)
theorem cntR_lt (s : ByteArray) : cntR s < 4294967296 := by
  have h1 := leT_lt (takeV s 4) (takeV s 4).size
  have h2 : (takeV s 4).size ≤ 4 := by
    unfold takeV
    split
    · exact Nat.zero_le _
    · rw [ByteArray.size_extract]; omega
  have h3 : 2 ^ (8 * (takeV s 4).size) ≤ 2 ^ 32 := Nat.pow_le_pow_right (by omega) (by omega)
  unfold cntR
  omega
set_option maxRecDepth 100000 in
set_option maxHeartbeats 400000 in
theorem count_any (b : Nat) (s : ByteArray) (a e : Nat) (most : Int) (w : World) (h : Blk w b 77 (rd s a e)) (ha : (a : Int) + (s.size : Int) ≤ 281474976710656) (hm : most ≤ 9223372036854775807) : Calls Try.prog 24 #[.pointer (some ⟨b, 0, none⟩), .int .i64 most] w fun r w' => r = .returned (.int .i64 (cntN s e most)) ∧ Blk w' b 77 (rd (cntS s e most) (takeA s a 4) (cntE s e most)) ∧ w.grownBy w' (some b) := by
  have C : Hid (Calls Try.prog 11 #[.pointer (some ⟨b, 0, none⟩), .int .i64 4] w fun r w' => r = .returned (.int .u64 ((cntR s : Nat) : Int)) ∧ Blk w' b 77 (rd (takeS s e 4) (takeA s a 4) (takeE s e 4)) ∧ w.grownBy w' (some b)) := rnumber_any b s a e 4 w h ha (by omega)
  have hlt := cntR_lt s
  unfold cntS cntE cntN cntF
  generalize cntR s = n at *
  generalize takeS s e 4 = S at *
  generalize takeA s a 4 = A at *
  generalize takeE s e 4 = E at *
  clear h
  have n0 : (n : Int) < 4294967296 := by omega
  have n1 : (0 : Int) ≤ (n : Int) := by omega
  by_cases hE : E ≠ 0
  · rw [if_pos hE, if_pos hE]
    have e1 : failS S E 0 = S := by unfold failS; rw [if_pos (Or.inl rfl)]
    have e2 : failE E 0 = E := by unfold failE; rw [if_pos (Or.inl rfl)]
    rw [e1, e2]
    have hE' : ((E : Int) != 0) = true := by rw [bne_iff_ne]; omega
    clear e1 e2 hE
    go_enter Try.func24, Try.ntmps24
    go_wp2_with (first | (go_at_call 11; refine C.out.mono ?_; rintro r w1 ⟨rfl, hb1, hg1⟩; have B1 : Hid (Blk w1 b 77 (rd S A E)) := hb1; have G1 : Hid (w.grownBy w1 (some b)) := hg1; clear hb1 hg1) | (go_at_call 33; refine (err_any b _ _ _ _ B1.out).mono ?_; rintro r w' ⟨rfl, hw⟩; have hw2 := hw.symm; clear hw; subst hw2))
    go_ret
    exact ⟨rfl, B1.out, G1.out⟩
  · have hE0 : E = 0 := by omega
    subst hE0
    rw [if_neg hE, if_neg hE]
    clear hE
    by_cases hbad : most < 0 ∨ most < (n : Int)
    · rw [if_pos hbad, if_pos hbad]
      by_cases h0 : most < 0
      · clear hbad
        go_enter Try.func24, Try.ntmps24
        go_wp2_with (first | (go_at_call 11; refine C.out.mono ?_; rintro r w1 ⟨rfl, hb1, hg1⟩; have B1 : Hid (Blk w1 b 77 (rd S A 0)) := hb1; have G1 : Hid (w.grownBy w1 (some b)) := hg1; clear hb1 hg1) | (go_at_call 33; refine (err_any b _ _ _ _ B1.out).mono ?_; rintro r w' ⟨rfl, hw⟩; have hw2 := hw.symm; clear hw; subst hw2) | (go_at_call 31; refine (fail_any b S A 0 3 _ B1.out).mono ?_; rintro r w2 ⟨rfl, hb2, hg2⟩; have B2 : Hid (Blk w2 b 77 (rd (failS S 0 3) A (failE 0 3))) := hb2; have G2 : Hid (w.grownBy w2 (some b)) := grown_trans G1.out hg2; clear hb2 hg2))
        go_ret
        exact ⟨rfl, B2.out, G2.out⟩
      · have h0' : (0 : Int) ≤ most := by omega
        have h1 : most < (n : Int) := by omega
        clear hbad h0
        go_enter Try.func24, Try.ntmps24
        go_wp2_with (first | (go_at_call 11; refine C.out.mono ?_; rintro r w1 ⟨rfl, hb1, hg1⟩; have B1 : Hid (Blk w1 b 77 (rd S A 0)) := hb1; have G1 : Hid (w.grownBy w1 (some b)) := hg1; clear hb1 hg1) | (go_at_call 33; refine (err_any b _ _ _ _ B1.out).mono ?_; rintro r w' ⟨rfl, hw⟩; have hw2 := hw.symm; clear hw; subst hw2) | (go_at_call 31; refine (fail_any b S A 0 3 _ B1.out).mono ?_; rintro r w2 ⟨rfl, hb2, hg2⟩; have B2 : Hid (Blk w2 b 77 (rd (failS S 0 3) A (failE 0 3))) := hb2; have G2 : Hid (w.grownBy w2 (some b)) := grown_trans G1.out hg2; clear hb2 hg2))
        go_ret
        exact ⟨rfl, B2.out, G2.out⟩
    · rw [if_neg hbad, if_neg hbad]
      have e1 : failS S 0 0 = S := by unfold failS; rw [if_pos (Or.inl rfl)]
      have e2 : failE 0 0 = 0 := by unfold failE; rw [if_pos (Or.inl rfl)]
      rw [e1, e2]
      have d1 : ¬ (most < 0) := by omega
      have hu2 : IntKind.u64.wrap most = most := by rw [IntKind.wrap_u64]; omega
      have d2 : ¬ (most < (n : Int)) := by omega
      have hw : IntKind.i64.wrap (n : Int) = (n : Int) := by rw [IntKind.wrap_i64]; omega
      clear hbad e1 e2 hm hlt ha n0 n1
      go_enter Try.func24, Try.ntmps24
      go_wp2_with (first | (go_at_call 11; refine C.out.mono ?_; rintro r w1 ⟨rfl, hb1, hg1⟩; have B1 : Hid (Blk w1 b 77 (rd S A 0)) := hb1; have G1 : Hid (w.grownBy w1 (some b)) := hg1; clear hb1 hg1) | (go_at_call 33; refine (err_any b _ _ _ _ B1.out).mono ?_; rintro r w' ⟨rfl, hw⟩; have hw2 := hw.symm; clear hw; subst hw2))
      go_ret
      exact ⟨rfl, B1.out, G1.out⟩
theorem failS_size (s : ByteArray) (e f : Nat) : (failS s e f).size ≤ s.size := by
  unfold failS
  split
  · exact Nat.le_refl _
  · exact Nat.zero_le _
theorem take_room (s : ByteArray) (a e n : Nat) : takeA s a n + (takeS s e n).size ≤ a + s.size := by
  unfold takeA takeS
  split
  · have := failS_size s e 4; omega
  · rw [ByteArray.size_extract]; omega
theorem cnt_room (s : ByteArray) (a e : Nat) (most : Int) : takeA s a 4 + (cntS s e most).size ≤ a + s.size := by
  have h1 := take_room s a e 4
  have h2 := failS_size (takeS s e 4) (takeE s e 4) (cntF s e most)
  unfold cntS
  omega
/-- The text that stands ahead, and the reader behind it. -/
def txtV (s : ByteArray) (e : Nat) (most : Int) : ByteArray := takeV (cntS s e most) (cntN s e most)
def txtS (s : ByteArray) (e : Nat) (most : Int) : ByteArray := takeS (cntS s e most) (cntE s e most) (cntN s e most)
def txtA (s : ByteArray) (a e : Nat) (most : Int) : Nat := takeA (cntS s e most) (takeA s a 4) (cntN s e most)
def txtE (s : ByteArray) (e : Nat) (most : Int) : Nat := takeE (cntS s e most) (cntE s e most) (cntN s e most)
theorem cntN_lt (s : ByteArray) (e : Nat) (most : Int) : cntN s e most < 4294967296 := by
  have := cntR_lt s
  unfold cntN
  split
  · omega
  · split <;> omega
set_option maxRecDepth 100000 in
set_option maxHeartbeats 400000 in
theorem text_any (b : Nat) (s : ByteArray) (a e : Nat) (most : Int) (w : World) (h : Blk w b 77 (rd s a e)) (ha : (a : Int) + (s.size : Int) ≤ 281474976710656) (hm : most ≤ 9223372036854775807) : Calls Try.prog 26 #[.pointer (some ⟨b, 0, none⟩), .int .i64 most] w fun r w' => r = .returned (.string (txtV s e most)) ∧ Blk w' b 77 (rd (txtS s e most) (txtA s a e most) (txtE s e most)) ∧ w.grownBy w' (some b) := by
  have C : Hid (Calls Try.prog 24 #[.pointer (some ⟨b, 0, none⟩), .int .i64 most] w fun r w' => r = .returned (.int .i64 (cntN s e most)) ∧ Blk w' b 77 (rd (cntS s e most) (takeA s a 4) (cntE s e most)) ∧ w.grownBy w' (some b)) := count_any b s a e most w h ha hm
  have hr := cnt_room s a e most
  have hn := cntN_lt s e most
  unfold txtV txtS txtA txtE
  generalize cntN s e most = n at *
  generalize cntS s e most = S at *
  generalize takeA s a 4 = A at *
  generalize cntE s e most = E at *
  have CB : Hid (∀ w, Blk w b 77 (rd S A E) → Calls Try.prog 32 #[.pointer (some ⟨b, 0, none⟩), .int .i64 n] w fun r w' => r = .returned (.string (takeV S n)) ∧ Blk w' b 77 (rd (takeS S E n) (takeA S A n) (takeE S E n)) ∧ w.grownBy w' (some b)) := fun w h => bytes_any b S A E n w h (by omega) (by omega)
  clear h hr hn
  generalize takeV S n = V at *
  go_enter Try.func26, Try.ntmps26
  go_wp2_with (first | (go_at_call 24; refine C.out.mono ?_; rintro r w1 ⟨rfl, hb1, hg1⟩; have B1 : Hid (Blk w1 b 77 (rd S A E)) := hb1; have G1 : Hid (w.grownBy w1 (some b)) := hg1; clear hb1 hg1) | (go_at_call 32; refine (CB.out _ B1.out).mono ?_; rintro r w2 ⟨rfl, hb2, hg2⟩; have B2 : Hid (Blk w2 b 77 (rd (takeS S E n) (takeA S A n) (takeE S E n))) := hb2; have G2 : Hid (w.grownBy w2 (some b)) := grown_trans G1.out hg2; clear hb2 hg2))
  go_ret
  exact ⟨rfl, B2.out, G2.out⟩
def abcS : ByteArray := ⟨#[3, 0, 0, 0, 97, 98, 99]⟩
set_option maxRecDepth 100000 in
set_option maxHeartbeats 400000 in
theorem awake_any (w : World) : Calls Try.prog 12 #[] w fun e w' => e = .returned (.bool true) ∧ w.grownBy w' none := by
  have C47 : Hid (∀ w b, Wr w b ([] ++ numL 3 4 ++ [97, 98, 99]) → Calls Try.prog 47 #[.pointer (some ⟨b, 0, none⟩)] w fun e w' => e = .returned (.string abcS) ∧ w' = w) := fun w b h => wall_any b _ w h
  have C40 : Hid (∀ w b, Wr w b [] → Calls Try.prog 40 #[.pointer (some ⟨b, 0, none⟩), .string ⟨#[97, 98, 99]⟩] w fun e w' => e = .returned (.tuple #[]) ∧ Wr w' b ([] ++ numL 3 4 ++ [97, 98, 99]) ∧ Below b w w') := fun w b h => wtext_any b [] ⟨#[97, 98, 99]⟩ w h (by decide)
  have e1 : txtV abcS 0 3 = ⟨#[97, 98, 99]⟩ := by decide +kernel
  have e2 : txtS abcS 0 3 = ⟨#[]⟩ := by decide +kernel
  have e3 : txtA abcS 0 0 3 = 7 := by decide +kernel
  have e4 : txtE abcS 0 3 = 0 := by decide +kernel
  have C26 : Hid (∀ w b, Blk w b 77 (rd abcS 0 0) → Calls Try.prog 26 #[.pointer (some ⟨b, 0, none⟩), .int .i64 3] w fun r w' => r = .returned (.string ⟨#[97, 98, 99]⟩) ∧ Blk w' b 77 (rd ⟨#[]⟩ 7 0) ∧ w.grownBy w' (some b)) := fun w b h => by
    have := text_any b abcS 0 0 3 w h (by decide) (by decide)
    rwa [e1, e2, e3, e4] at this
  have C14 : Hid (∀ w b, Blk w b 77 (rd ⟨#[]⟩ 7 0) → Calls Try.prog 14 #[.pointer (some ⟨b, 0, none⟩)] w fun r w' => r = .returned (.int .i64 0) ∧ w.grownBy w' (some b)) := fun w b h => (end_any b _ 7 0 w h).mono (fun _ _ hh => ⟨hh.1, hh.2.2⟩)
  have e5 : numS 258 2 = ⟨#[2, 1]⟩ := by decide +kernel
  have C9 : Hid (∀ w, Calls Try.prog 9 #[.int .u64 258, .int .i64 2] w fun e w' => e = .returned (.string ⟨#[2, 1]⟩) ∧ w.grownBy w' none) := fun w => by
    have := number_any 258 2 w (by decide)
    rwa [show asked 2 = 2 from rfl, e5] at this
  clear e1 e2 e3 e4 e5
  generalize abcS = S at *
  go_enter Try.func12, Try.ntmps12
  go_wp2_with (first | (go_at_call 37; refine (newWriter_any _).mono ?_; rintro r w1 ⟨rfl, hb1, hg1⟩; have B1 : Hid (Wr w1 w.heap.size []) := hb1; have G1 : Hid (w.grownBy w1 none) := hg1; clear hb1 hg1) | (go_at_call 40; refine (C40.out _ _ B1.out).mono ?_; rintro r w2 ⟨rfl, hb2, hg2⟩; have B2 : Hid (Wr w2 w.heap.size ([] ++ numL 3 4 ++ [97, 98, 99])) := hb2; have G2 : Hid (w.grownBy w2 none) := below_grown G1.out hg2 (Nat.le_refl _); clear hb2 hg2) | (go_at_call 47; refine (C47.out _ _ B2.out).mono ?_; rintro r w' ⟨rfl, hw⟩; have hw2 := hw.symm; clear hw; subst hw2) | (go_at_call 10; refine (newReader_any S _).mono ?_; rintro r w3 ⟨rfl, hb3, hg3⟩; have B3 : Hid (Blk w3 w2.heap.size 77 (rd S 0 0)) := hb3; have G3 : Hid (w.grownBy w3 none) := grown_none G2.out hg3; have h23 : w.heap.size ≤ w2.heap.size := G2.out.size; clear hb3 hg3) | (go_at_call 26; refine (C26.out _ _ B3.out).mono ?_; rintro r w4 ⟨rfl, hb4, hg4⟩; have B4 : Hid (Blk w4 w2.heap.size 77 (rd ⟨#[]⟩ 7 0)) := hb4; have G4 : Hid (w.grownBy w4 none) := grown_through G3.out hg4 h23; clear hb4 hg4) | (go_at_call 14; refine (C14.out _ _ B4.out).mono ?_; rintro r w5 ⟨rfl, hg5⟩; have G5 : Hid (w.grownBy w5 none) := grown_through G4.out hg5 h23; clear hg5) | (go_at_call 9; refine (C9.out _).mono ?_; rintro r w6 ⟨rfl, hg6⟩; have G6 : Hid (w.grownBy w6 none) := grown_none G5.out hg6; clear hg6))
  go_ret
  exact ⟨rfl, G6.out⟩
end Go.Proofs.Ytiokjdjlopeliaa
