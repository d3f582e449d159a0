/-
  The contracts of Reader.Count and Reader.Text, and of the laws' own look whether the program is awake.
-/
import Derived.Test.YtdodammplhlihaaGreatDoorWWrite
namespace Go.Proofs.YtdodammplhlihaaGreatDoor.Tr
open Go.RowKit
/-- The count that stands ahead. -/
def cntR (s : ByteArray) : Nat := leT (takeV s 4) (takeV s 4).size
/-- The error that a count brings: 0 for none. -/
def cntF (s : ByteArray) (e : Nat) (most : Int) : Nat := if takeE s e 4 ≠ 0 then 0 else if most < 0 ∨ most < (cntR s : Int) then 3 else 0
def cntN (s : ByteArray) (e : Nat) (most : Int) : Nat := if takeE s e 4 ≠ 0 then 0 else if most < 0 ∨ most < (cntR s : Int) then 0 else cntR s
def cntS (s : ByteArray) (e : Nat) (most : Int) : ByteArray := failS (takeS s e 4) (takeE s e 4) (cntF s e most)
def cntE (s : ByteArray) (e : Nat) (most : Int) : Nat := failE (takeE s e 4) (cntF s e most)
theorem cntR_lt (s : ByteArray) : cntR s < 4294967296 := by
  have h1 := leT_lt (takeV s 4) (takeV s 4).size
  have h2 : (takeV s 4).size ≤ 4 := by
    unfold takeV
    split
    · exact Nat.zero_le _
    · rw [ByteArray.size_extract]; omega
  have h3 : 2 ^ (8 * (takeV s 4).size) ≤ 2 ^ 32 := Nat.pow_le_pow_right (by omega) (by omega)
  unfold cntR
  omega
set_option maxRecDepth 100000 in
set_option maxHeartbeats 400000 in
theorem count_any (b : Nat) (s : ByteArray) (a e : Nat) (most : Int) (w : World) (h : Blk w b 91 (rd s a e)) (ha : (a : Int) + (s.size : Int) ≤ 9223372036854775807) (hm : most ≤ 9223372036854775807) : Calls Tryz.prog 111 #[.pointer (some ⟨b, 0, none⟩), .int .i64 most] w fun r w' => r = .returned (.int .i64 (cntN s e most)) ∧ Blk w' b 91 (rd (cntS s e most) (takeA s a 4) (cntE s e most)) ∧ w.grownBy w' (some b) := by
  have C : Hid (Calls Tryz.prog 82 #[.pointer (some ⟨b, 0, none⟩), .int .i64 4] w fun r w' => r = .returned (.int .u64 ((cntR s : Nat) : Int)) ∧ Blk w' b 91 (rd (takeS s e 4) (takeA s a 4) (takeE s e 4)) ∧ w.grownBy w' (some b)) := rnumber_any b s a e 4 w h ha (by omega)
  have hlt := cntR_lt s
  unfold cntS cntE cntN cntF
  generalize cntR s = n at *
  generalize takeS s e 4 = S at *
  generalize takeA s a 4 = A at *
  generalize takeE s e 4 = E at *
  clear h
  have n0 : (n : Int) < 4294967296 := by omega
  have n1 : (0 : Int) ≤ (n : Int) := by omega
  by_cases hE : E ≠ 0
  · rw [if_pos hE, if_pos hE]
    have e1 : failS S E 0 = S := by unfold failS; rw [if_pos (Or.inl rfl)]
    have e2 : failE E 0 = E := by unfold failE; rw [if_pos (Or.inl rfl)]
    rw [e1, e2]
    have hE' : ((E : Int) != 0) = true := by rw [bne_iff_ne]; omega
    clear e1 e2 hE
    go_enter Tryz.func111, Tryz.ntmps111
    go_wp2_with (first | (go_at_call 82; refine C.out.mono ?_; rintro r w1 ⟨rfl, hb1, hg1⟩; have B1 : Hid (Blk w1 b 91 (rd S A E)) := hb1; have G1 : Hid (w.grownBy w1 (some b)) := hg1; clear hb1 hg1) | (go_at_call 56; refine (err_any b _ _ _ _ B1.out).mono ?_; rintro r w' ⟨rfl, hw⟩; have hw2 := hw.symm; clear hw; subst hw2))
    go_ret
    exact ⟨rfl, B1.out, G1.out⟩
  · have hE0 : E = 0 := by omega
    subst hE0
    rw [if_neg hE, if_neg hE]
    clear hE
    by_cases hbad : most < 0 ∨ most < (n : Int)
    · rw [if_pos hbad, if_pos hbad]
      by_cases h0 : most < 0
      · clear hbad
        go_enter Tryz.func111, Tryz.ntmps111
        go_wp2_with (first | (go_at_call 82; refine C.out.mono ?_; rintro r w1 ⟨rfl, hb1, hg1⟩; have B1 : Hid (Blk w1 b 91 (rd S A 0)) := hb1; have G1 : Hid (w.grownBy w1 (some b)) := hg1; clear hb1 hg1) | (go_at_call 56; refine (err_any b _ _ _ _ B1.out).mono ?_; rintro r w' ⟨rfl, hw⟩; have hw2 := hw.symm; clear hw; subst hw2) | (go_at_call 58; refine (fail_any b S A 0 3 _ B1.out).mono ?_; rintro r w2 ⟨rfl, hb2, hg2⟩; have B2 : Hid (Blk w2 b 91 (rd (failS S 0 3) A (failE 0 3))) := hb2; have G2 : Hid (w.grownBy w2 (some b)) := grown_trans G1.out hg2; clear hb2 hg2))
        go_ret
        exact ⟨rfl, B2.out, G2.out⟩
      · have h0' : (0 : Int) ≤ most := by omega
        have h1 : most < (n : Int) := by omega
        clear hbad h0
        go_enter Tryz.func111, Tryz.ntmps111
        go_wp2_with (first | (go_at_call 82; refine C.out.mono ?_; rintro r w1 ⟨rfl, hb1, hg1⟩; have B1 : Hid (Blk w1 b 91 (rd S A 0)) := hb1; have G1 : Hid (w.grownBy w1 (some b)) := hg1; clear hb1 hg1) | (go_at_call 56; refine (err_any b _ _ _ _ B1.out).mono ?_; rintro r w' ⟨rfl, hw⟩; have hw2 := hw.symm; clear hw; subst hw2) | (go_at_call 58; refine (fail_any b S A 0 3 _ B1.out).mono ?_; rintro r w2 ⟨rfl, hb2, hg2⟩; have B2 : Hid (Blk w2 b 91 (rd (failS S 0 3) A (failE 0 3))) := hb2; have G2 : Hid (w.grownBy w2 (some b)) := grown_trans G1.out hg2; clear hb2 hg2))
        go_ret
        exact ⟨rfl, B2.out, G2.out⟩
    · rw [if_neg hbad, if_neg hbad]
      have e1 : failS S 0 0 = S := by unfold failS; rw [if_pos (Or.inl rfl)]
      have e2 : failE 0 0 = 0 := by unfold failE; rw [if_pos (Or.inl rfl)]
      rw [e1, e2]
      have d1 : ¬ (most < 0) := by omega
      have hu2 : IntKind.u64.wrap most = most := by rw [IntKind.wrap_u64]; omega
      have d2 : ¬ (most < (n : Int)) := by omega
      have hw : IntKind.i64.wrap (n : Int) = (n : Int) := by rw [IntKind.wrap_i64]; omega
      clear hbad e1 e2 hm hlt ha n0 n1
      go_enter Tryz.func111, Tryz.ntmps111
      go_wp2_with (first | (go_at_call 82; refine C.out.mono ?_; rintro r w1 ⟨rfl, hb1, hg1⟩; have B1 : Hid (Blk w1 b 91 (rd S A 0)) := hb1; have G1 : Hid (w.grownBy w1 (some b)) := hg1; clear hb1 hg1) | (go_at_call 56; refine (err_any b _ _ _ _ B1.out).mono ?_; rintro r w' ⟨rfl, hw⟩; have hw2 := hw.symm; clear hw; subst hw2))
      go_ret
      exact ⟨rfl, B1.out, G1.out⟩
theorem failS_size (s : ByteArray) (e f : Nat) : (failS s e f).size ≤ s.size := by
  unfold failS
  split
  · exact Nat.le_refl _
  · exact Nat.zero_le _
theorem take_room (s : ByteArray) (a e n : Nat) : takeA s a n + (takeS s e n).size ≤ a + s.size := by
  unfold takeA takeS
  split
  · have := failS_size s e 4; omega
  · rw [ByteArray.size_extract]; omega
theorem cnt_room (s : ByteArray) (a e : Nat) (most : Int) : takeA s a 4 + (cntS s e most).size ≤ a + s.size := by
  have h1 := take_room s a e 4
  have h2 := failS_size (takeS s e 4) (takeE s e 4) (cntF s e most)
  unfold cntS
  omega
/-- The text that stands ahead, and the reader behind it. -/
def txtV (s : ByteArray) (e : Nat) (most : Int) : ByteArray := takeV (cntS s e most) (cntN s e most)
def txtS (s : ByteArray) (e : Nat) (most : Int) : ByteArray := takeS (cntS s e most) (cntE s e most) (cntN s e most)
def txtA (s : ByteArray) (a e : Nat) (most : Int) : Nat := takeA (cntS s e most) (takeA s a 4) (cntN s e most)
def txtE (s : ByteArray) (e : Nat) (most : Int) : Nat := takeE (cntS s e most) (cntE s e most) (cntN s e most)
theorem cntN_lt (s : ByteArray) (e : Nat) (most : Int) : cntN s e most < 4294967296 := by
  have := cntR_lt s
  unfold cntN
  split
  · omega
  · split <;> omega
set_option maxRecDepth 100000 in
set_option maxHeartbeats 400000 in
theorem text_any (b : Nat) (s : ByteArray) (a e : Nat) (most : Int) (w : World) (h : Blk w b 91 (rd s a e)) (ha : (a : Int) + (s.size : Int) ≤ 9223372036854775807) (hm : most ≤ 9223372036854775807) : Calls Tryz.prog 83 #[.pointer (some ⟨b, 0, none⟩), .int .i64 most] w fun r w' => r = .returned (.string (txtV s e most)) ∧ Blk w' b 91 (rd (txtS s e most) (txtA s a e most) (txtE s e most)) ∧ w.grownBy w' (some b) := by
  have C : Hid (Calls Tryz.prog 111 #[.pointer (some ⟨b, 0, none⟩), .int .i64 most] w fun r w' => r = .returned (.int .i64 (cntN s e most)) ∧ Blk w' b 91 (rd (cntS s e most) (takeA s a 4) (cntE s e most)) ∧ w.grownBy w' (some b)) := count_any b s a e most w h ha hm
  have hr := cnt_room s a e most
  have hn := cntN_lt s e most
  unfold txtV txtS txtA txtE
  generalize cntN s e most = n at *
  generalize cntS s e most = S at *
  generalize takeA s a 4 = A at *
  generalize cntE s e most = E at *
  have CB : Hid (∀ w, Blk w b 91 (rd S A E) → Calls Tryz.prog 110 #[.pointer (some ⟨b, 0, none⟩), .int .i64 n] w fun r w' => r = .returned (.string (takeV S n)) ∧ Blk w' b 91 (rd (takeS S E n) (takeA S A n) (takeE S E n)) ∧ w.grownBy w' (some b)) := fun w h => bytes_any b S A E n w h (by omega) (by omega)
  clear h hr hn
  generalize takeV S n = V at *
  go_enter Tryz.func83, Tryz.ntmps83
  go_wp2_with (first | (go_at_call 111; refine C.out.mono ?_; rintro r w1 ⟨rfl, hb1, hg1⟩; have B1 : Hid (Blk w1 b 91 (rd S A E)) := hb1; have G1 : Hid (w.grownBy w1 (some b)) := hg1; clear hb1 hg1) | (go_at_call 110; refine (CB.out _ B1.out).mono ?_; rintro r w2 ⟨rfl, hb2, hg2⟩; have B2 : Hid (Blk w2 b 91 (rd (takeS S E n) (takeA S A n) (takeE S E n))) := hb2; have G2 : Hid (w.grownBy w2 (some b)) := grown_trans G1.out hg2; clear hb2 hg2))
  go_ret
  exact ⟨rfl, B2.out, G2.out⟩
def abcS : ByteArray := ⟨#[3, 0, 0, 0, 97, 98, 99]⟩
end Go.Proofs.YtdodammplhlihaaGreatDoor.Tr
