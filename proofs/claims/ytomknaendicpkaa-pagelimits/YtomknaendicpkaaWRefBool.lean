/-
  Marks, digests and the end: the program's reader and the document's.
-/
import Derived.Test.YtomknaendicpkaaWRefNum
namespace Go.Proofs.Ytomknaendicpkaa
open Go.RowKit
def bolN (s : ByteArray) : Nat := leT (takeV s 1) (takeV s 1).size
def bolF (s : ByteArray) : Nat := if 1 < bolN s then 6 else 0
def bolS (s : ByteArray) (e : Nat) : ByteArray := failS (takeS s e 1) (takeE s e 1) (bolF s)
def bolE (s : ByteArray) (e : Nat) : Nat := failE (takeE s e 1) (bolF s)
theorem bolN_lt (s : ByteArray) : bolN s < 256 := by
  have h1 := leT_lt (takeV s 1) (takeV s 1).size
  have h2 := takeV_le s 1
  have h3 : 2 ^ (8 * (takeV s 1).size) ≤ 2 ^ 8 := Nat.pow_le_pow_right (by omega) (by omega)
  unfold bolN
  omega
theorem bolN_none (s : ByteArray) (e : Nat) (he : Shut s e) (h : takeE s e 1 ≠ 0) : bolN s = 0 := by
  have h1 : s.size < 1 := by
    by_cases h1 : s.size < 1
    · exact h1
    · unfold takeE at h
      rw [if_neg h1] at h
      rw [he h]
      decide
  unfold bolN
  have e4 : takeV s 1 = ⟨#[]⟩ := by unfold takeV; rw [if_pos h1]
  rw [e4]
  rfl
set_option maxRecDepth 100000 in
set_option maxHeartbeats 400000 in
theorem rbool_any (b : Nat) (s : ByteArray) (a e : Nat) (w : World) (h : Blk w b 86 (rd s a e)) (ha : (a : Int) + (s.size : Int) ≤ 9223372036854775807) : Calls Try.prog 47 #[.pointer (some ⟨b, 0, none⟩)] w fun r w' => r = .returned (.bool ((bolN s : Int) == 1)) ∧ Blk w' b 86 (rd (bolS s e) (takeA s a 1) (bolE s e)) ∧ w.grownBy w' (some b) := by
  have C : Hid (Calls Try.prog 48 #[.pointer (some ⟨b, 0, none⟩), .int .i64 1] w fun r w' => r = .returned (.int .u64 ((bolN s : Nat) : Int)) ∧ Blk w' b 86 (rd (takeS s e 1) (takeA s a 1) (takeE s e 1)) ∧ w.grownBy w' (some b)) := rnumber_any b s a e 1 w h ha (by omega)
  have hlt := bolN_lt s
  unfold bolS bolE bolF
  generalize bolN s = n at *
  generalize takeS s e 1 = S at *
  generalize takeA s a 1 = A at *
  generalize takeE s e 1 = E at *
  clear h
  have n0 : (n : Int) < 256 := by omega
  have n1 : (0 : Int) ≤ (n : Int) := by omega
  clear hlt
  by_cases hn : 1 < n
  · rw [if_pos hn]
    have h1 : (1 : Int) < (n : Int) := by omega
    have h2 : ((n : Int) == 1) = false := by simp; omega
    clear hn
    go_enter Try.func47, Try.ntmps47
    go_wp2_with (first | (go_at_call 48; refine C.out.mono ?_; rintro r w1 ⟨rfl, hb1, hg1⟩; have B1 : Hid (Blk w1 b 86 (rd S A E)) := hb1; have G1 : Hid (w.grownBy w1 (some b)) := hg1; clear hb1 hg1) | (go_at_call 52; refine (fail_any b S A E 6 _ B1.out).mono ?_; rintro r w2 ⟨rfl, hb2, hg2⟩; have B2 : Hid (Blk w2 b 86 (rd (failS S E 6) A (failE E 6))) := hb2; have G2 : Hid (w.grownBy w2 (some b)) := grown_trans G1.out hg2; clear hb2 hg2 B1 G1))
    go_ret
    exact ⟨by rw [h2]; rfl, B2.out, G2.out⟩
  · rw [if_neg hn]
    have e1 : failS S E 0 = S := by unfold failS; rw [if_pos (Or.inl rfl)]
    have e2 : failE E 0 = E := by unfold failE; rw [if_pos (Or.inl rfl)]
    rw [e1, e2]
    have h1 : ¬ ((1 : Int) < (n : Int)) := by omega
    clear hn e1 e2
    go_enter Try.func47, Try.ntmps47
    go_wp2_with (first | (go_at_call 48; refine C.out.mono ?_; rintro r w1 ⟨rfl, hb1, hg1⟩; have B1 : Hid (Blk w1 b 86 (rd S A E)) := hb1; have G1 : Hid (w.grownBy w1 (some b)) := hg1; clear hb1 hg1))
    go_ret
    exact ⟨rfl, B1.out, G1.out⟩
set_option maxRecDepth 100000 in
set_option maxHeartbeats 400000 in
theorem refBool_any (s : ByteArray) (a e : Nat) (w : World) (he : Shut s e) (ha : (a : Int) + (s.size : Int) ≤ 9223372036854775807) : Calls Try.prog 34 #[.agg #[.string s, .int .i64 a, .int .i64 e]] w fun r w' => r = .returned (.tuple #[.agg #[.string (bolS s e), .int .i64 (takeA s a 1), .int .i64 (bolE s e)], .bool ((bolN s : Int) == 1)]) ∧ w.grownBy w' none := by
  have C : Hid (∀ w, Calls Try.prog 35 #[.agg #[.string s, .int .i64 a, .int .i64 e], .int .i64 1] w fun r w' => r = .returned (.tuple #[.agg #[.string (takeS s e 1), .int .i64 (takeA s a 1), .int .i64 (takeE s e 1)], .int .u64 ((bolN s : Nat) : Int)]) ∧ w.grownBy w' none) := fun w => refNum_any s a e 1 w he ha (by omega)
  have hlt := bolN_lt s
  have hz := bolN_none s e he
  unfold bolS bolE bolF
  generalize bolN s = n at *
  generalize takeS s e 1 = S at *
  generalize takeA s a 1 = A at *
  generalize takeE s e 1 = E at *
  have n0 : (n : Int) < 256 := by omega
  have n1 : (0 : Int) ≤ (n : Int) := by omega
  clear hlt
  by_cases hn : 1 < n
  · rw [if_pos hn]
    have hE : E = 0 := by
      by_cases h : E = 0
      · exact h
      · have := hz h; omega
    subst hE
    have e1 : failS S 0 6 = ⟨#[]⟩ := by unfold failS; rw [if_neg (by decide)]
    have e2 : failE 0 6 = 6 := by unfold failE; rw [if_neg (by decide)]
    rw [e1, e2]
    have C49 : Hid (∀ w, Calls Try.prog 54 #[.agg #[.string S, .int .i64 A, .int .i64 0], .int .i64 6] w fun r w' => r = .returned (.agg #[.string ⟨#[]⟩, .int .i64 A, .int .i64 6]) ∧ w.grownBy w' none) := fun w => refFail_any S A 0 6 w
    have h1 : (1 : Int) < (n : Int) := by omega
    have h2 : ((n : Int) == 1) = false := by simp; omega
    rw [h2]
    clear hn e1 e2 hz h2
    go_enter Try.func34, Try.ntmps34
    go_wp2_with (first | (go_at_call 35; refine (C.out _).mono ?_; rintro r w1 ⟨rfl, hg1⟩; have B1 : Hid (Blk w1 (w.heap.size + 1) 68 (rd ⟨#[]⟩ 0 0)) := (Blk.new2 w _ _ _).kept hg1 (by simp); have G1 : Hid (w.grownBy w1 none) := grown_none (grown_alloc (grown_alloc (grown_refl _ _) _) _) hg1; clear hg1) | (go_at_call 54; refine (C49.out _).mono ?_; rintro r w2 ⟨rfl, hg2⟩; have B2 : Hid (Blk w2 (w.heap.size + 1) 68 (rd ⟨#[]⟩ 0 0)) := (B1.out.alloc _).kept hg2 (by simp); have G2 : Hid (w.grownBy w2 none) := grown_none (grown_alloc G1.out _) hg2; clear hg2 B1 G1) | (refine q_is_store 68 (.tmp 2) (.tmp 19) rfl ?_; refine store_rd (w.heap.size + 1) B2.out _ _ rfl rfl rfl rfl ?_; intro w3 hb3 hg3; have B3 : Hid (Blk w3 (w.heap.size + 1) 68 (rd ⟨#[]⟩ A 6)) := hb3; have G3 : Hid (w.grownBy w3 none) := grown_through G2.out hg3 (by omega); clear hb3 hg3 B2 G2))
    exact bodyPost_ret (results_pair Try.results34 _ _ (w.heap.size + 1) rfl B3.out) rfl ⟨rfl, G3.out⟩
  · rw [if_neg hn]
    have e1 : failS S E 0 = S := by unfold failS; rw [if_pos (Or.inl rfl)]
    have e2 : failE E 0 = E := by unfold failE; rw [if_pos (Or.inl rfl)]
    rw [e1, e2]
    have h1 : ¬ ((1 : Int) < (n : Int)) := by omega
    clear hn e1 e2 hz
    by_cases hE : E = 0
    · subst hE
      go_enter Try.func34, Try.ntmps34
      go_wp2_with (first | (go_at_call 35; refine (C.out _).mono ?_; rintro r w1 ⟨rfl, hg1⟩; have B1 : Hid (Blk w1 (w.heap.size + 1) 68 (rd ⟨#[]⟩ 0 0)) := (Blk.new2 w _ _ _).kept hg1 (by simp); have G1 : Hid (w.grownBy w1 none) := grown_none (grown_alloc (grown_alloc (grown_refl _ _) _) _) hg1; clear hg1) | (refine q_is_store 68 (.tmp 2) (.tmp 20) rfl ?_; refine store_rd (w.heap.size + 1) (B1.out.alloc _) _ _ rfl rfl rfl rfl ?_; intro w3 hb3 hg3; have B3 : Hid (Blk w3 (w.heap.size + 1) 68 (rd S A 0)) := hb3; have G3 : Hid (w.grownBy w3 none) := grown_through (grown_alloc G1.out _) hg3 (by omega); clear hb3 hg3 B1 G1))
      exact bodyPost_ret (results_pair Try.results34 _ _ (w.heap.size + 1) rfl B3.out) rfl ⟨rfl, G3.out⟩
    · have hE' : ((E : Int) == 0) = false := by simp; omega
      go_enter Try.func34, Try.ntmps34
      go_wp2_with (first | (go_at_call 35; refine (C.out _).mono ?_; rintro r w1 ⟨rfl, hg1⟩; have B1 : Hid (Blk w1 (w.heap.size + 1) 68 (rd ⟨#[]⟩ 0 0)) := (Blk.new2 w _ _ _).kept hg1 (by simp); have G1 : Hid (w.grownBy w1 none) := grown_none (grown_alloc (grown_alloc (grown_refl _ _) _) _) hg1; clear hg1) | (refine q_is_store 68 (.tmp 2) (.tmp 20) rfl ?_; refine store_rd (w.heap.size + 1) (B1.out.alloc _) _ _ rfl rfl rfl rfl ?_; intro w3 hb3 hg3; have B3 : Hid (Blk w3 (w.heap.size + 1) 68 (rd S A E)) := hb3; have G3 : Hid (w.grownBy w3 none) := grown_through (grown_alloc G1.out _) hg3 (by omega); clear hb3 hg3 B1 G1))
      exact bodyPost_ret (results_pair Try.results34 _ _ (w.heap.size + 1) rfl B3.out) rfl ⟨rfl, G3.out⟩
set_option maxRecDepth 100000 in
set_option maxHeartbeats 400000 in
theorem refEnd_any (s : ByteArray) (a e : Nat) (w : World) : Calls Try.prog 38 #[.agg #[.string s, .int .i64 a, .int .i64 e]] w fun r w' => r = .returned (.agg #[.string (failS s e (endF s)), .int .i64 a, .int .i64 (failE e (endF s))]) ∧ w.grownBy w' none := by
  by_cases he : e = 0
  · subst he
    by_cases hs : 0 < s.size
    · have e1 : endF s = 5 := by unfold endF; rw [if_pos hs]
      rw [e1]
      have e2 : failS s 0 5 = ⟨#[]⟩ := by unfold failS; rw [if_neg (by decide)]
      have e3 : failE 0 5 = 5 := by unfold failE; rw [if_neg (by decide)]
      rw [e2, e3]
      have h1 : (0 : Int) < (s.size : Int) := by omega
      have C49 : Hid (∀ w, Calls Try.prog 54 #[.agg #[.string s, .int .i64 a, .int .i64 0], .int .i64 5] w fun r w' => r = .returned (.agg #[.string ⟨#[]⟩, .int .i64 a, .int .i64 5]) ∧ w.grownBy w' none) := fun w => refFail_any s a 0 5 w
      clear e1 e2 e3
      go_enter Try.func38, Try.ntmps38
      go_wp2_with (first | (go_at_call 54; refine (C49.out _).mono ?_; rintro r w1 ⟨rfl, hg1⟩; have B1 : Hid (Blk w1 (w.heap.size + 1) 68 (rd ⟨#[]⟩ 0 0)) := (Blk.new2 w _ _ _).kept hg1 (by simp); have G1 : Hid (w.grownBy w1 none) := grown_none (grown_alloc (grown_alloc (grown_refl _ _) _) _) hg1; clear hg1) | (refine q_is_store 68 (.tmp 2) (.tmp 13) rfl ?_; refine store_rd (w.heap.size + 1) B1.out _ _ rfl rfl rfl rfl ?_; intro w3 hb3 hg3; have B3 : Hid (Blk w3 (w.heap.size + 1) 68 (rd ⟨#[]⟩ a 5)) := hb3; have G3 : Hid (w.grownBy w3 none) := grown_through G1.out hg3 (by omega); clear hb3 hg3 B1 G1))
      exact bodyPost_ret (results_one Try.results38 _ _ (w.heap.size + 1) rfl B3.out) rfl ⟨rfl, G3.out⟩
    · have e1 : endF s = 0 := by unfold endF; rw [if_neg hs]
      rw [e1]
      have e2 : failS s 0 0 = s := by unfold failS; rw [if_pos (Or.inl rfl)]
      have e3 : failE 0 0 = 0 := by unfold failE; rw [if_pos (Or.inl rfl)]
      rw [e2, e3]
      have h1 : ¬ ((0 : Int) < (s.size : Int)) := by omega
      clear e1 e2 e3
      go_enter Try.func38, Try.ntmps38
      go_wp2
      exact bodyPost_ret (results_one Try.results38 _ _ (w.heap.size + 1) rfl (Blk.new2 w _ _ _)) rfl ⟨rfl, grown_alloc (grown_alloc (grown_refl _ _) _) _⟩
  · have e2 : failS s e (endF s) = s := by unfold failS; rw [if_pos (Or.inr he)]
    have e3 : failE e (endF s) = e := by unfold failE; rw [if_pos (Or.inr he)]
    rw [e2, e3]
    have he' : ((e : Int) == 0) = false := by simp; omega
    clear e2 e3
    go_enter Try.func38, Try.ntmps38
    go_wp2
    exact bodyPost_ret (results_one Try.results38 _ _ (w.heap.size + 1) rfl (Blk.new2 w _ _ _)) rfl ⟨rfl, grown_alloc (grown_alloc (grown_refl _ _) _) _⟩
theorem bol_shut (s : ByteArray) (e : Nat) (he : Shut s e) : Shut (bolS s e) (bolE s e) := fail_shut _ _ _ (take_shut _ _ _ he)
end Go.Proofs.Ytomknaendicpkaa
