/-
  The document's reader: numbers, counts, texts, marks and the end.
-/
import Derived.Test.YtddnjlnnkeiplaaKWRefRead
namespace Go.Proofs.Ytddnjlnnkeiplaa.Wi
open Go.RowKit
theorem le_down (V : ByteArray) (k X c : Nat) (hk : k < V.size) (hV : V.size ≤ 8) (hc : (V[k]'hk).toNat = c) (h : X * 2 ^ (8 * (k + 1)) + leT V (k + 1) = leT V V.size) : (X * 256 + c) * 2 ^ (8 * k) + leT V k = leT V V.size ∧ X < 2 ^ 56 := by
  have e1 : (X * 256 + c) * 2 ^ (8 * k) + leT V k = leT V V.size := by
    rw [← h]
    show _ = X * 2 ^ (8 * (k + 1)) + (leT V k + (V.data.getD k 0).toNat * 2 ^ (8 * k))
    rw [getD_byte V k hk, hc, show 8 * (k + 1) = 8 * k + 8 by omega, Nat.pow_add, Nat.add_mul, Nat.mul_assoc, show (2 : Nat) ^ 8 = 256 from rfl, Nat.mul_comm 256]
    omega
  refine ⟨e1, ?_⟩
  have h1 := leT_lt V V.size
  have h2 : 2 ^ (8 * V.size) ≤ 2 ^ 64 := Nat.pow_le_pow_right (by omega) (by omega)
  have h3 : X * 256 + c ≤ (X * 256 + c) * 2 ^ (8 * k) := Nat.le_mul_of_pos_right _ (Nat.pow_pos (by decide))
  omega
set_option maxRecDepth 100000 in
set_option maxHeartbeats 1000000 in
theorem refNum_via (s : ByteArray) (a e : Nat) (n : Int) (S : ByteArray) (A E : Nat) (V : ByteArray) (w : World) (hV : V.size ≤ 8) (hc : ((e : Int) == 0) = false ∨ (e = 0 ∧ n ≤ 8))
    (CB : Hid (∀ w, Calls Try.prog 70 #[.agg #[.string s, .int .i64 a, .int .i64 e], .int .i64 n] w fun r w' => r = .returned (.tuple #[.agg #[.string S, .int .i64 A, .int .i64 E], .string V]) ∧ w.grownBy w' none)) :
    Calls Try.prog 56 #[.agg #[.string s, .int .i64 a, .int .i64 e], .int .i64 n] w fun r w' => r = .returned (.tuple #[.agg #[.string S, .int .i64 A, .int .i64 E], .int .u64 ((leT V V.size : Nat) : Int)]) ∧ w.grownBy w' none := by
  have v0 : (V.size : Int) ≤ 8 := by omega
  obtain ⟨L, hL⟩ : ∃ L, leT V V.size = L := ⟨_, rfl⟩
  rw [hL]
  have HL : Hid (leT V V.size = L) := hL
  clear hL
  go_enter Try.func56, Try.ntmps56
  rcases hc with he | ⟨rfl, hn⟩
  · go_wp2_with (first | (go_at_call 70; refine (CB.out _).mono ?_; rintro r w1 ⟨rfl, hg1⟩; have B1 : Hid (Blk w1 (w.heap.size + 1) 93 (rd ⟨#[]⟩ 0 0)) := (Blk.new2 w _ _ _).kept hg1 (by simp); have G1 : Hid (w.grownBy w1 none) := grown_none (grown_alloc (grown_alloc (grown_refl _ _) _) _) hg1; clear hg1))
    go_loop [8, 9] (fun x i => ∃ k X : Nat, k ≤ V.size ∧ i = .int .i64 ((k : Int) - 1) ∧ x = .int .u64 X ∧ X * 2 ^ (8 * k) + leT V k = leT V V.size) (fun _ i => (intOf i + 1).toNat)
    case atStart => exact ⟨V.size, 0, Nat.le_refl _, rfl, rfl, by omega⟩
    case round =>
      obtain ⟨k, X, hk, rfl, rfl, hX⟩ := hrel
      cases k with
      | zero =>
        have hXL : X = L := by rw [← HL.out, ← hX]; simp [leT]
        subst hXL
        rw [show ((0 : Nat) : Int) - 1 = -1 from rfl]
        clear hX
        go_wp2_with (first | (refine q_is_store 93 (.tmp 4) (.tmp 39) rfl ?_; refine store_rd (w.heap.size + 1) (B1.out.alloc _) _ _ rfl rfl rfl rfl ?_; intro w2 hb2 hg2; have B2 : Hid (Blk w2 (w.heap.size + 1) 93 (rd S A E)) := hb2; have G2 : Hid (w.grownBy w2 none) := grown_through (grown_alloc G1.out _) hg2 (by omega); clear hb2 hg2 B1 G1))
        exact bodyPost_ret (results_pair Try.results56 _ _ (w.heap.size + 1) rfl B2.out) rfl ⟨rfl, G2.out⟩
      | succ k =>
        have hlt : k < V.size := by omega
        obtain ⟨c, ec⟩ : ∃ c : Nat, (V[k]'hlt).toNat = c := ⟨_, rfl⟩
        obtain ⟨f1, f2⟩ := le_down V k X c hlt hV ec hX
        have F1 : Hid ((X * 256 + c) * 2 ^ (8 * k) + leT V k = leT V V.size) := f1
        have c256 : c < 256 := by rw [← ec]; exact UInt8.toNat_lt _
        have k0 : (0 : Int) ≤ (k : Int) := by omega
        have k1 : (k : Int) < (V.size : Int) := by omega
        have c0 : (0 : Int) ≤ (c : Int) := by omega
        have c1 : (c : Int) < 256 := by omega
        have x0 : (0 : Int) ≤ (X : Int) := by omega
        have x1 : (X : Int) < 72057594037927936 := by omega
        rw [show ((k + 1 : Nat) : Int) - 1 = (k : Int) by omega]
        clear hX f1 f2
        go_wp2
        go_round
        case rel => exact ⟨k, X * 256 + c, by omega, rfl, rfl, F1.out⟩
        case measure => simp [intOf]
  · have n0 : ¬ ((8 : Int) < n) := by omega
    go_wp2_with (first | (go_at_call 70; refine (CB.out _).mono ?_; rintro r w1 ⟨rfl, hg1⟩; have B1 : Hid (Blk w1 (w.heap.size + 1) 93 (rd ⟨#[]⟩ 0 0)) := (Blk.new2 w _ _ _).kept hg1 (by simp); have G1 : Hid (w.grownBy w1 none) := grown_none (grown_alloc (grown_alloc (grown_refl _ _) _) _) hg1; clear hg1))
    go_loop [8, 9] (fun x i => ∃ k X : Nat, k ≤ V.size ∧ i = .int .i64 ((k : Int) - 1) ∧ x = .int .u64 X ∧ X * 2 ^ (8 * k) + leT V k = leT V V.size) (fun _ i => (intOf i + 1).toNat)
    case atStart => exact ⟨V.size, 0, Nat.le_refl _, rfl, rfl, by omega⟩
    case round =>
      obtain ⟨k, X, hk, rfl, rfl, hX⟩ := hrel
      cases k with
      | zero =>
        have hXL : X = L := by rw [← HL.out, ← hX]; simp [leT]
        subst hXL
        rw [show ((0 : Nat) : Int) - 1 = -1 from rfl]
        clear hX
        go_wp2_with (first | (refine q_is_store 93 (.tmp 4) (.tmp 39) rfl ?_; refine store_rd (w.heap.size + 1) (B1.out.alloc _) _ _ rfl rfl rfl rfl ?_; intro w2 hb2 hg2; have B2 : Hid (Blk w2 (w.heap.size + 1) 93 (rd S A E)) := hb2; have G2 : Hid (w.grownBy w2 none) := grown_through (grown_alloc G1.out _) hg2 (by omega); clear hb2 hg2 B1 G1))
        exact bodyPost_ret (results_pair Try.results56 _ _ (w.heap.size + 1) rfl B2.out) rfl ⟨rfl, G2.out⟩
      | succ k =>
        have hlt : k < V.size := by omega
        obtain ⟨c, ec⟩ : ∃ c : Nat, (V[k]'hlt).toNat = c := ⟨_, rfl⟩
        obtain ⟨f1, f2⟩ := le_down V k X c hlt hV ec hX
        have F1 : Hid ((X * 256 + c) * 2 ^ (8 * k) + leT V k = leT V V.size) := f1
        have c256 : c < 256 := by rw [← ec]; exact UInt8.toNat_lt _
        have k0 : (0 : Int) ≤ (k : Int) := by omega
        have k1 : (k : Int) < (V.size : Int) := by omega
        have c0 : (0 : Int) ≤ (c : Int) := by omega
        have c1 : (c : Int) < 256 := by omega
        have x0 : (0 : Int) ≤ (X : Int) := by omega
        have x1 : (X : Int) < 72057594037927936 := by omega
        rw [show ((k + 1 : Nat) : Int) - 1 = (k : Int) by omega]
        clear hX f1 f2
        go_wp2
        go_round
        case rel => exact ⟨k, X * 256 + c, by omega, rfl, rfl, F1.out⟩
        case measure => simp [intOf]
set_option maxRecDepth 100000 in
set_option maxHeartbeats 400000 in
theorem refNum_big (s : ByteArray) (a : Nat) (n : Int) (w : World) (hn : 8 < n) : Calls Try.prog 56 #[.agg #[.string s, .int .i64 a, .int .i64 0], .int .i64 n] w fun r w' => r = .returned (.tuple #[.agg #[.string ⟨#[]⟩, .int .i64 a, .int .i64 1], .int .u64 0]) ∧ w.grownBy w' none := by
  have C : Hid (∀ w, Calls Try.prog 71 #[.agg #[.string s, .int .i64 a, .int .i64 0], .int .i64 1] w fun r w' => r = .returned (.agg #[.string ⟨#[]⟩, .int .i64 a, .int .i64 1]) ∧ w.grownBy w' none) := fun w => refFail_any s a 0 1 w
  go_enter Try.func56, Try.ntmps56
  go_wp2_with (first | (go_at_call 71; refine (C.out _).mono ?_; rintro r w1 ⟨rfl, hg1⟩; have B1 : Hid (Blk w1 (w.heap.size + 1) 93 (rd ⟨#[]⟩ 0 0)) := (Blk.new2 w _ _ _).kept hg1 (by simp); have G1 : Hid (w.grownBy w1 none) := grown_none (grown_alloc (grown_alloc (grown_refl _ _) _) _) hg1; clear hg1) | (refine q_is_store 93 (.tmp 4) (.tmp 18) rfl ?_; refine store_rd (w.heap.size + 1) B1.out _ _ rfl rfl rfl rfl ?_; intro w2 hb2 hg2; have B2 : Hid (Blk w2 (w.heap.size + 1) 93 (rd ⟨#[]⟩ a 1)) := hb2; have G2 : Hid (w.grownBy w2 none) := grown_through G1.out hg2 (by omega); clear hb2 hg2 B1 G1))
  exact bodyPost_ret (results_pair Try.results56 _ _ (w.heap.size + 1) rfl B2.out) rfl ⟨rfl, G2.out⟩
theorem takeV_le (s : ByteArray) (n : Nat) : (takeV s n).size ≤ n := by
  unfold takeV
  split
  · exact Nat.zero_le _
  · rw [ByteArray.size_extract]; omega
theorem refNum_any (s : ByteArray) (a e n : Nat) (w : World) (he : Shut s e) (ha : (a : Int) + (s.size : Int) ≤ 281474976710656) (hn : n ≤ 8) : Calls Try.prog 56 #[.agg #[.string s, .int .i64 a, .int .i64 e], .int .i64 n] w fun r w' => r = .returned (.tuple #[.agg #[.string (takeS s e n), .int .i64 (takeA s a n), .int .i64 (takeE s e n)], .int .u64 ((leT (takeV s n) (takeV s n).size : Nat) : Int)]) ∧ w.grownBy w' none :=
  refNum_via s a e n _ _ _ _ w (by have := takeV_le s n; omega) ((Nat.eq_zero_or_pos e).elim (fun h => Or.inr ⟨h, by omega⟩) (fun h => Or.inl (by simp; omega))) (fun w => refBytes_any s a e n w he ha)
theorem refNumBad_any (s : ByteArray) (a e : Nat) (n : Int) (w : World) (he : Shut s e) (hn : n < 0 ∨ 8 < n) : Calls Try.prog 56 #[.agg #[.string s, .int .i64 a, .int .i64 e], .int .i64 n] w fun r w' => r = .returned (.tuple #[.agg #[.string (failS s e 1), .int .i64 a, .int .i64 (failE e 1)], .int .u64 0]) ∧ w.grownBy w' none := by
  by_cases h0 : e = 0
  · subst h0
    rcases hn with hn | hn
    · exact refNum_via s a 0 n ⟨#[]⟩ a 1 ⟨#[]⟩ w (by decide) (Or.inr ⟨rfl, by omega⟩) (fun w => refBytes_neg s a n w hn)
    · exact refNum_big s a n w hn
  · have e1 : failS s e 1 = s := by unfold failS; rw [if_pos (Or.inr h0)]
    have e2 : failE e 1 = e := by unfold failE; rw [if_pos (Or.inr h0)]
    rw [e1, e2]
    exact refNum_via s a e n s a e ⟨#[]⟩ w (by decide) (Or.inl (by simp; omega)) (fun w => refBytes_bad s a e n w (by omega))
theorem cntR_none (s : ByteArray) (e : Nat) (he : Shut s e) (h : takeE s e 4 ≠ 0) : cntR s = 0 := by
  have h1 : s.size < 4 := by
    by_cases h1 : s.size < 4
    · exact h1
    · unfold takeE at h
      rw [if_neg h1] at h
      rw [he h]
      decide
  unfold cntR
  have e4 : takeV s 4 = ⟨#[]⟩ := by unfold takeV; rw [if_pos h1]
  rw [e4]
  rfl
set_option maxRecDepth 100000 in
set_option maxHeartbeats 400000 in
theorem refCount_any (s : ByteArray) (a e : Nat) (most : Int) (w : World) (he : Shut s e) (ha : (a : Int) + (s.size : Int) ≤ 281474976710656) (hm : most ≤ 9223372036854775807) : Calls Try.prog 69 #[.agg #[.string s, .int .i64 a, .int .i64 e], .int .i64 most] w fun r w' => r = .returned (.tuple #[.agg #[.string (cntS s e most), .int .i64 (takeA s a 4), .int .i64 (cntE s e most)], .int .i64 (cntN s e most)]) ∧ w.grownBy w' none := by
  have C : Hid (∀ w, Calls Try.prog 56 #[.agg #[.string s, .int .i64 a, .int .i64 e], .int .i64 4] w fun r w' => r = .returned (.tuple #[.agg #[.string (takeS s e 4), .int .i64 (takeA s a 4), .int .i64 (takeE s e 4)], .int .u64 ((cntR s : Nat) : Int)]) ∧ w.grownBy w' none) := fun w => refNum_any s a e 4 w he ha (by omega)
  have hlt := cntR_lt s
  have hz := cntR_none s e he
  unfold cntS cntE cntN cntF
  generalize cntR s = n at *
  generalize takeS s e 4 = S at *
  generalize takeA s a 4 = A at *
  generalize takeE s e 4 = E at *
  have n0 : (n : Int) < 4294967296 := by omega
  have n1 : (0 : Int) ≤ (n : Int) := by omega
  by_cases hE : E ≠ 0
  · rw [if_pos hE, if_pos hE]
    have e1 : failS S E 0 = S := by unfold failS; rw [if_pos (Or.inl rfl)]
    have e2 : failE E 0 = E := by unfold failE; rw [if_pos (Or.inl rfl)]
    rw [e1, e2]
    have hn := hz hE
    subst hn
    have hE' : ((E : Int) == 0) = false := by simp; omega
    clear e1 e2 hE hz hlt
    go_enter Try.func69, Try.ntmps69
    go_wp2_with (first | (go_at_call 56; refine (C.out _).mono ?_; rintro r w1 ⟨rfl, hg1⟩; have B1 : Hid (Blk w1 (w.heap.size + 1) 93 (rd ⟨#[]⟩ 0 0)) := (Blk.new2 w _ _ _).kept hg1 (by simp); have G1 : Hid (w.grownBy w1 none) := grown_none (grown_alloc (grown_alloc (grown_refl _ _) _) _) hg1; clear hg1) | (refine q_is_store 93 (.tmp 4) (.tmp 28) rfl ?_; refine store_rd (w.heap.size + 1) (B1.out.alloc _) _ _ rfl rfl rfl rfl ?_; intro w2 hb2 hg2; have B2 : Hid (Blk w2 (w.heap.size + 1) 93 (rd S A E)) := hb2; have G2 : Hid (w.grownBy w2 none) := grown_through (grown_alloc G1.out _) hg2 (by omega); clear hb2 hg2 B1 G1))
    exact bodyPost_ret (results_pair Try.results69 _ _ (w.heap.size + 1) rfl B2.out) rfl ⟨rfl, G2.out⟩
  · have hE0 : E = 0 := by omega
    subst hE0
    clear hz hE hlt
    have hk : ¬ ((0 : Nat) ≠ 0) := by decide
    rw [if_neg hk, if_neg hk]
    clear hk
    by_cases hmn : most < 0 ∨ most < (n : Int)
    · rw [if_pos hmn, if_pos hmn]
      have C49 : Hid (∀ w, Calls Try.prog 71 #[.agg #[.string S, .int .i64 A, .int .i64 0], .int .i64 3] w fun r w' => r = .returned (.agg #[.string ⟨#[]⟩, .int .i64 A, .int .i64 3]) ∧ w.grownBy w' none) := fun w => refFail_any S A 0 3 w
      have e1 : failS S 0 3 = ⟨#[]⟩ := by unfold failS; rw [if_neg (by decide)]
      have e2 : failE 0 3 = 3 := by unfold failE; rw [if_neg (by decide)]
      rw [e1, e2]
      clear e1 e2
      by_cases h0 : most < 0
      · clear hmn
        go_enter Try.func69, Try.ntmps69
        go_wp2_with (first | (go_at_call 56; refine (C.out _).mono ?_; rintro r w1 ⟨rfl, hg1⟩; have B1 : Hid (Blk w1 (w.heap.size + 1) 93 (rd ⟨#[]⟩ 0 0)) := (Blk.new2 w _ _ _).kept hg1 (by simp); have G1 : Hid (w.grownBy w1 none) := grown_none (grown_alloc (grown_alloc (grown_refl _ _) _) _) hg1; clear hg1) | (go_at_call 71; refine (C49.out _).mono ?_; rintro r w2 ⟨rfl, hg2⟩; have B2 : Hid (Blk w2 (w.heap.size + 1) 93 (rd ⟨#[]⟩ 0 0)) := (B1.out.alloc _).kept hg2 (by simp); have G2 : Hid (w.grownBy w2 none) := grown_none (grown_alloc G1.out _) hg2; clear hg2 B1 G1) | (refine q_is_store 93 (.tmp 4) (.tmp 27) rfl ?_; refine store_rd (w.heap.size + 1) B2.out _ _ rfl rfl rfl rfl ?_; intro w3 hb3 hg3; have B3 : Hid (Blk w3 (w.heap.size + 1) 93 (rd ⟨#[]⟩ A 3)) := hb3; have G3 : Hid (w.grownBy w3 none) := grown_through G2.out hg3 (by omega); clear hb3 hg3 B2 G2))
        exact bodyPost_ret (results_pair Try.results69 _ _ (w.heap.size + 1) rfl B3.out) rfl ⟨rfl, G3.out⟩
      · have h1 : (0 : Int) ≤ most := by omega
        have h2 : most < (n : Int) := by omega
        have h3 : IntKind.u64.wrap most = most := by rw [IntKind.wrap_u64]; omega
        clear hmn
        go_enter Try.func69, Try.ntmps69
        go_wp2_with (first | (go_at_call 56; refine (C.out _).mono ?_; rintro r w1 ⟨rfl, hg1⟩; have B1 : Hid (Blk w1 (w.heap.size + 1) 93 (rd ⟨#[]⟩ 0 0)) := (Blk.new2 w _ _ _).kept hg1 (by simp); have G1 : Hid (w.grownBy w1 none) := grown_none (grown_alloc (grown_alloc (grown_refl _ _) _) _) hg1; clear hg1) | (go_at_call 71; refine (C49.out _).mono ?_; rintro r w2 ⟨rfl, hg2⟩; have B2 : Hid (Blk w2 (w.heap.size + 1) 93 (rd ⟨#[]⟩ 0 0)) := (B1.out.alloc _).kept hg2 (by simp); have G2 : Hid (w.grownBy w2 none) := grown_none (grown_alloc G1.out _) hg2; clear hg2 B1 G1) | (refine q_is_store 93 (.tmp 4) (.tmp 27) rfl ?_; refine store_rd (w.heap.size + 1) B2.out _ _ rfl rfl rfl rfl ?_; intro w3 hb3 hg3; have B3 : Hid (Blk w3 (w.heap.size + 1) 93 (rd ⟨#[]⟩ A 3)) := hb3; have G3 : Hid (w.grownBy w3 none) := grown_through G2.out hg3 (by omega); clear hb3 hg3 B2 G2))
        exact bodyPost_ret (results_pair Try.results69 _ _ (w.heap.size + 1) rfl B3.out) rfl ⟨rfl, G3.out⟩
    · rw [if_neg hmn, if_neg hmn]
      have e1 : failS S 0 0 = S := by unfold failS; rw [if_pos (Or.inl rfl)]
      have e2 : failE 0 0 = 0 := by unfold failE; rw [if_pos (Or.inl rfl)]
      rw [e1, e2]
      have h1 : (0 : Int) ≤ most := by omega
      have h2 : ¬ most < (n : Int) := by omega
      have h4 : IntKind.i64.wrap (n : Int) = (n : Int) := by rw [IntKind.wrap_i64]; omega
      have h3 : IntKind.u64.wrap most = most := by rw [IntKind.wrap_u64]; omega
      have d1 : ¬ (most < 0) := by omega
      clear hmn e1 e2 hm ha n0 n1 h1
      go_enter Try.func69, Try.ntmps69
      go_wp2_with (first | (go_at_call 56; refine (C.out _).mono ?_; rintro r w1 ⟨rfl, hg1⟩; have B1 : Hid (Blk w1 (w.heap.size + 1) 93 (rd ⟨#[]⟩ 0 0)) := (Blk.new2 w _ _ _).kept hg1 (by simp); have G1 : Hid (w.grownBy w1 none) := grown_none (grown_alloc (grown_alloc (grown_refl _ _) _) _) hg1; clear hg1) | (refine q_is_store 93 (.tmp 4) (.tmp 28) rfl ?_; refine store_rd (w.heap.size + 1) (B1.out.alloc _) _ _ rfl rfl rfl rfl ?_; intro w2 hb2 hg2; have B2 : Hid (Blk w2 (w.heap.size + 1) 93 (rd S A 0)) := hb2; have G2 : Hid (w.grownBy w2 none) := grown_through (grown_alloc G1.out _) hg2 (by omega); clear hb2 hg2 B1 G1))
      exact bodyPost_ret (results_pair Try.results69 _ _ (w.heap.size + 1) rfl B2.out) rfl ⟨rfl, G2.out⟩
theorem cnt_shut (s : ByteArray) (e : Nat) (most : Int) (he : Shut s e) : Shut (cntS s e most) (cntE s e most) := fail_shut _ _ _ (take_shut _ _ _ he)
set_option maxRecDepth 100000 in
set_option maxHeartbeats 400000 in
theorem refTxt_any (s : ByteArray) (a e : Nat) (most : Int) (w : World) (he : Shut s e) (ha : (a : Int) + (s.size : Int) ≤ 281474976710656) (hm : most ≤ 9223372036854775807) : Calls Try.prog 55 #[.agg #[.string s, .int .i64 a, .int .i64 e], .int .i64 most] w fun r w' => r = .returned (.tuple #[.agg #[.string (txtS s e most), .int .i64 (txtA s a e most), .int .i64 (txtE s e most)], .string (txtV s e most)]) ∧ w.grownBy w' none := by
  have C : Hid (∀ w, Calls Try.prog 69 #[.agg #[.string s, .int .i64 a, .int .i64 e], .int .i64 most] w fun r w' => r = .returned (.tuple #[.agg #[.string (cntS s e most), .int .i64 (takeA s a 4), .int .i64 (cntE s e most)], .int .i64 (cntN s e most)]) ∧ w.grownBy w' none) := fun w => refCount_any s a e most w he ha hm
  have hr := cnt_room s a e most
  have D : Hid (∀ w, Calls Try.prog 70 #[.agg #[.string (cntS s e most), .int .i64 (takeA s a 4), .int .i64 (cntE s e most)], .int .i64 (cntN s e most)] w fun r w' => r = .returned (.tuple #[.agg #[.string (txtS s e most), .int .i64 (txtA s a e most), .int .i64 (txtE s e most)], .string (txtV s e most)]) ∧ w.grownBy w' none) := fun w => refBytes_any _ _ _ _ w (cnt_shut s e most he) (by omega)
  clear hr
  generalize txtS s e most = S2 at *
  generalize txtA s a e most = A2 at *
  generalize txtE s e most = E2 at *
  generalize txtV s e most = V at *
  generalize cntS s e most = S at *
  generalize cntE s e most = E at *
  generalize cntN s e most = n at *
  generalize takeA s a 4 = A at *
  go_enter Try.func55, Try.ntmps55
  go_wp2_with (first | (go_at_call 69; refine (C.out _).mono ?_; rintro r w1 ⟨rfl, hg1⟩; have B1 : Hid (Blk w1 (w.heap.size + 1) 93 (rd ⟨#[]⟩ 0 0)) := (Blk.new2 w _ _ _).kept hg1 (by simp); have G1 : Hid (w.grownBy w1 none) := grown_none (grown_alloc (grown_alloc (grown_refl _ _) _) _) hg1; clear hg1) | (go_at_call 70; refine (D.out _).mono ?_; rintro r w2 ⟨rfl, hg2⟩; have B2 : Hid (Blk w2 (w.heap.size + 1) 93 (rd ⟨#[]⟩ 0 0)) := (B1.out.alloc _).kept hg2 (by simp); have G2 : Hid (w.grownBy w2 none) := grown_none (grown_alloc G1.out _) hg2; clear hg2 B1 G1) | (refine q_is_store 93 (.tmp 4) (.tmp 17) rfl ?_; refine store_rd (w.heap.size + 1) B2.out _ _ rfl rfl rfl rfl ?_; intro w3 hb3 hg3; have B3 : Hid (Blk w3 (w.heap.size + 1) 93 (rd S2 A2 E2)) := hb3; have G3 : Hid (w.grownBy w3 none) := grown_through G2.out hg3 (by omega); clear hb3 hg3 B2 G2))
  exact bodyPost_ret (results_pair Try.results55 _ _ (w.heap.size + 1) rfl B3.out) rfl ⟨rfl, G3.out⟩
end Go.Proofs.Ytddnjlnnkeiplaa.Wi
