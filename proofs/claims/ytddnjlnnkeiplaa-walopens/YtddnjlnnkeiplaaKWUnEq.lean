/-
  The document's Unframe. The bytes of a number that was read out of bytes are these bytes.
-/
import Derived.Test.YtddnjlnnkeiplaaWUnframe
namespace Go.Proofs.Ytddnjlnnkeiplaa.Wi
open Go.RowKit
set_option maxRecDepth 100000 in
set_option maxHeartbeats 400000 in
theorem refUnframe_bad (s : ByteArray) (p : Nat) (w : World) (hs : s.size ≤ 4500) (hp : p ≤ s.size) (hF : unF s p ≠ 0) : Calls Try.prog 29 #[.string s, .int .i64 p] w fun e w' => e = .returned (.tuple #[.string ⟨#[]⟩, .int .i64 0, .int .i64 (unF s p : Nat)]) ∧ w.grownBy w' none := by
  have hR : (unR s p).size ≤ 4500 := by unfold unR; rw [ByteArray.size_extract]; omega
  have hrm := un_room s p
  have CT : Hid (∀ w, Calls Try.prog 55 #[.agg #[.string (s.extract p s.size), .int .i64 0, .int .i64 0], .int .i64 2147483647] w fun r w' => r = .returned (.tuple #[.agg #[.string (unS s p), .int .i64 (unA s p : Nat), .int .i64 (unE s p : Nat)], .string (unT s p)]) ∧ w.grownBy w' none) := fun w => refTxt_any (unR s p) 0 0 2147483647 w (fun h => absurd rfl h) (by omega) (by omega)
  have hSh : Shut (unS s p) (unE s p) := take_shut _ _ _ (cnt_shut _ _ _ (fun h => absurd rfl h))
  have CN : Hid (∀ w, Calls Try.prog 56 #[.agg #[.string (unS s p), .int .i64 (unA s p : Nat), .int .i64 (unE s p : Nat)], .int .i64 4] w fun r w' => r = .returned (.tuple #[.agg #[.string (takeS (unS s p) (unE s p) 4), .int .i64 (unB s p : Nat), .int .i64 (unF s p : Nat)], .int .u64 (unN s p : Nat)]) ∧ w.grownBy w' none) := fun w => refNum_any _ _ _ 4 w hSh (by omega) (by omega)
  clear hSh
  generalize unF s p = F at *
  generalize unB s p = B at *
  generalize unN s p = N at *
  generalize unT s p = T at *
  generalize takeS (unS s p) (unE s p) 4 = Z at *
  generalize unS s p = S at *
  generalize unA s p = A at *
  generalize unE s p = E at *
  have s0 : (s.size : Int) ≤ 4500 := by omega
  have p0 : (0 : Int) ≤ (p : Int) := by omega
  have p1 : (p : Int) ≤ (s.size : Int) := by omega
  have hF' : ((F : Int) != 0) = true := by rw [bne_iff_ne]; omega
  clear hs hp hR hrm hF
  go_enter Try.func29, Try.ntmps29
  go_wp2_with (first | (go_at_call 55; refine (CT.out _).mono ?_; clear CT; rintro e w1 ⟨rfl, hg1⟩; have G1 : Hid (w.grownBy w1 none) := hg1; clear hg1) | (go_at_call 56; refine (CN.out _).mono ?_; clear CN; rintro e w2 ⟨rfl, hg2⟩; have B2 : Hid (Blk w2 w1.heap.size 93 (rd S A E)) := (Blk.new w1 _ _).kept hg2 (fun h => by cases h); have G2 : Hid (w.grownBy w2 none) := grown_none (grown_alloc G1.out _) hg2; clear hg2) | (refine q_is_store 93 (.tmp 7) (.tmp 29) rfl ?_; refine store_rd w1.heap.size B2.out _ _ rfl rfl rfl rfl ?_; intro w3 hb3 hg3; have B3 : Hid (Blk w3 w1.heap.size 93 (rd Z B F)) := hb3; have G3 : Hid (w.grownBy w3 none) := grown_through G2.out hg3 G1.out.size; have z2 := hb3.rd2; clear hb3 hg3 B2))
  go_region
  go_wp2_with fail
  exact bodyPost_ret (results_tri Try.results29 _ _ _) rfl ⟨rfl, grown_drew G3.out⟩
set_option maxRecDepth 100000 in
set_option maxHeartbeats 400000 in
theorem refUnframe_in (s : ByteArray) (p : Nat) (w : World) (hs : s.size ≤ 4500) (hp : p ≤ s.size) (hF : unF s p = 0) (hT : (unT s p).size ≤ 4500) (V : ByteArray) (x y : Nat) (hV : (unN s p = adl (numS (unT s p).size 4 ++ unT s p) ∧ V = unT s p ∧ x = p + (unT s p).size + 8 ∧ y = 0) ∨ (unN s p ≠ adl (numS (unT s p).size 4 ++ unT s p) ∧ V = ⟨#[]⟩ ∧ x = 0 ∧ y = 6)) : Calls Try.prog 29 #[.string s, .int .i64 p] w fun e w' => e = .returned (.tuple #[.string V, .int .i64 x, .int .i64 y]) ∧ w.grownBy w' none := by
  have hR : (unR s p).size ≤ 4500 := by unfold unR; rw [ByteArray.size_extract]; omega
  have hrm := un_room s p
  have CT : Hid (∀ w, Calls Try.prog 55 #[.agg #[.string (s.extract p s.size), .int .i64 0, .int .i64 0], .int .i64 2147483647] w fun r w' => r = .returned (.tuple #[.agg #[.string (unS s p), .int .i64 (unA s p : Nat), .int .i64 (unE s p : Nat)], .string (unT s p)]) ∧ w.grownBy w' none) := fun w => refTxt_any (unR s p) 0 0 2147483647 w (fun h => absurd rfl h) (by omega) (by omega)
  have hSh : Shut (unS s p) (unE s p) := take_shut _ _ _ (cnt_shut _ _ _ (fun h => absurd rfl h))
  have CN : Hid (∀ w, Calls Try.prog 56 #[.agg #[.string (unS s p), .int .i64 (unA s p : Nat), .int .i64 (unE s p : Nat)], .int .i64 4] w fun r w' => r = .returned (.tuple #[.agg #[.string (takeS (unS s p) (unE s p) 4), .int .i64 (unB s p : Nat), .int .i64 (unF s p : Nat)], .int .u64 (unN s p : Nat)]) ∧ w.grownBy w' none) := fun w => refNum_any _ _ _ 4 w hSh (by omega) (by omega)
  clear hSh
  have hNl := unN_lt s p
  have CX : Hid (∀ w, Calls Try.prog 52 #[.string (unT s p)] w fun e w' => e = .returned (.string (numS (unT s p).size 4 ++ unT s p)) ∧ w.grownBy w' none) := fun w => refText_any _ w (by omega)
  have CA : Hid (∀ w, Calls Try.prog 54 #[.string (numS (unT s p).size 4 ++ unT s p)] w fun e w' => e = .returned (.int .u32 (adl (numS (unT s p).size 4 ++ unT s p) : Nat)) ∧ w' = w) := fun w => refAdler_any _ w (by rw [ByteArray.size_append, numS_size]; omega)
  have hcl := adl_lt (numS (unT s p).size 4 ++ unT s p)
  generalize adl (numS (unT s p).size 4 ++ unT s p) = c at *
  generalize numS (unT s p).size 4 ++ unT s p = X at *
  rw [hF] at CN
  clear hF
  generalize unB s p = B at *
  generalize unN s p = N at *
  generalize unT s p = T at *
  generalize takeS (unS s p) (unE s p) 4 = Z at *
  generalize unS s p = S at *
  generalize unA s p = A at *
  generalize unE s p = E at *
  have s0 : (s.size : Int) ≤ 4500 := by omega
  have p0 : (0 : Int) ≤ (p : Int) := by omega
  have p1 : (p : Int) ≤ (s.size : Int) := by omega
  have t1 : (T.size : Int) ≤ 4500 := by omega
  have t0 : (0 : Int) ≤ (T.size : Int) := by omega
  have i3 : IntKind.u64.wrap (c : Int) = (c : Int) := by rw [IntKind.wrap_u64]; omega
  clear hs hp hR hrm hNl hcl hT
  rcases hV with ⟨e1, rfl, rfl, rfl⟩ | ⟨e1, rfl, rfl, rfl⟩
  · have e2 : ((N : Int) == (c : Int)) = true := by rw [e1]; simp
    have e3 : ((N : Int) != (c : Int)) = false := by rw [bne, e2]; rfl
    clear e1 e2
    go_enter Try.func29, Try.ntmps29
    go_wp2_with (first | (go_at_call 54; refine (CA.out _).mono ?_; rintro e w' ⟨rfl, hw⟩; have hw2 := hw.symm; clear hw; subst hw2) | (go_at_call 52; refine (CX.out _).mono ?_; clear CX; rintro e w4 ⟨rfl, hg4⟩; have G4 : Hid (w.grownBy w4 none) := grown_none G3.out hg4; clear hg4) | (go_at_call 55; refine (CT.out _).mono ?_; clear CT; rintro e w1 ⟨rfl, hg1⟩; have G1 : Hid (w.grownBy w1 none) := hg1; clear hg1) | (go_at_call 56; refine (CN.out _).mono ?_; clear CN; rintro e w2 ⟨rfl, hg2⟩; have B2 : Hid (Blk w2 w1.heap.size 93 (rd S A E)) := (Blk.new w1 _ _).kept hg2 (fun h => by cases h); have G2 : Hid (w.grownBy w2 none) := grown_none (grown_alloc G1.out _) hg2; clear hg2) | (refine q_is_store 93 (.tmp 7) (.tmp 29) rfl ?_; refine store_rd w1.heap.size B2.out _ _ rfl rfl rfl rfl ?_; intro w3 hb3 hg3; have B3 : Hid (Blk w3 w1.heap.size 93 (rd Z B 0)) := hb3; have G3 : Hid (w.grownBy w3 none) := grown_through G2.out hg3 G1.out.size; have z2 := hb3.rd2; clear hb3 hg3 B2))
    exact bodyPost_ret (results_tri Try.results29 _ _ _) rfl ⟨rfl, G4.out⟩
  · have e2 : ((N : Int) == (c : Int)) = false := by simp; omega
    have e3 : ((N : Int) != (c : Int)) = true := by rw [bne, e2]; rfl
    clear e1 e2
    go_enter Try.func29, Try.ntmps29
    go_wp2_with (first | (go_at_call 54; refine (CA.out _).mono ?_; rintro e w' ⟨rfl, hw⟩; have hw2 := hw.symm; clear hw; subst hw2) | (go_at_call 52; refine (CX.out _).mono ?_; clear CX; rintro e w4 ⟨rfl, hg4⟩; have G4 : Hid (w.grownBy w4 none) := grown_none G3.out hg4; clear hg4) | (go_at_call 55; refine (CT.out _).mono ?_; clear CT; rintro e w1 ⟨rfl, hg1⟩; have G1 : Hid (w.grownBy w1 none) := hg1; clear hg1) | (go_at_call 56; refine (CN.out _).mono ?_; clear CN; rintro e w2 ⟨rfl, hg2⟩; have B2 : Hid (Blk w2 w1.heap.size 93 (rd S A E)) := (Blk.new w1 _ _).kept hg2 (fun h => by cases h); have G2 : Hid (w.grownBy w2 none) := grown_none (grown_alloc G1.out _) hg2; clear hg2) | (refine q_is_store 93 (.tmp 7) (.tmp 29) rfl ?_; refine store_rd w1.heap.size B2.out _ _ rfl rfl rfl rfl ?_; intro w3 hb3 hg3; have B3 : Hid (Blk w3 w1.heap.size 93 (rd Z B 0)) := hb3; have G3 : Hid (w.grownBy w3 none) := grown_through G2.out hg3 G1.out.size; have z2 := hb3.rd2; clear hb3 hg3 B2))
    exact bodyPost_ret (results_tri Try.results29 _ _ _) rfl ⟨rfl, G4.out⟩
end Go.Proofs.Ytddnjlnnkeiplaa.Wi
namespace Go.Proofs.Ytddnjlnnkeiplaa.Wi
open Go.RowKit
theorem byt_le (V : ByteArray) (k i : Nat) (h : i < k) : byt (leT V k) i = (V.data.getD i 0).toNat := by
  induction k with
  | zero => omega
  | succ k ih =>
    have hb : (V.data.getD i 0).toNat < 256 := UInt8.toNat_lt _
    have hlt := leT_lt V k
    unfold byt
    show (leT V k + (V.data.getD k 0).toNat * 2 ^ (8 * k)) / 2 ^ (8 * i) % 256 = _
    by_cases e : i = k
    · subst e
      rw [Nat.add_mul_div_right _ _ (Nat.pow_pos (by decide)), Nat.div_eq_of_lt hlt, Nat.zero_add, Nat.mod_eq_of_lt hb]
    · have h2 := ih (by omega)
      unfold byt at h2
      have e2 : 2 ^ (8 * k) = 2 ^ (8 * (k - i)) * 2 ^ (8 * i) := by rw [← Nat.pow_add]; congr 1; omega
      rw [e2, ← Nat.mul_assoc, Nat.add_mul_div_right _ _ (Nat.pow_pos (by decide)), show 8 * (k - i) = 8 * (k - i - 1) + 8 by omega, Nat.pow_add, show (2 : Nat) ^ 8 = 256 from rfl, ← Nat.mul_assoc, Nat.add_mul_mod_self_right, h2]
theorem numS_le (V : ByteArray) (k : Nat) (h : V.size = k) : numS (leT V k) k = V := by
  apply bytes_ext
  rw [numS_list]
  apply List.ext_getElem
  · rw [numL_len, bytes_len, h]
  · intro i h1 h2
    have hi : i < k := by rw [numL_len] at h1; exact h1
    have e1 := numL_at (leT V k) k i h1
    have e2 := byt_le V k i hi
    have e3 : V.data.getD i 0 = V.data.toList[i] := by
      rw [getD_byte V i (by omega)]
      rfl
    rw [e2, e3] at e1
    exact UInt8.toNat_inj.1 (by omega)
theorem takeE_zero (s : ByteArray) (e n : Nat) (h : takeE s e n = 0) : n ≤ s.size ∧ e = 0 := by
  unfold takeE failE at h
  by_cases h1 : s.size < n
  · rw [if_pos h1] at h
    split at h
    · next q => omega
    · omega
  · rw [if_neg h1] at h
    exact ⟨by omega, h⟩
theorem failE_zero (e f : Nat) (h : failE e f = 0) : e = 0 ∧ f = 0 := by
  unfold failE at h
  split at h
  · next q => omega
  · next q => omega
theorem ext_list (s : ByteArray) (p m : Nat) : (s.extract p m).data.toList = (s.data.toList.take m).drop p := by
  rw [ByteArray.data_extract, Array.toList_extract, List.extract_eq_take_drop, List.drop_take]
theorem ext_cut (s : ByteArray) (p n : Nat) (hp : p ≤ s.size) : s.extract p (p + (4 + n)) = (s.extract p s.size).extract 0 4 ++ ((s.extract p s.size).extract 4 (s.extract p s.size).size).extract 0 n := by
  apply bytes_ext
  rw [append_list]
  simp only [ext_list]
  have e1 : s.data.toList.take s.size = s.data.toList := List.take_of_length_le (by rw [bytes_len]; exact Nat.le_refl _)
  have e2 : (s.extract p s.size).size = s.size - p := by rw [ByteArray.size_extract]; omega
  rw [e1, e2, List.drop_take, List.take_of_length_le (l := s.data.toList.drop p) (i := s.size - p) (by rw [List.length_drop, bytes_len]; exact Nat.le_refl _), show p + (4 + n) - p = 4 + n by omega, List.take_add]
  simp
theorem un_eq (s : ByteArray) (p : Nat) (hp : p ≤ s.size) (hF : unF s p = 0) : unA s p = 4 + (unT s p).size ∧ unB s p = 8 + (unT s p).size ∧ s.extract p (p + unA s p) = numS (unT s p).size 4 ++ unT s p := by
  obtain ⟨f1, f2⟩ := takeE_zero _ _ _ hF
  obtain ⟨f3, f4⟩ := takeE_zero _ _ _ f2
  obtain ⟨f5, f6⟩ := failE_zero _ _ f4
  obtain ⟨f7, -⟩ := takeE_zero _ _ _ f5
  have g1 : cntN (unR s p) 0 2147483647 = cntR (unR s p) := by
    unfold cntF at f6
    unfold cntN
    rw [f5] at f6 ⊢
    have hk : ¬ ((0 : Nat) ≠ 0) := by decide
    rw [if_neg hk] at f6 ⊢
    split at f6
    · omega
    · next q => rw [if_neg q]
  have g2 : cntS (unR s p) 0 2147483647 = (unR s p).extract 4 (unR s p).size := by
    unfold cntS
    rw [f5, f6]
    unfold failS takeS
    rw [if_pos (Or.inl rfl), if_neg (by omega)]
  have g3 : takeV (unR s p) 4 = (unR s p).extract 0 4 := by unfold takeV; rw [if_neg (by omega)]
  have g4 : ((unR s p).extract 0 4).size = 4 := by rw [ByteArray.size_extract]; omega
  rw [g1] at f3
  have g5 : unT s p = ((unR s p).extract 4 (unR s p).size).extract 0 (cntR (unR s p)) := by
    unfold unT txtV takeV
    rw [g1, if_neg (by omega), g2]
  have g6 : (unT s p).size = cntR (unR s p) := by
    rw [g2] at f3
    rw [g5, ByteArray.size_extract]
    omega
  have g7 : unA s p = 4 + (unT s p).size := by
    unfold unA txtA takeA
    rw [g1, if_neg (by omega), if_neg (by omega), g6]
  refine ⟨g7, ?_, ?_⟩
  · unfold unB takeA
    rw [if_neg (by omega), g7]
    omega
  · have g8 : numS (unT s p).size 4 = (unR s p).extract 0 4 := by
      rw [g6]
      unfold cntR
      rw [g3, g4]
      exact numS_le _ 4 g4
    rw [g7, ext_cut s p _ hp, g8, g6]
    unfold unR at g5 ⊢
    rw [← g5]
end Go.Proofs.Ytddnjlnnkeiplaa.Wi
