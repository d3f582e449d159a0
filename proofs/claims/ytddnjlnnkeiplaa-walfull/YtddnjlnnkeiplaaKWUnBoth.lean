/-
  The bytes of a number that was read out of bytes are these bytes. Unframe: both answer the same at every place; at a frame's place the text that was framed.
-/
import Derived.Test.YtddnjlnnkeiplaaKWRefUn
namespace Go.Proofs.Ytddnjlnnkeiplaa.Wi
open Go.RowKit
theorem byt_le (V : ByteArray) (k i : Nat) (h : i < k) : byt (leT V k) i = (V.data.getD i 0).toNat := by
  induction k with
  | zero => omega
  | succ k ih =>
    have hb : (V.data.getD i 0).toNat < 256 := UInt8.toNat_lt _
    have hlt := leT_lt V k
    unfold byt
    show (leT V k + (V.data.getD k 0).toNat * 2 ^ (8 * k)) / 2 ^ (8 * i) % 256 = _
    by_cases e : i = k
    · subst e
      rw [Nat.add_mul_div_right _ _ (Nat.pow_pos (by decide)), Nat.div_eq_of_lt hlt, Nat.zero_add, Nat.mod_eq_of_lt hb]
    · have h2 := ih (by omega)
      unfold byt at h2
      have e2 : 2 ^ (8 * k) = 2 ^ (8 * (k - i)) * 2 ^ (8 * i) := by rw [← Nat.pow_add]; congr 1; omega
      rw [e2, ← Nat.mul_assoc, Nat.add_mul_div_right _ _ (Nat.pow_pos (by decide)), show 8 * (k - i) = 8 * (k - i - 1) + 8 by omega, Nat.pow_add, show (2 : Nat) ^ 8 = 256 from rfl, ← Nat.mul_assoc, Nat.add_mul_mod_self_right, h2]
theorem numS_le (V : ByteArray) (k : Nat) (h : V.size = k) : numS (leT V k) k = V := by
  apply bytes_ext
  rw [numS_list]
  apply List.ext_getElem
  · rw [numL_len, bytes_len, h]
  · intro i h1 h2
    have hi : i < k := by rw [numL_len] at h1; exact h1
    have e1 := numL_at (leT V k) k i h1
    have e2 := byt_le V k i hi
    have e3 : V.data.getD i 0 = V.data.toList[i] := by
      rw [getD_byte V i (by omega)]
      rfl
    rw [e2, e3] at e1
    exact UInt8.toNat_inj.1 (by omega)
theorem takeE_zero (s : ByteArray) (e n : Nat) (h : takeE s e n = 0) : n ≤ s.size ∧ e = 0 := by
  unfold takeE failE at h
  by_cases h1 : s.size < n
  · rw [if_pos h1] at h
    split at h
    · next q => omega
    · omega
  · rw [if_neg h1] at h
    exact ⟨by omega, h⟩
theorem failE_zero (e f : Nat) (h : failE e f = 0) : e = 0 ∧ f = 0 := by
  unfold failE at h
  split at h
  · next q => omega
  · next q => omega
theorem ext_list (s : ByteArray) (p m : Nat) : (s.extract p m).data.toList = (s.data.toList.take m).drop p := by
  rw [ByteArray.data_extract, Array.toList_extract, List.extract_eq_take_drop, List.drop_take]
theorem ext_cut (s : ByteArray) (p n : Nat) (hp : p ≤ s.size) : s.extract p (p + (4 + n)) = (s.extract p s.size).extract 0 4 ++ ((s.extract p s.size).extract 4 (s.extract p s.size).size).extract 0 n := by
  apply bytes_ext
  rw [append_list]
  simp only [ext_list]
  have e1 : s.data.toList.take s.size = s.data.toList := List.take_of_length_le (by rw [bytes_len]; exact Nat.le_refl _)
  have e2 : (s.extract p s.size).size = s.size - p := by rw [ByteArray.size_extract]; omega
  rw [e1, e2, List.drop_take, List.take_of_length_le (l := s.data.toList.drop p) (i := s.size - p) (by rw [List.length_drop, bytes_len]; exact Nat.le_refl _), show p + (4 + n) - p = 4 + n by omega, List.take_add]
  simp
theorem un_eq (s : ByteArray) (p : Nat) (hp : p ≤ s.size) (hF : unF s p = 0) : unA s p = 4 + (unT s p).size ∧ unB s p = 8 + (unT s p).size ∧ s.extract p (p + unA s p) = numS (unT s p).size 4 ++ unT s p := by
  obtain ⟨f1, f2⟩ := takeE_zero _ _ _ hF
  obtain ⟨f3, f4⟩ := takeE_zero _ _ _ f2
  obtain ⟨f5, f6⟩ := failE_zero _ _ f4
  obtain ⟨f7, -⟩ := takeE_zero _ _ _ f5
  have g1 : cntN (unR s p) 0 2147483647 = cntR (unR s p) := by
    unfold cntF at f6
    unfold cntN
    rw [f5] at f6 ⊢
    have hk : ¬ ((0 : Nat) ≠ 0) := by decide
    rw [if_neg hk] at f6 ⊢
    split at f6
    · omega
    · next q => rw [if_neg q]
  have g2 : cntS (unR s p) 0 2147483647 = (unR s p).extract 4 (unR s p).size := by
    unfold cntS
    rw [f5, f6]
    unfold failS takeS
    rw [if_pos (Or.inl rfl), if_neg (by omega)]
  have g3 : takeV (unR s p) 4 = (unR s p).extract 0 4 := by unfold takeV; rw [if_neg (by omega)]
  have g4 : ((unR s p).extract 0 4).size = 4 := by rw [ByteArray.size_extract]; omega
  rw [g1] at f3
  have g5 : unT s p = ((unR s p).extract 4 (unR s p).size).extract 0 (cntR (unR s p)) := by
    unfold unT txtV takeV
    rw [g1, if_neg (by omega), g2]
  have g6 : (unT s p).size = cntR (unR s p) := by
    rw [g2] at f3
    rw [g5, ByteArray.size_extract]
    omega
  have g7 : unA s p = 4 + (unT s p).size := by
    unfold unA txtA takeA
    rw [g1, if_neg (by omega), if_neg (by omega), g6]
  refine ⟨g7, ?_, ?_⟩
  · unfold unB takeA
    rw [if_neg (by omega), g7]
    omega
  · have g8 : numS (unT s p).size 4 = (unR s p).extract 0 4 := by
      rw [g6]
      unfold cntR
      rw [g3, g4]
      exact numS_le _ 4 g4
    rw [g7, ext_cut s p _ hp, g8, g6]
    unfold unR at g5 ⊢
    rw [← g5]
end Go.Proofs.Ytddnjlnnkeiplaa.Wi
namespace Go.Proofs.Ytddnjlnnkeiplaa.Wi
open Go.RowKit
theorem extract_left (a b : ByteArray) (n : Nat) (h : a.size = n) : (a ++ b).extract 0 n = a := by
  apply bytes_ext
  rw [ByteArray.data_extract, Array.toList_extract]
  show (a ++ b).data.toList.extract 0 n = _
  rw [append_list, List.extract_eq_take_drop, List.drop_zero, Nat.sub_zero, ← h, ← bytes_len, List.take_left]
theorem extract_right (a b : ByteArray) (n m : Nat) (h : a.size = n) (hm : (a ++ b).size = m) : (a ++ b).extract n m = b := by
  apply bytes_ext
  rw [ByteArray.data_extract, Array.toList_extract]
  show (a ++ b).data.toList.extract n m = _
  rw [ByteArray.size_append] at hm
  rw [append_list, List.extract_eq_take_drop, ← h, ← bytes_len, List.drop_left, ← hm, bytes_len, Nat.add_sub_cancel_left, ← bytes_len, List.take_length]
/-- What a reader of a text with its count ahead, and something behind it, answers. -/
theorem bounds_facts (T M : ByteArray) (hT : T.size ≤ 100000) : takeV (numS T.size 4 ++ T ++ M) 4 = numS T.size 4 ∧ takeS (numS T.size 4 ++ T ++ M) 0 4 = T ++ M ∧ takeE (numS T.size 4 ++ T ++ M) 0 4 = 0 ∧ takeA (numS T.size 4 ++ T ++ M) 0 4 = 4 ∧ cntR (numS T.size 4 ++ T ++ M) = T.size := by
  have hz := numS_size T.size 4
  have e : numS T.size 4 ++ T ++ M = numS T.size 4 ++ (T ++ M) := by
    apply bytes_ext
    rw [append_list, append_list, append_list, append_list, List.append_assoc]
  have hs : (numS T.size 4 ++ (T ++ M)).size = 4 + (T.size + M.size) := by rw [ByteArray.size_append, ByteArray.size_append, hz]
  rw [e]
  have hn : ¬ (numS T.size 4 ++ (T ++ M)).size < 4 := by omega
  have hv : takeV (numS T.size 4 ++ (T ++ M)) 4 = numS T.size 4 := by
    unfold takeV
    rw [if_neg hn]
    exact extract_left _ _ 4 hz
  refine ⟨hv, ?_, ?_, ?_, ?_⟩
  · unfold takeS
    rw [if_neg hn]
    exact extract_right _ _ 4 _ hz rfl
  · unfold takeE
    rw [if_neg hn]
  · unfold takeA
    rw [if_neg hn]
  · unfold cntR
    rw [hv, hz, le_num T.size 4 4 (Nat.le_refl _)]
    exact Nat.mod_eq_of_lt (by omega)
theorem bounds_in (T M : ByteArray) (most : Int) (hT : T.size ≤ 100000) (h : (T.size : Int) ≤ most) : txtV (numS T.size 4 ++ T ++ M) 0 most = T ∧ txtS (numS T.size 4 ++ T ++ M) 0 most = M ∧ txtE (numS T.size 4 ++ T ++ M) 0 most = 0 := by
  obtain ⟨_, h2, h3, _, h5⟩ := bounds_facts T M hT
  generalize numS T.size 4 ++ T ++ M = Z at *
  have f0 : cntF Z 0 most = 0 := by
    unfold cntF
    rw [h3, if_neg (by omega), h5, if_neg (by omega)]
  have n0 : cntN Z 0 most = T.size := by
    unfold cntN
    rw [h3, if_neg (by omega), h5, if_neg (by omega)]
  have s0 : cntS Z 0 most = T ++ M := by
    unfold cntS
    rw [f0, h2]
    unfold failS
    rw [if_pos (Or.inl rfl)]
  have e0 : cntE Z 0 most = 0 := by
    unfold cntE
    rw [f0, h3]
    rfl
  have hn : ¬ (T ++ M).size < T.size := by rw [ByteArray.size_append]; omega
  unfold txtV txtS txtE
  rw [n0, s0, e0]
  refine ⟨?_, ?_, ?_⟩
  · unfold takeV
    rw [if_neg hn]
    exact extract_left _ _ _ rfl
  · unfold takeS
    rw [if_neg hn, extract_right _ _ _ _ rfl rfl]
  · unfold takeE
    rw [if_neg hn]
theorem un_frame (P t Q s : ByteArray) (p : Nat) (ht : t.size ≤ 100000) (hs : s = P ++ (frmS t ++ Q)) (hp : p = P.size) : unT s p = t ∧ unF s p = 0 ∧ unN s p = adl (numS t.size 4 ++ t) := by
  have hR : unR s p = numS t.size 4 ++ t ++ (numS (adl (numS t.size 4 ++ t)) 4 ++ Q) := by
    unfold unR
    rw [hs, hp, extract_right P (frmS t ++ Q) _ _ rfl rfl]
    unfold frmS
    apply bytes_ext
    simp only [append_list, List.append_assoc]
  obtain ⟨h1, h2, h3⟩ := bounds_in t (numS (adl (numS t.size 4 ++ t)) 4 ++ Q) 2147483647 (by omega) (by omega)
  have hz := numS_size (adl (numS t.size 4 ++ t)) 4
  have hlt := adl_lt (numS t.size 4 ++ t)
  have hS : unS s p = numS (adl (numS t.size 4 ++ t)) 4 ++ Q := by unfold unS; rw [hR]; exact h2
  have hn : ¬ (numS (adl (numS t.size 4 ++ t)) 4 ++ Q).size < 4 := by rw [ByteArray.size_append]; omega
  refine ⟨?_, ?_, ?_⟩
  · unfold unT; rw [hR]; exact h1
  · unfold unF unE takeE
    rw [hS, if_neg hn, hR]
    exact h3
  · have hv : takeV (unS s p) 4 = numS (adl (numS t.size 4 ++ t)) 4 := by
      rw [hS]
      unfold takeV
      rw [if_neg hn]
      exact extract_left _ _ 4 hz
    unfold unN
    rw [hv, hz, le_num _ 4 4 (Nat.le_refl _)]
    exact Nat.mod_eq_of_lt (by omega)
theorem unT_size (s : ByteArray) (p : Nat) : (unT s p).size ≤ s.size := by
  unfold unT txtV
  have h1 := takeV_size (cntS (unR s p) 0 2147483647) (cntN (unR s p) 0 2147483647)
  have h2 := cnt_room (unR s p) 0 0 2147483647
  have h3 : (unR s p).size ≤ s.size := by unfold unR; rw [ByteArray.size_extract]; omega
  omega
/-- The program's Unframe and the document's answer the same, at every place. -/
theorem both_unframe (s : ByteArray) (p : Int) (hs : s.size ≤ 4500) : ∃ (V : ByteArray) (x y : Nat),
    (∀ w, Calls Try.prog 76 #[.string s, .int .i64 p] w fun e w' => e = .returned (.tuple #[.string V, .int .i64 x, .int .i64 y]) ∧ w.grownBy w' none)
    ∧ (∀ w, Calls Try.prog 29 #[.string s, .int .i64 p] w fun e w' => e = .returned (.tuple #[.string V, .int .i64 x, .int .i64 y]) ∧ w.grownBy w' none) := by
  by_cases h : p < 0 ∨ (s.size : Int) < p
  · refine ⟨⟨#[]⟩, 0, 1, fun w => (unframe_out s p w h).mono ?_, fun w => (refUnframe_out s p w h).mono ?_⟩
    · rintro e w' ⟨rfl, rfl⟩
      exact ⟨rfl, grown_refl _ _⟩
    · rintro e w' ⟨rfl, rfl⟩
      exact ⟨rfl, grown_refl _ _⟩
  · obtain ⟨n, rfl⟩ : ∃ n : Nat, p = n := ⟨p.toNat, by omega⟩
    have hn : n ≤ s.size := by omega
    by_cases hF : unF s n = 0
    · obtain ⟨e1, e2, e3⟩ := un_eq s n hn hF
      have hT := unT_size s n
      by_cases hN : unN s n = adl (numS (unT s n).size 4 ++ unT s n)
      · exact ⟨unT s n, n + (unT s n).size + 8, 0, fun w => unframe_in s n w hs hn hF _ _ _ (Or.inl ⟨by rw [e3]; exact hN, rfl, by omega, rfl⟩), fun w => refUnframe_in s n w hs hn hF (by omega) _ _ _ (Or.inl ⟨hN, rfl, rfl, rfl⟩)⟩
      · exact ⟨⟨#[]⟩, 0, 6, fun w => unframe_in s n w hs hn hF _ _ _ (Or.inr ⟨by rw [e3]; exact hN, rfl, rfl, rfl⟩), fun w => refUnframe_in s n w hs hn hF (by omega) _ _ _ (Or.inr ⟨hN, rfl, rfl, rfl⟩)⟩
    · exact ⟨⟨#[]⟩, 0, unF s n, fun w => unframe_bad s n w hs hn hF, fun w => refUnframe_bad s n w hs hn hF⟩
/-- .. and at a frame's place it gives the text that was framed, and the place behind it. -/
theorem unframe_frame (P t Q s : ByteArray) (p : Nat) (w : World) (ht : t.size ≤ 1000) (hs : s = P ++ (frmS t ++ Q)) (hp : p = P.size) (hz : s.size ≤ 4500) : Calls Try.prog 76 #[.string s, .int .i64 p] w fun e w' => e = .returned (.tuple #[.string t, .int .i64 ((p + (t.size + 8) : Nat) : Int), .int .i64 0]) ∧ w.grownBy w' none := by
  obtain ⟨h1, h2, h3⟩ := un_frame P t Q s p (by omega) hs hp
  have hn : p ≤ s.size := by rw [hs, hp, ByteArray.size_append]; omega
  obtain ⟨e1, e2, e3⟩ := un_eq s p hn h2
  exact unframe_in s p w hz hn h2 _ _ _ (Or.inl ⟨by rw [e3, h1]; exact h3, h1.symm, by rw [e2, h1]; omega, rfl⟩)
end Go.Proofs.Ytddnjlnnkeiplaa.Wi
