/-
  Unframe: both answer the same at every place; at a frame's place the text that was framed.
-/
import Derived.Test.YtddnjlnnkeiplaaWUnEq
namespace Go.Proofs.Ytddnjlnnkeiplaa.Wi
open Go.RowKit
theorem extract_left (a b : ByteArray) (n : Nat) (h : a.size = n) : (a ++ b).extract 0 n = a := by
  apply bytes_ext
  rw [ByteArray.data_extract, Array.toList_extract]
  show (a ++ b).data.toList.extract 0 n = _
  rw [append_list, List.extract_eq_take_drop, List.drop_zero, Nat.sub_zero, ← h, ← bytes_len, List.take_left]
theorem extract_right (a b : ByteArray) (n m : Nat) (h : a.size = n) (hm : (a ++ b).size = m) : (a ++ b).extract n m = b := by
  apply bytes_ext
  rw [ByteArray.data_extract, Array.toList_extract]
  show (a ++ b).data.toList.extract n m = _
  rw [ByteArray.size_append] at hm
  rw [append_list, List.extract_eq_take_drop, ← h, ← bytes_len, List.drop_left, ← hm, bytes_len, Nat.add_sub_cancel_left, ← bytes_len, List.take_length]
/-- What a reader of a text with its count ahead, and something behind it, answers. -/
theorem bounds_facts (T M : ByteArray) (hT : T.size ≤ 100000) : takeV (numS T.size 4 ++ T ++ M) 4 = numS T.size 4 ∧ takeS (numS T.size 4 ++ T ++ M) 0 4 = T ++ M ∧ takeE (numS T.size 4 ++ T ++ M) 0 4 = 0 ∧ takeA (numS T.size 4 ++ T ++ M) 0 4 = 4 ∧ cntR (numS T.size 4 ++ T ++ M) = T.size := by
  have hz := numS_size T.size 4
  have e : numS T.size 4 ++ T ++ M = numS T.size 4 ++ (T ++ M) := by
    apply bytes_ext
    rw [append_list, append_list, append_list, append_list, List.append_assoc]
  have hs : (numS T.size 4 ++ (T ++ M)).size = 4 + (T.size + M.size) := by rw [ByteArray.size_append, ByteArray.size_append, hz]
  rw [e]
  have hn : ¬ (numS T.size 4 ++ (T ++ M)).size < 4 := by omega
  have hv : takeV (numS T.size 4 ++ (T ++ M)) 4 = numS T.size 4 := by
    unfold takeV
    rw [if_neg hn]
    exact extract_left _ _ 4 hz
  refine ⟨hv, ?_, ?_, ?_, ?_⟩
  · unfold takeS
    rw [if_neg hn]
    exact extract_right _ _ 4 _ hz rfl
  · unfold takeE
    rw [if_neg hn]
  · unfold takeA
    rw [if_neg hn]
  · unfold cntR
    rw [hv, hz, le_num T.size 4 4 (Nat.le_refl _)]
    exact Nat.mod_eq_of_lt (by omega)
theorem bounds_in (T M : ByteArray) (most : Int) (hT : T.size ≤ 100000) (h : (T.size : Int) ≤ most) : txtV (numS T.size 4 ++ T ++ M) 0 most = T ∧ txtS (numS T.size 4 ++ T ++ M) 0 most = M ∧ txtE (numS T.size 4 ++ T ++ M) 0 most = 0 := by
  obtain ⟨_, h2, h3, _, h5⟩ := bounds_facts T M hT
  generalize numS T.size 4 ++ T ++ M = Z at *
  have f0 : cntF Z 0 most = 0 := by
    unfold cntF
    rw [h3, if_neg (by omega), h5, if_neg (by omega)]
  have n0 : cntN Z 0 most = T.size := by
    unfold cntN
    rw [h3, if_neg (by omega), h5, if_neg (by omega)]
  have s0 : cntS Z 0 most = T ++ M := by
    unfold cntS
    rw [f0, h2]
    unfold failS
    rw [if_pos (Or.inl rfl)]
  have e0 : cntE Z 0 most = 0 := by
    unfold cntE
    rw [f0, h3]
    rfl
  have hn : ¬ (T ++ M).size < T.size := by rw [ByteArray.size_append]; omega
  unfold txtV txtS txtE
  rw [n0, s0, e0]
  refine ⟨?_, ?_, ?_⟩
  · unfold takeV
    rw [if_neg hn]
    exact extract_left _ _ _ rfl
  · unfold takeS
    rw [if_neg hn, extract_right _ _ _ _ rfl rfl]
  · unfold takeE
    rw [if_neg hn]
theorem un_frame (P t Q s : ByteArray) (p : Nat) (ht : t.size ≤ 100000) (hs : s = P ++ (frmS t ++ Q)) (hp : p = P.size) : unT s p = t ∧ unF s p = 0 ∧ unN s p = adl (numS t.size 4 ++ t) := by
  have hR : unR s p = numS t.size 4 ++ t ++ (numS (adl (numS t.size 4 ++ t)) 4 ++ Q) := by
    unfold unR
    rw [hs, hp, extract_right P (frmS t ++ Q) _ _ rfl rfl]
    unfold frmS
    apply bytes_ext
    simp only [append_list, List.append_assoc]
  obtain ⟨h1, h2, h3⟩ := bounds_in t (numS (adl (numS t.size 4 ++ t)) 4 ++ Q) 2147483647 (by omega) (by omega)
  have hz := numS_size (adl (numS t.size 4 ++ t)) 4
  have hlt := adl_lt (numS t.size 4 ++ t)
  have hS : unS s p = numS (adl (numS t.size 4 ++ t)) 4 ++ Q := by unfold unS; rw [hR]; exact h2
  have hn : ¬ (numS (adl (numS t.size 4 ++ t)) 4 ++ Q).size < 4 := by rw [ByteArray.size_append]; omega
  refine ⟨?_, ?_, ?_⟩
  · unfold unT; rw [hR]; exact h1
  · unfold unF unE takeE
    rw [hS, if_neg hn, hR]
    exact h3
  · have hv : takeV (unS s p) 4 = numS (adl (numS t.size 4 ++ t)) 4 := by
      rw [hS]
      unfold takeV
      rw [if_neg hn]
      exact extract_left _ _ 4 hz
    unfold unN
    rw [hv, hz, le_num _ 4 4 (Nat.le_refl _)]
    exact Nat.mod_eq_of_lt (by omega)
theorem unT_size (s : ByteArray) (p : Nat) : (unT s p).size ≤ s.size := by
  unfold unT txtV
  have h1 := takeV_size (cntS (unR s p) 0 2147483647) (cntN (unR s p) 0 2147483647)
  have h2 := cnt_room (unR s p) 0 0 2147483647
  have h3 : (unR s p).size ≤ s.size := by unfold unR; rw [ByteArray.size_extract]; omega
  omega
/-- The program's Unframe and the document's answer the same, at every place. -/
theorem both_unframe (s : ByteArray) (p : Int) (hs : s.size ≤ 4500) : ∃ (V : ByteArray) (x y : Nat),
    (∀ w, Calls Try.prog 76 #[.string s, .int .i64 p] w fun e w' => e = .returned (.tuple #[.string V, .int .i64 x, .int .i64 y]) ∧ w.grownBy w' none)
    ∧ (∀ w, Calls Try.prog 29 #[.string s, .int .i64 p] w fun e w' => e = .returned (.tuple #[.string V, .int .i64 x, .int .i64 y]) ∧ w.grownBy w' none) := by
  by_cases h : p < 0 ∨ (s.size : Int) < p
  · refine ⟨⟨#[]⟩, 0, 1, fun w => (unframe_out s p w h).mono ?_, fun w => (refUnframe_out s p w h).mono ?_⟩
    · rintro e w' ⟨rfl, rfl⟩
      exact ⟨rfl, grown_refl _ _⟩
    · rintro e w' ⟨rfl, rfl⟩
      exact ⟨rfl, grown_refl _ _⟩
  · obtain ⟨n, rfl⟩ : ∃ n : Nat, p = n := ⟨p.toNat, by omega⟩
    have hn : n ≤ s.size := by omega
    by_cases hF : unF s n = 0
    · obtain ⟨e1, e2, e3⟩ := un_eq s n hn hF
      have hT := unT_size s n
      by_cases hN : unN s n = adl (numS (unT s n).size 4 ++ unT s n)
      · exact ⟨unT s n, n + (unT s n).size + 8, 0, fun w => unframe_in s n w hs hn hF _ _ _ (Or.inl ⟨by rw [e3]; exact hN, rfl, by omega, rfl⟩), fun w => refUnframe_in s n w hs hn hF (by omega) _ _ _ (Or.inl ⟨hN, rfl, rfl, rfl⟩)⟩
      · exact ⟨⟨#[]⟩, 0, 6, fun w => unframe_in s n w hs hn hF _ _ _ (Or.inr ⟨by rw [e3]; exact hN, rfl, rfl, rfl⟩), fun w => refUnframe_in s n w hs hn hF (by omega) _ _ _ (Or.inr ⟨hN, rfl, rfl, rfl⟩)⟩
    · exact ⟨⟨#[]⟩, 0, unF s n, fun w => unframe_bad s n w hs hn hF, fun w => refUnframe_bad s n w hs hn hF⟩
/-- .. and at a frame's place it gives the text that was framed, and the place behind it. -/
theorem unframe_frame (P t Q s : ByteArray) (p : Nat) (w : World) (ht : t.size ≤ 1000) (hs : s = P ++ (frmS t ++ Q)) (hp : p = P.size) (hz : s.size ≤ 4500) : Calls Try.prog 76 #[.string s, .int .i64 p] w fun e w' => e = .returned (.tuple #[.string t, .int .i64 ((p + (t.size + 8) : Nat) : Int), .int .i64 0]) ∧ w.grownBy w' none := by
  obtain ⟨h1, h2, h3⟩ := un_frame P t Q s p (by omega) hs hp
  have hn : p ≤ s.size := by rw [hs, hp, ByteArray.size_append]; omega
  obtain ⟨e1, e2, e3⟩ := un_eq s p hn h2
  exact unframe_in s p w hz hn h2 _ _ _ (Or.inl ⟨by rw [e3, h1]; exact h3, h1.symm, by rw [e2, h1]; omega, rfl⟩)
end Go.Proofs.Ytddnjlnnkeiplaa.Wi
