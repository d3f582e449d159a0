/-
  An error stays; what was decoded without one is what it was decoded from.
-/
import Derived.Test.YtomknaendicpkaaEncDec
namespace Go.Proofs.Ytomknaendicpkaa
open Go.RowKit
theorem failE_stays {e : Nat} (f : Nat) (h : e ≠ 0) : failE e f = e := by
  unfold failE
  rw [if_pos (Or.inr h)]
theorem takeE_stays (s : ByteArray) {e : Nat} (n : Nat) (h : e ≠ 0) : takeE s e n = e := by
  unfold takeE
  split
  · exact failE_stays 4 h
  · rfl
theorem cntE_stays (s : ByteArray) {e : Nat} (m : Int) (h : e ≠ 0) : cntE s e m = e := by
  unfold cntE
  rw [takeE_stays s 4 h, failE_stays _ h]
theorem txtE_stays (s : ByteArray) {e : Nat} (m : Int) (h : e ≠ 0) : txtE s e m = e := by
  unfold txtE
  rw [cntE_stays s m h, takeE_stays _ _ h]
theorem txts_stays (m : Int) (r : Rs) (k : Nat) (h : (txtsN m r k).2.e ≠ 0) : ∀ j, (txtsN m r (k + j)).2.e = (txtsN m r k).2.e
  | 0 => rfl
  | j + 1 => by
    have ih := txts_stays m r k h j
    show txtE (txtsN m r (k + j)).2.s (txtsN m r (k + j)).2.e m = _
    rw [txtE_stays _ m (by rw [ih]; exact h), ih]
theorem cnts_stays (m : Int) (r : Rs) (k : Nat) (h : (cntsN m r k).2.e ≠ 0) : ∀ j, (cntsN m r (k + j)).2.e = (cntsN m r k).2.e
  | 0 => rfl
  | j + 1 => by
    have ih := cnts_stays m r k h j
    show cntE (cntsN m r (k + j)).2.s (cntsN m r (k + j)).2.e m = _
    rw [cntE_stays _ m (by rw [ih]; exact h), ih]
theorem txts_err (m : Int) (r : Rs) {k n : Nat} (hk : k ≤ n) (h : (txtsN m r k).2.e ≠ 0) : (txtsN m r n).2.e = (txtsN m r k).2.e := by
  obtain ⟨j, rfl⟩ : ∃ j, n = k + j := ⟨n - k, by omega⟩
  exact txts_stays m r k h j
theorem cnts_err (m : Int) (r : Rs) {k n : Nat} (hk : k ≤ n) (h : (cntsN m r k).2.e ≠ 0) : (cntsN m r n).2.e = (cntsN m r k).2.e := by
  obtain ⟨j, rfl⟩ : ∃ j, n = k + j := ⟨n - k, by omega⟩
  exact cnts_stays m r k h j
theorem txts_err0 (m : Int) (r : Rs) (n : Nat) (h : r.e ≠ 0) : (txtsN m r n).2.e = r.e := txts_err m r (k := 0) (Nat.zero_le _) h
theorem cnts_err0 (m : Int) (r : Rs) (n : Nat) (h : r.e ≠ 0) : (cntsN m r n).2.e = r.e := cnts_err m r (k := 0) (Nat.zero_le _) h
/-- Bytes that a take without an error leaves: those taken, and the rest. -/
theorem take_back (s : ByteArray) (n : Nat) (h : takeE s 0 n = 0) : s.data.toList = (takeV s n).data.toList ++ (takeS s 0 n).data.toList ∧ (takeV s n).size = n := by
  obtain ⟨hn, _⟩ := takeE_zero s 0 n h
  unfold takeV takeS
  rw [if_neg (by omega), if_neg (by omega)]
  constructor
  · rw [ext_list, ext_list, ← bytes_len s, List.take_length, List.drop_zero, List.take_append_drop]
  · rw [ByteArray.size_extract]; omega
theorem fail_back {e f : Nat} (h : failE e f = 0) : e = 0 ∧ f = 0 := failE_zero e f h
theorem cnt_back (s : ByteArray) (m : Int) (h : cntE s 0 m = 0) : s.data.toList = numL (cntN s 0 m) 4 ++ (cntS s 0 m).data.toList ∧ (cntN s 0 m : Int) ≤ m := by
  unfold cntE at h
  obtain ⟨h1, h2⟩ := fail_back h
  obtain ⟨b1, b2⟩ := take_back s 4 h1
  have hN : cntN s 0 m = cntR s ∧ ¬ (m < 0 ∨ m < (cntR s : Int)) := by
    unfold cntF at h2
    rw [h1, if_neg (by simp)] at h2
    by_cases hc : m < 0 ∨ m < (cntR s : Int)
    · rw [if_pos hc] at h2; cases h2
    · unfold cntN
      rw [h1, if_neg (by simp), if_neg hc]
      exact ⟨rfl, hc⟩
  have hS : cntS s 0 m = takeS s 0 4 := by
    unfold cntS
    rw [h2, fail_s]
  have hv : numL (cntR s) 4 = (takeV s 4).data.toList := by
    have e := numS_le (takeV s 4) 4 b2
    have e2 : cntR s = leT (takeV s 4) 4 := by unfold cntR; rw [b2]
    rw [e2, ← e]
    rw [e]
    rw [← numS_list, e]
  rw [hN.1, hS, hv]
  exact ⟨b1, by omega⟩
theorem txt_back (s : ByteArray) (m : Int) (h : txtE s 0 m = 0) : s.data.toList = txL (txtV s 0 m) ++ (txtS s 0 m).data.toList ∧ cntE s 0 m = 0 := by
  have hc : cntE s 0 m = 0 := by
    unfold txtE at h
    by_cases e : cntE s 0 m = 0
    · exact e
    · rw [takeE_stays _ _ e] at h; exact absurd h e
  obtain ⟨c1, _⟩ := cnt_back s m hc
  unfold txtE at h
  rw [hc] at h
  obtain ⟨b1, b2⟩ := take_back _ _ h
  refine ⟨?_, hc⟩
  unfold txL txtV txtS
  rw [hc, b2, List.append_assoc, ← b1]
  exact c1
theorem txts_back (m : Int) (r : Rs) (h0 : r.e = 0) : ∀ k, (txtsN m r k).2.e = 0 → r.s.data.toList = txs (txtsN m r k).1 ++ (txtsN m r k).2.s.data.toList
  | 0, _ => rfl
  | k + 1, h => by
    have hk : (txtsN m r k).2.e = 0 := by
      by_cases e : (txtsN m r k).2.e = 0
      · exact e
      · rw [txts_stays m r k e 1] at h; exact absurd h e
    have ih := txts_back m r h0 k hk
    have h' : txtE (txtsN m r k).2.s (txtsN m r k).2.e m = 0 := h
    rw [hk] at h'
    obtain ⟨t1, _⟩ := txt_back _ m h'
    show _ = txs ((txtsN m r k).1 ++ [txtV (txtsN m r k).2.s (txtsN m r k).2.e m]) ++ (txtS (txtsN m r k).2.s (txtsN m r k).2.e m).data.toList
    rw [hk]
    unfold txs at ih ⊢
    rw [List.flatMap_append, List.flatMap_cons, List.flatMap_nil, List.append_nil, List.append_assoc, ← t1]
    exact ih
theorem cnts_back (m : Int) (r : Rs) (h0 : r.e = 0) : ∀ k, (cntsN m r k).2.e = 0 → r.s.data.toList = nus (cntsN m r k).1 ++ (cntsN m r k).2.s.data.toList
  | 0, _ => rfl
  | k + 1, h => by
    have hk : (cntsN m r k).2.e = 0 := by
      by_cases e : (cntsN m r k).2.e = 0
      · exact e
      · rw [cnts_stays m r k e 1] at h; exact absurd h e
    have ih := cnts_back m r h0 k hk
    have h' : cntE (cntsN m r k).2.s (cntsN m r k).2.e m = 0 := h
    rw [hk] at h'
    obtain ⟨t1, _⟩ := cnt_back _ m h'
    show _ = nus ((cntsN m r k).1 ++ [((cntN (cntsN m r k).2.s (cntsN m r k).2.e m : Nat) : Int)]) ++ (cntS (cntsN m r k).2.s (cntsN m r k).2.e m).data.toList
    rw [hk]
    unfold nus at ih ⊢
    rw [List.flatMap_append, List.flatMap_cons, List.flatMap_nil, List.append_nil, List.append_assoc, Int.toNat_natCast, ← t1]
    exact ih
theorem bol_back (s : ByteArray) (h : bolE s 0 = 0) : s.data.toList = numL (if bolN s = 1 then 1 else 0) 1 ++ (bolS s 0).data.toList := by
  unfold bolE at h
  obtain ⟨h1, h2⟩ := fail_back h
  obtain ⟨b1, b2⟩ := take_back s 1 h1
  have hS : bolS s 0 = takeS s 0 1 := by unfold bolS; rw [h2, fail_s]
  have hN : bolN s ≤ 1 := by
    unfold bolF at h2
    by_cases hc : 1 < bolN s
    · rw [if_pos hc] at h2; cases h2
    · omega
  have e2 : (if bolN s = 1 then 1 else 0) = bolN s := by
    split
    · omega
    · omega
  have e := numS_le (takeV s 1) 1 b2
  have e3 : bolN s = leT (takeV s 1) 1 := by unfold bolN; rw [b2]
  rw [e2, hS, e3, ← numS_list, e]
  exact b1
theorem one_back (r : Rs) (h0 : r.e = 0) (h : (oneR r).e = 0) : r.s.data.toList = numL (oneN r) 1 ++ (oneR r).s.data.toList := by
  have h' : takeE r.s r.e 1 = 0 := h
  rw [h0] at h'
  obtain ⟨b1, b2⟩ := take_back r.s 1 h'
  have e := numS_le (takeV r.s 1) 1 b2
  have e3 : oneN r = leT (takeV r.s 1) 1 := by unfold oneN; rw [b2]
  show _ = _ ++ (takeS r.s r.e 1).data.toList
  rw [h0, e3, ← numS_list, e]
  exact b1
theorem zero_of {a b : Nat} (h : a ≠ 0 → b = a) (hb : b = 0) : a = 0 := by
  by_cases e : a = 0
  · exact e
  · rw [h e] at hb; exact hb
theorem end_back (r : Rs) (h : endE r = 0) : r.e = 0 ∧ r.s.data.toList = [] := by
  unfold endE at h
  obtain ⟨h1, h2⟩ := fail_back h
  refine ⟨h1, ?_⟩
  unfold endF at h2
  have hz : ¬ 0 < r.s.size := fun hc => by rw [if_pos hc] at h2; cases h2
  exact List.eq_nil_of_length_eq_zero (by rw [bytes_len]; omega)
/-- Bytes that are a page are that page's bytes. -/
theorem dec_back (s : ByteArray) (h : decE s = 0) : s.data.toList = encL (decP s) ∧ mayP (decP s) = true := by
  have hE : endE (takeP ⟨s, 0, 0⟩).2 = 0 ∧ mayP (takeP ⟨s, 0, 0⟩).1 = true := by
    unfold decE at h
    by_cases hc : endE (takeP ⟨s, 0, 0⟩).2 ≠ 0
    · rw [if_pos hc] at h; exact absurd h hc
    · rw [if_neg hc] at h
      cases hm : mayP (takeP ⟨s, 0, 0⟩).1 with
      | true => exact ⟨by omega, rfl⟩
      | false => rw [hm] at h; simp at h
  have hD : decP s = (takeP ⟨s, 0, 0⟩).1 := by unfold decP; rw [if_pos h]
  rw [hD]
  refine ⟨?_, hE.2⟩
  obtain ⟨e1, e2⟩ := end_back _ hE.1
  clear hE hD h
  unfold takeP at e1 e2 ⊢
  simp only at e1 e2 ⊢
  have y1 : (bolR ⟨s, 0, 0⟩).e = 0 → s.data.toList = numL (if bolN s = 1 then 1 else 0) 1 ++ (bolR ⟨s, 0, 0⟩).s.data.toList := fun h => bol_back s h
  generalize bolR ⟨s, 0, 0⟩ = R1 at *
  have y2 := one_back R1
  have w1 : R1.e ≠ 0 → (oneR R1).e = R1.e := fun e => takeE_stays _ 1 e
  generalize oneR R1 = R2 at *
  generalize oneN R1 = n at *
  have l1 := txtsN_len 64 R2 n
  have y3 := txts_back 64 R2
  have w2 := txts_err0 64 R2 n
  have y3 : R2.e = 0 → (txtsN 64 R2 n).2.e = 0 → R2.s.data.toList = txs (txtsN 64 R2 n).1 ++ (txtsN 64 R2 n).2.s.data.toList := fun h => y3 h n
  generalize txtsN 64 R2 n = K at *
  obtain ⟨ks, R3⟩ := K
  simp only at *
  by_cases hb : bolN s = 1
  · simp only [hb, if_true] at e1 e2 y1 ⊢
    have y4 := fun h => txts_back 8192 R3 h n e1
    have w3 := txts_err0 8192 R3 n
    rw [e2, List.append_nil] at y4
    have z3 : R3.e = 0 := zero_of w3 e1
    have z2 : R2.e = 0 := zero_of w2 z3
    have z1 : R1.e = 0 := zero_of w1 z2
    rw [y1 z1, y2 z1 z2, y3 z2 z3, y4 z3]
    unfold encL
    simp only [if_true, List.append_assoc]
    rw [l1]
    simp [nus]
  · simp only [hb, if_false] at e1 e2 y1 ⊢
    have y4 := fun h => cnts_back 2147483647 R3 h (n + 1) e1
    have w3 := cnts_err0 2147483647 R3 (n + 1)
    rw [e2, List.append_nil] at y4
    have z3 : R3.e = 0 := zero_of w3 e1
    have z2 : R2.e = 0 := zero_of w2 z3
    have z1 : R1.e = 0 := zero_of w1 z2
    rw [y1 z1, y2 z1 z2, y3 z2 z3, y4 z3]
    unfold encL
    simp only [Bool.false_eq_true, if_false, List.append_assoc]
    rw [l1]
    simp [txs]
end Go.Proofs.Ytomknaendicpkaa
