/-
  What was taken without an error is what it was taken from.
-/
import Derived.Test.YtdodammplhlihaaGreatDoorDe
namespace Go.Proofs.YtdodammplhlihaaGreatDoor.Tr
open Go.RowKit
theorem fail_s (s : ByteArray) (e : Nat) : failS s e 0 = s := by
  unfold failS
  simp
theorem failE_stays {e : Nat} (f : Nat) (h : e ≠ 0) : failE e f = e := by
  unfold failE
  rw [if_pos (Or.inr h)]
theorem takeE_stays (s : ByteArray) {e : Nat} (n : Nat) (h : e ≠ 0) : takeE s e n = e := by
  unfold takeE
  split
  · exact failE_stays 4 h
  · rfl
theorem cntE_stays (s : ByteArray) {e : Nat} (m : Int) (h : e ≠ 0) : cntE s e m = e := by
  unfold cntE
  rw [takeE_stays s 4 h, failE_stays _ h]
theorem txtE_stays (s : ByteArray) {e : Nat} (m : Int) (h : e ≠ 0) : txtE s e m = e := by
  unfold txtE
  rw [cntE_stays s m h, takeE_stays _ _ h]
theorem take_back (s : ByteArray) (n : Nat) (h : takeE s 0 n = 0) : s.data.toList = (takeV s n).data.toList ++ (takeS s 0 n).data.toList ∧ (takeV s n).size = n := by
  obtain ⟨hn, _⟩ := takeE_zero s 0 n h
  unfold takeV takeS
  rw [if_neg (by omega), if_neg (by omega)]
  constructor
  · rw [ext_list, ext_list, ← bytes_len s, List.take_length, List.drop_zero, List.take_append_drop]
  · rw [ByteArray.size_extract]; omega
theorem fail_back {e f : Nat} (h : failE e f = 0) : e = 0 ∧ f = 0 := failE_zero e f h
theorem cnt_back (s : ByteArray) (m : Int) (h : cntE s 0 m = 0) : s.data.toList = numL (cntN s 0 m) 4 ++ (cntS s 0 m).data.toList ∧ (cntN s 0 m : Int) ≤ m := by
  unfold cntE at h
  obtain ⟨h1, h2⟩ := fail_back h
  obtain ⟨b1, b2⟩ := take_back s 4 h1
  have hN : cntN s 0 m = cntR s ∧ ¬ (m < 0 ∨ m < (cntR s : Int)) := by
    unfold cntF at h2
    rw [h1, if_neg (by simp)] at h2
    by_cases hc : m < 0 ∨ m < (cntR s : Int)
    · rw [if_pos hc] at h2; cases h2
    · unfold cntN
      rw [h1, if_neg (by simp), if_neg hc]
      exact ⟨rfl, hc⟩
  have hS : cntS s 0 m = takeS s 0 4 := by
    unfold cntS
    rw [h2, fail_s]
  have hv : numL (cntR s) 4 = (takeV s 4).data.toList := by
    have e := numS_le (takeV s 4) 4 b2
    have e2 : cntR s = leT (takeV s 4) 4 := by unfold cntR; rw [b2]
    rw [e2, ← e]
    rw [e]
    rw [← numS_list, e]
  rw [hN.1, hS, hv]
  exact ⟨b1, by omega⟩
theorem txt_back (s : ByteArray) (m : Int) (h : txtE s 0 m = 0) : s.data.toList = txL (txtV s 0 m) ++ (txtS s 0 m).data.toList ∧ cntE s 0 m = 0 := by
  have hc : cntE s 0 m = 0 := by
    unfold txtE at h
    by_cases e : cntE s 0 m = 0
    · exact e
    · rw [takeE_stays _ _ e] at h; exact absurd h e
  obtain ⟨c1, _⟩ := cnt_back s m hc
  unfold txtE at h
  rw [hc] at h
  obtain ⟨b1, b2⟩ := take_back _ _ h
  refine ⟨?_, hc⟩
  unfold txL txtV txtS
  rw [hc, b2, List.append_assoc, ← b1]
  exact c1
theorem numR_stays (n : Nat) (r : Rs) (h : r.e ≠ 0) : (numR n r).e ≠ 0 := by
  show takeE r.s r.e n ≠ 0
  rw [takeE_stays r.s n h]
  exact h
theorem tvR_stays (r : Rs) (h : r.e ≠ 0) : (tvR r).e ≠ 0 := by
  show txtE r.s r.e 64 ≠ 0
  rw [txtE_stays r.s 64 h]
  exact h
theorem num_back (n : Nat) (r : Rs) (h : (numR n r).e = 0) : r.e = 0 ∧ r.s.data.toList = numL (numV n r) n ++ (numR n r).s.data.toList := by
  have h0 : r.e = 0 := by
    by_cases h0 : r.e = 0
    · exact h0
    · exact absurd h (numR_stays n r h0)
  refine ⟨h0, ?_⟩
  have h1 : takeE r.s r.e n = 0 := h
  rw [h0] at h1
  obtain ⟨e1, e2⟩ := take_back r.s n h1
  have e3 : (numR n r).s = takeS r.s 0 n := by show takeS r.s r.e n = _; rw [h0]
  rw [e3]
  have e4 : numL (numV n r) n = (takeV r.s n).data.toList := by
    unfold numV
    rw [e2, ← numS_list, numS_le (takeV r.s n) n e2]
  rw [e4]
  exact e1
theorem tv_back (r : Rs) (h : (tvR r).e = 0) : r.e = 0 ∧ r.s.data.toList = txL (tvV r) ++ (tvR r).s.data.toList ∧ (tvV r).size ≤ 64 := by
  have h0 : r.e = 0 := by
    by_cases h0 : r.e = 0
    · exact h0
    · exact absurd h (tvR_stays r h0)
  have h1 : txtE r.s r.e 64 = 0 := h
  rw [h0] at h1
  obtain ⟨e1, e2⟩ := txt_back r.s 64 h1
  have e3 : tvV r = txtV r.s 0 64 := by show txtV r.s r.e 64 = _; rw [h0]
  have e4 : (tvR r).s = txtS r.s 0 64 := by show txtS r.s r.e 64 = _; rw [h0]
  have e5 := (cnt_back r.s 64 e2).2
  have e6 := takeV_len (cntS r.s 0 64) (cntN r.s 0 64)
  refine ⟨h0, by rw [e3, e4]; exact e1, ?_⟩
  rw [e3]
  show (takeV (cntS r.s 0 64) (cntN r.s 0 64)).size ≤ 64
  omega
theorem Nd.head_mk (k t : Int) (s : ByteArray) (n : Int) (ks : List Nd) : (Nd.mk k t s n ks).head = headL k t s n ks.length := rfl
theorem head_join {k t n8 c : Nat} {s : ByteArray} {A B C D E F : List UInt8} (hk : k < 256) (ht : t < 256) (hn : n8 < 18446744073709551616) (b1 : A = numL k 1 ++ B) (b2 : B = numL t 1 ++ C) (b3 : C = txL s ++ D) (b4 : D = numL n8 8 ++ E) (b5 : E = numL c 1 ++ F) : A = headL k t s (i64 n8) c ++ F := by
  unfold headL
  rw [n64_small _ (by omega), n64_small _ (by omega), i64_back _ hn, b1, b2, b3, b4, b5]
  simp only [List.append_assoc]
theorem head_back (r : Rs) (h : (headR r).e = 0) (ks : List Nd) (hk : ks.length = headC r) : r.e = 0 ∧ r.s.data.toList = (ndOf r ks).head ++ (headR r).s.data.toList ∧ (tvV (numR 1 (numR 1 r))).size ≤ 64 := by
  have h' : (numR 1 (numR 8 (tvR (numR 1 (numR 1 r))))).e = 0 := by unfold headR at h; exact h
  have q1 : numV 1 r < 2 ^ (8 * 1) := numV_lt 1 r
  have q2 : numV 1 (numR 1 r) < 2 ^ (8 * 1) := numV_lt 1 _
  have q3 : numV 8 (tvR (numR 1 (numR 1 r))) < 2 ^ (8 * 8) := numV_lt 8 _
  unfold headC at hk
  unfold headR ndOf
  rw [Nd.head_mk, hk]
  obtain ⟨r1, er1⟩ : ∃ r1, numR 1 r = r1 := ⟨_, rfl⟩
  obtain ⟨r2, er2⟩ : ∃ r2, numR 1 r1 = r2 := ⟨_, rfl⟩
  obtain ⟨r3, er3⟩ : ∃ r3, tvR r2 = r3 := ⟨_, rfl⟩
  obtain ⟨r4, er4⟩ : ∃ r4, numR 8 r3 = r4 := ⟨_, rfl⟩
  rw [er1, er2, er3, er4] at h'
  rw [er1] at q2
  rw [er1, er2, er3] at q3
  rw [er1, er2, er3, er4]
  obtain ⟨a5, b5⟩ := num_back 1 r4 h'
  obtain ⟨a4, b4⟩ := num_back 8 r3 (by rw [er4]; exact a5)
  obtain ⟨a3, b3, c3⟩ := tv_back r2 (by rw [er3]; exact a4)
  obtain ⟨a2, b2⟩ := num_back 1 r1 (by rw [er2]; exact a3)
  obtain ⟨a1, b1⟩ := num_back 1 r (by rw [er1]; exact a2)
  rw [er4] at b4
  rw [er3] at b3
  rw [er2] at b2
  rw [er1] at b1
  exact ⟨a1, head_join (by omega) (by omega) (by omega) b1 b2 b3 b4 b5, c3⟩
/-- An error stays. -/
theorem kidsF_stays (f : Rs → Nat → Nd × Rs × Nat) (hf : ∀ r lf, r.e ≠ 0 → (f r lf).2.1.e ≠ 0) : ∀ m r lf acc, r.e ≠ 0 → (kidsF f m r lf acc).2.1.e ≠ 0
  | 0, _, _, _, h => h
  | m + 1, r, lf, acc, h => by
    unfold kidsF
    rw [if_pos (hf r lf h)]
    exact hf r lf h
theorem failR_no (r : Rs) : (failR 3 r).e ≠ 0 := by
  show failE r.e 3 ≠ 0
  intro h
  have := failE_zero r.e 3 h
  omega
theorem headR_stays (r : Rs) (h : r.e ≠ 0) : (headR r).e ≠ 0 := numR_stays _ _ (numR_stays _ _ (tvR_stays _ (numR_stays _ _ (numR_stays _ _ h))))
theorem nodeF_stays : ∀ d r lf, r.e ≠ 0 → (nodeF d r lf).2.1.e ≠ 0
  | 0, r, _, _ => failR_no r
  | d + 1, r, lf, h => by
    unfold nodeF
    split
    · exact failR_no r
    · rw [shut_2]
      exact kidsF_stays _ (nodeF_stays d) _ _ _ _ (headR_stays r h)
theorem kidsF_back (f : Rs → Nat → Nd × Rs × Nat) (hs : ∀ r lf, r.e ≠ 0 → (f r lf).2.1.e ≠ 0) (hf : ∀ r lf, (f r lf).2.1.e = 0 → r.s.data.toList = (f r lf).1.enc ++ (f r lf).2.1.s.data.toList ∧ (f r lf).1.ok ∧ (f r lf).1.cnt + (f r lf).2.2 = lf) :
    ∀ m r lf acc, (kidsF f m r lf acc).2.1.e = 0 → ∃ l, (kidsF f m r lf acc).1 = some (acc ++ l) ∧ l.length = m ∧ r.s.data.toList = Nd.encs l ++ (kidsF f m r lf acc).2.1.s.data.toList ∧ Nd.oks l ∧ Nd.cnts l + (kidsF f m r lf acc).2.2 = lf
  | 0, r, lf, acc, h => ⟨[], by simp [kidsF], rfl, by simp [kidsF, Nd.encs], trivial, by simp [kidsF, Nd.cnts]⟩
  | m + 1, r, lf, acc, h => by
    unfold kidsF at h ⊢
    by_cases he : (f r lf).2.1.e ≠ 0
    · rw [if_pos he] at h
      exact absurd h he
    · rw [if_neg he] at h ⊢
      obtain ⟨b1, b2, b3⟩ := hf r lf (by omega)
      obtain ⟨l, h1, h2, h3, h4, h5⟩ := kidsF_back f hs hf m _ _ _ h
      refine ⟨(f r lf).1 :: l, ?_, by rw [List.length_cons, h2], ?_, ⟨b2, h4⟩, ?_⟩
      · rw [h1]; simp
      · rw [b1, h3, Nd.encs, List.append_assoc]
      · rw [Nd.cnts]; omega
theorem nodeF_back : ∀ d r lf, (nodeF d r lf).2.1.e = 0 → r.s.data.toList = (nodeF d r lf).1.enc ++ (nodeF d r lf).2.1.s.data.toList ∧ (nodeF d r lf).1.ok ∧ (nodeF d r lf).1.cnt + (nodeF d r lf).2.2 = lf
  | 0, r, _, h => absurd h (failR_no r)
  | d + 1, r, lf, h => by
    unfold nodeF at h ⊢
    by_cases h0 : lf = 0
    · rw [if_pos h0] at h
      exact absurd h (failR_no r)
    · rw [if_neg h0] at h ⊢
      rw [shut_2] at h
      have kb := kidsF_back (nodeF d) (nodeF_stays d) (nodeF_back d) (headC r) (headR r) (lf - 1) []
      have kst := kidsF_stays (nodeF d) (nodeF_stays d) (headC r) (headR r) (lf - 1) []
      generalize kidsF (nodeF d) (headC r) (headR r) (lf - 1) [] = K at *
      obtain ⟨l, h1, h2, h3, h4, h5⟩ := kb h
      have hr5 : (headR r).e = 0 := by
        by_cases e : (headR r).e = 0
        · exact e
        · exact absurd h (kst e)
      rw [List.nil_append] at h1
      obtain ⟨_, b2, b3⟩ := head_back r hr5 l h2
      have es : shut r K = (ndOf r l, K.2) := by
        unfold shut
        rw [h1]
      rw [es]
      have k1 : numV 1 r < 2 ^ (8 * 1) := numV_lt 1 r
      have k2 : numV 1 (numR 1 r) < 2 ^ (8 * 1) := numV_lt 1 _
      have k5 : headC r < 2 ^ (8 * 1) := numV_lt 1 _
      have k4 := i64_rng (numV 8 (tvR (numR 1 (numR 1 r))))
      have ee : (ndOf r l).enc = (ndOf r l).head ++ Nd.encs l := by unfold ndOf; rw [Nd.enc, Nd.head_mk]
      have ec : (ndOf r l).cnt = 1 + Nd.cnts l := by unfold ndOf; rw [Nd.cnt]
      refine ⟨?_, ?_, ?_⟩
      · show _ = (ndOf r l).enc ++ _
        rw [b2, h3, ee, List.append_assoc]
      · show (ndOf r l).ok
        unfold ndOf
        rw [Nd.ok]
        exact ⟨⟨by omega, by omega, by omega, by omega, by omega, k4.1, k4.2⟩, by omega, h4⟩
      · show (ndOf r l).cnt + K.2.2 = lf
        rw [ec]
        omega
theorem takeF_of {s : ByteArray} {O : Nd × Rs × Nat} (h : nodeF 83 ⟨s, 0, 0⟩ 2000 = O) : takeF ⟨s, 0, 0⟩ = ((if O.2.1.e = 0 then O.1 else Nd.zero), O.2.1) := by
  unfold takeF
  rw [h]
theorem dec_of {s : ByteArray} {O : Nd × Rs × Nat} (h : nodeF 83 ⟨s, 0, 0⟩ 2000 = O) : decE s = failE O.2.1.e (endF O.2.1.s) ∧ decN s = if decE s = 0 then (if O.2.1.e = 0 then O.1 else Nd.zero) else Nd.zero := by
  unfold decN
  refine ⟨?_, ?_⟩
  · unfold decE
    rw [takeF_of h]
  · rw [takeF_of h]
/-- What was decoded without an error is what it was decoded from. -/
theorem dec_back (s : ByteArray) (h : decE s = 0) : mkS (decN s).enc = s ∧ (decN s).ok ∧ (decN s).cnt ≤ 2000 := by
  obtain ⟨O, hO⟩ : ∃ O, nodeF 83 ⟨s, 0, 0⟩ 2000 = O := ⟨_, rfl⟩
  obtain ⟨d1, d2⟩ := dec_of hO
  have nb := nodeF_back 83 ⟨s, 0, 0⟩ 2000
  rw [hO] at nb
  rw [d1] at h
  obtain ⟨e1, e2⟩ := failE_zero _ _ h
  rw [d1, h, if_pos rfl, if_pos e1] at d2
  have e5 : O.2.1.s.data.toList = [] := by
    unfold endF at e2
    split at e2
    · omega
    · exact List.eq_nil_of_length_eq_zero (by rw [bytes_len]; omega)
  obtain ⟨b1, b2, b3⟩ := nb e1
  rw [e5, List.append_nil] at b1
  rw [d2]
  refine ⟨?_, b2, by omega⟩
  rw [← b1, mkS_data]
end Go.Proofs.YtdodammplhlihaaGreatDoor.Tr
