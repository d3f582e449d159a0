/-
  What was encoded is decoded again.
-/
import Derived.Test.YtomknaendicpkaaDecode
import Derived.Test.YtomknaendicpkaaRbytes
import Derived.Test.YtomknaendicpkaaWUnEq
namespace Go.Proofs.Ytomknaendicpkaa
open Go.RowKit
def mkS (A : List UInt8) : ByteArray := ⟨A.toArray⟩
theorem mkS_size (A : List UInt8) : (mkS A).size = A.length := mk_size A
theorem mkS_data (s : ByteArray) : mkS s.data.toList = s := by
  apply bytes_ext
  simp [mkS]
theorem front_V (A R : List UInt8) (n : Nat) (h : A.length = n) : takeV (mkS (A ++ R)) n = mkS A := by
  unfold takeV
  rw [if_neg (by rw [mkS_size, List.length_append]; omega)]
  apply bytes_ext
  rw [ext_list]
  show ((A ++ R).toArray.toList.take n).drop 0 = A.toArray.toList
  simp [h]
theorem front_S (A R : List UInt8) (n : Nat) (h : A.length = n) : takeS (mkS (A ++ R)) 0 n = mkS R := by
  unfold takeS
  rw [if_neg (by rw [mkS_size, List.length_append]; omega)]
  apply bytes_ext
  rw [ext_list, mkS_size]
  show ((A ++ R).take (A ++ R).length).drop n = R
  rw [List.take_length, ← h, List.drop_left]
theorem front_E (A R : List UInt8) (n : Nat) (h : A.length = n) : takeE (mkS (A ++ R)) 0 n = 0 := by
  unfold takeE
  rw [if_neg (by rw [mkS_size, List.length_append]; omega)]
theorem fail_s (s : ByteArray) (e : Nat) : failS s e 0 = s := by
  unfold failS
  simp
theorem fail_e (e : Nat) : failE e 0 = e := by
  unfold failE
  simp
theorem num_val (n k : Nat) (h : n < 2 ^ (8 * k)) : leT (mkS (numL n k)) (mkS (numL n k)).size = n := by
  have e : mkS (numL n k) = numS n k := rfl
  rw [mkS_size, numL_len, e, le_num n k k (Nat.le_refl _), Nat.mod_eq_of_lt h]
theorem cnt_front (n : Nat) (R : List UInt8) (m : Int) (hn : n < 4294967296) (hm : (n : Int) ≤ m) : cntN (mkS (numL n 4 ++ R)) 0 m = n ∧ cntS (mkS (numL n 4 ++ R)) 0 m = mkS R ∧ cntE (mkS (numL n 4 ++ R)) 0 m = 0 := by
  have hl := numL_len n 4
  have hE := front_E (numL n 4) R 4 hl
  have hS := front_S (numL n 4) R 4 hl
  have hR : cntR (mkS (numL n 4 ++ R)) = n := by
    unfold cntR
    rw [front_V (numL n 4) R 4 hl]
    exact num_val n 4 (by simpa using hn)
  have hF : cntF (mkS (numL n 4 ++ R)) 0 m = 0 := by
    unfold cntF
    rw [hE, hR, if_neg (by simp), if_neg (by omega)]
  refine ⟨?_, ?_, ?_⟩
  · unfold cntN
    rw [hE, hR, if_neg (by simp), if_neg (by omega)]
  · unfold cntS
    rw [hF, fail_s, hS]
  · unfold cntE
    rw [hF, fail_e, hE]
theorem txt_front (s : ByteArray) (R : List UInt8) (m : Int) (hn : s.size < 4294967296) (hm : (s.size : Int) ≤ m) : txtV (mkS (txL s ++ R)) 0 m = s ∧ txtS (mkS (txL s ++ R)) 0 m = mkS R ∧ txtE (mkS (txL s ++ R)) 0 m = 0 := by
  have e : txL s ++ R = numL s.size 4 ++ (s.data.toList ++ R) := by unfold txL; rw [List.append_assoc]
  obtain ⟨c1, c2, c3⟩ := cnt_front s.size (s.data.toList ++ R) m hn hm
  have hl : s.data.toList.length = s.size := bytes_len s
  rw [e]
  unfold txtV txtS txtE
  rw [c1, c2, c3]
  refine ⟨?_, front_S _ _ _ hl, front_E _ _ _ hl⟩
  rw [front_V _ _ _ hl, mkS_data]
theorem txts_front (m : Int) (R : List UInt8) (l : List ByteArray) (a : Nat) (h : ∀ s ∈ l, s.size < 4294967296 ∧ (s.size : Int) ≤ m) : ∀ k, k ≤ l.length → ∃ a', txtsN m ⟨mkS (txs l ++ R), a, 0⟩ k = (l.take k, ⟨mkS (txs (l.drop k) ++ R), a', 0⟩)
  | 0, _ => ⟨a, by rfl⟩
  | k + 1, hk => by
    obtain ⟨a', ih⟩ := txts_front m R l a h k (by omega)
    have hlt : k < l.length := by omega
    have ed : txs (l.drop k) ++ R = txL l[k] ++ (txs (l.drop (k + 1)) ++ R) := by
      rw [List.drop_eq_getElem_cons hlt]
      unfold txs
      rw [List.flatMap_cons, List.append_assoc]
    obtain ⟨h1, h2⟩ := h l[k] (List.getElem_mem hlt)
    obtain ⟨t1, t2, t3⟩ := txt_front l[k] (txs (l.drop (k + 1)) ++ R) m h1 h2
    refine ⟨txtA (mkS (txs (l.drop k) ++ R)) a' 0 m, ?_⟩
    show ((txtsN m _ k).1 ++ [txtV (txtsN m _ k).2.s (txtsN m _ k).2.e m], txtR m (txtsN m _ k).2) = _
    rw [ih]
    simp only
    unfold txtR
    simp only
    rw [ed, t1, t2, t3, List.take_succ_eq_append_getElem hlt]
theorem cnts_front (m : Int) (R : List UInt8) (l : List Int) (a : Nat) (h : ∀ s ∈ l, 0 ≤ s ∧ s < 4294967296 ∧ s ≤ m) : ∀ k, k ≤ l.length → ∃ a', cntsN m ⟨mkS (nus l ++ R), a, 0⟩ k = (l.take k, ⟨mkS (nus (l.drop k) ++ R), a', 0⟩)
  | 0, _ => ⟨a, by rfl⟩
  | k + 1, hk => by
    obtain ⟨a', ih⟩ := cnts_front m R l a h k (by omega)
    have hlt : k < l.length := by omega
    have ed : nus (l.drop k) ++ R = numL l[k].toNat 4 ++ (nus (l.drop (k + 1)) ++ R) := by
      rw [List.drop_eq_getElem_cons hlt]
      unfold nus
      rw [List.flatMap_cons, List.append_assoc]
    obtain ⟨h1, h2, h3⟩ := h l[k] (List.getElem_mem hlt)
    obtain ⟨t1, t2, t3⟩ := cnt_front l[k].toNat (nus (l.drop (k + 1)) ++ R) m (by omega) (by omega)
    have e1 : ((l[k].toNat : Nat) : Int) = l[k] := by omega
    refine ⟨takeA (mkS (nus (l.drop k) ++ R)) a' 4, ?_⟩
    show ((cntsN m _ k).1 ++ [((cntN (cntsN m _ k).2.s (cntsN m _ k).2.e m : Nat) : Int)], cntRs m (cntsN m _ k).2) = _
    rw [ih]
    simp only
    unfold cntRs
    simp only
    rw [ed, t1, t2, t3, e1, List.take_succ_eq_append_getElem hlt]
theorem bol_front (x : Bool) (R : List UInt8) (a : Nat) : bolN (mkS (numL (if x then 1 else 0) 1 ++ R)) = (if x then 1 else 0) ∧ bolR ⟨mkS (numL (if x then 1 else 0) 1 ++ R), a, 0⟩ = ⟨mkS R, takeA (mkS (numL (if x then 1 else 0) 1 ++ R)) a 1, 0⟩ := by
  have hl := numL_len (if x then 1 else 0) 1
  have hN : bolN (mkS (numL (if x then 1 else 0) 1 ++ R)) = (if x then 1 else 0) := by
    unfold bolN
    rw [front_V _ R 1 hl]
    exact num_val _ 1 (by cases x <;> decide)
  have hF : bolF (mkS (numL (if x then 1 else 0) 1 ++ R)) = 0 := by
    unfold bolF
    rw [hN, if_neg (by cases x <;> decide)]
  refine ⟨hN, ?_⟩
  unfold bolR bolS bolE
  simp only
  rw [hF, fail_s, fail_e, front_S _ R 1 hl, front_E _ R 1 hl]
theorem one_front (n : Nat) (R : List UInt8) (a : Nat) (h : n < 256) : oneN ⟨mkS (numL n 1 ++ R), a, 0⟩ = n ∧ oneR ⟨mkS (numL n 1 ++ R), a, 0⟩ = ⟨mkS R, takeA (mkS (numL n 1 ++ R)) a 1, 0⟩ := by
  have hl := numL_len n 1
  constructor
  · unfold oneN
    simp only
    rw [front_V _ R 1 hl]
    exact num_val _ 1 (by simpa using h)
  · unfold oneR
    simp only
    rw [front_S _ R 1 hl, front_E _ R 1 hl]
theorem may_vals {p : Pg} (h : mayP p = true) : p.leaf = true → p.vals.length = p.keys.length ∧ p.kids = [] := fun hl => by
  unfold mayP restB at h
  rw [hl] at h
  simp only [if_true, Bool.and_eq_true, decide_eq_true_eq] at h
  exact ⟨by omega, List.eq_nil_of_length_eq_zero (by omega)⟩
theorem may_kids {p : Pg} (h : mayP p = true) : p.leaf = false → p.kids.length = p.keys.length + 1 ∧ p.vals = [] := fun hl => by
  unfold mayP restB at h
  rw [hl] at h
  simp only [Bool.false_eq_true, if_false, Bool.and_eq_true, decide_eq_true_eq] at h
  exact ⟨by omega, List.eq_nil_of_length_eq_zero (by omega)⟩
theorem take_enc {p : Pg} (hm : mayP p = true) : ∃ a, takeP ⟨mkS (encL p), 0, 0⟩ = (p, ⟨mkS [], a, 0⟩) := by
  obtain ⟨s1, s2, s3, s4, s5, s6⟩ := may_small hm
  have e0 : encL p = numL (if p.leaf then 1 else 0) 1 ++ (numL p.keys.length 1 ++ (txs p.keys ++ (txs p.vals ++ nus p.kids))) := by
    unfold encL
    simp only [List.append_assoc]
  obtain ⟨b1, b2⟩ := bol_front p.leaf (numL p.keys.length 1 ++ (txs p.keys ++ (txs p.vals ++ nus p.kids))) 0
  obtain ⟨o1, o2⟩ := one_front p.keys.length (txs p.keys ++ (txs p.vals ++ nus p.kids)) (takeA (mkS (numL (if p.leaf then 1 else 0) 1 ++ (numL p.keys.length 1 ++ (txs p.keys ++ (txs p.vals ++ nus p.kids))))) 0 1) (by omega)
  obtain ⟨a1, t1⟩ := txts_front 64 (txs p.vals ++ nus p.kids) p.keys (takeA (mkS (numL p.keys.length 1 ++ (txs p.keys ++ (txs p.vals ++ nus p.kids)))) (takeA (mkS (numL (if p.leaf then 1 else 0) 1 ++ (numL p.keys.length 1 ++ (txs p.keys ++ (txs p.vals ++ nus p.kids))))) 0 1) 1) (fun s hs => by have := s4 s hs; omega) p.keys.length (Nat.le_refl _)
  rw [List.take_length, List.drop_length] at t1
  have t1' : txs [] ++ (txs p.vals ++ nus p.kids) = txs p.vals ++ nus p.kids := rfl
  rw [t1'] at t1
  rw [e0]
  unfold takeP
  simp only
  rw [b1, b2, o1, o2, t1]
  simp only
  cases hl : p.leaf with
  | true =>
    obtain ⟨v1, v2⟩ := may_vals hm hl
    obtain ⟨a2, t2⟩ := txts_front 8192 (nus p.kids) p.vals a1 (fun s hs => by have := s5 s hs; omega) p.vals.length (Nat.le_refl _)
    rw [List.take_length, List.drop_length, v1] at t2
    have t2' : txs [] ++ nus p.kids = [] := by rw [v2]; rfl
    rw [t2'] at t2
    simp only [if_true]
    rw [t2]
    refine ⟨a2, ?_⟩
    simp only
    cases p
    simp only at hl v2
    subst hl; subst v2
    rfl
  | false =>
    obtain ⟨v1, v2⟩ := may_kids hm hl
    obtain ⟨a2, t2⟩ := cnts_front 2147483647 [] p.kids a1 (fun s hs => by have := s6 s hs; omega) p.kids.length (Nat.le_refl _)
    rw [List.take_length, List.drop_length, v1] at t2
    have t2' : nus [] ++ ([] : List UInt8) = [] := rfl
    rw [t2'] at t2
    have t3 : txs p.vals ++ nus p.kids = nus p.kids ++ [] := by rw [v2, List.append_nil]; rfl
    rw [t3]
    simp only [Bool.false_eq_true, if_false]
    rw [if_neg (by decide), t2]
    refine ⟨a2, ?_⟩
    simp only
    cases p
    simp only at hl v2
    subst hl; subst v2
    rfl
theorem dec_enc {p : Pg} (hm : mayP p = true) : decE ⟨(encL p).toArray⟩ = 0 ∧ decP ⟨(encL p).toArray⟩ = p := by
  obtain ⟨a, h⟩ := take_enc hm
  have h' : takeP ⟨⟨(encL p).toArray⟩, 0, 0⟩ = (p, ⟨mkS [], a, 0⟩) := h
  have he : decE ⟨(encL p).toArray⟩ = 0 := by
    unfold decE
    rw [h']
    simp only
    rw [hm]
    rfl
  refine ⟨he, ?_⟩
  unfold decP
  rw [he, h']
  rfl
end Go.Proofs.Ytomknaendicpkaa
