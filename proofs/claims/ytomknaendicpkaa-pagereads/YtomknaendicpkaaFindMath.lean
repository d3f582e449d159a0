/-
  Keys that rise: how many stand below one is where the first that does not stands.
-/
import Derived.Test.YtomknaendicpkaaFind
import Derived.Test.YtomknaendicpkaaRef
namespace Go.Proofs.Ytomknaendicpkaa
open Go.RowKit
theorem less_trans : ∀ (a b c : List UInt8), Op.bytesLess a b = true → Op.bytesLess b c = true → Op.bytesLess a c = true
  | [], [], _, h, _ => by simp [Op.bytesLess] at h
  | [], _ :: _, [], _, h => by simp [Op.bytesLess] at h
  | [], _ :: _, _ :: _, _, _ => by simp [Op.bytesLess]
  | _ :: _, [], _, h, _ => by simp [Op.bytesLess] at h
  | _ :: _, _ :: _, [], _, h => by simp [Op.bytesLess] at h
  | x :: a, y :: b, z :: c, h, k => by
    have ih := less_trans a b c
    simp only [Op.bytesLess, Bool.or_eq_true, decide_eq_true_eq, Bool.and_eq_true, beq_iff_eq] at h k ⊢
    rcases h with h | ⟨rfl, h⟩
    · rcases k with k | ⟨rfl, k⟩
      · left
        rw [UInt8.lt_iff_toNat_lt] at h k ⊢
        omega
      · left; exact h
    · rcases k with k | ⟨rfl, k⟩
      · left; exact k
      · right; exact ⟨rfl, ih h k⟩
def blw (k : ByteArray) (a : ByteArray) : Bool := Op.bytesLess a.toList k.toList
def sam (k : ByteArray) (a : ByteArray) : Bool := a.toList == k.toList
theorem cnt_zero (k : ByteArray) : ∀ (r : List ByteArray) (x : ByteArray), riseB x r = true → blw k x = false → r.countP (blw k) = 0 ∧ r.any (sam k) = false
  | [], _, _, _ => by simp
  | y :: r, x, h, hx => by
    unfold riseB at h
    simp only [Bool.and_eq_true] at h
    have hy : blw k y = false := by
      cases e : blw k y with
      | false => rfl
      | true => rw [show blw k x = true from less_trans _ _ _ h.1 e] at hx; cases hx
    have hs : sam k y = false := by
      cases e : sam k y with
      | false => rfl
      | true =>
        have e' : y.toList = k.toList := by simpa [sam] using e
        have h1 := h.1
        rw [e'] at h1
        rw [show blw k x = true from h1] at hx
        cases hx
    obtain ⟨i1, i2⟩ := cnt_zero k r y h.2.2 hy
    constructor
    · rw [List.countP_cons_of_neg (by simp [hy]), i1]
    · rw [List.any_cons, hs, i2]; rfl
theorem cnt_find (k : ByteArray) : ∀ (l : List ByteArray) (x : ByteArray), riseB x l = true → l.countP (blw k) = findN l k ∧ l.any (sam k) = findIs l k
  | [], _, _ => by simp [findN, findIs]
  | y :: r, x, h => by
    unfold riseB at h
    simp only [Bool.and_eq_true] at h
    by_cases hb : blw k y = true
    · obtain ⟨i1, i2⟩ := cnt_find k r y h.2.2
      have e : findN (y :: r) k = findN r k + 1 := by exact if_pos hb
      have hs : sam k y = false := by
        cases e : sam k y with
        | false => rfl
        | true =>
          have e' : y.toList = k.toList := by simpa [sam] using e
          exact absurd e'.symm (less_flip _ _ hb).2
      constructor
      · rw [List.countP_cons_of_pos hb, i1, e]
      · rw [List.any_cons, hs, i2]
        unfold findIs
        rw [e, List.getElem?_cons_succ]
        rfl
    · have hb' : blw k y = false := by simpa using hb
      obtain ⟨i1, i2⟩ := cnt_zero k r y h.2.2 hb'
      have e : findN (y :: r) k = 0 := by exact if_neg hb
      constructor
      · rw [List.countP_cons_of_neg (by simp [hb']), i1, e]
      · rw [List.any_cons, i2]
        unfold findIs
        rw [e]
        simp [sam]
theorem may_rise {p : Pg} (h : mayP p = true) : riseB ⟨#[]⟩ p.keys = true := by
  unfold mayP mayK at h
  simp only [Bool.and_eq_true] at h
  exact h.1.2
theorem cut_may {p : Pg} (h : mayP (cutP p) = true) : cutP p = p := by
  obtain ⟨h1, h2, h3, _⟩ := may_small h
  have c1 : p.keys.take 12 = p.keys := List.take_of_length_le (by have : (p.keys.take 12).length ≤ 8 := h1; rw [List.length_take] at this; omega)
  have c2 : p.vals.take 12 = p.vals := List.take_of_length_le (by have : (p.vals.take 12).length ≤ 8 := h2; rw [List.length_take] at this; omega)
  have c3 : p.kids.take 12 = p.kids := List.take_of_length_le (by have : (p.kids.take 12).length ≤ 9 := h3; rw [List.length_take] at this; omega)
  unfold cutP
  rw [c1, c2, c3]
theorem may_cut {p : Pg} (h : mayP p = true) : cutP p = p := by
  obtain ⟨h1, h2, h3, _⟩ := may_small h
  unfold cutP
  rw [List.take_of_length_le (by omega), List.take_of_length_le (by omega), List.take_of_length_le (by omega)]
theorem cut_fits (p : Pg) : (cutP p).fits := by
  refine ⟨?_, ?_, ?_⟩
  · show (p.keys.take 12).length ≤ _
    rw [List.length_take]; omega
  · show (p.vals.take 12).length ≤ _
    rw [List.length_take]; omega
  · show (p.kids.take 12).length ≤ _
    rw [List.length_take]; omega
theorem may_same (p : Pg) : mayP (cutP p) = mayP p := by
  cases h : mayP p with
  | true => rw [may_cut h]; exact h
  | false =>
    cases k : mayP (cutP p) with
    | false => rfl
    | true => rw [cut_may k] at k; rw [k] at h; cases h
theorem chk_same (p : Pg) : chk (cutP p) = chk p := by unfold chk; rw [may_same]
theorem take_cnt (k : ByteArray) {l : List ByteArray} {j : Nat} (h : j < l.length) : (l.take (j + 1)).countP (blw k) = (l.take j).countP (blw k) + if blw k l[j] then 1 else 0 := by
  rw [List.take_succ_eq_append_getElem h, List.countP_append]
  cases e : blw k l[j] <;> simp [e]
theorem take_any' (k : ByteArray) {l : List ByteArray} {j : Nat} (h : j < l.length) : (l.take (j + 1)).any (sam k) = ((l.take j).any (sam k) || sam k l[j]) := by
  rw [List.take_succ_eq_append_getElem h, List.any_append]
  simp
end Go.Proofs.Ytomknaendicpkaa
