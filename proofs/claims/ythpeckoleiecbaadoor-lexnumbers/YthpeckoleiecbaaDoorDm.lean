/-
  A number's digits as a word.
-/
import Derived.Test.YthpeckoleiecbaaDoorPtLaw
import Derived.Lib.ItoaNum
namespace Go.Proofs.YthpeckoleiecbaaDoor
def dv (c : UInt8) : Nat := c.toNat - 48
def val : List UInt8 → Nat
  | [] => 0
  | c :: r => dv c * 10 ^ r.length + val r
theorem isD_nat {c : UInt8} (h : isD c = true) : 48 ≤ c.toNat ∧ c.toNat ≤ 57 := by
  rw [isD_iff] at h
  simp at h
  omega
theorem dv_lt {c : UInt8} (h : isD c = true) : dv c ≤ 9 := by
  have := isD_nat h
  unfold dv
  omega
theorem val_lt : ∀ l : List UInt8, l.all isD = true → val l < 10 ^ l.length
  | [], _ => by show 0 < 10 ^ 0; decide
  | c :: r, h => by
    rw [List.all_cons, Bool.and_eq_true] at h
    have ih := val_lt r h.2
    have hc := dv_lt h.1
    show dv c * 10 ^ r.length + val r < 10 ^ (r.length + 1)
    rw [Nat.pow_succ]
    generalize 10 ^ r.length = X at *
    have : dv c * X ≤ 9 * X := Nat.mul_le_mul_right _ hc
    omega
theorem val_snoc : ∀ (l : List UInt8) (c : UInt8), val (l ++ [c]) = 10 * val l + dv c
  | [], c => by show dv c * 10 ^ 0 + 0 = 10 * 0 + dv c; omega
  | a :: r, c => by
    show dv a * 10 ^ (r ++ [c]).length + val (r ++ [c]) = 10 * (dv a * 10 ^ r.length + val r) + dv c
    rw [val_snoc r c, List.length_append, List.length_singleton, Nat.pow_succ, Nat.mul_add, ← Nat.mul_assoc (dv a), Nat.mul_comm 10 (dv a * 10 ^ r.length)]
    omega
theorem less_val : ∀ a b : List UInt8, a.length = b.length → a.all isD = true → b.all isD = true → Op.bytesLess a b = decide (val a < val b)
  | [], [], _, _, _ => rfl
  | [], _ :: _, h, _, _ => by cases h
  | _ :: _, [], h, _, _ => by cases h
  | x :: r, y :: t, h, h1, h2 => by
    rw [List.all_cons, Bool.and_eq_true] at h1 h2
    have hl : r.length = t.length := by simpa using h
    have ih := less_val r t hl h1.2 h2.2
    have v1 := val_lt r h1.2
    have v2 := val_lt t h2.2
    obtain ⟨x1, x2⟩ := isD_nat h1.1
    obtain ⟨y1, y2⟩ := isD_nat h2.1
    show (decide (x < y) || (x == y && Op.bytesLess r t)) = decide (dv x * 10 ^ r.length + val r < dv y * 10 ^ t.length + val t)
    rw [ih, ← hl]
    rw [← hl] at v2
    generalize 10 ^ r.length = X at *
    by_cases e : x = y
    · subst e
      have : ¬ x < x := UInt8.lt_irrefl x
      simp [this]
    · have ne : x.toNat ≠ y.toNat := fun h => e (UInt8.toNat_inj.1 h)
      have e1 : (x == y) = false := by simpa using e
      rw [e1, Bool.false_and, Bool.or_false, decide_eq_decide, UInt8.lt_iff_toNat_lt]
      unfold dv
      by_cases hlt : x.toNat < y.toNat
      · have : (x.toNat - 48 + 1) * X ≤ (y.toNat - 48) * X := Nat.mul_le_mul_right _ (by omega)
        rw [Nat.add_mul] at this
        constructor
        · intro _; omega
        · intro _; exact hlt
      · have : (y.toNat - 48 + 1) * X ≤ (x.toNat - 48) * X := Nat.mul_le_mul_right _ (by omega)
        rw [Nat.add_mul] at this
        constructor
        · intro h; exact absurd h hlt
        · intro h; omega
theorem maxW_val : val maxW = 9223372036854775807 := by decide
/-- A whole number's digits. -/
structure Dig (l : List UInt8) : Prop where
  all : l.all isD = true
  head : l = [48] ∨ ∃ c r, l = c :: r ∧ c ≠ 48
theorem Dig.whole {l : List UInt8} (h : Dig l) : wholeL l = decide (val l ≤ 9223372036854775807) := by
  rcases h.head with rfl | ⟨c, r, rfl, hc⟩
  · rfl
  · have ha := h.all
    have hv := val_lt _ ha
    rw [List.all_cons, Bool.and_eq_true] at ha
    obtain ⟨c1, c2⟩ := isD_nat ha.1
    have hc48 : c.toNat ≠ 48 := fun e => hc (UInt8.toNat_inj.1 e)
    have hge : 10 ^ r.length ≤ val (c :: r) := by
      show _ ≤ dv c * 10 ^ r.length + val r
      have : 1 * 10 ^ r.length ≤ dv c * 10 ^ r.length := Nat.mul_le_mul_right _ (by unfold dv; omega)
      omega
    show (if c = 48 then r.length == 0 else decide ((c :: r).length < 19) || ((c :: r).length == 19 && !Op.bytesLess maxW (c :: r))) = _
    rw [if_neg hc]
    by_cases h1 : (c :: r).length < 19
    · have : val (c :: r) < 10 ^ 18 := Nat.lt_of_lt_of_le hv (Nat.pow_le_pow_right (by decide) (by omega))
      rw [decide_eq_true h1, Bool.true_or, decide_eq_true (by omega)]
    · by_cases h2 : (c :: r).length = 19
      · have e2 : ((c :: r).length == 19) = true := by rw [beq_iff_eq]; exact h2
        rw [decide_eq_false h1, Bool.false_or, e2, Bool.true_and, less_val maxW (c :: r) h2.symm (by decide) (by rw [List.all_cons, ha.1, ha.2]; rfl), maxW_val, ← decide_not, decide_eq_decide]
        omega
      · have e2 : ((c :: r).length == 19) = false := by rw [beq_eq_false_iff_ne]; exact h2
        have h3 : 19 ≤ r.length := by rw [List.length_cons] at h1 h2; omega
        have : 10 ^ 19 ≤ 10 ^ r.length := Nat.pow_le_pow_right (by decide) h3
        rw [decide_eq_false h1, Bool.false_or, e2, Bool.false_and, decide_eq_false (by omega)]
theorem dig_of (u : Nat) : (Lib.decDigits u).all isD = true ∧ val (Lib.decDigits u) = u ∧ (u ≠ 0 → ∃ c r, Lib.decDigits u = c :: r ∧ c ≠ 48) ∧ (u = 0 → Lib.decDigits u = [48]) := by
  induction u using Nat.strongRecOn with
  | _ u ih =>
    have key : ∀ k : Nat, k < 10 → isD (UInt8.ofNat (48 + k)) = true ∧ dv (UInt8.ofNat (48 + k)) = k ∧ (k ≠ 0 → UInt8.ofNat (48 + k) ≠ 48) := by decide
    rw [Lib.decDigits]
    by_cases h : u < 10
    · rw [dif_pos h]
      obtain ⟨k1, k2, k3⟩ := key u h
      refine ⟨by rw [List.all_cons, k1]; rfl, ?_, fun hu => ⟨_, _, rfl, k3 hu⟩, fun hu => by subst hu; rfl⟩
      show dv _ * 10 ^ 0 + 0 = u
      rw [k2]; omega
    · rw [dif_neg h]
      obtain ⟨i1, i2, i3, _⟩ := ih (u / 10) (by omega)
      obtain ⟨k1, k2, _⟩ := key (u % 10) (by omega)
      obtain ⟨c, r, e, hc⟩ := i3 (by omega)
      refine ⟨by rw [List.all_append, i1, List.all_cons, k1]; rfl, ?_, fun _ => ⟨c, r ++ [_], by rw [e]; rfl, hc⟩, fun hu => by omega⟩
      rw [val_snoc, i2, k2]
      omega
theorem digs (u : Nat) : Dig (Lib.decDigits u) := by
  obtain ⟨h1, _, h3, h4⟩ := dig_of u
  refine ⟨h1, ?_⟩
  by_cases h : u = 0
  · exact Or.inl (h4 h)
  · exact Or.inr (h3 h)
theorem dig_cons {l : List UInt8} (h : Dig l) : ∃ c r, l = c :: r ∧ isD c = true := by
  have ha := h.all
  rcases h.head with rfl | ⟨c, r, rfl, hc⟩
  · exact ⟨48, [], rfl, by decide⟩
  · rw [List.all_cons, Bool.and_eq_true] at ha
    exact ⟨c, r, rfl, ha.1⟩
theorem num_run (l r : List UInt8) (c : UInt8) (ha : l.all isD = true) (hc : isD c = false) (hp : c ≠ 46) : numN (l ++ c :: r) = l.length ∧ numK (l ++ c :: r) = if wholeL l then 2 else 0 := by
  have e1 : runN isD (l ++ c :: r) = l.length := by rw [run_append isD l _ ha, run_neg isD c r hc]; rfl
  have e2 : (l ++ c :: r).dropWhile isD = c :: r := by
    rw [dropWhile_drop, e1, List.drop_append, List.drop_length, Nat.sub_self, List.drop_zero, List.nil_append]
  have e3 : (l ++ c :: r).takeWhile isD = l := by
    rw [takeWhile_take, e1, List.take_append, List.take_length, Nat.sub_self, List.take_zero, List.append_nil]
  constructor
  · unfold numN
    rw [e2]
    split
    · rename_i e
      injection e with e _
      exact absurd e hp
    · exact e1
  · unfold numK
    rw [e2]
    split
    · rename_i e
      injection e with e _
      exact absurd e hp
    · rw [e3]
theorem num_all (l : List UInt8) (ha : l.all isD = true) : numN l = l.length ∧ numK l = if wholeL l then 2 else 0 := by
  have e1 : runN isD l = l.length := by
    have := run_append isD l [] ha
    rw [List.append_nil] at this
    exact this
  have e2 : l.dropWhile isD = [] := by rw [dropWhile_drop, e1, List.drop_length]
  have e3 : l.takeWhile isD = l := by rw [takeWhile_take, e1, List.take_length]
  constructor
  · unfold numN; rw [e2, e1]
  · unfold numK; rw [e2, e3]
theorem isD_not {c : UInt8} (h : isD c = true) : isL c = false ∧ isG c = false ∧ c ≠ 47 := by
  obtain ⟨h1, h2⟩ := isD_nat h
  refine ⟨?_, ?_, ?_⟩
  · rw [isL_iff, ← Bool.not_eq_true]
    simp
    omega
  · rw [isG_iff, ← Bool.not_eq_true]
    simp
    omega
  · rintro rfl
    exact absurd h (by decide)
theorem skip_digit {c : UInt8} (h : isD c = true) (r : List UInt8) : skip (c :: r) = c :: r := skip_word c r (isD_not h).2.1 (fun e => (isD_not h).2.2 e.1)
/-- A number and a semicolon behind it. -/
theorem toks_num (l : List UInt8) (h : Dig l) : toks (l ++ [59]) = if val l ≤ 9223372036854775807 then .ok [⟨2, l, 0⟩, ⟨5, [59], l.length⟩, ⟨0, [], l.length + 1⟩] else .error 0 := by
  obtain ⟨c, r, e, hc⟩ := dig_cons h
  obtain ⟨n1, n2⟩ := num_run l [] 59 h.all (by decide) (by decide)
  have hL := (isD_not hc).1
  have ec : l ++ [59] = c :: (r ++ [59]) := by rw [e, List.cons_append]
  rw [h.whole] at n2
  rw [toks_eq]
  have es : skip (l ++ [59]) = l ++ [59] := by rw [ec]; exact skip_digit hc _
  rw [es]
  have hk : wordK (l ++ [59]) = numK (l ++ [59]) := by
    rw [ec, wordK_cons, hL, hc]
    simp only [Bool.false_eq_true, if_false, if_true]
  have hn : wordN (l ++ [59]) = numN (l ++ [59]) := by
    rw [ec, wordN_cons, hL, hc]
    simp only [Bool.false_eq_true, if_false, if_true]
  rw [n2] at hk
  rw [n1] at hn
  by_cases hv : val l ≤ 9223372036854775807
  · rw [decide_eq_true hv] at hk
    rw [if_pos hv]
    simp only [if_true] at hk
    have h1 := toksA_ok (l ++ [59]).length c (r ++ [59]) (by rw [← ec, hk]; decide) []
    rw [← ec, hk, hn, ahead_nil, Nat.sub_self, List.nil_append, List.drop_append, List.drop_length, Nat.sub_self, List.drop_zero, List.nil_append, List.take_append, List.take_length, Nat.sub_self, List.take_zero, List.append_nil] at h1
    rw [h1, show skip [59] = [59] from rfl]
    have h2 := toksA_ok (l ++ [59]).length 59 [] (by decide) [⟨2, l, 0⟩]
    rw [h2, List.length_append, show wordK [59] = 5 from rfl, show wordN [59] = 1 from rfl, show (skip ([59].drop 1)) = [] from rfl, toksA_nil]
    show Except.ok _ = _
    rw [show ([59] : List UInt8).length = 1 from rfl, Nat.add_sub_cancel]
    rfl
  · rw [decide_eq_false hv] at hk
    rw [if_neg hv]
    simp only [Bool.false_eq_true, if_false] at hk
    rw [ec] at hk ⊢
    rw [toksA_bad _ _ _ hk, Nat.sub_self]
theorem toks_nought (l : List UInt8) (h : Dig l) : toks (48 :: l) = .error 0 := by
  obtain ⟨c, r, e, hc⟩ := dig_cons h
  have ha : (48 :: l).all isD = true := by rw [List.all_cons, h.all]; rfl
  obtain ⟨n1, n2⟩ := num_all (48 :: l) ha
  have hw : wholeL (48 :: l) = false := by
    show (if (48 : UInt8) = 48 then l.length == 0 else (decide ((48 :: l).length < 19) || ((48 :: l).length == 19 && !Op.bytesLess maxW (48 :: l)))) = false
    rw [if_pos rfl, e]
    rfl
  rw [hw] at n2
  rw [toks_eq, skip_digit (by decide) l]
  have hk : wordK (48 :: l) = 0 := by
    rw [wordK_cons, show isL 48 = false from by decide, show isD 48 = true from by decide]
    simp only [Bool.false_eq_true, if_false, if_true]
    rw [n2]
    rfl
  rw [toksA_bad _ _ _ hk, Nat.sub_self]
end Go.Proofs.YthpeckoleiecbaaDoor
