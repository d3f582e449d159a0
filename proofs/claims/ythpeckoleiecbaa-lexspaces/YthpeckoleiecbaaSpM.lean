/-
  What stands between words changes nothing of them.
-/
import Derived.Test.YthpeckoleiecbaaWa
namespace Go.Proofs.Ythpeckoleiecbaa
def sepL : Nat → List UInt8
  | 0 => [32]
  | 1 => [9, 32]
  | 2 => [10]
  | _ => [32, 47, 47, 32, 97, 32, 110, 111, 116, 101, 32, 58, 61, 10]
theorem sep_head (k : Nat) : ∃ c r, sepL k = c :: r ∧ isG c = true := by
  match k with
  | 0 => exact ⟨_, _, rfl, by decide⟩
  | 1 => exact ⟨_, _, rfl, by decide⟩
  | 2 => exact ⟨_, _, rfl, by decide⟩
  | k + 3 => exact ⟨_, _, rfl, by decide⟩
theorem skip_noteline (r : List UInt8) : skip (47 :: 47 :: 32 :: 97 :: 32 :: 110 :: 111 :: 116 :: 101 :: 32 :: 58 :: 61 :: 10 :: r) = skip r := by
  rw [skip_note]
  simp only [List.dropWhile_cons, noLf]
  exact skip_gap 10 r (by decide)
theorem sep_skip (k : Nat) (r : List UInt8) : skip (sepL k ++ r) = skip r := by
  match k with
  | 0 => exact skip_gap _ _ (by decide)
  | 1 => exact (skip_gap _ _ (by decide)).trans (skip_gap _ _ (by decide))
  | 2 => exact skip_gap _ _ (by decide)
  | k + 3 => exact (skip_gap _ _ (by decide)).trans (skip_noteline r)
theorem gap_no {c : UInt8} (h : isG c = true) : isL c = false ∧ isD c = false ∧ c ≠ 46 ∧ c ≠ 47 ∧ c ≠ 61 ∧ c ≠ 38 ∧ c ≠ 124 := by
  unfold isG at h
  simp only [Bool.or_eq_true, beq_iff_eq] at h
  rcases h with (rfl | rfl) | rfl <;> decide
theorem run_stop (p : UInt8 → Bool) (l r : List UInt8) (c : UInt8) (hc : p c = false) : runN p (l.takeWhile p ++ c :: r) = runN p l := by
  rw [run_append p _ _ (takeWhile_all p l), run_neg p c r hc]
  rfl
theorem take_stop (p : UInt8 → Bool) (l r : List UInt8) (c : UInt8) (hc : p c = false) : (l.takeWhile p ++ c :: r).takeWhile p = l.takeWhile p := by
  rw [takeWhile_take p (l.takeWhile p ++ c :: r), run_stop p l r c hc]
  unfold runN
  rw [List.take_append, Nat.sub_self, List.take_zero, List.append_nil, List.take_length]
theorem drop_stop (p : UInt8 → Bool) (l r : List UInt8) (c : UInt8) (hc : p c = false) : (l.takeWhile p ++ c :: r).dropWhile p = c :: r := by
  rw [dropWhile_drop, run_stop p l r c hc]
  unfold runN
  rw [List.drop_append, Nat.sub_self, List.drop_zero, List.drop_length, List.nil_append]
theorem numSplit (l : List UInt8) : (∃ t, l.dropWhile isD = 46 :: t ∧ numN l = runN isD l + 1 + runN isD t ∧ numK l = (if runN isD t ≠ 0 ∧ runN isD l + runN isD t ≤ 15 then 3 else 0) ∧ l.take (numN l) = l.takeWhile isD ++ 46 :: t.takeWhile isD) ∨ ((∀ t, l.dropWhile isD ≠ 46 :: t) ∧ numN l = runN isD l ∧ numK l = (if wholeL (l.takeWhile isD) then 2 else 0) ∧ l.take (numN l) = l.takeWhile isD) := by
  have hs := split_run isD l
  have hl : runN isD l = (l.takeWhile isD).length := rfl
  by_cases h : ∃ t, l.dropWhile isD = 46 :: t
  · obtain ⟨t, hd⟩ := h
    have e1 : numN l = runN isD l + 1 + runN isD t := by unfold numN; rw [hd]; rfl
    refine Or.inl ⟨t, hd, e1, by unfold numK; rw [hd]; rfl, ?_⟩
    rw [e1, hl]
    conv => lhs; arg 2; rw [← hs, hd]
    rw [List.take_append, List.take_of_length_le (by omega), show (l.takeWhile isD).length + 1 + runN isD t - (l.takeWhile isD).length = runN isD t + 1 by omega, List.take_succ_cons, ← takeWhile_take]
  · have hn : ∀ t, l.dropWhile isD ≠ 46 :: t := fun t e => h ⟨t, e⟩
    have e1 : numN l = runN isD l := by
      unfold numN
      split
      · rename_i r e
        exact absurd e (hn r)
      · rfl
    refine Or.inr ⟨hn, e1, ?_, by rw [e1, ← takeWhile_take]⟩
    unfold numK
    split
    · rename_i r e
      exact absurd e (hn r)
    · rfl
/-- A number's run, with something else behind it. -/
theorem num_stop (l r : List UInt8) (c : UInt8) (hc : isD c = false) (hp : c ≠ 46) : numN (l.take (numN l) ++ c :: r) = numN l ∧ numK (l.take (numN l) ++ c :: r) = numK l := by
  rcases numSplit l with ⟨t, e1, e2, e3, e4⟩ | ⟨e1, e2, e3, e4⟩
  · have e5 : l.take (numN l) ++ c :: r = l.takeWhile isD ++ 46 :: (t.takeWhile isD ++ c :: r) := by rw [e4, List.append_assoc, List.cons_append]
    have d1 : (l.take (numN l) ++ c :: r).dropWhile isD = 46 :: (t.takeWhile isD ++ c :: r) := by rw [e5]; exact drop_stop isD l _ 46 (by decide)
    have r1 : runN isD (l.take (numN l) ++ c :: r) = runN isD l := by rw [e5]; exact run_stop isD l _ 46 (by decide)
    have r2 : runN isD (t.takeWhile isD ++ c :: r) = runN isD t := run_stop isD t r c hc
    rcases numSplit (l.take (numN l) ++ c :: r) with ⟨t', f1, f2, f3, _⟩ | ⟨f1, _⟩
    · rw [d1] at f1
      injection f1 with _ f1
      subst f1
      rw [f2, f3, r1, r2, e2, e3]
      exact ⟨rfl, rfl⟩
    · exact absurd d1 (f1 _)
  · have d1 : (l.take (numN l) ++ c :: r).dropWhile isD = c :: r := by rw [e4]; exact drop_stop isD l _ c hc
    have r1 : runN isD (l.take (numN l) ++ c :: r) = runN isD l := by rw [e4]; exact run_stop isD l _ c hc
    have r2 : (l.take (numN l) ++ c :: r).takeWhile isD = l.takeWhile isD := by rw [e4]; exact take_stop isD l _ c hc
    rcases numSplit (l.take (numN l) ++ c :: r) with ⟨t', f1, _⟩ | ⟨_, f2, f3, _⟩
    · rw [d1] at f1
      injection f1 with f1 _
      exact absurd f1 hp
    · rw [f2, f3, r1, r2, e2, e3]
      exact ⟨rfl, rfl⟩
theorem two_no (a c : UInt8) (h : isG c = true) : twoL.contains [a, c] = false := by
  obtain ⟨_, _, _, _, h1, h2, h3⟩ := gap_no h
  rw [← Bool.not_eq_true, List.contains_iff_mem]
  unfold twoL
  simp only [List.mem_cons, List.not_mem_nil, or_false, List.cons.injEq, and_true]
  rintro (⟨_, e⟩ | ⟨_, e⟩ | ⟨_, e⟩ | ⟨_, e⟩ | ⟨_, e⟩ | ⟨_, e⟩ | ⟨_, e⟩)
  all_goals first | exact h1 e | exact h2 e | exact h3 e
/-- A sign, with a gap behind it. -/
theorem sign_stop (l r : List UInt8) (c : UInt8) (hc : isG c = true) (h : signN l ≠ 0) : signN (l.take (signN l) ++ c :: r) = signN l := by
  cases l with
  | nil => exact absurd rfl h
  | cons a t =>
    rw [signN_cons] at h ⊢
    by_cases h2 : twoL.contains ((a :: t).take 2) = true
    · rw [if_pos h2]
      have hm := List.contains_iff_mem.1 h2
      have hl : ((a :: t).take 2).length = 2 := by
        unfold twoL at hm
        simp only [List.mem_cons, List.not_mem_nil, or_false] at hm
        rcases hm with h | h | h | h | h | h | h <;> rw [h] <;> rfl
      have e : ((a :: t).take 2 ++ c :: r).take 2 = (a :: t).take 2 := by
        rw [List.take_append, hl, Nat.sub_self, List.take_zero, List.append_nil, List.take_of_length_le (by omega)]
      match hx : (a :: t).take 2 ++ c :: r with
      | [] => rw [hx] at e; rw [← e] at hl; cases hl
      | b :: u =>
        rw [hx] at e
        rw [signN_cons, e, if_pos h2]
    · rw [if_neg h2] at h ⊢
      by_cases h1 : oneL.contains a = true
      · rw [if_pos h1]
        show signN (a :: c :: r) = 1
        rw [signN_cons, show (a :: c :: r).take 2 = [a, c] from rfl, two_no a c hc, if_neg (by decide), if_pos h1]
      · rw [if_neg h1] at h
        exact absurd rfl h
/-- A word, with a gap behind it, is the same word. -/
theorem word_stop (a : UInt8) (t r : List UInt8) (c : UInt8) (hc : isG c = true) (h : wordK (a :: t) ≠ 0) :
    wordK ((a :: t).take (wordN (a :: t)) ++ c :: r) = wordK (a :: t) ∧ wordN ((a :: t).take (wordN (a :: t)) ++ c :: r) = wordN (a :: t) := by
  obtain ⟨g1, g2, g3, _⟩ := gap_no hc
  have hp := wordN_pos a t h
  have hx : (a :: t).take (wordN (a :: t)) ++ c :: r = a :: (t.take (wordN (a :: t) - 1) ++ c :: r) := by
    conv => lhs; rw [show wordN (a :: t) = (wordN (a :: t) - 1) + 1 by omega]
    rw [List.take_succ_cons, List.cons_append]
  rw [wordK_cons] at h
  rw [wordK_cons a t]
  rw [wordN_cons a t] at hx ⊢
  cases hL : isL a with
  | true =>
    rw [hL] at hx
    simp only [if_true] at hx ⊢
    rw [hx, wordK_cons, wordN_cons, hL]
    simp only [if_true]
    rw [← hx, ← takeWhile_take]
    have hcc : isLD c = false := by unfold isLD; rw [g1, g2]; rfl
    exact ⟨by rw [take_stop isLD _ _ c hcc], run_stop isLD _ _ c hcc⟩
  | false =>
    rw [hL] at hx h
    simp only [Bool.false_eq_true, if_false] at hx h ⊢
    cases hD : isD a with
    | true =>
      rw [hD] at hx
      simp only [if_true] at hx ⊢
      rw [hx, wordK_cons, wordN_cons, hL, hD]
      simp only [Bool.false_eq_true, if_false, if_true]
      rw [← hx]
      obtain ⟨n1, n2⟩ := num_stop (a :: t) r c g2 g3
      exact ⟨n2, n1⟩
    | false =>
      rw [hD] at hx h
      simp only [Bool.false_eq_true, if_false] at hx h ⊢
      rw [hx, wordK_cons, wordN_cons, hL, hD]
      simp only [Bool.false_eq_true, if_false]
      rw [← hx]
      have hs : signN (a :: t) ≠ 0 := fun e => by rw [if_pos e] at h; exact h rfl
      rw [sign_stop (a :: t) r c hc hs]
      exact ⟨rfl, rfl⟩
/-- Where a word stands nothing is passed over. -/
theorem word_skip (a : UInt8) (t r : List UInt8) (c : UInt8) (hc : isG c = true) (h : wordK (a :: t) ≠ 0) (hk : skip (a :: t) = a :: t) : skip ((a :: t).take (wordN (a :: t)) ++ c :: r) = (a :: t).take (wordN (a :: t)) ++ c :: r := by
  have hp := wordN_pos a t h
  have hx : (a :: t).take (wordN (a :: t)) ++ c :: r = a :: (t.take (wordN (a :: t) - 1) ++ c :: r) := by
    conv => lhs; rw [show wordN (a :: t) = (wordN (a :: t) - 1) + 1 by omega]
    rw [List.take_succ_cons, List.cons_append]
  rw [hx]
  have ga : isG a = false := by
    cases hg : isG a with
    | false => rfl
    | true =>
      rw [skip_gap a t hg] at hk
      have := skip_le t
      rw [hk, List.length_cons] at this
      omega
  refine skip_word a _ ga ?_
  rintro ⟨rfl, e⟩
  cases ht : t with
  | nil =>
    subst ht
    rw [List.take_nil, List.nil_append, List.head?_cons, Option.some.injEq] at e
    exact (gap_no hc).2.2.2.1 e
  | cons b u =>
    subst ht
    by_cases h1 : wordN (47 :: b :: u) - 1 = 0
    · rw [h1, List.take_zero, List.nil_append, List.head?_cons, Option.some.injEq] at e
      exact (gap_no hc).2.2.2.1 e
    · rw [show wordN (47 :: b :: u) - 1 = (wordN (47 :: b :: u) - 2) + 1 by omega, List.take_succ_cons, List.cons_append, List.head?_cons, Option.some.injEq] at e
      subst e
      rw [skip_note] at hk
      have := skip_le ((47 :: 47 :: u).dropWhile noLf)
      rw [hk, List.dropWhile_cons_of_pos (by decide), List.dropWhile_cons_of_pos (by decide)] at this
      have h2 : (u.dropWhile noLf).length ≤ u.length := (List.dropWhile_sublist noLf).length_le
      simp only [List.length_cons] at this
      omega
/-- The words with others between them. -/
def outOf (ks : Nat → Nat) : Nat → List Tk → List UInt8
  | _, [] => []
  | i, t :: r => t.s ++ (sepL (ks i) ++ outOf ks (i + 1) r)
theorem outOf_append (ks : Nat → Nat) : ∀ (i : Nat) (a b : List Tk), outOf ks i (a ++ b) = outOf ks i a ++ outOf ks (i + a.length) b
  | i, [], b => by simp [outOf]
  | i, t :: r, b => by
    rw [List.cons_append]
    show t.s ++ (sepL (ks i) ++ outOf ks (i + 1) (r ++ b)) = t.s ++ (sepL (ks i) ++ outOf ks (i + 1) r) ++ _
    rw [outOf_append ks (i + 1) r b, List.append_assoc, List.append_assoc, List.length_cons, show i + 1 + r.length = i + (r.length + 1) by omega]
/-- The same words, perhaps at other places. -/
def Alike (l m : List Tk) : Prop := m.length = l.length ∧ ∀ j, (h1 : j < l.length) → (h2 : j < m.length) → m[j].kind = l[j].kind ∧ m[j].s = l[j].s
theorem Alike.cons {a b : Tk} {l m : List Tk} (h : Alike l m) (h1 : b.kind = a.kind) (h2 : b.s = a.s) : Alike (a :: l) (b :: m) := by
  refine ⟨by rw [List.length_cons, List.length_cons, h.1], fun j g1 g2 => ?_⟩
  cases j with
  | zero => exact ⟨h1, h2⟩
  | succ j => exact h.2 j (by simpa using g1) (by simpa using g2)
theorem ahead_one {t : Tk} {x : Except Nat (List Tk)} {l : List Tk} (h : ahead [t] x = .ok l) : ∃ m, x = .ok m ∧ l = t :: m := by
  cases x with
  | error e => cases h
  | ok m => exact ⟨m, rfl, by injection h with h; exact h.symm⟩
theorem skip_idem : ∀ (b : Bool) (l : List UInt8), skip (skipS b l) = skipS b l
  | _, [] => by cases ‹Bool› <;> rfl
  | true, c :: r => by
    unfold skipS
    split
    · exact skip_idem false r
    · exact skip_idem true r
  | false, c :: r => by
    unfold skipS
    split
    · exact skip_idem false r
    · rename_i hg
      split
      · exact skip_idem true r
      · rename_i hn
        exact skip_word c r (by simpa using hg) hn
theorem spaces_main (ks : Nat → Nat) (n N : Nat) : ∀ (f : Nat) (L : List UInt8), L.length < f → skip L = L → ∀ (i : Nat) (l : List Tk), toksA n L = .ok l → ∃ m, toksA N (skip (outOf ks i l)) = .ok m ∧ Alike l m
  | 0, _, h, _, _, _, _ => absurd h (Nat.not_lt_zero _)
  | f + 1, [], _, _, i, l, hl => by
    rw [toksA_nil] at hl
    injection hl with hl
    subst hl
    refine ⟨[⟨0, [], N⟩], ?_, rfl, fun j g1 g2 => ?_⟩
    · show toksA N (skip ([] ++ (sepL (ks i) ++ []))) = _
      rw [List.nil_append, sep_skip]
      rfl
    · have : j = 0 := by simpa using g1
      subst this
      exact ⟨rfl, rfl⟩
  | f + 1, c :: r, hf, hk, i, l, hl => by
    by_cases h : wordK (c :: r) = 0
    · rw [toksA_bad n c r h] at hl
      cases hl
    · have h1 := wordN_pos c r h
      have h2 := toksA_ok n c r h []
      rw [ahead_nil, hl, List.nil_append] at h2
      obtain ⟨l', e1, rfl⟩ := ahead_one h2.symm
      have hlen : (skip ((c :: r).drop (wordN (c :: r)))).length < f := by
        have := skip_le ((c :: r).drop (wordN (c :: r)))
        rw [List.length_drop, List.length_cons] at this
        rw [List.length_cons] at hf
        omega
      obtain ⟨m', e2, e3⟩ := spaces_main ks n N f _ hlen (skip_idem false _) (i + 1) l' e1
      obtain ⟨d, u, es, hd⟩ := sep_head (ks i)
      have eo : outOf ks i (⟨wordK (c :: r), (c :: r).take (wordN (c :: r)), n - (c :: r).length⟩ :: l') = (c :: r).take (wordN (c :: r)) ++ d :: (u ++ outOf ks (i + 1) l') := by
        show (c :: r).take (wordN (c :: r)) ++ (sepL (ks i) ++ _) = _
        rw [es, List.cons_append]
      rw [eo, word_skip c r _ d hd h hk]
      obtain ⟨k1, k2⟩ := word_stop c r (u ++ outOf ks (i + 1) l') d hd h
      have hx : ∃ a t, (c :: r).take (wordN (c :: r)) ++ d :: (u ++ outOf ks (i + 1) l') = a :: t := by
        rw [show wordN (c :: r) = (wordN (c :: r) - 1) + 1 by omega, List.take_succ_cons, List.cons_append]
        exact ⟨_, _, rfl⟩
      obtain ⟨a, t, ha⟩ := hx
      rw [ha] at k1 k2 ⊢
      have h3 := toksA_ok N a t (by rw [k1]; exact h) []
      rw [ahead_nil, k1, k2, List.nil_append] at h3
      have hl2 : ((c :: r).take (wordN (c :: r))).length = wordN (c :: r) := by
        rw [List.length_take]
        have := wordN_le (c :: r)
        omega
      have e5 : (a :: t).drop (wordN (c :: r)) = sepL (ks i) ++ outOf ks (i + 1) l' := by
        rw [← ha, List.drop_append, hl2, Nat.sub_self, List.drop_zero, List.drop_eq_nil_of_le (by omega), List.nil_append, es, List.cons_append]
      have e6 : (a :: t).take (wordN (c :: r)) = (c :: r).take (wordN (c :: r)) := by
        rw [← ha, List.take_append, hl2, Nat.sub_self, List.take_zero, List.append_nil, List.take_of_length_le (by omega)]
      rw [e5, sep_skip, e2, e6] at h3
      exact ⟨_, h3, e3.cons rfl rfl⟩
theorem spaces_toks (ks : Nat → Nat) (L : List UInt8) (l : List Tk) (h : toks L = .ok l) : ∃ m, toks (outOf ks 0 l) = .ok m ∧ Alike l m := by
  rw [toks_eq] at h
  obtain ⟨m, h1, h2⟩ := spaces_main ks L.length (outOf ks 0 l).length _ _ (Nat.lt_succ_self _) (skip_idem false L) 0 l h
  exact ⟨m, by rw [toks_eq]; exact h1, h2⟩
end Go.Proofs.Ythpeckoleiecbaa
