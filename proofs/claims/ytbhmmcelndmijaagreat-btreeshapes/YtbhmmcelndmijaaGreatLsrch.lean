/-
  Read: the record at a place, found by halving.
-/
import Derived.Test.YtbhmmcelndmijaaGreatKLg
namespace Go.Proofs.YtbhmmcelndmijaaGreat
open Go.RowKit Go.Maps
def cmpI (a b : Int) : Int := if a < b then -1 else if b < a then 1 else 0
/-- How many records stand ahead of a place. -/
def findR : List (Nat × ByteArray) → Int → Nat
  | [], _ => 0
  | p :: r, a => if (p.1 : Int) < a then findR r a + 1 else 0
/-- The record at a place. -/
def atR (l : List (Nat × ByteArray)) (a : Int) : Option ByteArray := match l[findR l a]? with
  | some p => if (p.1 : Int) = a then some p.2 else none
  | none => none
/-- Places rise. -/
def Asc (l : List (Nat × ByteArray)) : Prop := ∀ i j, (hj : j < l.length) → (hi : i < j) → (l[i]'(by omega)).1 < l[j].1
theorem findR_le : ∀ (l : List (Nat × ByteArray)) (a : Int), findR l a ≤ l.length
  | [], _ => Nat.le_refl _
  | p :: r, a => by
    have := findR_le r a
    unfold findR
    split
    · rw [List.length_cons]; omega
    · omega
theorem findR_lt : ∀ (l : List (Nat × ByteArray)) (a : Int) (k : Nat), (h : k < l.length) → k < findR l a → (l[k].1 : Int) < a
  | [], _, k, h, _ => absurd h (Nat.not_lt_zero _)
  | p :: r, a, k, h, hk => by
    unfold findR at hk
    by_cases hb : (p.1 : Int) < a
    · rw [if_pos hb] at hk
      match k, h, hk with
      | 0, _, _ => exact hb
      | k + 1, h, hk => exact findR_lt r a k (by simpa using h) (by omega)
    · rw [if_neg hb] at hk
      omega
theorem findR_at : ∀ (l : List (Nat × ByteArray)) (a : Int), (h : findR l a < l.length) → ¬ (l[findR l a].1 : Int) < a
  | [], _, h => absurd h (Nat.not_lt_zero _)
  | p :: r, a, h => by
    by_cases hb : (p.1 : Int) < a
    · have e : findR (p :: r) a = findR r a + 1 := by show (if _ then _ else _) = _; rw [if_pos hb]
      have h' : findR r a < r.length := by rw [e] at h; simpa using h
      have ih := findR_at r a h'
      have e2 : (p :: r)[findR (p :: r) a] = r[findR r a] := by
        simp only [e, List.getElem_cons_succ]
      rw [e2]
      exact ih
    · have e : findR (p :: r) a = 0 := by show (if _ then _ else _) = _; rw [if_neg hb]
      have e2 : (p :: r)[findR (p :: r) a] = p := by simp only [e, List.getElem_cons_zero]
      rw [e2]
      exact hb
theorem findR_ge (l : List (Nat × ByteArray)) (a : Int) (ha : Asc l) (k : Nat) (h : k < l.length) (hk : findR l a ≤ k) : ¬ (l[k].1 : Int) < a := by
  have h0 := findR_at l a (by omega)
  by_cases e : findR l a = k
  · have e2 : l[findR l a]'(by omega) = l[k] := by simp only [e]
    rw [e2] at h0
    exact h0
  · have := ha (findR l a) k h (by omega)
    omega
theorem recsL_get : ∀ (l : List (Nat × ByteArray)) (k : Nat), (h : k < l.length) → (recsL l)[k * 2]? = some (.int .i64 l[k].1) ∧ (recsL l)[k * 2 + 1]? = some (.string l[k].2)
  | [], k, h => absurd h (Nat.not_lt_zero _)
  | p :: r, 0, _ => ⟨rfl, rfl⟩
  | p :: r, k + 1, h => by
    have ih := recsL_get r k (by simpa using h)
    have e : recsL (p :: r) = .int .i64 p.1 :: .string p.2 :: recsL r := by
      unfold recsL
      rw [List.flatMap_cons]
      rfl
    rw [e]
    have e1 : (k + 1) * 2 = k * 2 + 1 + 1 := by omega
    rw [e1]
    simp only [List.getElem?_cons_succ, List.getElem_cons_succ]
    exact ih
theorem rec_at {w : World} {base n c : Nat} {pa : Option Addr} {l : List (Nat × ByteArray)} (h : w.ownsRow base 111 2 (.slice pa n c) n (recsL l)) (hn : n = l.length) (k : Nat) (hk : k < l.length) : ∃ g, pa = some ⟨g, 0, none⟩ ∧ w.cell? ⟨g, k * 2, none⟩ = some (.int .i64 l[k].1) ∧ w.cell? ⟨g, k * 2 + 1, none⟩ = some (.string l[k].2) := by
  have h0 := h
  rcases h.2 with ⟨_, e⟩ | ⟨g, cap, cur, e, _⟩
  · omega
  · injection e with e1 e2 e3
    subst e1
    obtain ⟨q1, q2⟩ := recsL_get l k hk
    refine ⟨g, rfl, ?_, ?_⟩
    · rw [h0.cellAt (k * 2) (by omega), q1]
    · rw [h0.cellAt (k * 2 + 1) (by omega), q2]
set_option maxRecDepth 100000 in
theorem nan_any (a : Int) (w : World) : Calls Tryz.prog 74 #[.int .i64 a] w fun e w' => e = .returned (.bool false) ∧ w' = w := by
  go_enter Tryz.func74, Tryz.ntmps74
  go_wp2
  go_ret
  exact ⟨rfl, rfl⟩
set_option maxRecDepth 100000 in
theorem cmp_any (a b : Int) (w : World) : Calls Tryz.prog 54 #[.int .i64 a, .int .i64 b] w fun e w' => e = .returned (.int .i64 (cmpI a b)) ∧ w' = w := by
  have C1 : Hid (∀ W, Calls Tryz.prog 74 #[.int .i64 a] W fun e w' => e = .returned (.bool false) ∧ w' = W) := fun W => nan_any a W
  have C2 : Hid (∀ W, Calls Tryz.prog 74 #[.int .i64 b] W fun e w' => e = .returned (.bool false) ∧ w' = W) := fun W => nan_any b W
  have hc : a < b ∨ (¬ a < b ∧ b < a) ∨ (¬ a < b ∧ ¬ b < a) := by omega
  unfold cmpI
  rcases hc with h1 | ⟨h1, h2⟩ | ⟨h1, h2⟩
  all_goals (
    first | rw [if_pos h1] | (rw [if_neg h1]; first | rw [if_pos h2] | rw [if_neg h2])
    go_enter Tryz.func54, Tryz.ntmps54
    go_wp2_with (first
      | (go_at_call 74; refine (C1.out _).mono ?_; rintro e w2 ⟨rfl, rfl⟩; clear C1)
      | (go_at_call 74; refine (C2.out _).mono ?_; rintro e w2 ⟨rfl, rfl⟩; clear C2))
    go_ret
    exact ⟨rfl, rfl⟩)
set_option maxRecDepth 100000 in
theorem cmpR_any (a : Nat) (t : ByteArray) (b : Int) (w : World) : Calls Tryz.prog 53 #[.agg #[.int .i64 a, .string t], .int .i64 b] w fun e w' => e = .returned (.int .i64 (cmpI a b)) ∧ w.grownBy w' none := by
  have C : Hid (∀ W, Calls Tryz.prog 54 #[.int .i64 a, .int .i64 b] W fun e w' => e = .returned (.int .i64 (cmpI a b)) ∧ w' = W) := fun W => cmp_any a b W
  generalize cmpI a b = c at *
  go_enter Tryz.func53, Tryz.ntmps53
  go_wp2_with (go_at_call 54; refine (C.out _).mono ?_; rintro e w2 ⟨rfl, rfl⟩; clear C)
  go_ret
  exact ⟨rfl, grown_alloc (grown_refl _ _) _⟩
set_option maxRecDepth 100000 in
set_option maxHeartbeats 1000000 in
theorem srch_any (base n c : Nat) (pa : Option Addr) (l : List (Nat × ByteArray)) (a : Int) (w : World) (h : w.ownsRow base 111 2 (.slice pa n c) n (recsL l)) (hn : n = l.length) (hs : Asc l) (hl : n ≤ 1000000) :
    Calls Tryz.prog 52 #[.slice pa n c, .int .i64 a, .func (.func 53) #[] #[]] w fun e w' => e = .returned (.tuple #[.int .i64 (findR l a), .bool (atR l a).isSome]) ∧ w.grownBy w' none := by
  have hfl := findR_le l a
  have HL := hid (findR_lt l a)
  have HG := hid (findR_ge l a hs)
  have RA := hid (rec_at h hn)
  have CR : Hid (∀ (x : Nat) t W, Calls Tryz.prog 53 #[.agg #[.int .i64 x, .string t], .int .i64 a] W fun e w' => e = .returned (.int .i64 (cmpI x a)) ∧ W.grownBy w' none) := fun x t W => cmpR_any x t a W
  obtain ⟨m, em⟩ : ∃ m, findR l a = m := ⟨_, rfl⟩
  obtain ⟨bb, eb⟩ : ∃ bb, (atR l a).isSome = bb := ⟨_, rfl⟩
  have EM : Hid (findR l a = m) := em
  have EB : Hid ((atR l a).isSome = bb) := eb
  rw [em, eb]
  rw [em] at hfl
  rw [← hn] at hfl
  have HN := hid hn
  clear em eb h hs hn
  have hll : (n : Int) ≤ 1000000 := by omega
  go_enter Tryz.func52, Tryz.ntmps52
  go_wp2
  go_loopw [9, 10] (fun iv jv wr => ∃ i j : Nat, i ≤ m ∧ m ≤ j ∧ j ≤ n ∧ iv = .int .i64 i ∧ jv = .int .i64 j ∧ w.grownBy wr none) (fun iv jv _ => (intOf jv).toNat - (intOf iv).toNat)
  case atStart => exact ⟨0, n, Nat.zero_le _, hfl, Nat.le_refl _, rfl, rfl, grown_refl _ _⟩
  case round =>
    obtain ⟨i, j, hi, hj, hjn, rfl, rfl, hg⟩ := hrel
    have G := hid hg
    clear hg
    have i0 : (0 : Int) ≤ i := by omega
    have i1 : (i : Int) ≤ 1000000 := by omega
    have j1 : (j : Int) ≤ 1000000 := by omega
    by_cases hij : i < j
    · have hij' : (i : Int) < j := by omega
      obtain ⟨q, hq⟩ : ∃ q : Nat, q = (i + j) / 2 := ⟨_, rfl⟩
      have hq' : ((i : Int) + j) / 2 = q := by omega
      have hqj : q < j := by omega
      have hiq : i ≤ q := by omega
      have hqn : (q : Int) < n := by omega
      have hq0 : (0 : Int) ≤ q := by omega
      have hq1 : (q : Int) ≤ 1000000 := by omega
      have hql : q < l.length := by rw [← HN.out]; omega
      clear hq
      obtain ⟨g, rfl, c0, c1⟩ := RA.out q hql
      have c0' := cell_kept c0 G.out
      have c1' := cell_kept c1 G.out
      by_cases hqm : q < m
      · have hlt := HL.out q hql (by rw [EM.out]; exact hqm)
        have C : Hid (∀ W, Calls Tryz.prog 53 #[.agg #[.int .i64 l[q].1, .string l[q].2], .int .i64 a] W fun e w' => e = .returned (.int .i64 (-1)) ∧ W.grownBy w' none) := fun W => by
          have := CR.out l[q].1 l[q].2 W
          unfold cmpI at this
          rwa [if_pos hlt] at this
        clear c0 c1 HL HG RA CR hlt
        generalize l[q].1 = x at *
        generalize l[q].2 = y at *
        go_wp2_with (go_at_call 53; refine (C.out _).mono ?_; rintro e w2 ⟨rfl, hg2⟩; have G2 := hid (grown_none G.out hg2); clear C hg2)
        go_round
        case rel => exact ⟨q + 1, j, by omega, hj, hjn, by go_num, rfl, G2.out⟩
        case measure => simp [intOf]; omega
      · have hge := HG.out q hql (by rw [EM.out]; omega)
        obtain ⟨z, hz, hz0⟩ : ∃ z, cmpI l[q].1 a = z ∧ ¬ z < 0 := ⟨_, rfl, by unfold cmpI; rw [if_neg (by omega)]; split <;> omega⟩
        have C : Hid (∀ W, Calls Tryz.prog 53 #[.agg #[.int .i64 l[q].1, .string l[q].2], .int .i64 a] W fun e w' => e = .returned (.int .i64 z) ∧ W.grownBy w' none) := fun W => by
          have := CR.out l[q].1 l[q].2 W
          rwa [hz] at this
        clear c0 c1 HL HG RA CR hge hz
        generalize l[q].1 = x at *
        generalize l[q].2 = y at *
        go_wp2_with (go_at_call 53; refine (C.out _).mono ?_; rintro e w2 ⟨rfl, hg2⟩; have G2 := hid (grown_none G.out hg2); clear C hg2)
        go_round
        case rel => exact ⟨i, q, hi, by omega, by omega, rfl, rfl, G2.out⟩
        case measure => simp [intOf]; omega
    · obtain rfl : i = m := by omega
      obtain rfl : j = i := by omega
      have hij' : ¬ (j : Int) < j := by omega
      by_cases hlt : j < n
      · have hjn' : (j : Int) < n := by omega
        have hql : j < l.length := by rw [← HN.out]; omega
        obtain ⟨g, rfl, c0, c1⟩ := RA.out j hql
        have c0' := cell_kept c0 G.out
        have c1' := cell_kept c1 G.out
        have hge := HG.out j hql (by rw [EM.out]; omega)
        have e3 : bb = decide ((l[j].1 : Int) = a) := by
          rw [← EB.out]
          unfold atR
          rw [EM.out, List.getElem?_eq_getElem hql]
          simp only
          by_cases e : (l[j].1 : Int) = a
          · rw [if_pos e, decide_eq_true e]; rfl
          · rw [if_neg e, decide_eq_false e]; rfl
        obtain ⟨z, hz, hz0⟩ : ∃ z, cmpI l[j].1 a = z ∧ (z == 0) = bb := ⟨_, rfl, by
          rw [e3]
          unfold cmpI
          rw [if_neg (by omega)]
          by_cases e : (l[j].1 : Int) = a
          · rw [if_neg (by omega), decide_eq_true e]; rfl
          · rw [if_pos (by omega), decide_eq_false e]; rfl⟩
        have C : Hid (∀ W, Calls Tryz.prog 53 #[.agg #[.int .i64 l[j].1, .string l[j].2], .int .i64 a] W fun e w' => e = .returned (.int .i64 z) ∧ W.grownBy w' none) := fun W => by
          have := CR.out l[j].1 l[j].2 W
          rwa [hz] at this
        clear c0 c1 HL HG RA CR hge hz EB EM e3
        generalize l[j].1 = x at *
        generalize l[j].2 = y at *
        go_wp2_with (go_at_call 53; refine (C.out _).mono ?_; rintro e w2 ⟨rfl, hg2⟩; have G2 := hid (grown_none G.out hg2); clear C hg2)
        go_ret2
        exact ⟨rfl, G2.out⟩
      · have hjn' : ¬ (j : Int) < n := by omega
        have e3 : bb = false := by
          rw [← EB.out]
          unfold atR
          rw [EM.out, List.getElem?_eq_none (by rw [← HN.out]; omega)]
          rfl
        subst e3
        clear HL HG RA CR EB EM
        go_wp2
        go_ret2
        exact ⟨rfl, G.out⟩
/-- What Read answers. -/
def readT (l : List (Nat × ByteArray)) (a : Int) : ByteArray := (atR l a).getD ⟨#[]⟩
def readC (l : List (Nat × ByteArray)) (a : Int) : Nat := if (atR l a).isSome then 0 else 2
set_option maxRecDepth 100000 in
set_option maxHeartbeats 1000000 in
theorem lread_any (base b : Nat) (g : Lg) (a : Int) (w : World) (h : IsLog w base b g) (hs : Asc g.recs) (hl : g.recs.length ≤ 1000000) :
    Calls Tryz.prog 32 #[.pointer (some ⟨b, 0, none⟩), .int .i64 a] w fun e w' => e = .returned (.tuple #[.string (readT g.recs a), .int .i64 (readC g.recs a)]) ∧ w.grownBy w' none := by
  obtain ⟨h0, vr, vw, hb, hr, hw⟩ := h
  obtain ⟨pr, cr, rfl, _⟩ := row_form hr
  obtain ⟨⟨c0, c1, c2, c3, c4, c5, c6⟩, _⟩ := hb.g7
  have CS := hid (srch_any base g.recs.length cr pr g.recs a w hr rfl hs hl)
  have HB := hid hb
  have hfl := findR_le g.recs a
  clear c0 c2 c3 c4 c5 c6 hb hw
  cases hq : atR g.recs a with
  | none =>
    have e1 : readT g.recs a = ⟨#[]⟩ := by unfold readT; rw [hq]; rfl
    have e2 : readC g.recs a = 2 := by unfold readC; rw [hq]; rfl
    rw [e1, e2]
    rw [hq] at CS
    clear hr e1 e2 hq
    generalize findR g.recs a = m at *
    generalize g.recs.length = n at *
    go_enter Tryz.func32, Tryz.ntmps32
    go_wp2_with (go_at_call 52; refine CS.out.mono ?_; rintro e w2 ⟨rfl, hg2⟩; have G2 := hid hg2; clear CS hg2)
    go_ret2
    exact ⟨rfl, G2.out⟩
  | some t =>
    have e1 : readT g.recs a = t := by unfold readT; rw [hq]; rfl
    have e2 : readC g.recs a = 0 := by unfold readC; rw [hq]; rfl
    rw [e1, e2]
    rw [hq] at CS
    obtain ⟨hm, ht⟩ : ∃ hm : findR g.recs a < g.recs.length, (g.recs[findR g.recs a]).2 = t := by
      unfold atR at hq
      by_cases hm : findR g.recs a < g.recs.length
      · refine ⟨hm, ?_⟩
        rw [List.getElem?_eq_getElem hm] at hq
        simp only at hq
        split at hq
        · exact Option.some.inj hq
        · cases hq
      · rw [List.getElem?_eq_none (by omega)] at hq
        cases hq
    obtain ⟨gg, rfl, d0, d1⟩ := rec_at hr rfl _ hm
    rw [ht] at d1
    clear hr e1 e2 hq d0 ht
    generalize findR g.recs a = m at *
    generalize g.recs.length = n at *
    have m0 : (0 : Int) ≤ m := by omega
    have m1 : (m : Int) < n := by omega
    go_enter Tryz.func32, Tryz.ntmps32
    go_wp2_with (go_at_call 52; refine CS.out.mono ?_; rintro e w2 ⟨rfl, hg2⟩; have G2 := hid hg2; have B2 := hid (HB.out.kept hg2 (by simp)); have k1 := B2.out.g7.1.2.1; have d1' := cell_kept d1 hg2; clear CS hg2)
    go_ret2
    exact ⟨rfl, G2.out⟩
end Go.Proofs.YtbhmmcelndmijaaGreat
