/-
  Read: the record at a place, found by halving. Append, of texts as long as may be. What an opening finds in an empty file, and in a file with one record and a marker.
-/
import Derived.Test.YtbhmmcelndmijaaGreatKLtake
import Derived.Test.YtbhmmcelndmijaaGreatKLload
import Derived.Test.YtbhmmcelndmijaaGreatKPWUnEq
import Derived.Test.YtbhmmcelndmijaaGreatKLopen
namespace Go.Proofs.YtbhmmcelndmijaaGreat
open Go.RowKit Go.Maps
def cmpI (a b : Int) : Int := if a < b then -1 else if b < a then 1 else 0
/-- How many records stand ahead of a place. -/
def findR : List (Nat × ByteArray) → Int → Nat
  | [], _ => 0
  | p :: r, a => if (p.1 : Int) < a then findR r a + 1 else 0
/-- The record at a place. -/
def atR (l : List (Nat × ByteArray)) (a : Int) : Option ByteArray := match l[findR l a]? with
  | some p => if (p.1 : Int) = a then some p.2 else none
  | none => none
/-- Places rise. -/
def Asc (l : List (Nat × ByteArray)) : Prop := ∀ i j, (hj : j < l.length) → (hi : i < j) → (l[i]'(by omega)).1 < l[j].1
theorem findR_le : ∀ (l : List (Nat × ByteArray)) (a : Int), findR l a ≤ l.length
  | [], _ => Nat.le_refl _
  | p :: r, a => by
    have := findR_le r a
    unfold findR
    split
    · rw [List.length_cons]; omega
    · omega
theorem findR_lt : ∀ (l : List (Nat × ByteArray)) (a : Int) (k : Nat), (h : k < l.length) → k < findR l a → (l[k].1 : Int) < a
  | [], _, k, h, _ => absurd h (Nat.not_lt_zero _)
  | p :: r, a, k, h, hk => by
    unfold findR at hk
    by_cases hb : (p.1 : Int) < a
    · rw [if_pos hb] at hk
      match k, h, hk with
      | 0, _, _ => exact hb
      | k + 1, h, hk => exact findR_lt r a k (by simpa using h) (by omega)
    · rw [if_neg hb] at hk
      omega
theorem findR_at : ∀ (l : List (Nat × ByteArray)) (a : Int), (h : findR l a < l.length) → ¬ (l[findR l a].1 : Int) < a
  | [], _, h => absurd h (Nat.not_lt_zero _)
  | p :: r, a, h => by
    by_cases hb : (p.1 : Int) < a
    · have e : findR (p :: r) a = findR r a + 1 := by show (if _ then _ else _) = _; rw [if_pos hb]
      have h' : findR r a < r.length := by rw [e] at h; simpa using h
      have ih := findR_at r a h'
      have e2 : (p :: r)[findR (p :: r) a] = r[findR r a] := by
        simp only [e, List.getElem_cons_succ]
      rw [e2]
      exact ih
    · have e : findR (p :: r) a = 0 := by show (if _ then _ else _) = _; rw [if_neg hb]
      have e2 : (p :: r)[findR (p :: r) a] = p := by simp only [e, List.getElem_cons_zero]
      rw [e2]
      exact hb
theorem findR_ge (l : List (Nat × ByteArray)) (a : Int) (ha : Asc l) (k : Nat) (h : k < l.length) (hk : findR l a ≤ k) : ¬ (l[k].1 : Int) < a := by
  have h0 := findR_at l a (by omega)
  by_cases e : findR l a = k
  · have e2 : l[findR l a]'(by omega) = l[k] := by simp only [e]
    rw [e2] at h0
    exact h0
  · have := ha (findR l a) k h (by omega)
    omega
theorem recsL_get : ∀ (l : List (Nat × ByteArray)) (k : Nat), (h : k < l.length) → (recsL l)[k * 2]? = some (.int .i64 l[k].1) ∧ (recsL l)[k * 2 + 1]? = some (.string l[k].2)
  | [], k, h => absurd h (Nat.not_lt_zero _)
  | p :: r, 0, _ => ⟨rfl, rfl⟩
  | p :: r, k + 1, h => by
    have ih := recsL_get r k (by simpa using h)
    have e : recsL (p :: r) = .int .i64 p.1 :: .string p.2 :: recsL r := by
      unfold recsL
      rw [List.flatMap_cons]
      rfl
    rw [e]
    have e1 : (k + 1) * 2 = k * 2 + 1 + 1 := by omega
    rw [e1]
    simp only [List.getElem?_cons_succ, List.getElem_cons_succ]
    exact ih
theorem rec_at {w : World} {base n c : Nat} {pa : Option Addr} {l : List (Nat × ByteArray)} (h : w.ownsRow base 111 2 (.slice pa n c) n (recsL l)) (hn : n = l.length) (k : Nat) (hk : k < l.length) : ∃ g, pa = some ⟨g, 0, none⟩ ∧ w.cell? ⟨g, k * 2, none⟩ = some (.int .i64 l[k].1) ∧ w.cell? ⟨g, k * 2 + 1, none⟩ = some (.string l[k].2) := by
  have h0 := h
  rcases h.2 with ⟨_, e⟩ | ⟨g, cap, cur, e, _⟩
  · omega
  · injection e with e1 e2 e3
    subst e1
    obtain ⟨q1, q2⟩ := recsL_get l k hk
    refine ⟨g, rfl, ?_, ?_⟩
    · rw [h0.cellAt (k * 2) (by omega), q1]
    · rw [h0.cellAt (k * 2 + 1) (by omega), q2]
set_option maxRecDepth 100000 in
theorem nan_any (a : Int) (w : World) : Calls Tryz.prog 74 #[.int .i64 a] w fun e w' => e = .returned (.bool false) ∧ w' = w := by
  go_enter Tryz.func74, Tryz.ntmps74
  go_wp2
  go_ret
  exact ⟨rfl, rfl⟩
set_option maxRecDepth 100000 in
theorem cmp_any (a b : Int) (w : World) : Calls Tryz.prog 54 #[.int .i64 a, .int .i64 b] w fun e w' => e = .returned (.int .i64 (cmpI a b)) ∧ w' = w := by
  have C1 : Hid (∀ W, Calls Tryz.prog 74 #[.int .i64 a] W fun e w' => e = .returned (.bool false) ∧ w' = W) := fun W => nan_any a W
  have C2 : Hid (∀ W, Calls Tryz.prog 74 #[.int .i64 b] W fun e w' => e = .returned (.bool false) ∧ w' = W) := fun W => nan_any b W
  have hc : a < b ∨ (¬ a < b ∧ b < a) ∨ (¬ a < b ∧ ¬ b < a) := by omega
  unfold cmpI
  rcases hc with h1 | ⟨h1, h2⟩ | ⟨h1, h2⟩
  all_goals (
    first | rw [if_pos h1] | (rw [if_neg h1]; first | rw [if_pos h2] | rw [if_neg h2])
    go_enter Tryz.func54, Tryz.ntmps54
    go_wp2_with (first
      | (go_at_call 74; refine (C1.out _).mono ?_; rintro e w2 ⟨rfl, rfl⟩; clear C1)
      | (go_at_call 74; refine (C2.out _).mono ?_; rintro e w2 ⟨rfl, rfl⟩; clear C2))
    go_ret
    exact ⟨rfl, rfl⟩)
set_option maxRecDepth 100000 in
theorem cmpR_any (a : Nat) (t : ByteArray) (b : Int) (w : World) : Calls Tryz.prog 53 #[.agg #[.int .i64 a, .string t], .int .i64 b] w fun e w' => e = .returned (.int .i64 (cmpI a b)) ∧ w.grownBy w' none := by
  have C : Hid (∀ W, Calls Tryz.prog 54 #[.int .i64 a, .int .i64 b] W fun e w' => e = .returned (.int .i64 (cmpI a b)) ∧ w' = W) := fun W => cmp_any a b W
  generalize cmpI a b = c at *
  go_enter Tryz.func53, Tryz.ntmps53
  go_wp2_with (go_at_call 54; refine (C.out _).mono ?_; rintro e w2 ⟨rfl, rfl⟩; clear C)
  go_ret
  exact ⟨rfl, grown_alloc (grown_refl _ _) _⟩
set_option maxRecDepth 100000 in
set_option maxHeartbeats 1000000 in
theorem srch_any (base n c : Nat) (pa : Option Addr) (l : List (Nat × ByteArray)) (a : Int) (w : World) (h : w.ownsRow base 111 2 (.slice pa n c) n (recsL l)) (hn : n = l.length) (hs : Asc l) (hl : n ≤ 1000000) :
    Calls Tryz.prog 52 #[.slice pa n c, .int .i64 a, .func (.func 53) #[] #[]] w fun e w' => e = .returned (.tuple #[.int .i64 (findR l a), .bool (atR l a).isSome]) ∧ w.grownBy w' none := by
  have hfl := findR_le l a
  have HL := hid (findR_lt l a)
  have HG := hid (findR_ge l a hs)
  have RA := hid (rec_at h hn)
  have CR : Hid (∀ (x : Nat) t W, Calls Tryz.prog 53 #[.agg #[.int .i64 x, .string t], .int .i64 a] W fun e w' => e = .returned (.int .i64 (cmpI x a)) ∧ W.grownBy w' none) := fun x t W => cmpR_any x t a W
  obtain ⟨m, em⟩ : ∃ m, findR l a = m := ⟨_, rfl⟩
  obtain ⟨bb, eb⟩ : ∃ bb, (atR l a).isSome = bb := ⟨_, rfl⟩
  have EM : Hid (findR l a = m) := em
  have EB : Hid ((atR l a).isSome = bb) := eb
  rw [em, eb]
  rw [em] at hfl
  rw [← hn] at hfl
  have HN := hid hn
  clear em eb h hs hn
  have hll : (n : Int) ≤ 1000000 := by omega
  go_enter Tryz.func52, Tryz.ntmps52
  go_wp2
  go_loopw [9, 10] (fun iv jv wr => ∃ i j : Nat, i ≤ m ∧ m ≤ j ∧ j ≤ n ∧ iv = .int .i64 i ∧ jv = .int .i64 j ∧ w.grownBy wr none) (fun iv jv _ => (intOf jv).toNat - (intOf iv).toNat)
  case atStart => exact ⟨0, n, Nat.zero_le _, hfl, Nat.le_refl _, rfl, rfl, grown_refl _ _⟩
  case round =>
    obtain ⟨i, j, hi, hj, hjn, rfl, rfl, hg⟩ := hrel
    have G := hid hg
    clear hg
    have i0 : (0 : Int) ≤ i := by omega
    have i1 : (i : Int) ≤ 1000000 := by omega
    have j1 : (j : Int) ≤ 1000000 := by omega
    by_cases hij : i < j
    · have hij' : (i : Int) < j := by omega
      obtain ⟨q, hq⟩ : ∃ q : Nat, q = (i + j) / 2 := ⟨_, rfl⟩
      have hq' : ((i : Int) + j) / 2 = q := by omega
      have hqj : q < j := by omega
      have hiq : i ≤ q := by omega
      have hqn : (q : Int) < n := by omega
      have hq0 : (0 : Int) ≤ q := by omega
      have hq1 : (q : Int) ≤ 1000000 := by omega
      have hql : q < l.length := by rw [← HN.out]; omega
      clear hq
      obtain ⟨g, rfl, c0, c1⟩ := RA.out q hql
      have c0' := cell_kept c0 G.out
      have c1' := cell_kept c1 G.out
      by_cases hqm : q < m
      · have hlt := HL.out q hql (by rw [EM.out]; exact hqm)
        have C : Hid (∀ W, Calls Tryz.prog 53 #[.agg #[.int .i64 l[q].1, .string l[q].2], .int .i64 a] W fun e w' => e = .returned (.int .i64 (-1)) ∧ W.grownBy w' none) := fun W => by
          have := CR.out l[q].1 l[q].2 W
          unfold cmpI at this
          rwa [if_pos hlt] at this
        clear c0 c1 HL HG RA CR hlt
        generalize l[q].1 = x at *
        generalize l[q].2 = y at *
        go_wp2_with (go_at_call 53; refine (C.out _).mono ?_; rintro e w2 ⟨rfl, hg2⟩; have G2 := hid (grown_none G.out hg2); clear C hg2)
        go_round
        case rel => exact ⟨q + 1, j, by omega, hj, hjn, by go_num, rfl, G2.out⟩
        case measure => simp [intOf]; omega
      · have hge := HG.out q hql (by rw [EM.out]; omega)
        obtain ⟨z, hz, hz0⟩ : ∃ z, cmpI l[q].1 a = z ∧ ¬ z < 0 := ⟨_, rfl, by unfold cmpI; rw [if_neg (by omega)]; split <;> omega⟩
        have C : Hid (∀ W, Calls Tryz.prog 53 #[.agg #[.int .i64 l[q].1, .string l[q].2], .int .i64 a] W fun e w' => e = .returned (.int .i64 z) ∧ W.grownBy w' none) := fun W => by
          have := CR.out l[q].1 l[q].2 W
          rwa [hz] at this
        clear c0 c1 HL HG RA CR hge hz
        generalize l[q].1 = x at *
        generalize l[q].2 = y at *
        go_wp2_with (go_at_call 53; refine (C.out _).mono ?_; rintro e w2 ⟨rfl, hg2⟩; have G2 := hid (grown_none G.out hg2); clear C hg2)
        go_round
        case rel => exact ⟨i, q, hi, by omega, by omega, rfl, rfl, G2.out⟩
        case measure => simp [intOf]; omega
    · obtain rfl : i = m := by omega
      obtain rfl : j = i := by omega
      have hij' : ¬ (j : Int) < j := by omega
      by_cases hlt : j < n
      · have hjn' : (j : Int) < n := by omega
        have hql : j < l.length := by rw [← HN.out]; omega
        obtain ⟨g, rfl, c0, c1⟩ := RA.out j hql
        have c0' := cell_kept c0 G.out
        have c1' := cell_kept c1 G.out
        have hge := HG.out j hql (by rw [EM.out]; omega)
        have e3 : bb = decide ((l[j].1 : Int) = a) := by
          rw [← EB.out]
          unfold atR
          rw [EM.out, List.getElem?_eq_getElem hql]
          simp only
          by_cases e : (l[j].1 : Int) = a
          · rw [if_pos e, decide_eq_true e]; rfl
          · rw [if_neg e, decide_eq_false e]; rfl
        obtain ⟨z, hz, hz0⟩ : ∃ z, cmpI l[j].1 a = z ∧ (z == 0) = bb := ⟨_, rfl, by
          rw [e3]
          unfold cmpI
          rw [if_neg (by omega)]
          by_cases e : (l[j].1 : Int) = a
          · rw [if_neg (by omega), decide_eq_true e]; rfl
          · rw [if_pos (by omega), decide_eq_false e]; rfl⟩
        have C : Hid (∀ W, Calls Tryz.prog 53 #[.agg #[.int .i64 l[j].1, .string l[j].2], .int .i64 a] W fun e w' => e = .returned (.int .i64 z) ∧ W.grownBy w' none) := fun W => by
          have := CR.out l[j].1 l[j].2 W
          rwa [hz] at this
        clear c0 c1 HL HG RA CR hge hz EB EM e3
        generalize l[j].1 = x at *
        generalize l[j].2 = y at *
        go_wp2_with (go_at_call 53; refine (C.out _).mono ?_; rintro e w2 ⟨rfl, hg2⟩; have G2 := hid (grown_none G.out hg2); clear C hg2)
        go_ret2
        exact ⟨rfl, G2.out⟩
      · have hjn' : ¬ (j : Int) < n := by omega
        have e3 : bb = false := by
          rw [← EB.out]
          unfold atR
          rw [EM.out, List.getElem?_eq_none (by rw [← HN.out]; omega)]
          rfl
        subst e3
        clear HL HG RA CR EB EM
        go_wp2
        go_ret2
        exact ⟨rfl, G.out⟩
/-- What Read answers. -/
def readT (l : List (Nat × ByteArray)) (a : Int) : ByteArray := (atR l a).getD ⟨#[]⟩
def readC (l : List (Nat × ByteArray)) (a : Int) : Nat := if (atR l a).isSome then 0 else 2
set_option maxRecDepth 100000 in
set_option maxHeartbeats 1000000 in
theorem lread_any (base b : Nat) (g : Lg) (a : Int) (w : World) (h : IsLog w base b g) (hs : Asc g.recs) (hl : g.recs.length ≤ 1000000) :
    Calls Tryz.prog 32 #[.pointer (some ⟨b, 0, none⟩), .int .i64 a] w fun e w' => e = .returned (.tuple #[.string (readT g.recs a), .int .i64 (readC g.recs a)]) ∧ w.grownBy w' none := by
  obtain ⟨h0, vr, vw, hb, hr, hw⟩ := h
  obtain ⟨pr, cr, rfl, _⟩ := row_form hr
  obtain ⟨⟨c0, c1, c2, c3, c4, c5, c6⟩, _⟩ := hb.g7
  have CS := hid (srch_any base g.recs.length cr pr g.recs a w hr rfl hs hl)
  have HB := hid hb
  have hfl := findR_le g.recs a
  clear c0 c2 c3 c4 c5 c6 hb hw
  cases hq : atR g.recs a with
  | none =>
    have e1 : readT g.recs a = ⟨#[]⟩ := by unfold readT; rw [hq]; rfl
    have e2 : readC g.recs a = 2 := by unfold readC; rw [hq]; rfl
    rw [e1, e2]
    rw [hq] at CS
    clear hr e1 e2 hq
    generalize findR g.recs a = m at *
    generalize g.recs.length = n at *
    go_enter Tryz.func32, Tryz.ntmps32
    go_wp2_with (go_at_call 52; refine CS.out.mono ?_; rintro e w2 ⟨rfl, hg2⟩; have G2 := hid hg2; clear CS hg2)
    go_ret2
    exact ⟨rfl, G2.out⟩
  | some t =>
    have e1 : readT g.recs a = t := by unfold readT; rw [hq]; rfl
    have e2 : readC g.recs a = 0 := by unfold readC; rw [hq]; rfl
    rw [e1, e2]
    rw [hq] at CS
    obtain ⟨hm, ht⟩ : ∃ hm : findR g.recs a < g.recs.length, (g.recs[findR g.recs a]).2 = t := by
      unfold atR at hq
      by_cases hm : findR g.recs a < g.recs.length
      · refine ⟨hm, ?_⟩
        rw [List.getElem?_eq_getElem hm] at hq
        simp only at hq
        split at hq
        · exact Option.some.inj hq
        · cases hq
      · rw [List.getElem?_eq_none (by omega)] at hq
        cases hq
    obtain ⟨gg, rfl, d0, d1⟩ := rec_at hr rfl _ hm
    rw [ht] at d1
    clear hr e1 e2 hq d0 ht
    generalize findR g.recs a = m at *
    generalize g.recs.length = n at *
    have m0 : (0 : Int) ≤ m := by omega
    have m1 : (m : Int) < n := by omega
    go_enter Tryz.func32, Tryz.ntmps32
    go_wp2_with (go_at_call 52; refine CS.out.mono ?_; rintro e w2 ⟨rfl, hg2⟩; have G2 := hid hg2; have B2 := hid (HB.out.kept hg2 (by simp)); have k1 := B2.out.g7.1.2.1; have d1' := cell_kept d1 hg2; clear CS hg2)
    go_ret2
    exact ⟨rfl, G2.out⟩
end Go.Proofs.YtbhmmcelndmijaaGreat
namespace Go.Proofs.YtbhmmcelndmijaaGreat
open Go.RowKit Go.Maps
theorem step_text2 {ops : Array Oper} {o : Oper} {a : Act} {w : World} {K : Act → World → Prop} {Q : Exit → Act → World → Prop} {E : Prop} (s x : Operand) (hg : o.guard = none) (ho : o.op = Op.call { callee := Callee.builtin Builtin.append, args := #[s, x], argTypes := #[85, 9] }) (base : Nat) (v : Value) (l t : ByteArray)
    (hrow : w.ownsRow base 5 1 v l.size (Lib.strCells l)) (hl : l.size + t.size ≤ 1000000000) (hbase : base ≤ w.heap.size) (hs : a.eval s = v) (hx : a.eval x = .string t)
    (hK : ∀ v' w', w'.ownsRow base 5 1 v' (l ++ t).size (Lib.strCells (l ++ t)) → w.grownBy w' v.ownBlock → K (a.put o.dst v') w') :
    if Region.wanted o (yielded ops a.tmps) = true then Oper.wp Tryz.prog o a w K Q else E := by
  have hw : Region.wanted o (yielded ops a.tmps) = true := by simp [Region.wanted, hg]
  rw [if_pos hw]
  obtain ⟨i5, hi, hz0, hz1, hz2⟩ := info_parts info5
  obtain ⟨v', w', hr, h2, h3, _⟩ := Lib.run_append_own_string (P := Tryz.prog) w base 85 9 o.type 5 i5 Tryz.underlying85 Tryz.underlying9 hi hz0 hz1 hz2 v l.size (Lib.strCells l) hrow t (by unfold maxLen; omega) (by omega) hbase
  have e : Lib.strCells l ++ Lib.strCells t = Lib.strCells (l ++ t) := by
    unfold Lib.strCells
    rw [← List.map_append]
    simp
  rw [e, ← ByteArray.size_append] at h2
  unfold Oper.wp execOp
  simp only [ho, resolve, invoke, builtin, Sem.run_bind, Sem.run_pure, Result.andThen_ok, List.map_toArray, List.map_cons, List.map_nil, hs, hx, hr]
  exact hK v' w' h2 h3
variable {ops : Array Oper} {rest : List Oper} {o : Oper} {a : Act} {Q : Exit → Act → World → Prop} {w : World}
set_option maxRecDepth 100000 in
set_option maxHeartbeats 4000000 in
theorem lappend_big (base b : Nat) (g : Lg) (s : ByteArray) (w : World) (h : IsLog w base b g) (hl : g.recs.length ≤ 100000) (hw : g.wait.size ≤ 500000000) (hn : g.len ≤ 1000000000) (hs : s.size ≤ 1048576) :
    Calls Tryz.prog 98 #[.pointer (some ⟨b, 0, none⟩), .string s] w fun e w' => e = .returned (.tuple #[.int .i64 (g.len + g.wait.size : Nat), .int .i64 0]) ∧ IsLog w' base b { g with recs := g.recs ++ [(g.len + g.wait.size, s)], wait := g.wait ++ Wi.frmS (⟨#[100]⟩ ++ s) } ∧ LT base b w w' := by
  have hsz : (⟨#[100]⟩ ++ s : ByteArray).size ≤ 1100000 := by rw [ByteArray.size_append]; show 1 + _ ≤ _; omega
  have CF : Hid (∀ W, Calls Tryz.prog 120 #[.string (⟨#[100]⟩ ++ s)] W fun e w' => e = .returned (.string (Wi.frmS (⟨#[100]⟩ ++ s))) ∧ W.grownBy w' none) := fun W => Wi.frame_big _ W (by omega)
  have hfs : (Wi.frmS (⟨#[100]⟩ ++ s)).size ≤ 2000000 := by rw [Wi.frmS_size]; omega
  obtain ⟨h0, vr, vw, hb, hr, hww⟩ := h
  obtain ⟨⟨c0, c1, c2, c3, c4, c5, c6⟩, f1, f2, f3, f4, f5, f6⟩ := hb.g7
  have hbw : base ≤ w.heap.size := Nat.le_trans h0 (Nat.le_of_lt hb.lt)
  obtain ⟨pr, cr, rfl, _⟩ := row_form hr
  obtain ⟨pw, cw, rfl, _⟩ := row_form hww
  have HB := hid hb
  have HR := hid hr
  have HW := hid hww
  have i1 : (g.wait.size : Int) ≤ 500000000 := by omega
  have i2 : (g.len : Int) ≤ 1000000000 := by omega
  have i3 : (s.size : Int) ≤ 1048576 := by omega
  have i4 : ¬ (1048576 : Int) < s.size := by omega
  have i5 : ¬ 9223372036854775807 < 1 + s.size := by omega
  have iw : IntKind.i64.wrap ((g.len : Int) + (g.wait.size : Int)) = ((g.len + g.wait.size : Nat) : Int) := by rw [IntKind.wrap_i64]; omega
  have HN : Hid (g.recs.length ≤ 1000000) := (by show _ ≤ _; omega)
  have HZ : Hid (g.wait.size + (Wi.frmS (⟨#[100]⟩ ++ s)).size ≤ 1000000000) := (by show _ ≤ _; omega)
  clear hb hr hww hl hw hn hs hsz hfs
  generalize Wi.frmS (⟨#[100]⟩ ++ s) = F at *
  generalize hat : g.len + g.wait.size = at_ at *
  go_enter Tryz.func98, Tryz.ntmps98
  go_wp2_with fail
  go_quiet (fail)
  obtain ⟨w1, hw1⟩ : ∃ w1, w1 = w.drewN nq := ⟨_, rfl⟩
  rw [← hw1]
  have G1 : Hid (w.grownBy w1 none) := (by rw [hw1]; exact grown_drewN (grown_refl _ _) _)
  have B1 : Hid (Blk w1 b 87 (rowG g.d (.slice pr g.recs.length cr) (.slice pw g.wait.size cw) g.com g.len g.root g.marked)) := HB.out.kept G1.out (by simp)
  have R1 : Hid (w1.ownsRow base 111 2 (.slice pr g.recs.length cr) g.recs.length (recsL g.recs)) := (by rw [hw1]; exact HR.out)
  have W1 : Hid (w1.ownsRow base 5 1 (.slice pw g.wait.size cw) g.wait.size (Lib.strCells g.wait)) := (by rw [hw1]; exact HW.out)
  have hb1 : base ≤ w1.heap.size := Nat.le_trans hbw G1.out.size
  clear hw1 c0 c1 c2 c3 c4 c5 c6 f1 f2 f3 f4 f5 f6 HB HR HW iw
  obtain ⟨⟨c0, c1, c2, c3, c4, c5, c6⟩, f1, f2, f3, f4, f5, f6⟩ := B1.out.g7
  go_wp2_with (at_builtin; refine append_rec base _ g.recs (at_, s) ⟨w1.heap.size, 0, none⟩ 1 (R1.out.alloc _) (rec_cells w1 at_ s) HN.out (by rw [World.size_alloc]; omega) _ _ rfl rfl rfl rfl ?_; intro v2 u2 h2 hg2; have B2 := hid (blk_row (B1.out.alloc (.cells #[.int .i64 at_, .string s] 111)) (R1.out.alloc (.cells #[.int .i64 at_, .string s] 111)) (by decide) hg2); have W2 := hid (row_row (W1.out.alloc (.cells #[.int .i64 at_, .string s] 111)) (R1.out.alloc (.cells #[.int .i64 at_, .string s] 111)) (by decide) hg2); have R2 := hid h2; have T2 := hid (LT.trans (LT.of_none (grown_alloc G1.out (.cells #[.int .i64 at_, .string s] 111))) (lt_row (b := b) (R1.out.alloc (.cells #[.int .i64 at_, .string s] 111)) (Or.inl rfl) hg2)); obtain ⟨p2, c9, rfl, _⟩ := row_form h2; clear c0 c1 c2 c3 c4 c5 c6 f1 f2 f3 f4 f5 f6; obtain ⟨⟨c0, c1, c2, c3, c4, c5, c6⟩, f1, f2, f3, f4, f5, f6⟩ := B2.out.g7; clear h2 hg2)
  have hv : (Value.slice p2 (g.recs ++ [(at_, s)]).length c9) = .slice p2 (g.recs.length + 1) c9 := by rw [List.length_append]; rfl
  have q := R2.out
  rw [hv] at q
  have GS : u2.grownBy (u2.setCell ⟨b, 1, none⟩ (.slice p2 (g.recs.length + 1) c9)) (some b) := grown_set (grown_refl _ _) 1 _
  have B3 : Hid (Blk (u2.setCell ⟨b, 1, none⟩ (.slice p2 (g.recs.length + 1) c9)) b 87 (rowG g.d (.slice p2 (g.recs.length + 1) c9) (.slice pw g.wait.size cw) g.com g.len g.root g.marked)) := B2.out.set 1 _
  have R3 := hid (rowG_kept q B2.out (by decide) GS)
  have W3 := hid (rowG_kept W2.out B2.out (by decide) GS)
  have T3 := hid (LT.trans T2.out (LT.of_self GS h0))
  have hb3 : base ≤ (u2.setCell ⟨b, 1, none⟩ (.slice p2 (g.recs.length + 1) c9)).heap.size := Nat.le_trans hbw T3.out.size
  clear c0 c1 c2 c3 c4 c5 c6 f1 f2 f3 f4 f5 f6 B1 B2 R1 R2 W1 W2 T2 G1 q GS hv
  generalize u2.setCell ⟨b, 1, none⟩ (.slice p2 (g.recs.length + 1) c9) = w3 at *
  obtain ⟨⟨c0, c1, c2, c3, c4, c5, c6⟩, f1, f2, f3, f4, f5, f6⟩ := B3.out.g7
  clear c0 c1 c2 c3 c5 c6 f1 f2 f3 f5 f6
  go_region_law (first
    | (go_simp; go_at_call 120; refine (CF.out _).mono ?_; rintro e w4 ⟨rfl, hg4⟩; have B4 := hid (B3.out.drew.kept hg4 (by simp)); have G4 : Hid (w3.grownBy w4 none) := grown_trans (grown_drew (grown_refl _ _)) hg4; have W4 := hid (row_none W3.out G4.out); have R4 := hid (row_none R3.out G4.out); have e4 : w4.cell? ⟨b, 4, none⟩ = some (.slice pw g.wait.size cw) := B4.out.cell 4; have e5 := B4.out.frozen 4; have hb4 : base ≤ w4.heap.size := Nat.le_trans hb3 G4.out.size; clear hg4)
    | (refine step_text2 (.tmp 38) (.tmp 41) rfl rfl base _ g.wait F W4.out HZ.out hb4 rfl rfl ?_; intro v5 u5 h5 hg5; have B5 := hid (blk_row B4.out W4.out (by decide) hg5); have R5 := hid (row_row R4.out W4.out (by decide) hg5); have T5 := hid (LT.trans T3.out (LT.trans (LT.of_none G4.out) (lt_row (b := b) W4.out (Or.inr rfl) hg5))); have W5 := hid h5; obtain ⟨p5, k5, rfl, _⟩ := row_form h5; have d4 : u5.cell? ⟨b, 4, none⟩ = some (.slice pw g.wait.size cw) := B5.out.cell 4; have d5 := B5.out.frozen 4; clear h5 hg5))
  all_goals (
    go_wp2
    go_ret2
    have hv : (Value.slice p5 (g.wait ++ F).size k5) = .slice p5 (g.wait.size + F.size) k5 := by rw [ByteArray.size_append]
    have q := W5.out
    rw [hv] at q
    refine ⟨rfl, ⟨h0, .slice p2 (g.recs.length + 1) c9, .slice p5 (g.wait.size + F.size) k5, B5.out.set 4 _, ?_, ?_⟩, LT.trans T5.out (LT.of_self (grown_set (grown_refl _ _) 4 _) h0)⟩
    · exact rowG_kept R5.out B5.out (by decide) (grown_set (grown_refl _ _) 4 _)
    · exact rowG_kept q B5.out (by decide) (grown_set (grown_refl _ _) 4 _))

end Go.Proofs.YtbhmmcelndmijaaGreat
namespace Go.Proofs.YtbhmmcelndmijaaGreat
open Go.RowKit Go.Maps
theorem un_empty : Un ⟨#[]⟩ 0 ⟨#[]⟩ 0 (Wi.unF ⟨#[]⟩ 0) := fun W => Wi.unframe_bad ⟨#[]⟩ 0 W (by decide) (by decide) (by decide +kernel)
theorem drop_new {base b : Nat} {g : Lg} (hc : g.com = g.recs.length) (hl : g.recs.length ≤ 1000000) (hw : g.wait = ⟨#[]⟩) (W : World) (h : IsLog W base b g) : Calls Tryz.prog 62 #[.pointer (some ⟨b, 0, none⟩)] W fun e w' => (∃ m : Nat, e = .returned (.int .i64 m)) ∧ IsLog w' base b g ∧ LT base b W w' := by
  refine (drop_full base b g W h hc hl (by rw [hw]; decide)).mono ?_
  rintro e w' ⟨he, hi, hg⟩
  refine ⟨⟨_, he⟩, ?_, LT.of_self hg h.1⟩
  obtain ⟨a1, a2, a3, a4, a5, a6, a7⟩ := g
  simp only at hw
  subst hw
  exact hi
theorem load_empty (base b d : Nat) (w : World) (h : IsLog w base b (newL d)) : Calls Tryz.prog 37 #[.pointer (some ⟨b, 0, none⟩), .string ⟨#[]⟩] w fun e w' => e = .returned (.tuple #[]) ∧ IsLog w' base b (newL d) ∧ LT base b w w' := by
  refine load_seq base b ⟨#[]⟩ 1 (fun _ => 0) (fun k => decide (k < 1)) (fun _ => newL d) (newL d) w h rfl (fun k hk => decide_eq_true hk) rfl rfl (fun _ => Nat.zero_le _) (fun k hk hr => ?_) (fun k hk W hW => ?_) (fun W hW => drop_new rfl (by show 0 ≤ 1000000; decide) rfl W hW)
  · have := of_decide_eq_true hr
    omega
  · obtain rfl : k = 0 := by omega
    refine (take_bad _ ⟨#[]⟩ ⟨#[]⟩ 0 0 _ W un_empty (by decide +kernel)).mono ?_
    rintro e w' ⟨he, hg⟩
    exact ⟨he, hW.kept hg, LT.of_none hg⟩
def waitA : ByteArray := ⟨#[]⟩ ++ Wi.frmS (⟨#[100]⟩ ++ ⟨#[97]⟩)
def rootA : ByteArray := ⟨#[114, 111, 111, 116]⟩
def fileA : ByteArray := waitA ++ Wi.frmS (⟨#[109]⟩ ++ ⟨#[114, 111, 111, 116]⟩)
theorem fileA_size : fileA.size = 23 := by decide +kernel
theorem un_a : Un fileA 0 (⟨#[100]⟩ ++ ⟨#[97]⟩) 10 0 := fun W => Wi.unframe_in fileA 0 W (by rw [fileA_size]; decide) (by decide) (by decide +kernel) _ 10 0 (Or.inl ⟨by decide +kernel, bytes_ext (by decide +kernel), by decide +kernel, rfl⟩)
theorem un_m : Un fileA 10 (⟨#[109]⟩ ++ ⟨#[114, 111, 111, 116]⟩) 23 0 := fun W => Wi.unframe_in fileA 10 W (by rw [fileA_size]; decide) (by rw [fileA_size]; decide) (by decide +kernel) _ 23 0 (Or.inl ⟨by decide +kernel, bytes_ext (by decide +kernel), by decide +kernel, rfl⟩)
theorem un_e : Un fileA 23 ⟨#[]⟩ 0 (Wi.unF fileA 23) := fun W => Wi.unframe_bad fileA 23 W (by rw [fileA_size]; decide) (by rw [fileA_size]; decide) (by decide +kernel)
def seqA : Nat → Nat
  | 0 => 0
  | 1 => 10
  | 2 => 23
  | _ => 0
/-- The log of that file. -/
def logA (d : Nat) : Lg := ⟨d, [(0, ⟨#[97]⟩)], 1, 23, ⟨#[]⟩, ⟨#[114, 111, 111, 116]⟩, true⟩
def seqG (d : Nat) : Nat → Lg
  | 0 => newL d
  | 1 => { newL d with recs := [] ++ [(0, ⟨#[97]⟩)] }
  | _ => logA d
theorem load_file (base b d : Nat) (w : World) (h : IsLog w base b (newL d)) : Calls Tryz.prog 37 #[.pointer (some ⟨b, 0, none⟩), .string fileA] w fun e w' => e = .returned (.tuple #[]) ∧ IsLog w' base b (logA d) ∧ LT base b w w' := by
  refine load_seq base b fileA 3 seqA (fun k => decide (k < 3)) (seqG d) (logA d) w h rfl (fun k hk => decide_eq_true hk) rfl rfl (fun k => ?_) (fun k hk hr => ?_) (fun k hk W hW => ?_) (fun W hW => drop_new rfl (by show 1 ≤ 1000000; decide) rfl W hW)
  · rw [fileA_size]
    match k with
    | 0 => decide
    | 1 => decide
    | 2 => decide
    | _ + 3 => exact Nat.zero_le _
  · have := of_decide_eq_true hr
    match k, hk with
    | 0, _ => decide
    | 1, _ => decide
    | 2, _ => omega
  · match k, hk with
    | 0, _ => exact take_rec base b (newL d) fileA ⟨#[97]⟩ 0 10 W hW (by show 0 ≤ 1000000; decide) un_a (by decide)
    | 1, _ => exact take_mark base b (seqG d 1) fileA ⟨#[114, 111, 111, 116]⟩ 10 23 W hW (by show 1 ≤ _; decide) un_m (by decide)
    | 2, _ =>
      refine (take_bad _ fileA ⟨#[]⟩ 23 0 _ W un_e (by decide +kernel)).mono ?_
      rintro e w' ⟨he, hg⟩
      exact ⟨he, hW.kept hg, LT.of_none hg⟩
end Go.Proofs.YtbhmmcelndmijaaGreat
