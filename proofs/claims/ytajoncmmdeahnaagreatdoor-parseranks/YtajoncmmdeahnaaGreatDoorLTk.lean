/-
  Rows of words in memory; the program's Tokens.
-/
import Derived.Test.YtajoncmmdeahnaaGreatDoorKLWt
import Derived.Test.YtajoncmmdeahnaaGreatDoorLClone
import Derived.Laws.OwnMore
import Derived.Laws.AppendOwnNone
import Derived.OwnWalk
namespace Go.Proofs.YtajoncmmdeahnaaGreatDoor.Lw
open Go.RowKit
def tkS (t : Tk) : ByteArray := ⟨t.s.toArray⟩
def tokC (t : Tk) : List Value := [.int .i64 t.kind, .string (tkS t), .int .i64 t.pl]
def toksC (l : List Tk) : List Value := l.flatMap tokC
def Toks (w : World) (T base : Nat) (v : Value) (l : List Tk) : Prop := w.ownsRow base T 3 v l.length (toksC l)
theorem toksC_snoc (l : List Tk) (t : Tk) : toksC l ++ tokC t = toksC (l ++ [t]) := by
  unfold toksC
  rw [List.flatMap_append, List.flatMap_cons, List.flatMap_nil, List.append_nil]
theorem toksC_get : ∀ (l : List Tk) (k : Nat), (h : k < l.length) → (toksC l)[k * 3]? = some (.int .i64 l[k].kind) ∧ (toksC l)[k * 3 + 1]? = some (.string (tkS l[k])) ∧ (toksC l)[k * 3 + 2]? = some (.int .i64 l[k].pl)
  | [], k, h => absurd h (Nat.not_lt_zero _)
  | p :: r, 0, _ => ⟨rfl, rfl, rfl⟩
  | p :: r, k + 1, h => by
    have ih := toksC_get r k (by simpa using h)
    have e : toksC (p :: r) = .int .i64 p.kind :: .string (tkS p) :: .int .i64 p.pl :: toksC r := by
      unfold toksC
      rw [List.flatMap_cons]
      rfl
    rw [e, show (k + 1) * 3 = k * 3 + 1 + 1 + 1 by omega, show k * 3 + 1 + 1 + 1 + 1 = (k * 3 + 1) + 1 + 1 + 1 by omega, show k * 3 + 1 + 1 + 1 + 2 = (k * 3 + 2) + 1 + 1 + 1 by omega]
    simp only [List.getElem?_cons_succ, List.getElem_cons_succ]
    exact ih
theorem add_at (g o j : Nat) : (⟨g, o, none⟩ : Addr).add j = ⟨g, o + j, none⟩ := by
  by_cases h : j = 0
  · subst h; simp [Addr.add]
  · simp [Addr.add, h]
theorem row_form {w : World} {base e size n : Nat} {v : Value} {xs : List Value} (h : w.ownsRow base e size v n xs) : ∃ pa cap, v = .slice pa n cap ∧ n ≤ cap ∧ cap ≤ maxLen ∧ (pa = none → cap = 0) := by
  rcases h.2 with ⟨rfl, rfl⟩ | ⟨g, cap, cur, rfl, _, _, hc, hm, _⟩
  · exact ⟨none, 0, rfl, Nat.le_refl _, Nat.zero_le _, fun _ => rfl⟩
  · exact ⟨_, cap, rfl, hc, hm, fun e => by cases e⟩
theorem row_none {w w' : World} {base e size n : Nat} {v : Value} {xs : List Value} (h : w.ownsRow base e size v n xs) (hg : w.grownBy w' none) : w'.ownsRow base e size v n xs := by
  refine h.kept hg ?_
  cases v.ownBlock with
  | none => exact Or.inl rfl
  | some x => exact Or.inr (by simp)
theorem grown_own {w0 w w' : World} {e size n : Nat} {v : Value} {xs : List Value} (hg : w0.grownBy w none) (h : w.ownsRow w0.heap.size e size v n xs) (h2 : w.grownBy w' v.ownBlock) : w0.grownBy w' none := by
  rcases h.2 with ⟨rfl, rfl⟩ | ⟨g, cap, cur, rfl, hb, _⟩
  · exact grown_none hg h2
  · exact grown_through hg h2 hb
theorem Toks.nil (w : World) (T base : Nat) : Toks w T base (.slice none 0 0) [] := ⟨rfl, Or.inl ⟨rfl, rfl⟩⟩
theorem Toks.kept {w w' : World} {T base : Nat} {v : Value} {l : List Tk} (h : Toks w T base v l) (hg : w.grownBy w' none) : Toks w' T base v l := row_none h hg
theorem Toks.cell {w : World} {T base : Nat} {pa : Option Addr} {n c : Nat} {l : List Tk} (h : Toks w T base (.slice pa n c) l) (k : Nat) (hk : k < l.length) :
    ∃ g, pa = some ⟨g, 0, none⟩ ∧ w.cell? ⟨g, k * 3, none⟩ = some (.int .i64 l[k].kind) ∧ w.cell? ⟨g, k * 3 + 1, none⟩ = some (.string (tkS l[k])) ∧ w.cell? ⟨g, k * 3 + 2, none⟩ = some (.int .i64 l[k].pl) := by
  obtain ⟨pa', c', e, _⟩ := row_form h
  injection e with e1 e2 e3
  subst e1; subst e2; subst e3
  have h0 : w.ownsRow base T 3 (.slice pa l.length c) l.length (toksC l) := h
  rcases h.2 with ⟨_, e⟩ | ⟨g, cap, cur, e, _⟩
  · omega
  · injection e with e1 e2 e3
    subst e1
    obtain ⟨q1, q2, q3⟩ := toksC_get l k hk
    refine ⟨g, rfl, ?_, ?_, ?_⟩
    · rw [h0.cellAt (k * 3) (by omega), q1]
    · rw [h0.cellAt (k * 3 + 1) (by omega), q2]
    · rw [h0.cellAt (k * 3 + 2) (by omega), q3]
theorem info31 : (Tryz.prog.info? 88).map (fun i => (i.zero, i.size, i.bytes)) = some (some (.agg #[.int .i64 0, .string ⟨#[]⟩, .int .i64 0]), 3, 32) := by kernel_rfl
theorem tok_cells (w : World) (T : Nat) (t : Tk) : ∀ j u, (tokC t)[j]? = some u → (w.alloc (.cells #[.int .i64 t.kind, .string (tkS t), .int .i64 t.pl] T)).cell? ((⟨w.heap.size, 0, none⟩ : Addr).add j) = some u := by
  intro j u hj
  have B := Blk.new w T #[.int .i64 t.kind, .string (tkS t), .int .i64 t.pl]
  rw [add_at, B.cell, Nat.zero_add]
  match j, hj with
  | 0, h => exact h
  | 1, h => exact h
  | 2, h => exact h
  | k + 3, h => exact absurd h (by simp [tokC])
theorem tok_one (t : Tk) : ∀ u ∈ tokC t, u.oneCell' = true := by
  intro u hu
  unfold tokC at hu
  simp only [List.mem_cons, List.not_mem_nil, or_false] at hu
  rcases hu with rfl | rfl | rfl <;> rfl
section
variable {ops : Array Oper} {rest : List Oper} {o : Oper} {a : Act} {Q : Exit → Act → World → Prop} {w : World}
theorem append_tok (base : Nat) (v : Value) (l : List Tk) (t : Tk) (ad : Addr) (cc : Nat) (hrow : Toks w 88 base v l) (hcell : ∀ j u, (tokC t)[j]? = some u → w.cell? (ad.add j) = some u) (hl : l.length ≤ 1000000) (hbase : base ≤ w.heap.size) (s x : Operand)
    (hgd : o.guard = none) (ho : o.op = .call { callee := .builtin .append, args := #[s, x], argTypes := #[48, 48] }) (hs : a.eval s = v) (hx : a.eval x = .slice (some ad) 1 cc)
    (h : ∀ v' w', Toks w' 88 base v' (l ++ [t]) → w.grownBy w' v.ownBlock → wpList Tryz.prog ops Q rest (a.put o.dst v') w') : wpList Tryz.prog ops Q (o :: rest) a w := by
  obtain ⟨i31, hi, hz0, hz1, hz2⟩ := info_parts info31
  refine wpList_append_own w hgd s x 48 ho base 88 i31 _ 3 32 Tryz.underlying48 hi hz0 hz1 hz2 rfl (by decide) v l.length (toksC l) hs hrow ad 1 cc (tokC t) hx rfl hcell (tok_one t) (by unfold maxLen; omega) (by omega) hbase ?_
  intro v' w' h2 h3 _
  rw [toksC_snoc] at h2
  exact h v' w' (by unfold Toks; rw [List.length_append]; exact h2) h3
end
def TokPost (T : Nat) (w : World) (x : Except Nat (List Tk)) (e : Ending) (w' : World) : Prop := match x with
  | .ok l => ∃ v, e = .returned (.tuple #[v, .int .i64 0, .int .i64 0]) ∧ Toks w' T w.heap.size v l ∧ w.grownBy w' none
  | .error p => e = .returned (.tuple #[.slice none 0 0, .int .i64 p, .int .i64 90]) ∧ w.grownBy w' none
theorem drop_gap (s : ByteArray) (k : Nat) (hk : k ≤ s.size) : s.toList.drop (gapE s k) = skip (s.toList.drop k) := by
  rw [skip_drop (s.toList.drop k)]
  unfold gapE
  have := skip_le (s.toList.drop k)
  rw [List.length_drop, size_toList] at this ⊢
  rw [List.drop_drop]
  congr 1
  omega
theorem gapE_le (s : ByteArray) (k : Nat) : gapE s k ≤ s.size := by unfold gapE; omega
theorem gapE_ge (s : ByteArray) (k : Nat) (hk : k ≤ s.size) : k ≤ gapE s k := by
  unfold gapE
  have := skip_le (s.toList.drop k)
  rw [List.length_drop, size_toList] at this
  omega
theorem toks_step (s : ByteArray) (j : Nat) (hj : j < s.size) (h : wordK (s.toList.drop j) ≠ 0) (a : List Tk) :
    ahead a (toksA s.size (s.toList.drop j)) = ahead (a ++ [⟨wordK (s.toList.drop j), (s.toList.drop j).take (wordN (s.toList.drop j)), j⟩]) (toksA s.size (s.toList.drop (gapE s (j + wordN (s.toList.drop j)))))
    ∧ 1 ≤ wordN (s.toList.drop j) ∧ j + wordN (s.toList.drop j) ≤ s.size := by
  have h1 := wordN_le (s.toList.drop j)
  rw [List.length_drop, size_toList] at h1
  have ed := drop_at s j hj
  refine ⟨?_, ?_, by omega⟩
  · rw [drop_gap s _ (by omega), ← List.drop_drop]
    have := toksA_ok s.size s[j] (s.toList.drop (j + 1)) (by rw [← ed]; exact h) a
    rw [← ed, List.length_drop, size_toList, show s.size - (s.size - j) = j by omega] at this
    exact this
  · rw [ed] at h ⊢
    exact wordN_pos _ _ h
theorem toks_bad (s : ByteArray) (j : Nat) (hj : j < s.size) (h : wordK (s.toList.drop j) = 0) (a : List Tk) : ahead a (toksA s.size (s.toList.drop j)) = .error j := by
  have ed := drop_at s j hj
  have := toksA_bad s.size s[j] (s.toList.drop (j + 1)) (by rw [← ed]; exact h)
  rw [← ed, List.length_drop, size_toList, show s.size - (s.size - j) = j by omega] at this
  rw [this]
  rfl
theorem toks_end (s : ByteArray) (j : Nat) (hj : ¬ j < s.size) (a : List Tk) : ahead a (toksA s.size (s.toList.drop j)) = .ok (a ++ [⟨0, [], s.size⟩]) := by
  rw [drop_end s j hj, toksA_nil]
  rfl
theorem tkS_extract (s : ByteArray) (k j n p : Nat) : tkS ⟨k, (s.toList.drop j).take n, p⟩ = s.extract j (j + n) := by
  apply bytes_ext
  rw [← ByteArray.toList_eq (s.extract j (j + n)), extract_take]
  rfl
set_option maxRecDepth 100000 in
set_option maxHeartbeats 2000000 in
theorem tokens_any (s : ByteArray) (w : World) (hs : s.size ≤ 4096) : Calls Tryz.prog 19 #[.string s] w (TokPost 88 w (toks s.toList)) := by
  have hs1 : (s.size : Int) ≤ 4096 := by omega
  have hs2 : ¬ (4096 : Int) < s.size := by omega
  have hs3 : (s.size : Int) ≤ 9223372036854775807 := by omega
  rw [toks_eq, size_toList]
  obtain ⟨RES, hR⟩ : ∃ RES, toksA s.size (skip s.toList) = RES := ⟨_, rfl⟩
  rw [hR]
  have H0 : Hid (ahead [] (toksA s.size (s.toList.drop (gapE s 0))) = RES) := by
    rw [drop_gap s 0 (Nat.zero_le _), List.drop_zero, ahead_nil]
    exact hR
  clear hR
  have CG : Hid (∀ W (k : Nat), k ≤ s.size → Calls Tryz.prog 35 #[.string s, .int .i64 k] W fun e w' => e = .returned (.int .i64 (gapE s k)) ∧ w' = W) := fun W k hk => behindGap_any s k W hk hs3
  have CW : Hid (∀ W (k : Nat), k < s.size → Calls Tryz.prog 36 #[.string s, .int .i64 k] W fun e w' => e = .returned (.tuple #[.int .i64 (wordK (s.toList.drop k)), .int .i64 (k + wordN (s.toList.drop k) : Nat)]) ∧ W.grownBy w' none) := fun W k hk => wordAt_any s k W hk hs1
  have C0 : Hid (Calls Tryz.prog 35 #[.string s, .int .i64 0] w fun e w' => e = .returned (.int .i64 (gapE s 0)) ∧ w' = w) := CG.out w 0 (Nat.zero_le _)
  have g0 := gapE_le s 0
  obtain ⟨P, hP⟩ : ∃ P, TokPost 88 w RES = P := ⟨_, rfl⟩
  have HP : Hid (TokPost 88 w RES = P) := hP
  rw [hP]
  clear hP
  go_enter Tryz.func19, Tryz.ntmps19
  go_wp2_with (go_at_call 35; refine C0.out.mono ?_; rintro e w1 ⟨rfl, hw1⟩; replace hw1 := hw1.symm; subst hw1; clear C0)
  go_loopw [5, 6] (fun v i wr => ∃ (acc : List Tk) (j : Nat), j ≤ s.size ∧ i = .int .i64 j ∧ Hid (ahead acc (toksA s.size (s.toList.drop j)) = RES) ∧ Toks wr 88 w.heap.size v acc ∧ w.grownBy wr none ∧ acc.length ≤ j) (fun _ i _ => s.size - (intOf i).toNat)
  case atStart => exact ⟨[], gapE s 0, g0, rfl, H0, Toks.nil _ _ _, grown_refl _ _, Nat.zero_le _⟩
  case round =>
    obtain ⟨acc, j, hj, rfl, HJ, ht, hg, ha⟩ := hrel
    have TT := hid ht
    have GG := hid hg
    obtain ⟨pa, cap, rfl, _⟩ := row_form ht
    clear ht hg H0 g0
    have j0 : (0 : Int) ≤ j := by omega
    have hbase := hid GG.out.size
    by_cases hlt : j < s.size
    · have j1 : (j : Int) < s.size := by omega
      have C1 := hid (CW.out wr j hlt)
      by_cases hK : wordK (s.toList.drop j) = 0
      · have e := HJ.out
        rw [toks_bad s j hlt hK] at e
        subst e
        rw [hK] at C1
        generalize j + wordN (s.toList.drop j) = z at *
        clear HJ hK TT CG CW
        go_wp2_with (go_at_call 36; refine C1.out.mono ?_; rintro e w2 ⟨rfl, hg⟩; have G2 := hid (grown_none GG.out hg); clear C1 hg)
        go_ret3
        rw [← HP.out]
        exact ⟨rfl, G2.out⟩
      · obtain ⟨e1, e2, e3⟩ := toks_step s j hlt hK acc
        have eS := tkS_extract s (wordK (s.toList.drop j)) j (wordN (s.toList.drop j)) j
        have NX := hid (e1.symm.trans HJ.out)
        clear e1 HJ
        obtain ⟨tk, etk⟩ : ∃ tk : Tk, tk = ⟨wordK (s.toList.drop j), (s.toList.drop j).take (wordN (s.toList.drop j)), j⟩ := ⟨_, rfl⟩
        have t1 : wordK (s.toList.drop j) = tk.kind := by rw [etk]
        have t2 : tk.pl = j := by rw [etk]
        rw [← etk] at NX eS
        rw [t1] at C1 hK
        clear etk t1
        obtain ⟨z, ez⟩ : ∃ z, j + wordN (s.toList.drop j) = z := ⟨_, rfl⟩
        have jz : j + 1 ≤ z := by omega
        rw [ez] at C1 eS NX e3
        clear e2 ez CW
        have C2 : Hid (∀ W, Calls Tryz.prog 37 #[.string (s.extract j z)] W fun e w' => e = .returned (.string (s.extract j z)) ∧ W.grownBy w' none) := fun W => clone_any _ W (by rw [ByteArray.size_extract]; omega)
        have C3 : Hid (∀ W, Calls Tryz.prog 35 #[.string s, .int .i64 z] W fun e w' => e = .returned (.int .i64 (gapE s z)) ∧ w' = W) := fun W => CG.out W z e3
        have g1 := gapE_le s z
        have g2 := gapE_ge s z e3
        generalize gapE s z = y at *
        obtain ⟨kd, S, pl⟩ := tk
        simp only at t2 hK C1
        subst t2
        have hk0 : ((kd : Int) == 0) = false := by simp; exact hK
        have hk1 : ¬ ((kd : Int) = 0) := by omega
        have z0 : (pl : Int) ≤ z := by omega
        have z1 : (z : Int) ≤ s.size := by omega
        have ES := hid eS
        clear CG hK eS
        go_wp2_with (first
          | (go_at_call 36; refine C1.out.mono ?_; rintro e w2 ⟨rfl, hg⟩; have G2 := hid (grown_none GG.out hg); have T2 := hid (TT.out.kept hg); clear C1 hg GG TT hbase)
          | (go_at_call 37; refine (C2.out _).mono ?_; rintro e w3 ⟨rfl, hg⟩; have G3 := hid (grown_none G2.out hg); have T3 := hid (T2.out.kept hg); clear C2 hg G2 T2)
          | (at_builtin; refine append_tok w.heap.size _ acc ⟨kd, S, pl⟩ ⟨w3.heap.size, 0, none⟩ 1 (T3.out.kept (grown_alloc (grown_refl _ _) _)) (by have := tok_cells w3 88 ⟨kd, S, pl⟩; rw [ES.out] at this; exact this) (by omega) (by rw [World.size_alloc]; have := G3.out.size; omega) _ _ rfl rfl rfl rfl ?_; intro v4 w4 h4 hg4; have G4 := hid (grown_own (grown_alloc G3.out _) (T3.out.kept (grown_alloc (grown_refl _ _) _)) hg4); have T4 := hid h4; obtain ⟨pb, cb, rfl, _⟩ := row_form h4; rw [List.length_append] at T4; clear h4 hg4)
          | (go_at_call 35; refine (C3.out _).mono ?_; rintro e w5 ⟨rfl, hw5⟩; replace hw5 := hw5.symm; subst hw5; clear C3))
        go_round
        case rel => exact ⟨acc ++ [⟨kd, S, pl⟩], y, g1, rfl, NX, T4.out, G4.out, by rw [List.length_append]; simp; omega⟩
        case measure => simp [intOf]; omega
    · have j1 : ¬ (j : Int) < s.size := by omega
      have e := HJ.out
      rw [toks_end s j hlt] at e
      subst e
      clear HJ CG CW
      have ES : Hid (tkS ⟨0, [], s.size⟩ = ⟨#[]⟩) := rfl
      go_wp2_with (at_builtin; refine append_tok w.heap.size _ acc ⟨0, [], s.size⟩ ⟨wr.heap.size, 0, none⟩ 1 (TT.out.kept (grown_alloc (grown_refl _ _) _)) (by have := tok_cells wr 88 ⟨0, [], s.size⟩; rw [ES.out] at this; exact this) (by omega) (by rw [World.size_alloc]; have := GG.out.size; omega) _ _ rfl rfl rfl rfl ?_; intro v4 w4 h4 hg4; have G4 := hid (grown_own (grown_alloc GG.out _) (TT.out.kept (grown_alloc (grown_refl _ _) _)) hg4); have T4 := hid h4; obtain ⟨pb, cb, rfl, _⟩ := row_form h4; rw [List.length_append] at T4; clear h4 hg4)
      go_ret3
      rw [← HP.out]
      exact ⟨_, rfl, T4.out, G4.out⟩
end Go.Proofs.YtajoncmmdeahnaaGreatDoor.Lw
