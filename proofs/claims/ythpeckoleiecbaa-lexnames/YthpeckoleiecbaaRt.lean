/-
  The document's own Tokens.
-/
import Derived.Test.YthpeckoleiecbaaRg
import Derived.Test.YthpeckoleiecbaaTk
namespace Go.Proofs.Ythpeckoleiecbaa
open Go.RowKit
theorem nameK_run (s : ByteArray) (k : Nat) (hk : k < s.size) (hL : isL s[k] = true) : nameK ((s.toList.drop k).takeWhile isLD) = if wordL (s.extract k (k + runN isLD (s.toList.drop k))).toList then 4 else if runN isLD (s.toList.drop k) ≤ 16 then 1 else 0 := by
  rw [extract_take, ← takeWhile_take]
  unfold nameK
  have ed := drop_at s k hk
  have hc : ∃ r, (s.toList.drop k).takeWhile isLD = s[k] :: r := by
    rw [ed, List.takeWhile_cons_of_pos (isLD_of_isL hL)]
    exact ⟨_, rfl⟩
  obtain ⟨r, hr⟩ := hc
  cases hw : wordL ((s.toList.drop k).takeWhile isLD) with
  | true => rfl
  | false =>
    have e : nameL ((s.toList.drop k).takeWhile isLD) = decide (runN isLD (s.toList.drop k) ≤ 16) := by
      have ha := takeWhile_all isLD (s.toList.drop k)
      unfold runN
      rw [hr] at ha hw ⊢
      rw [nameL_cons, hL, ha, hw]
      simp
    rw [e]
    simp
theorem isD_notL {c : UInt8} (h : isD c = true) : isL c = false := by
  rw [isD_iff] at h
  rw [isL_iff, ← Bool.not_eq_true]
  simp at h ⊢
  omega
theorem Toks.new (w : World) (T base : Nat) (hb : base ≤ w.heap.size) : Toks (w.alloc (.cells #[] T)) T base (.slice (some ⟨w.heap.size, 0, none⟩) 0 0) [] :=
  ⟨rfl, Or.inr ⟨w.heap.size, 0, #[], rfl, hb, Blk.new w T _, Nat.le_refl _, Nat.zero_le _, rfl, rfl⟩⟩
set_option maxRecDepth 100000 in
set_option maxHeartbeats 4000000 in
theorem refTokens_any (s : ByteArray) (w : World) (hs : s.size ≤ 4096) : Calls Try.prog 8 #[.string s] w (TokPost 32 w (toks s.toList)) := by
  have hs1 : (s.size : Int) ≤ 4096 := by omega
  have hs2 : ¬ (4096 : Int) < s.size := by omega
  have hs3 : (s.size : Int) ≤ 9223372036854775807 := by omega
  rw [toks_eq, size_toList]
  obtain ⟨RES, hR⟩ : ∃ RES, toksA s.size (skip s.toList) = RES := ⟨_, rfl⟩
  rw [hR]
  have H0 : Hid (ahead [] (toksA s.size (s.toList.drop (gapE s 0))) = RES) := by
    rw [drop_gap s 0 (Nat.zero_le _), List.drop_zero, ahead_nil]
    exact hR
  clear hR
  have CG : Hid (∀ W (k : Nat), k ≤ s.size → Calls Try.prog 17 #[.string s, .int .i64 k] W fun e w' => e = .returned (.int .i64 (gapE s k)) ∧ w' = W) := fun W k hk => refSkip_any s k W hk hs1
  have C0 : Hid (∀ W, Calls Try.prog 17 #[.string s, .int .i64 0] W fun e w' => e = .returned (.int .i64 (gapE s 0)) ∧ w' = W) := fun W => CG.out W 0 (Nat.zero_le _)
  have g0 := gapE_le s 0
  obtain ⟨P, hP⟩ : ∃ P, TokPost 32 w RES = P := ⟨_, rfl⟩
  have HP : Hid (TokPost 32 w RES = P) := hP
  rw [hP]
  clear hP
  have T0 := hid (Toks.new w 32 w.heap.size (Nat.le_refl _))
  go_enter Try.func8, Try.ntmps8
  go_wp2_with (go_at_call 17; refine (C0.out _).mono ?_; rintro e w1 ⟨rfl, hw1⟩; replace hw1 := hw1.symm; subst hw1; clear C0)
  go_loopw [5, 6] (fun v i wr => ∃ (acc : List Tk) (j : Nat), j ≤ s.size ∧ i = .int .i64 j ∧ Hid (ahead acc (toksA s.size (s.toList.drop j)) = RES) ∧ Toks wr 32 w.heap.size v acc ∧ w.grownBy wr none ∧ acc.length ≤ j) (fun _ i _ => s.size - (intOf i).toNat)
  case atStart => exact ⟨[], gapE s 0, g0, rfl, H0, T0.out, grown_alloc (grown_refl _ _) _, Nat.zero_le _⟩
  case round =>
    obtain ⟨acc, j, hj, rfl, HJ, ht, hg, ha⟩ := hrel
    have TT := hid ht
    have GG := hid hg
    obtain ⟨pa, cap, rfl, _⟩ := row_form ht
    clear ht hg H0 g0 T0
    have j0 : (0 : Int) ≤ j := by omega
    by_cases hlt : j < s.size
    · have j1 : (j : Int) < s.size := by omega
      have CD : Hid (∀ W, Calls Try.prog 18 #[Value.int .u8 s[j].toNat] W fun e w' => e = .returned (.bool (isD s[j])) ∧ w' = W) := fun W => refDigit_any s[j] W
      have CL : Hid (∀ W, Calls Try.prog 20 #[Value.int .u8 s[j].toNat] W fun e w' => e = .returned (.bool (isL s[j])) ∧ w' = W) := fun W => refLetter_any s[j] W
      have ed := drop_at s j hlt
      have eK : wordK (s.toList.drop j) = if isL s[j] then nameK ((s.toList.drop j).takeWhile isLD) else if isD s[j] then numK (s.toList.drop j) else if signN (s.toList.drop j) = 0 then 0 else 5 := by
        rw [ed]; exact wordK_cons _ _
      have eN : wordN (s.toList.drop j) = if isL s[j] then runN isLD (s.toList.drop j) else if isD s[j] then numN (s.toList.drop j) else signN (s.toList.drop j) := by
        rw [ed]; exact wordN_cons _ _
      clear ed
      cases hD : isD s[j] with
      | true =>
        have hL : isL s[j] = false := isD_notL hD
        rw [hL, hD] at eK eN
        simp only [Bool.false_eq_true, if_false, if_true] at eK eN
        have CN : Hid (∀ W, Calls Try.prog 19 #[.string s, .int .i64 j] W fun e w' => e = .returned (.tuple #[.int .i64 (numK (s.toList.drop j)), .int .i64 (j + numN (s.toList.drop j) : Nat)]) ∧ W.grownBy w' none) := fun W => refNumber_any s j W hlt hs1 hD
        rw [hD] at CD
        rw [← eK, ← eN] at CN
        clear eK eN hL CL hD
        by_cases hK : wordK (s.toList.drop j) = 0
        · have e := HJ.out
          rw [toks_bad s j hlt hK] at e
          subst e
          rw [hK] at CN
          generalize j + wordN (s.toList.drop j) = z at *
          clear HJ hK CG
          go_wp2_with (first
            | (go_at_call 18; refine (CD.out _).mono ?_; rintro e w1 ⟨rfl, hw1⟩; replace hw1 := hw1.symm; subst hw1; clear CD)
            | (go_at_call 19; refine (CN.out _).mono ?_; rintro e w2 ⟨rfl, hg⟩; have G2 := hid (grown_none GG.out hg); have T2 := hid (TT.out.kept hg); clear CN hg))
          go_ret3
          rw [← HP.out]
          exact ⟨rfl, G2.out⟩
        · obtain ⟨e1, e2, e3⟩ := toks_step s j hlt hK acc
          have eS := tkS_extract s (wordK (s.toList.drop j)) j (wordN (s.toList.drop j)) j
          have NX := hid (e1.symm.trans HJ.out)
          clear e1 HJ
          obtain ⟨tk, etk⟩ : ∃ tk : Tk, tk = ⟨wordK (s.toList.drop j), (s.toList.drop j).take (wordN (s.toList.drop j)), j⟩ := ⟨_, rfl⟩
          have t1 : wordK (s.toList.drop j) = tk.kind := by rw [etk]
          have t2 : tk.pl = j := by rw [etk]
          rw [← etk] at NX eS
          rw [t1] at CN hK
          clear etk t1
          obtain ⟨z, ez⟩ : ∃ z, j + wordN (s.toList.drop j) = z := ⟨_, rfl⟩
          have jz : j + 1 ≤ z := by omega
          rw [ez] at CN eS NX e3
          have C3 : Hid (∀ W, Calls Try.prog 17 #[.string s, .int .i64 z] W fun e w' => e = .returned (.int .i64 (gapE s z)) ∧ w' = W) := fun W => CG.out W z e3
          have g1 := gapE_le s z
          have g2 := gapE_ge s z e3
          clear e2 ez
          generalize gapE s z = y at *
          obtain ⟨kd, S, pl⟩ := tk
          simp only at t2 hK CN
          subst t2
          have hk0 : ((kd : Int) == 0) = false := by simp; exact hK
          have hk1 : ¬ ((kd : Int) = 0) := by omega
          have z0 : (pl : Int) ≤ z := by omega
          have z1 : (z : Int) ≤ s.size := by omega
          have ES := hid eS
          clear CG eS HP
          go_wp2_with (first
            | (go_at_call 18; refine (CD.out _).mono ?_; rintro e w1 ⟨rfl, hw1⟩; replace hw1 := hw1.symm; subst hw1; clear CD)
            | (go_at_call 19; refine (CN.out _).mono ?_; rintro e w2 ⟨rfl, hg⟩; have G2 := hid (grown_none GG.out hg); have T2 := hid (TT.out.kept hg); clear CN hg)
            | (at_builtin; refine append_tok2 w.heap.size _ acc ⟨kd, S, pl⟩ ⟨w2.heap.size, 0, none⟩ 1 (T2.out.kept (grown_alloc (grown_refl _ _) _)) (by have := tok_cells w2 32 ⟨kd, S, pl⟩; rw [ES.out] at this; exact this) (by omega) (by rw [World.size_alloc]; have := G2.out.size; omega) _ _ rfl rfl rfl rfl ?_; intro v4 w4 h4 hg4; have G4 := hid (grown_own (grown_alloc G2.out _) (T2.out.kept (grown_alloc (grown_refl _ _) _)) hg4); have T4 := hid h4; obtain ⟨pb, cb, rfl, _⟩ := row_form h4; rw [List.length_append] at T4; clear h4 hg4)
            | (go_at_call 17; refine (C3.out _).mono ?_; rintro e w5 ⟨rfl, hw5⟩; replace hw5 := hw5.symm; subst hw5; clear C3))
          go_round
          case rel => exact ⟨acc ++ [⟨kd, S, pl⟩], y, g1, rfl, NX, T4.out, G4.out, by rw [List.length_append]; simp; omega⟩
          case measure => simp [intOf]; omega
      | false =>
        rw [hD] at CD
        cases hL : isL s[j] with
        | true =>
          rw [hL] at CL eK eN
          simp only [if_true] at eK eN
          rw [nameK_run s j hlt hL] at eK
          have hle := run_le s isLD j (by omega)
          obtain ⟨x, hx⟩ : ∃ x, j + runN isLD (s.toList.drop j) = x := ⟨_, rfl⟩
          have HX : Hid (j + runN isLD (s.toList.drop j) = x) := hx
          have eX : j + wordN (s.toList.drop j) = x := by rw [eN]; exact hx
          rw [show runN isLD (s.toList.drop j) = x - j by omega, show j + (x - j) = x by omega] at eK
          rw [hx] at hle
          have hD' := hid hD
          clear eN hx hL hD
          go_wp2_with (first
            | (go_at_call 18; refine (CD.out _).mono ?_; rintro e w1 ⟨rfl, hw1⟩; replace hw1 := hw1.symm; subst hw1; clear CD)
            | (go_at_call 20; refine (CL.out _).mono ?_; rintro e w1 ⟨rfl, hw1⟩; replace hw1 := hw1.symm; subst hw1; clear CL))
          go_loop [8] (fun i => ∃ y : Nat, j ≤ y ∧ y ≤ s.size ∧ i = .int .i64 y ∧ Hid (y + runN isLD (s.toList.drop y) = x)) (fun i => s.size - (intOf i).toNat)
          case atStart => exact ⟨j, Nat.le_refl _, hj, rfl, HX⟩
          case round =>
            obtain ⟨q, hjq, hq, rfl, HQ⟩ := hrel
            clear HX
            have q0 : (0 : Int) ≤ q := by omega
            by_cases hlq : q < s.size
            · have q1 : (q : Int) < s.size := by omega
              have DD : Hid (∀ W, Calls Try.prog 18 #[Value.int .u8 s[q].toNat] W fun e w' => e = .returned (.bool (isD s[q])) ∧ w' = W) := fun W => refDigit_any s[q] W
              have LL : Hid (∀ W, Calls Try.prog 20 #[Value.int .u8 s[q].toNat] W fun e w' => e = .returned (.bool (isL s[q])) ∧ w' = W) := fun W => refLetter_any s[q] W
              have HQ2 := HQ.out
              rw [drop_at s q hlq] at HQ2
              clear HQ
              cases hLq : isL s[q] with
              | true =>
                rw [run_pos isLD _ _ (isLD_of_isL hLq)] at HQ2
                have NX : Hid (q + 1 + runN isLD (s.toList.drop (q + 1)) = x) := by show _ = _; omega
                rw [hLq] at LL
                clear HQ2 hLq DD HJ TT GG CG HP eK eX
                go_wp2_with (first
                  | (go_at_call 20; refine (LL.out _).mono ?_; rintro e w1 ⟨rfl, hw1⟩; replace hw1 := hw1.symm; subst hw1; clear LL))
                go_round
                case rel => exact ⟨q + 1, by omega, by omega, by go_num, NX⟩
                case measure => simp [intOf]; omega
              | false =>
                cases hDq : isD s[q] with
                | true =>
                  rw [run_pos isLD _ _ (by unfold isLD; rw [hDq, Bool.or_true])] at HQ2
                  have NX : Hid (q + 1 + runN isLD (s.toList.drop (q + 1)) = x) := by show _ = _; omega
                  rw [hLq] at LL
                  rw [hDq] at DD
                  clear HQ2 hLq hDq HJ TT GG CG HP eK eX
                  go_wp2_with (first
                    | (go_at_call 20; refine (LL.out _).mono ?_; rintro e w1 ⟨rfl, hw1⟩; replace hw1 := hw1.symm; subst hw1; clear LL)
                    | (go_at_call 18; refine (DD.out _).mono ?_; rintro e w1 ⟨rfl, hw1⟩; replace hw1 := hw1.symm; subst hw1; clear DD))
                  go_round
                  case rel => exact ⟨q + 1, by omega, by omega, by go_num, NX⟩
                  case measure => simp [intOf]; omega
                | false =>
                  rw [run_neg isLD _ _ (by unfold isLD; rw [hLq, hDq]; rfl)] at HQ2
                  have e : x = q := by omega
                  subst e
                  rw [hLq] at LL
                  rw [hDq] at DD
                  clear HQ2 hLq hDq
                  have CW : Hid (∀ W, Calls Try.prog 13 #[.string (s.extract j x)] W fun e w' => e = .returned (.bool (wordL (s.extract j x).toList)) ∧ W.grownBy w' none) := fun W => refWord_any _ W
                  have jx : (j : Int) ≤ x := by omega
                  have xs : (x : Int) ≤ s.size := by omega
                  have xw : IntKind.i64.wrap ((x : Int) - j) = (x : Int) - j := by rw [IntKind.wrap_i64]; omega
                  generalize wordL (s.extract j x).toList = b at *
                  cases b with
                  | true =>
                    simp only [if_true] at eK
                    have hK : ¬ wordK (s.toList.drop j) = 0 := by rw [eK]; decide
                    obtain ⟨e1, e2, e3⟩ := toks_step s j hlt hK acc
                    have eS := tkS_extract s (wordK (s.toList.drop j)) j (wordN (s.toList.drop j)) j
                    have NX := hid (e1.symm.trans HJ.out)
                    clear e1 HJ
                    obtain ⟨tk, etk⟩ : ∃ tk : Tk, tk = ⟨wordK (s.toList.drop j), (s.toList.drop j).take (wordN (s.toList.drop j)), j⟩ := ⟨_, rfl⟩
                    have t1 : wordK (s.toList.drop j) = tk.kind := by rw [etk]
                    have t2 : tk.pl = j := by rw [etk]
                    rw [← etk] at NX eS
                    rw [t1] at eK hK
                    clear etk t1
                    obtain ⟨z, ez⟩ : ∃ z, j + wordN (s.toList.drop j) = z := ⟨_, rfl⟩
                    have jz : j + 1 ≤ z := by omega
                    rw [ez] at eX eS NX e3
                    have C3 : Hid (∀ W, Calls Try.prog 17 #[.string s, .int .i64 z] W fun e w' => e = .returned (.int .i64 (gapE s z)) ∧ w' = W) := fun W => CG.out W z e3
                    have g1 := gapE_le s z
                    have g2 := gapE_ge s z e3
                    subst eX
                    clear e2 ez
                    generalize gapE s z = y at *
                    obtain ⟨kd, S, pl⟩ := tk
                    simp only at t2 hK eK
                    subst t2
                    have hk0 : ((kd : Int) == 0) = false := by simp; exact hK
                    have hk1 : ¬ ((kd : Int) = 0) := by omega
                    have z0 : (pl : Int) ≤ z := by omega
                    have z1 : (z : Int) ≤ s.size := by omega
                    have ES := hid eS
                    clear CG eS HP
                    subst eK
                    go_wp2_with (first
                      | (go_at_call 20; refine (LL.out _).mono ?_; rintro e w1 ⟨rfl, hw1⟩; replace hw1 := hw1.symm; subst hw1; clear LL)
                      | (go_at_call 18; refine (DD.out _).mono ?_; rintro e w1 ⟨rfl, hw1⟩; replace hw1 := hw1.symm; subst hw1; clear DD)
                      | (go_at_call 13; refine (CW.out _).mono ?_; rintro e w2 ⟨rfl, hg⟩; have G2 := hid (grown_none GG.out hg); have T2 := hid (TT.out.kept hg); clear CW hg)
                      | (at_builtin; refine append_tok2 w.heap.size _ acc ⟨4, S, pl⟩ ⟨w2.heap.size, 0, none⟩ 1 (T2.out.kept (grown_alloc (grown_refl _ _) _)) (by have := tok_cells w2 32 ⟨4, S, pl⟩; rw [ES.out] at this; exact this) (by omega) (by rw [World.size_alloc]; have := G2.out.size; omega) _ _ rfl rfl rfl rfl ?_; intro v4 w4 h4 hg4; have G4 := hid (grown_own (grown_alloc G2.out _) (T2.out.kept (grown_alloc (grown_refl _ _) _)) hg4); have T4 := hid h4; obtain ⟨pb, cb, rfl, _⟩ := row_form h4; rw [List.length_append] at T4; clear h4 hg4)
                      | (go_at_call 17; refine (C3.out _).mono ?_; rintro e w5 ⟨rfl, hw5⟩; replace hw5 := hw5.symm; subst hw5; clear C3))
                    go_round
                    case rel => exact ⟨acc ++ [⟨4, S, pl⟩], y, g1, rfl, NX, T4.out, G4.out, by rw [List.length_append]; simp; omega⟩
                    case measure => simp [intOf]; omega
                  | false =>
                    simp only [Bool.false_eq_true, if_false] at eK
                    by_cases h16 : x - j ≤ 16
                    · rw [if_pos h16] at eK
                      have hK : ¬ wordK (s.toList.drop j) = 0 := by rw [eK]; decide
                      have i16 : (x : Int) - j ≤ 16 := by omega
                      obtain ⟨e1, e2, e3⟩ := toks_step s j hlt hK acc
                      have eS := tkS_extract s (wordK (s.toList.drop j)) j (wordN (s.toList.drop j)) j
                      have NX := hid (e1.symm.trans HJ.out)
                      clear e1 HJ
                      obtain ⟨tk, etk⟩ : ∃ tk : Tk, tk = ⟨wordK (s.toList.drop j), (s.toList.drop j).take (wordN (s.toList.drop j)), j⟩ := ⟨_, rfl⟩
                      have t1 : wordK (s.toList.drop j) = tk.kind := by rw [etk]
                      have t2 : tk.pl = j := by rw [etk]
                      rw [← etk] at NX eS
                      rw [t1] at eK hK
                      clear etk t1
                      obtain ⟨z, ez⟩ : ∃ z, j + wordN (s.toList.drop j) = z := ⟨_, rfl⟩
                      have jz : j + 1 ≤ z := by omega
                      rw [ez] at eX eS NX e3
                      have C3 : Hid (∀ W, Calls Try.prog 17 #[.string s, .int .i64 z] W fun e w' => e = .returned (.int .i64 (gapE s z)) ∧ w' = W) := fun W => CG.out W z e3
                      have g1 := gapE_le s z
                      have g2 := gapE_ge s z e3
                      subst eX
                      clear e2 ez
                      generalize gapE s z = y at *
                      obtain ⟨kd, S, pl⟩ := tk
                      simp only at t2 hK eK
                      subst t2
                      have hk0 : ((kd : Int) == 0) = false := by simp; exact hK
                      have hk1 : ¬ ((kd : Int) = 0) := by omega
                      have z0 : (pl : Int) ≤ z := by omega
                      have z1 : (z : Int) ≤ s.size := by omega
                      have ES := hid eS
                      clear CG eS HP
                      subst eK
                      go_wp2_with (first
                        | (go_at_call 20; refine (LL.out _).mono ?_; rintro e w1 ⟨rfl, hw1⟩; replace hw1 := hw1.symm; subst hw1; clear LL)
                        | (go_at_call 18; refine (DD.out _).mono ?_; rintro e w1 ⟨rfl, hw1⟩; replace hw1 := hw1.symm; subst hw1; clear DD)
                        | (go_at_call 13; refine (CW.out _).mono ?_; rintro e w2 ⟨rfl, hg⟩; have G2 := hid (grown_none GG.out hg); have T2 := hid (TT.out.kept hg); clear CW hg)
                        | (at_builtin; refine append_tok2 w.heap.size _ acc ⟨1, S, pl⟩ ⟨w2.heap.size, 0, none⟩ 1 (T2.out.kept (grown_alloc (grown_refl _ _) _)) (by have := tok_cells w2 32 ⟨1, S, pl⟩; rw [ES.out] at this; exact this) (by omega) (by rw [World.size_alloc]; have := G2.out.size; omega) _ _ rfl rfl rfl rfl ?_; intro v4 w4 h4 hg4; have G4 := hid (grown_own (grown_alloc G2.out _) (T2.out.kept (grown_alloc (grown_refl _ _) _)) hg4); have T4 := hid h4; obtain ⟨pb, cb, rfl, _⟩ := row_form h4; rw [List.length_append] at T4; clear h4 hg4)
                        | (go_at_call 17; refine (C3.out _).mono ?_; rintro e w5 ⟨rfl, hw5⟩; replace hw5 := hw5.symm; subst hw5; clear C3))
                      go_round
                      case rel => exact ⟨acc ++ [⟨1, S, pl⟩], y, g1, rfl, NX, T4.out, G4.out, by rw [List.length_append]; simp; omega⟩
                      case measure => simp [intOf]; omega
                    · rw [if_neg h16] at eK
                      have e := HJ.out
                      rw [toks_bad s j hlt eK] at e
                      subst e
                      have i16 : ¬ (x : Int) - j ≤ 16 := by omega
                      clear HJ eK CG h16
                      go_wp2_with (first
                        | (go_at_call 20; refine (LL.out _).mono ?_; rintro e w1 ⟨rfl, hw1⟩; replace hw1 := hw1.symm; subst hw1; clear LL)
                        | (go_at_call 18; refine (DD.out _).mono ?_; rintro e w1 ⟨rfl, hw1⟩; replace hw1 := hw1.symm; subst hw1; clear DD)
                        | (go_at_call 13; refine (CW.out _).mono ?_; rintro e w2 ⟨rfl, hg⟩; have G2 := hid (grown_none GG.out hg); have T2 := hid (TT.out.kept hg); clear CW hg))
                      go_ret3
                      rw [← HP.out]
                      exact ⟨rfl, G2.out⟩
            · have q1 : ¬ (q : Int) < s.size := by omega
              have HQ2 := HQ.out
              rw [drop_end s q hlq] at HQ2
              have e : x = q := HQ2.symm
              subst e
              clear HQ2 HQ
              have CW : Hid (∀ W, Calls Try.prog 13 #[.string (s.extract j x)] W fun e w' => e = .returned (.bool (wordL (s.extract j x).toList)) ∧ W.grownBy w' none) := fun W => refWord_any _ W
              have jx : (j : Int) ≤ x := by omega
              have xs : (x : Int) ≤ s.size := by omega
              have xw : IntKind.i64.wrap ((x : Int) - j) = (x : Int) - j := by rw [IntKind.wrap_i64]; omega
              generalize wordL (s.extract j x).toList = b at *
              cases b with
              | true =>
                simp only [if_true] at eK
                have hK : ¬ wordK (s.toList.drop j) = 0 := by rw [eK]; decide
                obtain ⟨e1, e2, e3⟩ := toks_step s j hlt hK acc
                have eS := tkS_extract s (wordK (s.toList.drop j)) j (wordN (s.toList.drop j)) j
                have NX := hid (e1.symm.trans HJ.out)
                clear e1 HJ
                obtain ⟨tk, etk⟩ : ∃ tk : Tk, tk = ⟨wordK (s.toList.drop j), (s.toList.drop j).take (wordN (s.toList.drop j)), j⟩ := ⟨_, rfl⟩
                have t1 : wordK (s.toList.drop j) = tk.kind := by rw [etk]
                have t2 : tk.pl = j := by rw [etk]
                rw [← etk] at NX eS
                rw [t1] at eK hK
                clear etk t1
                obtain ⟨z, ez⟩ : ∃ z, j + wordN (s.toList.drop j) = z := ⟨_, rfl⟩
                have jz : j + 1 ≤ z := by omega
                rw [ez] at eX eS NX e3
                have C3 : Hid (∀ W, Calls Try.prog 17 #[.string s, .int .i64 z] W fun e w' => e = .returned (.int .i64 (gapE s z)) ∧ w' = W) := fun W => CG.out W z e3
                have g1 := gapE_le s z
                have g2 := gapE_ge s z e3
                subst eX
                clear e2 ez
                generalize gapE s z = y at *
                obtain ⟨kd, S, pl⟩ := tk
                simp only at t2 hK eK
                subst t2
                have hk0 : ((kd : Int) == 0) = false := by simp; exact hK
                have hk1 : ¬ ((kd : Int) = 0) := by omega
                have z0 : (pl : Int) ≤ z := by omega
                have z1 : (z : Int) ≤ s.size := by omega
                have ES := hid eS
                clear CG eS HP
                subst eK
                go_wp2_with (first
                  | (go_at_call 13; refine (CW.out _).mono ?_; rintro e w2 ⟨rfl, hg⟩; have G2 := hid (grown_none GG.out hg); have T2 := hid (TT.out.kept hg); clear CW hg)
                  | (at_builtin; refine append_tok2 w.heap.size _ acc ⟨4, S, pl⟩ ⟨w2.heap.size, 0, none⟩ 1 (T2.out.kept (grown_alloc (grown_refl _ _) _)) (by have := tok_cells w2 32 ⟨4, S, pl⟩; rw [ES.out] at this; exact this) (by omega) (by rw [World.size_alloc]; have := G2.out.size; omega) _ _ rfl rfl rfl rfl ?_; intro v4 w4 h4 hg4; have G4 := hid (grown_own (grown_alloc G2.out _) (T2.out.kept (grown_alloc (grown_refl _ _) _)) hg4); have T4 := hid h4; obtain ⟨pb, cb, rfl, _⟩ := row_form h4; rw [List.length_append] at T4; clear h4 hg4)
                  | (go_at_call 17; refine (C3.out _).mono ?_; rintro e w5 ⟨rfl, hw5⟩; replace hw5 := hw5.symm; subst hw5; clear C3))
                go_round
                case rel => exact ⟨acc ++ [⟨4, S, pl⟩], y, g1, rfl, NX, T4.out, G4.out, by rw [List.length_append]; simp; omega⟩
                case measure => simp [intOf]; omega
              | false =>
                simp only [Bool.false_eq_true, if_false] at eK
                by_cases h16 : x - j ≤ 16
                · rw [if_pos h16] at eK
                  have hK : ¬ wordK (s.toList.drop j) = 0 := by rw [eK]; decide
                  have i16 : (x : Int) - j ≤ 16 := by omega
                  obtain ⟨e1, e2, e3⟩ := toks_step s j hlt hK acc
                  have eS := tkS_extract s (wordK (s.toList.drop j)) j (wordN (s.toList.drop j)) j
                  have NX := hid (e1.symm.trans HJ.out)
                  clear e1 HJ
                  obtain ⟨tk, etk⟩ : ∃ tk : Tk, tk = ⟨wordK (s.toList.drop j), (s.toList.drop j).take (wordN (s.toList.drop j)), j⟩ := ⟨_, rfl⟩
                  have t1 : wordK (s.toList.drop j) = tk.kind := by rw [etk]
                  have t2 : tk.pl = j := by rw [etk]
                  rw [← etk] at NX eS
                  rw [t1] at eK hK
                  clear etk t1
                  obtain ⟨z, ez⟩ : ∃ z, j + wordN (s.toList.drop j) = z := ⟨_, rfl⟩
                  have jz : j + 1 ≤ z := by omega
                  rw [ez] at eX eS NX e3
                  have C3 : Hid (∀ W, Calls Try.prog 17 #[.string s, .int .i64 z] W fun e w' => e = .returned (.int .i64 (gapE s z)) ∧ w' = W) := fun W => CG.out W z e3
                  have g1 := gapE_le s z
                  have g2 := gapE_ge s z e3
                  subst eX
                  clear e2 ez
                  generalize gapE s z = y at *
                  obtain ⟨kd, S, pl⟩ := tk
                  simp only at t2 hK eK
                  subst t2
                  have hk0 : ((kd : Int) == 0) = false := by simp; exact hK
                  have hk1 : ¬ ((kd : Int) = 0) := by omega
                  have z0 : (pl : Int) ≤ z := by omega
                  have z1 : (z : Int) ≤ s.size := by omega
                  have ES := hid eS
                  clear CG eS HP
                  subst eK
                  go_wp2_with (first
                    | (go_at_call 13; refine (CW.out _).mono ?_; rintro e w2 ⟨rfl, hg⟩; have G2 := hid (grown_none GG.out hg); have T2 := hid (TT.out.kept hg); clear CW hg)
                    | (at_builtin; refine append_tok2 w.heap.size _ acc ⟨1, S, pl⟩ ⟨w2.heap.size, 0, none⟩ 1 (T2.out.kept (grown_alloc (grown_refl _ _) _)) (by have := tok_cells w2 32 ⟨1, S, pl⟩; rw [ES.out] at this; exact this) (by omega) (by rw [World.size_alloc]; have := G2.out.size; omega) _ _ rfl rfl rfl rfl ?_; intro v4 w4 h4 hg4; have G4 := hid (grown_own (grown_alloc G2.out _) (T2.out.kept (grown_alloc (grown_refl _ _) _)) hg4); have T4 := hid h4; obtain ⟨pb, cb, rfl, _⟩ := row_form h4; rw [List.length_append] at T4; clear h4 hg4)
                    | (go_at_call 17; refine (C3.out _).mono ?_; rintro e w5 ⟨rfl, hw5⟩; replace hw5 := hw5.symm; subst hw5; clear C3))
                  go_round
                  case rel => exact ⟨acc ++ [⟨1, S, pl⟩], y, g1, rfl, NX, T4.out, G4.out, by rw [List.length_append]; simp; omega⟩
                  case measure => simp [intOf]; omega
                · rw [if_neg h16] at eK
                  have e := HJ.out
                  rw [toks_bad s j hlt eK] at e
                  subst e
                  have i16 : ¬ (x : Int) - j ≤ 16 := by omega
                  clear HJ eK CG h16
                  go_wp2_with (first
                    | (go_at_call 13; refine (CW.out _).mono ?_; rintro e w2 ⟨rfl, hg⟩; have G2 := hid (grown_none GG.out hg); have T2 := hid (TT.out.kept hg); clear CW hg))
                  go_ret3
                  rw [← HP.out]
                  exact ⟨rfl, G2.out⟩
        | false =>
          rw [hL, hD] at eK eN
          rw [hL] at CL
          simp only [Bool.false_eq_true, if_false] at eK eN
          have CS : Hid (∀ W, Calls Try.prog 21 #[.string s, .int .i64 j] W fun e w' => e = .returned (.int .i64 (signN (s.toList.drop j))) ∧ W.grownBy w' none) := fun W => refSign_any s j W hlt hs1
          rw [← eN] at CS eK
          clear eN hL hD
          by_cases hm : wordN (s.toList.drop j) = 0
          · have hK : wordK (s.toList.drop j) = 0 := by rw [eK, if_pos hm]
            have e := HJ.out
            rw [toks_bad s j hlt hK] at e
            subst e
            rw [hm] at CS
            clear HJ hK CG eK hm
            go_wp2_with (first
              | (go_at_call 18; refine (CD.out _).mono ?_; rintro e w1 ⟨rfl, hw1⟩; replace hw1 := hw1.symm; subst hw1; clear CD)
              | (go_at_call 20; refine (CL.out _).mono ?_; rintro e w1 ⟨rfl, hw1⟩; replace hw1 := hw1.symm; subst hw1; clear CL)
              | (go_at_call 21; refine (CS.out _).mono ?_; rintro e w2 ⟨rfl, hg⟩; have G2 := hid (grown_none GG.out hg); have T2 := hid (TT.out.kept hg); clear CS hg))
            go_ret3
            rw [← HP.out]
            exact ⟨rfl, G2.out⟩
          · rw [if_neg hm] at eK
            have hK : ¬ wordK (s.toList.drop j) = 0 := by rw [eK]; decide
            obtain ⟨e1, e2, e3⟩ := toks_step s j hlt hK acc
            have eS := tkS_extract s (wordK (s.toList.drop j)) j (wordN (s.toList.drop j)) j
            have NX := hid (e1.symm.trans HJ.out)
            clear e1 HJ
            obtain ⟨tk, etk⟩ : ∃ tk : Tk, tk = ⟨wordK (s.toList.drop j), (s.toList.drop j).take (wordN (s.toList.drop j)), j⟩ := ⟨_, rfl⟩
            have t1 : wordK (s.toList.drop j) = tk.kind := by rw [etk]
            have t2 : tk.pl = j := by rw [etk]
            rw [← etk] at NX eS
            rw [t1] at eK hK
            clear etk t1
            obtain ⟨z, ez⟩ : ∃ z, j + wordN (s.toList.drop j) = z := ⟨_, rfl⟩
            have jz : j + 1 ≤ z := by omega
            rw [ez] at eS NX e3
            have C3 : Hid (∀ W, Calls Try.prog 17 #[.string s, .int .i64 z] W fun e w' => e = .returned (.int .i64 (gapE s z)) ∧ w' = W) := fun W => CG.out W z e3
            have g1 := gapE_le s z
            have g2 := gapE_ge s z e3
            generalize wordN (s.toList.drop j) = m at *
            have m0 : (0 : Int) < m := by omega
            have mz : (j : Int) + m = z := by omega
            clear e2 ez hm
            generalize gapE s z = y at *
            obtain ⟨kd, S, pl⟩ := tk
            simp only at t2 hK eK
            subst t2
            have hk0 : ((kd : Int) == 0) = false := by simp; exact hK
            have hk1 : ¬ ((kd : Int) = 0) := by omega
            have z0 : (pl : Int) ≤ z := by omega
            have z1 : (z : Int) ≤ s.size := by omega
            have ES := hid eS
            clear CG eS HP
            subst eK
            have MW : IntKind.i64.wrap ((pl : Int) + m) = z := by rw [IntKind.wrap_i64]; omega
            go_wp2_with (first
              | (go_at_call 18; refine (CD.out _).mono ?_; rintro e w1 ⟨rfl, hw1⟩; replace hw1 := hw1.symm; subst hw1; clear CD)
              | (go_at_call 20; refine (CL.out _).mono ?_; rintro e w1 ⟨rfl, hw1⟩; replace hw1 := hw1.symm; subst hw1; clear CL)
              | (go_at_call 21; refine (CS.out _).mono ?_; rintro e w2 ⟨rfl, hg⟩; have G2 := hid (grown_none GG.out hg); have T2 := hid (TT.out.kept hg); clear CS hg)
              | (at_builtin; refine append_tok2 w.heap.size _ acc ⟨5, S, pl⟩ ⟨w2.heap.size, 0, none⟩ 1 (T2.out.kept (grown_alloc (grown_refl _ _) _)) (by have := tok_cells w2 32 ⟨5, S, pl⟩; rw [ES.out] at this; exact this) (by omega) (by rw [World.size_alloc]; have := G2.out.size; omega) _ _ rfl rfl rfl rfl ?_; intro v4 w4 h4 hg4; have G4 := hid (grown_own (grown_alloc G2.out _) (T2.out.kept (grown_alloc (grown_refl _ _) _)) hg4); have T4 := hid h4; obtain ⟨pb, cb, rfl, _⟩ := row_form h4; rw [List.length_append] at T4; clear h4 hg4)
              | (go_at_call 17; refine (C3.out _).mono ?_; rintro e w5 ⟨rfl, hw5⟩; replace hw5 := hw5.symm; subst hw5; clear C3))
            go_round
            case rel => exact ⟨acc ++ [⟨5, S, pl⟩], y, g1, rfl, NX, T4.out, G4.out, by rw [List.length_append]; simp; omega⟩
            case measure => simp [intOf]; omega
    · have j1 : ¬ (j : Int) < s.size := by omega
      have e := HJ.out
      rw [toks_end s j hlt] at e
      subst e
      clear HJ CG
      have ES : Hid (tkS ⟨0, [], s.size⟩ = ⟨#[]⟩) := rfl
      go_wp2_with (at_builtin; refine append_tok2 w.heap.size _ acc ⟨0, [], s.size⟩ ⟨wr.heap.size, 0, none⟩ 1 (TT.out.kept (grown_alloc (grown_refl _ _) _)) (by have := tok_cells wr 32 ⟨0, [], s.size⟩; rw [ES.out] at this; exact this) (by omega) (by rw [World.size_alloc]; have := GG.out.size; omega) _ _ rfl rfl rfl rfl ?_; intro v4 w4 h4 hg4; have G4 := hid (grown_own (grown_alloc GG.out _) (TT.out.kept (grown_alloc (grown_refl _ _) _)) hg4); have T4 := hid h4; obtain ⟨pb, cb, rfl, _⟩ := row_form h4; rw [List.length_append] at T4; clear h4 hg4)
      go_ret3
      rw [← HP.out]
      exact ⟨_, rfl, T4.out, G4.out⟩
end Go.Proofs.Ythpeckoleiecbaa
