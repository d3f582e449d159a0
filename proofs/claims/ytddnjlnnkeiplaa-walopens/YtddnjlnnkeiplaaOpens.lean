/-
  WalOpens: the law's own walk.
-/
import Derived.Test.YtddnjlnnkeiplaaKOlw
import Derived.Deep.DeepCutAuto
namespace Go.Proofs.Ytddnjlnnkeiplaa
open Go.RowKit Go.Maps
structure OlAt (w : World) (g o : Nat) (f : X.Fa) : Prop where
  c0 : w.cell? ⟨g, o, none⟩ = some (.int .i64 f.at_)
  c1 : w.cell? ⟨g, o + 1, none⟩ = some (.int .i64 f.keep)
  c2 : w.cell? ⟨g, o + 2, none⟩ = some (.int .i64 f.torn)
  keep : f.keep ≤ 9223372036854775807
  torn : f.torn ≤ 9223372036854775807
theorem OlAt.kept {w w' : World} {g o : Nat} {f : X.Fa} (h : OlAt w g o f) (hg : w.grownBy w' none) : OlAt w' g o f :=
  ⟨cell_kept h.c0 hg (fun _ e => by cases e), cell_kept h.c1 hg (fun _ e => by cases e), cell_kept h.c2 hg (fun _ e => by cases e), h.keep, h.torn⟩
theorem tmod_two (k : Nat) : ((k : Int).tmod 2 = 1 ∧ k % 2 = 1) ∨ ((k : Int).tmod 2 = 0 ∧ ¬ k % 2 = 1) := by
  rw [Int.tmod_eq_emod_of_nonneg (by omega)]
  omega
set_option maxRecDepth 100000 in
set_option maxHeartbeats 200000000 in
theorem opens_law (pa : Option Addr) (n cap xb xo : Nat) (S : Nat → ByteArray) (rest : ByteArray) (pf : Option Addr) (n2 cap2 yb yo : Nat) (B : Nat → X.Fa) (w : World) (hpa : 0 < n → pa = some ⟨xb, xo, none⟩) (hc : ∀ j, j < n → w.cell? ⟨xb, xo + j, none⟩ = some (.string (S j))) (hn : n ≤ 9223372036854775807)
    (hpf : 0 < n2 → pf = some ⟨yb, yo, none⟩) (hcf : ∀ j, j < n2 → OlAt w yb (yo + j * 3) (B j)) (hn2 : n2 ≤ 9223372036854775807) :
    Calls Try.prog 8 #[.slice pa n cap, .string rest, .slice pf n2 cap2] w fun e w' => e = .returned (.bool true) ∧ w.grownBy w' none := by
  obtain ⟨l, hl⟩ : ∃ l, l = cutK S (min n 6) := ⟨_, rfl⟩
  obtain ⟨R, hR⟩ : ∃ r, r = fewS rest := ⟨_, rfl⟩
  have hl6 : l.length ≤ 6 := by rw [hl, cutK_len]; omega
  have hl3 : ∀ t ∈ l, t.size ≤ 300 := fun t ht => by
    rw [hl] at ht
    unfold cutK at ht
    obtain ⟨j, _, rfl⟩ := List.mem_map.1 ht
    exact fewS_size _
  have hR3 : R.size ≤ 300 := by rw [hR]; exact fewS_size _
  have hgd := getD_size hl3
  have hX := opT_size hgd l.length
  have hX2 : (opT l l.length).size ≤ 3732 := by
    have := Nat.mul_le_mul_right 622 hl6
    omega
  have hA5 : (opT l l.length ++ R).size ≤ 4500 := by rw [ByteArray.size_append]; omega
  have C9 := hid (new_any w)
  have CC : Hid (∀ W, w.grownBy W none → Calls Try.prog 19 #[.slice pa n cap] W (CutPost W l)) := fun W hW => by
    rw [hl]
    exact cut_any pa n cap xb xo S W hpa (fun j hj => cell_kept (hc j hj) hW (fun _ e => by cases e)) hn
  have CF : Hid (∀ W, Calls Try.prog 14 #[.string rest] W fun e w' => e = .returned (.string R) ∧ w' = W) := fun W => by rw [hR]; exact few_any rest W
  have CX : Hid (∀ k W, Calls Try.prog 28 #[.string (⟨#[100]⟩ ++ l.getD k ⟨#[]⟩)] W fun e w' => e = .returned (.string (Wi.frmS (⟨#[100]⟩ ++ l.getD k ⟨#[]⟩))) ∧ W.grownBy w' none) := fun k W => Wi.refFrame_any _ W (by rw [one_size]; have := hgd k; omega)
  have CM : Hid (∀ k W, Calls Try.prog 28 #[.string (⟨#[109, 114, 111, 111, 116]⟩ ++ l.getD k ⟨#[]⟩)] W fun e w' => e = .returned (.string (Wi.frmS (rootB ++ l.getD k ⟨#[]⟩))) ∧ W.grownBy w' none) := fun k W => Wi.refFrame_any _ W (by rw [ByteArray.size_append]; show 5 + _ ≤ _; have := hgd k; omega)
  have GS := hid hgd
  have OS := hid (opT_size hgd)
  have A5 := hid hA5
  have R3 := hid hR3
  have X2 := hid hX2
  have AW := hid lawake_any
  have PF := hid hpf
  have HF := hid hcf
  have hm6 : (l.length : Int) ≤ 6 := by omega
  have hn' : (n : Int) ≤ 9223372036854775807 := by omega
  have hn2' : (n2 : Int) ≤ 9223372036854775807 := by omega
  clear hpa hc hl hR hA5 hX hX2 hl3 hgd hpf hcf
  go_enter Try.func8, Try.ntmps8
  go_wp2_with (go_at_call 9; refine C9.out.mono ?_; rintro e w1 ⟨rfl, d1, g1⟩; have D1 : Hid (IsDisk w1 w.heap.size w.heap.size k0) := hid d1; have G1 := hid g1; clear d1 g1 C9)
  go_loopw [8, 9] (fun tv iv wr => ∃ k : Nat, k ≤ l.length ∧ iv = .int .i64 k ∧ tv = .string (opT l k) ∧ w1.grownBy wr none) (fun _ iv _ => l.length - (intOf iv).toNat)
  case atStart => exact ⟨0, Nat.zero_le _, rfl, rfl, grown_refl _ _⟩
  case round =>
    obtain ⟨k, hk, rfl, rfl, hg⟩ := hrel
    have GW := hid hg
    have GA := hid (grown_none G1.out hg)
    clear hg
    have k0' : (0 : Int) ≤ k := by omega
    by_cases hlt : k < l.length
    · have k1 : (k : Int) < l.length := by omega
      have CE := hid (CX.out k)
      have CN := hid (CM.out k)
      have hgs := GS.out k
      have hos := OS.out k
      have hfz : (Wi.frmS (⟨#[100]⟩ ++ l.getD k ⟨#[]⟩)).size ≤ 400 := by rw [Wi.frmS_size, one_size]; omega
      have hfz2 : (Wi.frmS (rootB ++ l.getD k ⟨#[]⟩)).size ≤ 400 := by rw [Wi.frmS_size, ByteArray.size_append]; show 5 + _ + 8 ≤ _; omega
      have SC := hid (fun (W : World) (bb cc : Nat) (pp : Option Addr) (h : W.ownsRow bb 9 1 (.slice pp l.length cc) l.length (strs l)) => str_cell h k hlt)
      have hos2 : (opT l k).size ≤ 10000 := by have := Nat.mul_le_mul_right 622 hk; omega
      have OT : Hid ((k % 2 = 1 → opT l (k + 1) = (opT l k ++ Wi.frmS (⟨#[100]⟩ ++ l.getD k ⟨#[]⟩)) ++ Wi.frmS (rootB ++ l.getD k ⟨#[]⟩)) ∧ (¬ k % 2 = 1 → opT l (k + 1) = opT l k ++ Wi.frmS (⟨#[100]⟩ ++ l.getD k ⟨#[]⟩))) := hid ⟨fun h => if_pos h, fun h => if_neg h⟩
      have t2 := tmod_two k
      generalize Wi.frmS (⟨#[100]⟩ ++ l.getD k ⟨#[]⟩) = F at *
      generalize Wi.frmS (rootB ++ l.getD k ⟨#[]⟩) = F2 at *
      generalize l.getD k ⟨#[]⟩ = x at *
      generalize opT l k = X at *
      have z1 : ¬ 9223372036854775807 < X.size + F.size := by omega
      have z2 : ¬ 9223372036854775807 < 1 + x.size := by omega
      have z3 : ¬ 9223372036854775807 < 5 + x.size := by omega
      have z4 : ¬ 9223372036854775807 < (X ++ F).size + F2.size := by rw [ByteArray.size_append]; omega
      have z5 : ¬ 9223372036854775807 < X.size + F.size + F2.size := by omega
      clear hos hos2 hgs hfz hfz2 OS GS CX CM
      have C1 := hid CC.out
      have C2 := hid CC.out
      have C3 := hid CC.out
      have SC2 := hid SC.out
      clear CC
      rcases t2 with ⟨t1, t2⟩ | ⟨t1, t2⟩
      · have OT1 := hid (And.intro (OT.out.1 t2) trivial)
        clear t2 OT
        go_wp2_with (first
          | (go_at_call 19; refine (C1.out _ GA.out).mono ?_; rintro e w5 ⟨v5, rfl, o5, g5⟩; have G5 := hid (grown_none GA.out g5); have W5 := hid (grown_none GW.out g5); obtain ⟨p5, c5, rfl, _⟩ := row_form o5; clear o5 g5 C1)
          | (go_at_call 19; refine (C2.out _ G5.out).mono ?_; rintro e w6 ⟨v6, rfl, o6, g6⟩; have G6 := hid (grown_none G5.out g6); have W6 := hid (grown_none W5.out g6); obtain ⟨p6, c6, rfl, _⟩ := row_form o6; obtain ⟨q6, rfl, h6⟩ := SC.out _ _ _ _ o6; clear o6 g6 C2 SC)
          | (go_at_call 28; refine (CE.out _).mono ?_; rintro e w7 ⟨rfl, g7⟩; have G7 := hid (grown_none G6.out g7); have W7 := hid (grown_none W6.out g7); clear g7 CE)
          | (go_at_call 19; refine (C3.out _ G7.out).mono ?_; rintro e w8 ⟨v8, rfl, o8, g8⟩; have W8 := hid (grown_none W7.out g8); obtain ⟨p8, c8, rfl, _⟩ := row_form o8; obtain ⟨q8, rfl, h8⟩ := SC2.out _ _ _ _ o8; clear o8 g8 C3 SC2)
          | (go_at_call 28; refine (CN.out _).mono ?_; rintro e w9 ⟨rfl, g9⟩; have W9 := hid (grown_none W8.out g9); clear g9 CN))
        go_round
        case rel => exact ⟨k + 1, by omega, by go_num, by rw [OT1.out.1], W9.out⟩
        case measure => simp [intOf]; omega
      · have OT1 := hid (And.intro (OT.out.2 t2) trivial)
        clear t2 OT
        go_wp2_with (first
          | (go_at_call 19; refine (C1.out _ GA.out).mono ?_; rintro e w5 ⟨v5, rfl, o5, g5⟩; have G5 := hid (grown_none GA.out g5); have W5 := hid (grown_none GW.out g5); obtain ⟨p5, c5, rfl, _⟩ := row_form o5; clear o5 g5 C1)
          | (go_at_call 19; refine (C2.out _ G5.out).mono ?_; rintro e w6 ⟨v6, rfl, o6, g6⟩; have G6 := hid (grown_none G5.out g6); have W6 := hid (grown_none W5.out g6); obtain ⟨p6, c6, rfl, _⟩ := row_form o6; obtain ⟨q6, rfl, h6⟩ := SC.out _ _ _ _ o6; clear o6 g6 C2 SC)
          | (go_at_call 28; refine (CE.out _).mono ?_; rintro e w7 ⟨rfl, g7⟩; have W7 := hid (grown_none W6.out g7); clear g7 CE))
        go_round
        case rel => exact ⟨k + 1, by omega, by go_num, by rw [OT1.out.1], W7.out⟩
        case measure => simp [intOf]; omega
    · obtain rfl : k = l.length := by omega
      have k1 : ¬ (l.length : Int) < l.length := by omega
      clear OS GS CX CM hk hlt
      have hx2 := X2.out
      have hr3 := R3.out
      generalize opT l l.length = Tx at *
      have z1 : ¬ 9223372036854775807 < Tx.size + R.size := by omega
      generalize hAX : Tx ++ R = A at *
      have CFa := hid CF.out
      have CFb := hid CF.out
      have WA := hid (fun W h => writeA w.heap.size w.heap.size A W h A5.out)
      have WB := hid (fun W h => writeB w.heap.size w.heap.size A R W h A5.out (by omega))
      have SY := hid (fun W h => syncC w.heap.size w.heap.size A R W h A5.out (by omega))
      have CL := hid (fun W h => clone_any w.heap.size w.heap.size (kC A R) W h (fits_two A R _ (by have := A5.out; omega) (by omega) (by decide)) (fits_two A R _ (by have := A5.out; omega) (by omega) (by decide)) (by show 0 ≤ _; decide))
      have OC := hid (fun dc W h => openC dc dc A R W h A5.out (by omega))
      clear CF hx2 hr3 X2
      go_wp2_with (first
        | (go_at_call 19; refine (CC.out _ GA.out).mono ?_; rintro e w5 ⟨v5, rfl, o5, g5⟩; have G5 := hid (grown_none GA.out g5); have W5 := hid (grown_none GW.out g5); obtain ⟨p5, c5, rfl, _⟩ := row_form o5; clear o5 g5 CC)
        | (go_at_call 11; refine (AW.out _).mono ?_; rintro e w14 ⟨rfl, g14⟩; have G14 := hid (grown_none G5.out g14); have D14 := hid ((D1.out.kept W5.out).kept g14); clear AW g14)
        | (go_at_call 14; refine (CFa.out _).mono ?_; rintro e w0 ⟨rfl, hw⟩; have hw2 := hw.symm; clear hw; subst hw2; clear CFa)
        | (go_at_call 30; refine (WA.out _ D14.out).mono ?_; rintro e w15 ⟨rfl, d15, t15⟩; have D15 := hid d15; have G15 := hid (Low.grown G14.out (Low.of_tend t15 D14.out.blk)); clear WA d15 t15)
        | (go_at_call 14; refine (CFb.out _).mono ?_; rintro e w0 ⟨rfl, hw⟩; have hw2 := hw.symm; clear hw; subst hw2; clear CFb)
        | (go_at_call 30; refine (WB.out _ D15.out).mono ?_; rintro e w16 ⟨rfl, d16, t16⟩; have D16 := hid d16; have G16 := hid (Low.grown G15.out (Low.of_tend t16 D15.out.blk)); clear WB d16 t16)
        | (go_at_call 31; refine (SY.out _ D16.out).mono ?_; rintro e w17 ⟨rfl, d17, g17⟩; have D17 := hid d17; have G17 := hid (Low.grown G16.out (self_low (base := w.heap.size) g17 (Nat.le_refl _) D16.out.blk)); clear SY d17 g17)
        | (go_at_call 38; refine (CL.out _ D17.out).mono ?_; rintro e w18 ⟨rfl, d18, g18⟩; have D18 := hid d18; have G18 := hid g18; clear CL d18 g18)
        | (go_at_call 10; refine (OC.out _ _ D18.out).mono ?_; rintro e w19 ⟨b1, rfl, hb1, l19, d19, t19⟩; have L19 := hid l19; have G19 := hid (Low.grown G18.out t19); have HB1 := hid hb1; clear OC l19 d19 t19 hb1))
      have hdc : (kC A R) = X.Dt (some A) (some R) 2 false := rfl
      have P19 : Hid (X.IsP w19 w.heap.size w.heap.size 0 false 0 (X.Dt (some A) (some R) 2 false) none) := hid ⟨X.x0, ⟨rfl, rfl⟩, X.of_plain (D17.out.kept G19.out), rfl⟩
      have G20 := hid (grown_none G17.out G19.out)
      obtain ⟨_, vr, vw, hbl, _, _⟩ := L19.out
      rw [load_d A w.heap.size w17.heap.size] at hbl
      obtain ⟨GG, hGG⟩ : ∃ GG, loadG A w.heap.size = GG := ⟨_, rfl⟩
      rw [hGG] at hbl
      have hbl' : Blk w19 b1 77 (rowG w17.heap.size vr vw GG.com GG.len GG.root GG.marked) := hbl
      have BL := hid hbl'
      have HGG := hid (And.intro hGG trivial)
      clear hdc hbl hbl' hGG L19 G19 G18 D18 G17 D17 D16 G16 G15 D15 D14 G14 G5 W5 GA GW G1 D1 HB1
      generalize w17.heap.size = dc at *
      go_loopw [14] (fun iv wr => ∃ (i c1 : Nat) (T1 : ByteArray) (N1 : Option ByteArray), i ≤ n2 ∧ i ≤ 6 ∧ iv = .int .i64 i ∧ T1.size ≤ 4500 ∧ loadG T1 w.heap.size = GG ∧ (N1.getD ⟨#[]⟩).size ≤ 4500 ∧ c1 ≤ 2 + 2 * i ∧ X.IsP wr w.heap.size w.heap.size 0 false 0 (X.Dt (some T1) N1 c1 false) none ∧ Blk wr b1 77 (rowG dc vr vw GG.com GG.len GG.root GG.marked) ∧ w.grownBy wr none) (fun iv _ => n2 - (intOf iv).toNat)
      case atStart => exact ⟨0, 2, A, some R, Nat.zero_le _, Nat.zero_le _, rfl, A5.out, HGG.out.1, (by have := R3.out; show R.size ≤ _; omega), Nat.le_refl _, P19.out, BL.out, G20.out⟩
      case round =>
        obtain ⟨i, c, T1, N1, hi, hi6, rfl, hT1, hLG, hN1, hc1, hP, hBL, hG⟩ := hrel
        have P := hid hP
        have BL := hid hBL
        have G := hid hG
        have HT := hid hT1
        have HL := hid (And.intro hLG trivial)
        have HN := hid hN1
        clear hP hBL hG hT1 hLG hN1 P19 G20 A5 R3
        have i0 : (0 : Int) ≤ i := by omega
        by_cases hlt : i < n2 ∧ i < 6
        · obtain ⟨hin, hi5⟩ := hlt
          have i1 : (i : Int) < n2 := by omega
          have i2 : (i : Int) < 6 := by omega
          have hp := PF.out (by omega)
          subst hp
          have AA := hid ((HF.out i hin).kept G.out)
          have a0 := AA.out.c0
          have a1 := AA.out.c1
          have a2 := AA.out.c2
          have HTM := hid AA.out.torn
          generalize B i = ff at *
          obtain ⟨fa, fk, ft⟩ := ff
          simp only at a0 a1 a2 HTM
          clear AA
          have CH : Hid (∀ W, X.IsP W w.heap.size w.heap.size 0 false 0 (X.Dt (some T1) N1 c false) none → Calls Try.prog 25 #[.pointer (some ⟨w.heap.size, 0, none⟩)] W fun e w' => e = .returned (.int .i64 (c : Nat)) ∧ w' = W) := hid (fun W h => X.changes_q w.heap.size w.heap.size 0 0 _ none W h)
          go_upto_if 101 with fail
          go_cut [] (fun wx => ∃ az : Int, 0 ≤ az ∧ wx = wr.alloc (.cells #[.int .i64 az, .int .i64 fk, .int .i64 ft] 35))
          case first =>
            clear P BL CH HTM G
            by_cases hfa : fa < 0
            · go_wp2_with fail
              go_meet
              exact ⟨0, Int.le_refl _, rfl⟩
            · go_wp2_with fail
              go_meet
              exact ⟨fa, by omega, rfl⟩
          case rest =>
            obtain ⟨az, haz, rfl⟩ := hcut
            obtain ⟨q, hq, hq0, hq1⟩ : ∃ q : Int, az.tmod 4 = q ∧ 0 ≤ q ∧ q < 4 := ⟨_, rfl, Int.tmod_nonneg 4 haz, Int.tmod_lt_of_pos az (by decide)⟩
            have iw : IntKind.i64.wrap ((c : Int) + q) = (c : Int) + q := by rw [IntKind.wrap_i64]; omega
            have BN := hid (Blk.new wr 35 #[.int .i64 az, .int .i64 fk, .int .i64 ft])
            have c0 := BN.out.cell 0
            have f0 := BN.out.frozen 0
            simp at c0
            clear hq0 hq1 a0 a1 a2 haz
            go_wp2_with fail
            go_cut [] (fun wx => wr.grownBy wx none ∧ Blk wx wr.heap.size 35 #[.int .i64 ((c : Int) + q), .int .i64 fk, .int .i64 ft])
            case first =>
              have GN := hid (grown_alloc (grown_refl wr none) (.cells #[.int .i64 az, .int .i64 fk, .int .i64 ft] 35))
              have CH2 := hid (CH.out _ (P.out.kept (grown_drew GN.out)))
              clear CH
              go_region_law (go_simp; go_at_call 25; refine CH2.out.mono ?_; rintro e w0 ⟨rfl, hw⟩; have hw2 := hw.symm; clear hw; subst hw2; clear CH2)
              all_goals (
                (try go_wp2_with fail)
                go_meet
                exact ⟨grown_drew (grown_alloc (grown_refl wr none) _), (Blk.new wr 35 #[.int .i64 ((c : Int) + q), .int .i64 fk, .int .i64 ft]).drew⟩)
            case rest =>
              obtain ⟨hg, hB⟩ := hcut
              have P2 := hid (P.out.kept hg)
              have BL2 := hid (BL.out.kept hg (by simp))
              have G2 := hid (grown_none G.out hg)
              clear CH BN c0 f0 iw hq P BL G hg
              generalize wr.heap.size = Fb at *
              have BF := hid hB
              have hFb := hid hB.lt
              clear hB
              have b0 := BF.out.cell 0
              have b1' := BF.out.cell 1
              have b2 := BF.out.cell 2
              simp at b0 b1' b2
              have GN := hid (grown_alloc (grown_refl wc none) (.cells #[.int .i64 ((c : Int) + q), .int .i64 fk, .int .i64 ft] 35))
              have PL := hid (X.planone_q w.heap.size w.heap.size 0 0 (X.Dt (some T1) N1 c false) none ⟨wc.heap.size, 0, none⟩ 1 ⟨(c : Int) + q, fk, ft⟩ (wc.alloc (.cells #[.int .i64 ((c : Int) + q), .int .i64 fk, .int .i64 ft] 35)) (P2.out.kept GN.out) (fun j u hj => by
                have hz := Blk.new wc 35 #[.int .i64 ((c : Int) + q), .int .i64 fk, .int .i64 ft]
                match j with
                | 0 => exact (hz.cell 0).trans hj
                | 1 => exact (hz.cell 1).trans hj
                | 2 => exact (hz.cell 2).trans hj
                | j + 3 => cases hj) HTM.out)
              have OP := hid (fun gp W (h : X.IsP W w.heap.size w.heap.size gp false 0 (X.Dt (some T1) N1 c false) (some ⟨(c : Int) + q, fk, ft⟩)) => X.openloop h HT.out HN.out (by omega))
              go_wp2_with (first
                | (go_at_call 26; refine PL.out.mono ?_; rintro e w6 ⟨rfl, ⟨gp, hgp, d6⟩, g6⟩; have LP := X.LowP.of_low (g := gp) (self_low (base := w.heap.size) g6 (Nat.le_refl _) (P2.out.kept GN.out).blk); have D6 := hid d6; have K6 := hid (X.Kp.trans (X.Kp.none GN.out) (X.Kp.self g6 (P2.out.kept GN.out).blk)); have T6 := hid (X.LowP.trans (X.LowP.of_low (g := gp) (Low.of_none (base := w.heap.size) GN.out)) LP); have HGP : Hid (Fb ≠ gp) := hid (by have := hFb.out; rw [World.size_alloc] at hgp; omega); clear d6 g6 LP PL)
                | (go_at_call 10; refine (OP.out _ _ D6.out).mono ?_; rintro e w7 ⟨v7, T2, N2, c2, dd2, pl2, rfl, hT2, hL2, hN2, hc2, d7, t7, k7⟩; have D7 := hid d7; have T7 := hid (X.LowP.trans T6.out t7); have K7 := hid (X.Kp.trans K6.out k7); have HT2 := hid hT2; have HL2 := hid (And.intro hL2 trivial); have HN2 := hid hN2; have HC2 := hid hc2; have PN := hid (fun W (h : X.IsP W w.heap.size w.heap.size gp false 0 (X.Dt (some T2) N2 c2 dd2) pl2) => X.plannone_q w.heap.size w.heap.size gp gp 0 _ pl2 W h); have CR := hid (fun W (h : X.IsP W w.heap.size w.heap.size gp false 0 (X.Dt (some T2) N2 c2 dd2) none) => X.crash_f fk ft h ⟨by show T2.size ≤ _; omega, by omega, by omega⟩ HTM.out); have UP := hid (fun W (h : X.IsP W w.heap.size w.heap.size gp false 0 (X.Dt (some T2) N2 c2 true) none) => X.up_f h); clear d7 t7 k7 OP hT2 hL2 hN2 hc2)
                | (go_at_call 26; refine (PN.out _ D7.out).mono ?_; rintro e w8 ⟨rfl, d8, g8⟩; have D8 := hid d8; have T8 := hid (X.LowP.trans T7.out (X.LowP.of_low (g := gp) (self_low (base := w.heap.size) g8 (Nat.le_refl _) D7.out.blk))); have K8 := hid (X.Kp.trans K7.out (X.Kp.self g8 D7.out.blk)); have BF8 := X.lowP_blk T8.out BF.out ⟨by decide, by decide, by decide, by decide, by decide⟩ (fun _ => HGP.out); have y1 := BF8.cell 1; have y2 := BF8.cell 2; simp at y1 y2; clear d8 g8 PN BF8)
                | (go_at_call 16; refine (CR.out _ D8.out).mono ?_; rintro e w9 ⟨rfl, d9, g9⟩; have D9 := hid d9; have T9 := hid (X.LowP.trans T8.out (X.LowP.of_low (g := gp) (self_low (base := w.heap.size) g9 (Nat.le_refl _) D8.out.blk))); have K9 := hid (X.Kp.trans K8.out (X.Kp.self g9 D8.out.blk)); clear d9 g9 CR)
                | (go_at_call 17; refine (UP.out _ D9.out).mono ?_; rintro e w10 ⟨rfl, d10, g10⟩; have D10 := hid d10; have T10 := hid (X.LowP.trans T9.out (X.LowP.of_low (g := gp) (self_low (base := w.heap.size) g10 (Nat.le_refl _) D9.out.blk))); have K10 := hid (X.Kp.trans K9.out (X.Kp.self g10 D9.out.blk)); clear d10 g10 UP))
              go_roundw
              case rel => exact ⟨i + 1, c2, T2, N2, by omega, by omega, by go_num, HT2.out, HL2.out.1.trans HL.out.1, HN2.out, (by have := HC2.out; omega), D10.out, K10.out _ _ BL2.out, X.LowP.grown G2.out T10.out⟩
              case measure => simp [intOf]; omega
        · have hex : ¬ (i : Int) < n2 ∨ ((i : Int) < n2 ∧ ¬ (i : Int) < 6) := by omega
          have OL := hid (X.openlast P.out HT.out HN.out (by omega))
          rw [HL.out.1] at OL
          have RB := hid (fun W (h : Blk W b1 77 (rowG dc vr vw GG.com GG.len GG.root GG.marked)) => lroot_b h)
          have LB := hid (fun W (h : Blk W b1 77 (rowG dc vr vw GG.com GG.len GG.root GG.marked)) => llen_b h)
          have RK := hid (fun W b (h : IsLog W w.heap.size b GG) => lroot_any w.heap.size b _ W h)
          have LK := hid (fun W b (h : IsLog W w.heap.size b GG) => llen_any w.heap.size b _ W h)
          clear PF HF HL HT HN
          rcases hex with e | ⟨e1, e2⟩
          all_goals (
            go_wp2_with (first
              | (go_at_call 10; refine OL.out.mono ?_; rintro e w7 ⟨b2, ct, rfl, hb2, l7, t7, k7⟩; have L7 := hid l7; have G7 := hid (X.LowP.grown G.out t7); have B7 := hid (k7 _ _ BL.out); clear l7 t7 k7 OL hb2)
              | (go_at_call 35; refine (RB.out _ B7.out).mono ?_; rintro e w8 ⟨rfl, g8⟩; have L8 := hid (L7.out.kept g8); have G8 := hid (grown_none G7.out g8); have B8 := hid (B7.out.kept g8 (by simp)); clear g8 RB)
              | (go_at_call 35; refine (RK.out _ _ L8.out).mono ?_; rintro e w9 ⟨rfl, g9⟩; have L9 := hid (L8.out.kept g9); have G9 := hid (grown_none G8.out g9); have B9 := hid (B8.out.kept g9 (by simp)); clear g9 RK)
              | (go_at_call 36; refine (LB.out _ B9.out).mono ?_; rintro e w0 ⟨rfl, hw⟩; have hw2 := hw.symm; clear hw; subst hw2; clear LB)
              | (go_at_call 36; refine (LK.out _ _ L9.out).mono ?_; rintro e w0 ⟨rfl, hw⟩; have hw2 := hw.symm; clear hw; subst hw2; clear LK))
            go_ret
            exact ⟨rfl, G9.out⟩)
end Go.Proofs.Ytddnjlnnkeiplaa
