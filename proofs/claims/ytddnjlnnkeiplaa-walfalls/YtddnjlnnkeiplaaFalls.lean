/-
  WalFalls: the law's own walk.
-/
import Derived.Test.YtddnjlnnkeiplaaKPlr
import Derived.Deep.DeepCutAuto
import Derived.Deep.CutBlock
namespace Go.Proofs.Ytddnjlnnkeiplaa
open Go.RowKit Go.Maps
structure FlAt (w : World) (g o : Nat) (f : X.Fa) : Prop where
  c0 : w.cell? ⟨g, o, none⟩ = some (.int .i64 f.at_)
  c1 : w.cell? ⟨g, o + 1, none⟩ = some (.int .i64 f.keep)
  c2 : w.cell? ⟨g, o + 2, none⟩ = some (.int .i64 f.torn)
  keep : f.keep ≤ 9223372036854775807
  torn : f.torn ≤ 9223372036854775807
theorem FlAt.kept {w w' : World} {g o : Nat} {f : X.Fa} (h : FlAt w g o f) (hg : w.grownBy w' none) : FlAt w' g o f :=
  ⟨cell_kept h.c0 hg (fun _ e => by cases e), cell_kept h.c1 hg (fun _ e => by cases e), cell_kept h.c2 hg (fun _ e => by cases e), h.keep, h.torn⟩
set_option maxRecDepth 100000 in
set_option maxHeartbeats 200000000 in
theorem falls_law (pa : Option Addr) (n cap xb xo : Nat) (A : Nat → Ac) (pf : Option Addr) (n2 cap2 yb yo : Nat) (B : Nat → X.Fa) (w : World) (hpa : 0 < n → pa = some ⟨xb, xo, none⟩) (hc : ∀ j, j < n → AcAt w xb (xo + j * 7) (A j)) (hn : n ≤ 9223372036854775807)
    (hpf : 0 < n2 → pf = some ⟨yb, yo, none⟩) (hcf : ∀ j, j < n2 → FlAt w yb (yo + j * 3) (B j)) (hn2 : n2 ≤ 9223372036854775807) :
    Calls Try.prog 4 #[.slice pa n cap, .slice pf n2 cap2] w fun e w' => e = .returned (.bool true) ∧ w.grownBy w' none := by
  have C9 := hid (new_any w)
  have PA := hid hpa
  have HC := hid hc
  have PF := hid hpf
  have HF := hid hcf
  have O0 := hid (fun W h => X.open_f (base := w.heap.size) (gp := 0) (d := w.heap.size) (rm := 0) (F := none) (c := 0) (pl := none) (fr := []) (W := W) (N := none) h (Or.inl rfl) ⟨by decide, by decide, by decide⟩ rfl (Or.inl rfl) (by decide) (fun x hx => by cases hx))
  have AW := hid lawake_any
  have hn' : (n : Int) ≤ 9223372036854775807 := by omega
  have hn2' : (n2 : Int) ≤ 9223372036854775807 := by omega
  clear hpa hc hpf hcf
  go_enter Try.func4, Try.ntmps4
  go_wp2_with (first
    | (go_at_call 9; refine C9.out.mono ?_; rintro e w1 ⟨rfl, d1, g1⟩; have D1 : Hid (X.IsP w1 w.heap.size w.heap.size 0 false 0 (X.Dt none none 0 false) none) := hid ⟨X.x0, ⟨rfl, rfl⟩, X.of_plain d1, rfl⟩; have G1 := hid g1; clear d1 g1 C9)
    | (go_at_call 10; refine (O0.out _ D1.out).mono ?_; rintro e w2 ⟨b, rfl, hb2, l2, d2, t2⟩; have L2 := hid l2; have D2 := hid d2; have G2 := hid (X.LowP.grown G1.out t2); clear l2 d2 t2 O0)
    | (go_at_call 11; refine (AW.out _).mono ?_; rintro e w3 ⟨rfl, g3⟩; have L3 := hid (L2.out.kept g3); have D3 := hid (D2.out.kept g3); have G3 := hid (grown_none G2.out g3); have hw3 : w.heap.size < w3.heap.size := D3.out.base.2; clear g3 AW))
  have ST := hid (FaC.start (M := w3.heap.size) (O := w3.heap.size + 1) (L3.out.kept (grown_alloc (grown_alloc (grown_refl _ _) _) _)) (D3.out.kept (grown_alloc (grown_alloc (grown_refl _ _) _) _)) (grown_alloc (grown_alloc G3.out _) _) hw3 (by omega) (by omega) ((Blk.new w3 32 #[.slice none 0 0, .slice none 0 0, .int .i64 0, .int .i64 0, .string ⟨#[]⟩, .int .i64 0]).alloc (.cells #[.slice none 0 0, .slice none 0 0, .int .i64 0, .int .i64 0, .string ⟨#[]⟩, .int .i64 0] 32)) (by have := Blk.new (w3.alloc (.cells #[.slice none 0 0, .slice none 0 0, .int .i64 0, .int .i64 0, .string ⟨#[]⟩, .int .i64 0] 32)) 32 #[.slice none 0 0, .slice none 0 0, .int .i64 0, .int .i64 0, .string ⟨#[]⟩, .int .i64 0]; rw [World.size_alloc] at this; exact this))
  clear L3 D3 G3 L2 D2 G2 D1 G1 hb2
  generalize w3.heap.size = M at *
  go_loopw [6, 8, 11] (fun lv ev kv wr => ∃ (k b n0 c mk : Nat) (fr : List Fr) (F : Option ByteArray) (sv : Value), k ≤ n2 ∧ k ≤ 5 ∧ n0 ≤ 31 * k ∧ lv = .pointer (some ⟨b, 0, none⟩) ∧ ev = .int .i64 0 ∧ kv = .int .i64 k ∧ FaC w M (M + 1) 0 n0 wr fr F none c mk 0 sv (.slice none 0 0) [] none false ∧ FaX w b n0 wr fr [] 0 []) (fun _ _ kv _ => n2 - (intOf kv).toNat)
  case atStart => exact ⟨0, b, 0, 0, 0, [], none, _, Nat.zero_le _, Nat.zero_le _, Nat.le_refl _, rfl, rfl, rfl, ST.out.1, ST.out.2⟩
  case round =>
    obtain ⟨k, bb, n0, c, mk, fr, F, sv, hk, hk5, hn0, rfl, rfl, rfl, hC, hX⟩ := hrel
    obtain ⟨ps, cs, rfl⟩ := hC.sure.form
    have I := hid hC
    have IX := hid hX
    clear hC hX ST
    have k0 : (0 : Int) ≤ k := by omega
    by_cases hlt : k < n2 ∧ k < 5
    · obtain ⟨hkn, hk4⟩ := hlt
      have k1 : (k : Int) < n2 := by omega
      have k2 : (k : Int) < 5 := by omega
      have hp := PF.out (by omega)
      subst hp
      have AA := hid ((HF.out k hkn).kept I.out.grown)
      have a0 := AA.out.c0
      have a1 := AA.out.c1
      have a2 := AA.out.c2
      have hkm := AA.out.keep
      have htm := AA.out.torn
      generalize B k = ff at *
      obtain ⟨fa, fk, ft⟩ := ff
      simp only at a0 a1 a2 hkm htm
      have HKM := hid hkm
      have HTM := hid htm
      clear hkm htm
      have CH : Hid (∀ W, X.IsP W w.heap.size w.heap.size 0 false 0 (X.Dt F none c false) none → Calls Try.prog 25 #[.pointer (some ⟨w.heap.size, 0, none⟩)] W fun e w' => e = .returned (.int .i64 (c : Nat)) ∧ w' = W) := hid (fun W h => X.changes_q w.heap.size w.heap.size 0 0 _ none W h)
      go_upto_if 48 with fail
      go_cut [] (fun wx => ∃ az : Int, 0 ≤ az ∧ wx = wr.alloc (.cells #[.int .i64 az, .int .i64 fk, .int .i64 ft] 35))
      case first =>
        clear I IX CH PA HC AA HKM HTM
        by_cases hfa : fa < 0
        · go_wp2_with fail
          go_meet
          exact ⟨0, Int.le_refl _, rfl⟩
        · go_wp2_with fail
          go_meet
          exact ⟨fa, by omega, rfl⟩
      case rest =>
        obtain ⟨az, haz, rfl⟩ := hcut
        obtain ⟨q, hq, hq0, hq1⟩ : ∃ q : Int, az.tmod 20 = q ∧ 0 ≤ q ∧ q < 20 := ⟨_, rfl, Int.tmod_nonneg 20 haz, Int.tmod_lt_of_pos az (by decide)⟩
        have QQ : Hid (0 ≤ q ∧ q < 20) := hid ⟨hq0, hq1⟩
        have hcq := I.out.chg
        have iw : IntKind.i64.wrap ((c : Int) + q) = (c : Int) + q := by rw [IntKind.wrap_i64]; omega
        have BN := hid (Blk.new wr 35 #[.int .i64 az, .int .i64 fk, .int .i64 ft])
        have c0 := BN.out.cell 0
        have f0 := BN.out.frozen 0
        simp at c0
        clear hcq hq0 hq1 a0 a1 a2 haz
        go_wp2_with fail
        go_cut [] (fun wx => FaC w M (M + 1) 0 n0 wx fr F none c mk 0 (.slice ps (frG w.heap.size fr).recs.length cs) (.slice none 0 0) [] none false ∧ FaX w bb n0 wx fr [] 0 [] ∧ Blk wx wr.heap.size 35 #[.int .i64 ((c : Int) + q), .int .i64 fk, .int .i64 ft])
        case first =>
          have GN := hid (grown_alloc (grown_refl wr none) (.cells #[.int .i64 az, .int .i64 fk, .int .i64 ft] 35))
          have CH2 := hid (CH.out _ (I.out.disk.kept (grown_drew GN.out)))
          clear CH
          go_region_law (go_simp; go_at_call 25; refine CH2.out.mono ?_; rintro e w0 ⟨rfl, hw⟩; have hw2 := hw.symm; clear hw; subst hw2; clear CH2)
          all_goals (
            (try go_wp2_with fail)
            go_meet
            exact ⟨I.out.kept (grown_drew (grown_alloc (grown_refl wr none) _)), IX.out.kept (grown_drew (grown_alloc (grown_refl wr none) _)), (Blk.new wr 35 #[.int .i64 ((c : Int) + q), .int .i64 fk, .int .i64 ft]).drew⟩)
        case rest =>
          obtain ⟨hC, hX, hB⟩ := hcut
          clear I IX CH BN c0 f0 iw hq
          generalize wr.heap.size = Fb at *
          have I := hid hC
          have IX := hid hX
          have BF := hid hB
          have hFb := hid hB.lt
          have hgw := hid hC.grown.size
          clear hC hX hB
          have b0 := BF.out.cell 0
          have b1 := BF.out.cell 1
          have b2 := BF.out.cell 2
          simp at b0 b1 b2
          have GN := hid (grown_alloc (grown_refl wc none) (.cells #[.int .i64 ((c : Int) + q), .int .i64 fk, .int .i64 ft] 35))
          have PL := hid (X.planone_q w.heap.size w.heap.size 0 0 (X.Dt F none c false) none ⟨wc.heap.size, 0, none⟩ 1 ⟨(c : Int) + q, fk, ft⟩ (wc.alloc (.cells #[.int .i64 ((c : Int) + q), .int .i64 fk, .int .i64 ft] 35)) (I.out.disk.kept GN.out) (fun j u hj => by
            have hz := Blk.new wc 35 #[.int .i64 ((c : Int) + q), .int .i64 fk, .int .i64 ft]
            match j with
            | 0 => exact (hz.cell 0).trans hj
            | 1 => exact (hz.cell 1).trans hj
            | 2 => exact (hz.cell 2).trans hj
            | j + 3 => cases hj) HTM.out)
          go_upto_block 2 with (go_at_call 26; refine PL.out.mono ?_; rintro e w6 ⟨rfl, ⟨gp, hgp, d6⟩, g6⟩; have LP := X.LowP.of_low (g := gp) (self_low (base := w.heap.size) g6 (Nat.le_refl _) (I.out.disk.kept GN.out).blk); have I6 := hid (FaC.disk' (I.out.kept GN.out) LP d6 (Or.inr ⟨rfl, rfl⟩) (by show 0 ≤ _; omega) (I.out.chg) (Nat.le_refl _)); obtain ⟨_, hbd⟩ := (I.out.disk.kept GN.out).blk; have X6 : Hid (FaX w bb n0 w6 fr [] 0 []) := hid { (IX.out.kept GN.out) with log := (IX.out.kept GN.out).log.keptD hbd (Tend.of_self (base := w.heap.size) g6 (Nat.le_refl _)) }; have BF6 := hid (X.lowP_blk LP (BF.out.kept GN.out (by simp)) ⟨by decide, by decide, by decide, by decide, by decide⟩ (fun _ => by have := hFb.out; rw [World.size_alloc] at hgp; omega)); have HGP : Hid (Fb ≠ gp) := hid (by have := hFb.out; rw [World.size_alloc] at hgp; omega); obtain ⟨so, wo, lo, mo, ro, ko, hO⟩ := I6.out.oth; have BO := hid hO; have m0 := I6.out.blk.cell 0; have m1 := I6.out.blk.cell 1; have m2 := I6.out.blk.cell 2; have m3 := I6.out.blk.cell 3; have m4 := I6.out.blk.cell 4; have m5 := I6.out.blk.cell 5; simp [mdlV] at m0 m1 m2 m3 m4 m5; have o0 := hO.frozen 0; have o1 := hO.frozen 1; have o2 := hO.frozen 2; have o3 := hO.frozen 3; have o4 := hO.frozen 4; have o5 := hO.frozen 5; have v0 := hO.cell 0; have v1 := hO.cell 1; have v2 := hO.cell 2; have v3 := hO.cell 3; have v4 := hO.cell 4; have v5 := hO.cell 5; simp [mdlV] at v0 v1 v2 v3 v4 v5; clear d6 g6 LP hbd PL hO)
          have FB := FaC.both I6.out X6.out (bytL fr).size 0 mk (.slice ps (frG w.heap.size fr).recs.length cs) (.slice none 0 0) (frG w.heap.size fr).root
          have ha35 := I6.out.apart35 BF6.out
          have BF7 := hid (BF6.out.kept FB.2.2.2 (fun e => ha35.2 (Option.some.inj e)))
          have I7 := hid FB.1
          have X7 := hid FB.2.1
          obtain ⟨W7, hW7⟩ : ∃ W7, W7 = ((((((w6.setCell ⟨M + 1, 0, none⟩ (.slice ps (frG w.heap.size fr).recs.length cs)).setCell ⟨M + 1, 1, none⟩ (.slice none 0 0)).setCell ⟨M + 1, 2, none⟩ (.int .i64 (bytL fr).size)).setCell ⟨M + 1, 3, none⟩ (.int .i64 0)).setCell ⟨M + 1, 4, none⟩ (.string (frG w.heap.size fr).root)).setCell ⟨M + 1, 5, none⟩ (.int .i64 mk)) := ⟨_, rfl⟩
          have e0 : (.int .i64 ((0 : Nat) : Int) : Value) = .int .i64 0 := rfl
          rw [e0] at BF7 I7 X7
          rw [← hW7] at BF7 I7 X7 ⊢
          clear FB hW7 e0 ha35 m0 m1 m2 m3 m4 m5 o0 o1 o2 o3 o4 o5 v0 v1 v2 v3 v4 v5 BO BF6 X6 I6 BF IX I GN b0 b1 b2 hgp
          go_cut [13] (fun v wx => ∃ (n1 c1 mk1 mo1 : Nat) (fr1 : List Fr) (F1 N1 : Option ByteArray) (sv1 wv1 : Value) (Tl1 : List (Nat × ByteArray)) (pl1 : Option X.Fa) (dd1 : Bool), n1 ≤ n0 + 30 ∧ FaC w M (M + 1) gp n1 wx fr1 F1 N1 c1 mk1 mo1 sv1 wv1 Tl1 pl1 dd1 ∧ Blk wx Fb 35 #[.int .i64 ((c : Int) + q), .int .i64 fk, .int .i64 ft])
          case first =>
            go_wp2_with fail
            go_loopw [13] (fun iv wr2 => ∃ (i n1 c1 mk1 mo1 : Nat) (fr1 : List Fr) (ts1 : List ByteArray) (F1 N1 : Option ByteArray) (sv1 wv1 : Value) (Tl1 : List (Nat × ByteArray)) (pl1 : Option X.Fa) (dd1 : Bool), i ≤ n ∧ i ≤ 30 ∧ n1 ≤ n0 + i ∧ iv = .int .i64 i ∧ FaC w M (M + 1) gp n1 wr2 fr1 F1 N1 c1 mk1 mo1 sv1 wv1 Tl1 pl1 dd1 ∧ (dd1 = false → FaX w bb n1 wr2 fr1 ts1 mo1 Tl1) ∧ Blk wr2 Fb 35 #[.int .i64 ((c : Int) + q), .int .i64 fk, .int .i64 ft]) (fun iv _ => n - (intOf iv).toNat)
            case atStart => exact ⟨0, n0, c, mk, 0, fr, [], F, none, _, _, [], _, false, Nat.zero_le _, Nat.zero_le _, Nat.le_refl _, rfl, I7.out, fun _ => X7.out, BF7.out⟩
            case round =>
              obtain ⟨i, n1, c1, mk1, mo1, fr1, ts1, F1, N1, sv1, wv1, Tl1, pl1, dd1, hi, hi30, hn1, rfl, hC, hX, hB⟩ := hrel
              clear I7 X7 BF7 AA HF HKM HTM
              obtain ⟨ps, cs, rfl⟩ := hC.sure.form
              obtain ⟨pw, cw, rfl⟩ := hC.wait.form
              have DD : Hid (Calls Try.prog 27 #[.pointer (some ⟨w.heap.size, 0, none⟩)] wr fun e w' => e = .returned (.bool dd1) ∧ w' = wr) := hid (X.dead_q w.heap.size w.heap.size gp 0 _ pl1 wr hC.disk)
              have I := hid hC
              have HX := hid hX
              have BF := hid hB
              clear hC hX hB
              have i0 : (0 : Int) ≤ i := by omega
              by_cases hlt : i < n ∧ i < 30
              · obtain ⟨hin, hi3⟩ := hlt
                have i1 : (i : Int) < n := by omega
                have i2 : (i : Int) < 30 := by omega
                have hpp := PA.out (by omega)
                subst hpp
                cases dd1 with
                | true =>
                  clear PA HC HX
                  go_wp2_with (go_at_call 27; refine DD.out.mono ?_; rintro e w0 ⟨rfl, hw⟩; have hw2 := hw.symm; clear hw; subst hw2; clear DD)
                  go_meet
                  exact ⟨n1, c1, mk1, mo1, fr1, F1, N1, _, _, Tl1, pl1, true, by omega, I.out, BF.out⟩
                | false =>
                  have hN : N1 = none := by
                    rcases I.out.ways with h | h
                    · cases h.1
                    · exact h.2
                  subst hN
                  have XA := hid (HX.out rfl)
                  clear HX
                  have A0 := hid (HC.out i hin)
                  have AA := hid (A0.out.kept I.out.grown)
                  have a0 := AA.out.c0
                  have a1 := AA.out.c1
                  have a2 := AA.out.c2
                  have a3 := AA.out.c3
                  have a4 := AA.out.c4
                  have a5 := AA.out.c5
                  have a6 := AA.out.c6
                  generalize A i = ac at *
                  obtain ⟨kd, an, asx, lp, ln, lc, fat, kp, tn, lb, lo, ls⟩ := ac
                  simp only at a0 a1 a2 a3 a4 a5 a6
                  have BQ := hid (Blk.new wr 37 #[.int .i64 kd, .int .i64 an, .string asx, .slice lp ln lc, .int .i64 fat, .int .i64 kp, .int .i64 tn])
                  have IQ := hid (I.out.kept (grown_alloc (grown_refl wr none) (.cells #[.int .i64 kd, .int .i64 an, .string asx, .slice lp ln lc, .int .i64 fat, .int .i64 kp, .int .i64 tn] 37)))
                  have XQ := hid (XA.out.kept (grown_alloc (grown_refl wr none) (.cells #[.int .i64 kd, .int .i64 an, .string asx, .slice lp ln lc, .int .i64 fat, .int .i64 kp, .int .i64 tn] 37)))
                  have BFQ := hid (BF.out.kept (grown_alloc (grown_refl wr none) (.cells #[.int .i64 kd, .int .i64 an, .string asx, .slice lp ln lc, .int .i64 fat, .int .i64 kp, .int .i64 tn] 37)) (by simp))
                  clear HC PA AA I XA BF
                  obtain ⟨WQ, hWQ⟩ : ∃ WQ, WQ = wr.alloc (.cells #[.int .i64 kd, .int .i64 an, .string asx, .slice lp ln lc, .int .i64 fat, .int .i64 kp, .int .i64 tn] 37) := ⟨_, rfl⟩
                  obtain ⟨qb, hqb⟩ : ∃ qb, qb = wr.heap.size := ⟨_, rfl⟩
                  have hkd : kd = 7 ∨ (4 ≤ kd ∧ kd ≤ 6) ∨ kd < 4 ∨ 7 < kd := by omega
                  go_upto_region 22 with (go_at_call 27; refine DD.out.mono ?_; rintro e w0 ⟨rfl, hw⟩; have hw2 := hw.symm; clear hw; subst hw2; clear DD)
                  rw [← hWQ] at BQ IQ XQ BFQ ⊢
                  rw [← hqb] at BQ ⊢
                  clear hWQ hqb a0 a1 a2 a3 a4 a5 a6
                  have j0 := BQ.out.cell 0
                  have j2 := BQ.out.cell 2
                  have j3 := BQ.out.cell 3
                  simp at j0 j2 j3
                  rcases hkd with rfl | ⟨k4, k6⟩ | k4 | k7
                  · as_aux_lemma =>
                      have hfw := fewS_size asx
                      have CW := hid (fun W => few_any asx W)
                      have CW2 := hid CW.out
                      have CT := hid (fun W (g : w.grownBy W none) => cut_any lp ln lc lb lo ls W A0.out.lp (fun j hj => cell_kept (A0.out.lcell j hj) g (fun _ e => by cases e)) A0.out.len)
                      have CT2 := hid CT.out
                      have hl6 : (cutK ls (min ln 6)).length ≤ 6 := by rw [cutK_len]; omega
                      have HLT : Hid (∀ t ∈ cutK ls (min ln 6), t.size ≤ 300) := hid (fun t ht => by
                        unfold cutK at ht
                        obtain ⟨j, _, rfl⟩ := List.mem_map.1 ht
                        exact fewS_size _)
                      obtain ⟨lg, hlg⟩ : ∃ lg : Nat, lg = offK (cutK ls (min ln 6)) (cutK ls (min ln 6)).length + ((fewS asx).size + 9) := ⟨_, rfl⟩
                      obtain ⟨cn, hcn⟩ : ∃ cn : Nat, cn = (cutK ls (min ln 6)).length := ⟨_, rfl⟩
                      have hby := IQ.out.bytes
                      have hch := IQ.out.chg
                      have RD := hid (fun W bl v hv => replaced_l bl v (cutK ls (min ln 6)) (fewS asx) lg cn W hv hl6 HLT.out hfw hlg hcn)
                      have RPT := hid (fun hh W bl v h1 h2 hv => X.replace_hit (base := w.heap.size) (b := bb) (gp := gp) (d := w.heap.size) (rm := 0) (F := F1) (c := c1) (pl := pl1) (fr := fr1) (ts := ts1) (r := fewS asx) (W := W) (bl := bl) (v := v) (l := cutK ls (min ln 6)) hh h1 h2 (by rw [IQ.out.file]; omega) (by omega) hv hl6 HLT.out hfw)
                      have RPF := hid (fun hh W bl v h1 h2 hv => X.replace_free (base := w.heap.size) (b := bb) (gp := gp) (d := w.heap.size) (rm := 0) (F := F1) (c := c1) (pl := pl1) (fr := fr1) (ts := ts1) (r := fewS asx) (W := W) (bl := bl) (v := v) (l := cutK ls (min ln 6)) hh h1 h2 (by rw [IQ.out.file]; omega) (by omega) hv hl6 HLT.out hfw)
                      have HFW := hid hfw
                      have HLG := hid (And.intro hlg trivial)
                      have HCN := hid (And.intro hcn trivial)
                      have HL6 := hid hl6
                      clear hfw hlg hcn hby hl6
                      generalize fewS asx = fx at *
                      generalize cutK ls (min ln 6) = cl at *
                      go_wp2_with fail
                      go_cut [] (fun wx => FaC w M (M + 1) gp n1 wx fr1 F1 none c1 mk1 mo1 (.slice ps (frG w.heap.size fr1).recs.length cs) (.slice pw Tl1.length cw) Tl1 pl1 false ∧ FaX w bb n1 wx fr1 ts1 mo1 Tl1 ∧ Blk wx qb 37 #[.int .i64 7, .int .i64 an, .string asx, .slice lp ln lc, .int .i64 fat, .int .i64 kp, .int .i64 tn] ∧ Blk wx Fb 35 #[.int .i64 ((c : Int) + q), .int .i64 fk, .int .i64 ft] ∧ ∃ p6 c6, Blk wx (M + 1) 32 (mdlV (.slice p6 cn c6) (.slice none 0 0) lg 0 fx 1) ∧ Recs wx 0 (.slice p6 cn c6) (plcK cl cl.length))
                      case first =>
                        clear RPT RPF CW2 CT2 HLG HCN HFW HL6 HLT hch
                        go_region_law (first
                          | (go_simp; go_at_call 19; refine (CT.out _ (grown_drew IQ.out.grown)).mono ?_; rintro e w4 ⟨v4, rfl, h4, g4⟩; have G4 : Hid (WQ.grownBy w4 none) := hid (grown_trans (grown_drew (grown_refl _ _)) g4); have R4 := hid h4; have k2 := (BQ.out.kept G4.out (by simp)).cell 2; simp at k2; obtain ⟨p4, c4, rfl, _⟩ := row_form h4; clear h4 g4 CT)
                          | (go_simp; go_at_call 14; refine (CW.out _).mono ?_; rintro e w0 ⟨rfl, hw⟩; have hw2 := hw.symm; clear hw; subst hw2; clear CW)
                          | (go_simp
                             go_at_call 20
                             refine (RD.out _ _ _ R4.out).mono ?_
                             rintro e w6 ⟨p6, c6, rfl, r6, g6⟩
                             have R6 := hid r6
                             have G6 : Hid (WQ.grownBy w6 none) := hid (grown_none G4.out g6)
                             have I6 := hid (IQ.out.kept G6.out)
                             have X6 := hid (XQ.out.kept G6.out)
                             obtain ⟨so, wo, lo', mo', ro, ko, hO⟩ := I6.out.oth
                             have BO := hid hO
                             have z0 := hO.frozen 0
                             have z1 := hO.frozen 1
                             have z2 := hO.frozen 2
                             have z3 := hO.frozen 3
                             have z4 := hO.frozen 4
                             have z5 := hO.frozen 5
                             have x0 := hO.cell 0
                             have x1 := hO.cell 1
                             have x2 := hO.cell 2
                             have x3 := hO.cell 3
                             have x4 := hO.cell 4
                             have x5 := hO.cell 5
                             simp [mdlV] at x0 x1 x2 x3 x4 x5
                             clear r6 g6 RD hO))
                        all_goals (
                          obtain ⟨W7, hW7⟩ : ∃ W7, W7 = ((((((w6.setCell ⟨M + 1, 0, none⟩ (.slice p6 cn c6)).setCell ⟨M + 1, 1, none⟩ (.slice none 0 0)).setCell ⟨M + 1, 2, none⟩ (.int .i64 lg)).setCell ⟨M + 1, 3, none⟩ (.int .i64 0)).setCell ⟨M + 1, 4, none⟩ (.string fx)).setCell ⟨M + 1, 5, none⟩ (.int .i64 1)) := ⟨_, rfl⟩
                          have FB := FaC.both0 I6.out X6.out lg 1 (.int .i64 1) (.slice p6 cn c6) (.slice none 0 0) fx rfl W7 hW7
                          rw [← hW7]
                          clear hW7
                          have R7 := rowG_kept R6.out BO.out (by decide) FB.2.2.2
                          have BQ6 := BQ.out.kept G6.out (by simp)
                          have BF6 := BFQ.out.kept G6.out (by simp)
                          have Q7 := BQ6.kept FB.2.2.2 (fun e => far_ne' BQ6 BO.out (by decide) (Option.some.inj e))
                          have F7 := BF6.kept FB.2.2.2 (fun e => far_ne' BF6 BO.out (by decide) (Option.some.inj e))
                          have E1 := hid FB.1
                          have E2 := hid FB.2.1
                          have E3 := hid Q7
                          have E4 := hid F7
                          have E5 := hid FB.2.2.1
                          have E6 := hid R7
                          clear FB R7 Q7 F7 BQ6 BF6 x0 x1 x2 x3 x4 x5 z0 z1 z2 z3 z4 z5 BO R6 G6 G4 R4 k2 I6 X6 IQ XQ BQ BFQ
                          (try go_wp2_with fail)
                          go_meet
                          exact ⟨E1.out, E2.out, E3.out, E4.out, p6, c6, E5.out, E6.out⟩)
                      case rest =>
                        obtain ⟨hC, hX, hQ, hF, p6, c6, hO, hR⟩ := hcut
                        clear IQ XQ BQ BFQ RD CW CT j0 j2 j3
                        have I := hid hC
                        have XA := hid hX
                        have BQ := hid hQ
                        have BF := hid hF
                        have BO := hid hO
                        have RO := hid hR
                        have r2 := hQ.cell 2
                        have r3 := hQ.cell 3
                        simp at r2 r3
                        clear hC hX hQ hF hO hR
                        obtain ⟨wk, hwk⟩ : ∃ wk, wk = wc := ⟨_, rfl⟩
                        subst hwk
                        have hhx : (X.hits pl1 c1 = true ∨ X.hits pl1 (c1 + 1) = true) ∨ (X.hits pl1 c1 = false ∧ X.hits pl1 (c1 + 1) = false) := by cases X.hits pl1 c1 <;> cases X.hits pl1 (c1 + 1) <;> simp
                        go_wp2_with fail
                        rcases hhx with hh | hh
                        · have RP := hid (RPT.out hh)
                          clear RPT RPF hh HLG HCN HFW HL6 HLT
                          go_cut [128] (fun v wx => v = .bool false ∧ (∃ N c', FaC w M (M + 1) gp (n1 + 1) wx fr1 F1 N c' mk1 mo1 (.slice ps (frG w.heap.size fr1).recs.length cs) (.slice pw Tl1.length cw) Tl1 none true) ∧ Blk wx Fb 35 #[.int .i64 ((c : Int) + q), .int .i64 fk, .int .i64 ft])
                          case first =>
                            go_region_law (first
                              | (go_simp; go_at_call 19; refine (CT2.out _ (grown_drew I.out.grown)).mono ?_; rintro e w4 ⟨v4, rfl, h4, g4⟩; have G4 : Hid (wk.grownBy w4 none) := hid (grown_trans (grown_drew (grown_refl _ _)) g4); have R4 := hid h4; have k2 := (BQ.out.kept G4.out (by simp)).cell 2; simp at k2; obtain ⟨p4, c4, rfl, _⟩ := row_form h4; clear h4 g4 CT2)
                              | (go_simp; go_at_call 14; refine (CW2.out _).mono ?_; rintro e w0 ⟨rfl, hw⟩; have hw2 := hw.symm; clear hw; subst hw2; clear CW2)
                              | (go_simp; go_at_call 18; refine (RP.out _ _ _ (XA.out.kept G4.out).log (I.out.kept G4.out).disk R4.out).mono ?_; rintro e w5 ⟨rfl, ⟨Nn, cc, hNz, hcc, d5⟩, t5⟩; have I5 := hid (FaC.disk' (n' := n1 + 1) (I.out.kept G4.out) t5 d5 (Or.inl ⟨rfl, rfl⟩) hNz (by omega) (Nat.le_succ n1)); have F5 := hid (X.lowP_blk t5 (BF.out.kept G4.out (by simp)) ⟨by decide, by decide, by decide, by decide, by decide⟩ (fun _ => HGP.out)); clear d5 t5 RP hNz hcc))
                            all_goals (
                              (try go_wp2_with fail)
                              go_meet
                              exact ⟨by simp, ⟨_, _, I5.out⟩, F5.out⟩)
                          case rest =>
                            obtain ⟨rfl, ⟨Nn, cc, h5⟩, f5⟩ := hcut
                            have I5 := hid h5
                            have F5 := hid f5
                            clear h5 f5 I XA BQ BF BO RO r2 r3 CT2 CW2 RP
                            go_wp2_with fail
                            go_roundw
                            case rel => exact ⟨i + 1, n1 + 1, cc, mk1, mo1, fr1, ts1, F1, Nn, _, _, Tl1, none, true, by omega, by omega, by omega, by go_num, I5.out, (fun h => by cases h), F5.out⟩
                            case measure => simp [intOf]; omega
                        · have RP := hid (RPF.out hh)
                          clear RPT RPF hh
                          go_cut [128] (fun v wx => v = .bool true ∧ IsLog wx w.heap.size bb (logP w.heap.size (cl.map recF ++ [(false, fx)]) []) ∧ X.IsP wx w.heap.size w.heap.size gp false 0 (X.Dt (some (bytL (cl.map recF ++ [(false, fx)]))) none (c1 + 2) false) pl1 ∧ X.LowP w.heap.size gp wk wx)
                          case first =>
                            clear HLG HCN HFW HL6 HLT
                            go_region_law (first
                              | (go_simp; go_at_call 19; refine (CT2.out _ (grown_drew I.out.grown)).mono ?_; rintro e w4 ⟨v4, rfl, h4, g4⟩; have G4 : Hid (wk.grownBy w4 none) := hid (grown_trans (grown_drew (grown_refl _ _)) g4); have R4 := hid h4; have k2 := (BQ.out.kept G4.out (by simp)).cell 2; simp at k2; obtain ⟨p4, c4, rfl, _⟩ := row_form h4; clear h4 g4 CT2)
                              | (go_simp; go_at_call 14; refine (CW2.out _).mono ?_; rintro e w0 ⟨rfl, hw⟩; have hw2 := hw.symm; clear hw; subst hw2; clear CW2)
                              | (go_simp; go_at_call 18; refine (RP.out _ _ _ (XA.out.kept G4.out).log (I.out.kept G4.out).disk R4.out).mono ?_; rintro e w5 ⟨rfl, l5, d5, t5⟩; have L5 := hid l5; have D5 := hid d5; have T5 : Hid (X.LowP w.heap.size gp wk w5) := hid (X.LowP.trans (X.LowP.of_low (Low.of_none G4.out)) t5); clear l5 d5 t5 RP))
                            all_goals (
                              (try go_wp2_with fail)
                              go_meet
                              exact ⟨by simp, L5.out, D5.out, T5.out⟩)
                          case rest =>
                            obtain ⟨rfl, l5, d5, TL⟩ := hcut
                            obtain ⟨w5, hw5⟩ : ∃ w5, w5 = wc := ⟨_, rfl⟩
                            subst hw5
                            have L5 := hid l5
                            have D5 := hid d5
                            obtain ⟨u1, u2, u3, u4, u5⟩ := I.out.over TL
                            have B5 := hid u1
                            have G5 := hid u5
                            have O5 := hid (X.lowP_blk TL BO.out ⟨by decide, by decide, by decide, by decide, by decide⟩ (fun e => by cases e))
                            have R5 := hid (X.Recs.lowP RO.out TL)
                            have F5 := hid (X.lowP_blk TL BF.out ⟨by decide, by decide, by decide, by decide, by decide⟩ (fun _ => HGP.out))
                            have x0 := O5.out.cell 0
                            have x1 := O5.out.cell 1
                            have x2 := O5.out.cell 2
                            have x3 := O5.out.cell 3
                            have x4 := O5.out.cell 4
                            have x5 := O5.out.cell 5
                            have y0 := B5.out.cell 0
                            have y1 := B5.out.cell 1
                            have y2 := B5.out.cell 2
                            have y3 := B5.out.cell 3
                            have y4 := B5.out.cell 4
                            have y5 := B5.out.cell 5
                            simp [mdlV] at x0 x1 x2 x3 x4 x5 y0 y1 y2 y3 y4 y5
                            have z0 := B5.out.frozen 0
                            have z1 := B5.out.frozen 1
                            have z2 := B5.out.frozen 2
                            have z3 := B5.out.frozen 3
                            have z4 := B5.out.frozen 4
                            have z5 := B5.out.frozen 5
                            clear l5 d5 TL BF BO RO u1 u2 u3 u4 u5 BQ r2 r3 CT2 CW2 RP
                            go_wp2_with fail
                            have H7 := grown_set (grown_set (grown_set (grown_set (grown_set (grown_set (grown_refl w5 (some M)) 0 (.slice p6 cn c6)) 1 (.slice none 0 0)) 2 (.int .i64 lg)) 3 (.int .i64 0)) 4 (.string fx)) 5 (.int .i64 1)
                            have B7 := (((((B5.out.set 0 (.slice p6 cn c6)).set 1 (.slice none 0 0)).set 2 (.int .i64 lg)).set 3 (.int .i64 0)).set 4 (.string fx)).set 5 (.int .i64 1)
                            have R7 := rowG_kept R5.out B5.out (by decide) H7
                            have G7 := grown_through G5.out H7 (Nat.le_of_lt I.out.memM)
                            have L7 := L5.out.law B5.out H7
                            have D7 := X.IsP.law D5.out B5.out H7
                            have O7 := O5.out.kept H7 (fun e => by have := Option.some.inj e; omega)
                            have F7 := F5.out.kept H7 (fun e => far_ne' F5.out B5.out (by decide) (Option.some.inj e))
                            obtain ⟨W7, hW7⟩ : ∃ W7, W7 = ((((((w5.setCell ⟨M, 0, none⟩ (.slice p6 cn c6)).setCell ⟨M, 1, none⟩ (.slice none 0 0)).setCell ⟨M, 2, none⟩ (.int .i64 lg)).setCell ⟨M, 3, none⟩ (.int .i64 0)).setCell ⟨M, 4, none⟩ (.string fx)).setCell ⟨M, 5, none⟩ (.int .i64 1)) := ⟨_, rfl⟩
                            rw [← hW7] at B7 R7 G7 L7 D7 O7 F7 ⊢
                            clear hW7 H7
                            have PN := FaC.replace (b := bb) I.out L7 D7 (by rw [← HLG.out.1]; exact B7) R7 ⟨_, _, _, _, _, _, O7⟩ G7 HL6.out HLT.out HFW.out
                            have P1 := hid PN.1
                            have P2 := hid PN.2
                            have P3 := hid F7
                            clear PN L7 D7 B7 R7 O7 G7 F7 L5 D5 B5 G5 O5 R5 F5 I XA x0 x1 x2 x3 x4 x5 y0 y1 y2 y3 y4 y5 z0 z1 z2 z3 z4 z5
                            generalize cl.map recF ++ [(false, fx)] = fr' at P1 P2
                            go_roundw
                            case rel => exact ⟨i + 1, n1 + 1, c1 + 2, 1, 0, fr', [], _, none, _, _, [], pl1, false, by omega, by omega, by omega, by go_num, P1.out, (fun _ => P2.out), P3.out⟩
                            case measure => simp [intOf]; omega
                  · as_aux_lemma =>
                      have hfw := fewS_size asx
                      have CW := hid (fun W => few_any asx W)
                      have CW2 := hid CW.out
                      obtain ⟨lg, hlg⟩ : ∃ lg : Nat, lg = (bytL fr1).size + (mo1 + ((fewS asx).size + 9)) := ⟨_, rfl⟩
                      obtain ⟨mk2, hmk2⟩ : ∃ mk2 : Nat, mk2 = mk1 + 1 := ⟨_, rfl⟩
                      have hby := XQ.out.bytes IQ.out
                      have hch := IQ.out.chg
                      have MC := hid (fun W h1 h2 => mcommit_l (frG w.heap.size fr1).recs Tl1 (.slice ps (frG w.heap.size fr1).recs.length cs) (.slice pw Tl1.length cw) (bytL fr1).size mo1 mk1 lg mk2 (frG w.heap.size fr1).root (fewS asx) W h1 h2 (by have := XQ.out.few; omega) (by omega) (by omega) (by have := IQ.out.mks; omega) hfw hlg hmk2)
                      have CMT := hid (fun hh W h1 h2 => X.commit_hit (base := w.heap.size) (b := bb) (gp := gp) (d := w.heap.size) (rm := 0) (F := F1) (c := c1) (pl := pl1) (fr := fr1) (ts := ts1) (r := fewS asx) (W := W) hh h1 h2 IQ.out.file hfw (by omega) (by omega) (by have := XQ.out.recsz; omega))
                      have CMF := hid (fun hh W h1 h2 => X.commit_free (base := w.heap.size) (b := bb) (gp := gp) (d := w.heap.size) (rm := 0) (F := F1) (c := c1) (pl := pl1) (fr := fr1) (ts := ts1) (r := fewS asx) (W := W) hh h1 h2 IQ.out.file hfw (by omega) (by omega) (by have := XQ.out.recsz; omega))
                      have d7 : (kd == 7) = false := by simp; omega
                      have HFW := hid hfw
                      have HLG := hid (And.intro hlg trivial)
                      have HMK := hid (And.intro hmk2 trivial)
                      clear hfw hlg hmk2 hby
                      generalize fewS asx = fx at *
                      have y0 := IQ.out.blk.cell 0
                      have y1 := IQ.out.blk.cell 1
                      have y2 := IQ.out.blk.cell 2
                      have y3 := IQ.out.blk.cell 3
                      have y4 := IQ.out.blk.cell 4
                      have y5 := IQ.out.blk.cell 5
                      simp [mdlV] at y0 y1 y2 y3 y4 y5
                      go_wp2_with fail
                      go_cut [] (fun wx => FaC w M (M + 1) gp n1 wx fr1 F1 none c1 mk1 mo1 (.slice ps (frG w.heap.size fr1).recs.length cs) (.slice pw Tl1.length cw) Tl1 pl1 false ∧ FaX w bb n1 wx fr1 ts1 mo1 Tl1 ∧ Blk wx qb 37 #[.int .i64 kd, .int .i64 an, .string asx, .slice lp ln lc, .int .i64 fat, .int .i64 kp, .int .i64 tn] ∧ Blk wx Fb 35 #[.int .i64 ((c : Int) + q), .int .i64 fk, .int .i64 ft] ∧ ∃ p6 c6, Blk wx (M + 1) 32 (mdlV (.slice p6 ((frG w.heap.size fr1).recs.length + Tl1.length) c6) (.slice none 0 0) lg 0 fx mk2) ∧ Recs wx 0 (.slice p6 ((frG w.heap.size fr1).recs.length + Tl1.length) c6) ((frG w.heap.size fr1).recs ++ Tl1))
                      case first =>
                        clear CMT CMF CW2
                        go_region_law (first
                          | (go_simp; go_at_call 14; refine (CW.out _).mono ?_; rintro e w0 ⟨rfl, hw⟩; have hw2 := hw.symm; clear hw; subst hw2; clear CW)
                          | (go_simp
                             go_at_call 15
                             refine (MC.out _ (IQ.out.sure.none (grown_drew (grown_refl WQ none))) (IQ.out.wait.none (grown_drew (grown_refl WQ none)))).mono ?_
                             rintro e w6 ⟨p6, c6, rfl, r6, g6⟩
                             have R6 := hid r6
                             have G6 : Hid (WQ.grownBy w6 none) := hid (grown_trans (grown_drew (grown_refl WQ none)) g6)
                             have I6 := hid (IQ.out.kept G6.out)
                             have X6 := hid (XQ.out.kept G6.out)
                             obtain ⟨so, wo, lo', mo', ro, ko, hO⟩ := I6.out.oth
                             have BO := hid hO
                             have z0 := hO.frozen 0
                             have z1 := hO.frozen 1
                             have z2 := hO.frozen 2
                             have z3 := hO.frozen 3
                             have z4 := hO.frozen 4
                             have z5 := hO.frozen 5
                             have x0 := hO.cell 0
                             have x1 := hO.cell 1
                             have x2 := hO.cell 2
                             have x3 := hO.cell 3
                             have x4 := hO.cell 4
                             have x5 := hO.cell 5
                             simp [mdlV] at x0 x1 x2 x3 x4 x5
                             clear r6 g6 MC hO))
                        all_goals (
                          obtain ⟨W7, hW7⟩ : ∃ W7, W7 = ((((((w6.setCell ⟨M + 1, 0, none⟩ (.slice p6 ((frG w.heap.size fr1).recs.length + Tl1.length) c6)).setCell ⟨M + 1, 1, none⟩ (.slice none 0 0)).setCell ⟨M + 1, 2, none⟩ (.int .i64 lg)).setCell ⟨M + 1, 3, none⟩ (.int .i64 0)).setCell ⟨M + 1, 4, none⟩ (.string fx)).setCell ⟨M + 1, 5, none⟩ (.int .i64 mk2)) := ⟨_, rfl⟩
                          have FB := FaC.both0 I6.out X6.out lg mk2 (.int .i64 mk2) (.slice p6 ((frG w.heap.size fr1).recs.length + Tl1.length) c6) (.slice none 0 0) fx rfl W7 hW7
                          rw [← hW7]
                          clear hW7
                          have R7 := rowG_kept R6.out BO.out (by decide) FB.2.2.2
                          have BQ6 := BQ.out.kept G6.out (by simp)
                          have BF6 := BFQ.out.kept G6.out (by simp)
                          have Q7 := BQ6.kept FB.2.2.2 (fun e => far_ne' BQ6 BO.out (by decide) (Option.some.inj e))
                          have F7 := BF6.kept FB.2.2.2 (fun e => far_ne' BF6 BO.out (by decide) (Option.some.inj e))
                          have E1 := hid FB.1
                          have E2 := hid FB.2.1
                          have E3 := hid Q7
                          have E4 := hid F7
                          have E5 := hid FB.2.2.1
                          have E6 := hid R7
                          clear FB R7 Q7 F7 BQ6 BF6 x0 x1 x2 x3 x4 x5 z0 z1 z2 z3 z4 z5 BO R6 G6 I6 X6 IQ XQ BQ BFQ
                          (try go_wp2_with fail)
                          go_meet
                          exact ⟨E1.out, E2.out, E3.out, E4.out, p6, c6, E5.out, E6.out⟩)
                      case rest =>
                        obtain ⟨hC, hX, hQ, hF, p6, c6, hO, hR⟩ := hcut
                        clear IQ XQ BQ BFQ MC CW y0 y1 y2 y3 y4 y5 j0 j2 j3
                        have I := hid hC
                        have XA := hid hX
                        have BF := hid hF
                        have BO := hid hO
                        have RO := hid hR
                        have r2 := hQ.cell 2
                        simp at r2
                        clear hC hX hQ hF hO hR
                        have hhx : X.hits pl1 c1 = true ∨ X.hits pl1 c1 = false := by cases X.hits pl1 c1 <;> simp
                        rcases hhx with hh | hh
                        · have CM := hid (CMT.out hh)
                          clear CMT CMF hh
                          go_wp2_with (first
                            | (go_at_call 14; refine (CW2.out _).mono ?_; rintro e w0 ⟨rfl, hw⟩; have hw2 := hw.symm; clear hw; subst hw2; clear CW2)
                            | (go_at_call 13
                               refine (CM.out _ XA.out.log I.out.disk).mono ?_
                               rintro e w5 ⟨rfl, d5, TL⟩
                               have I5 := hid (FaC.disk' (n' := n1 + 1) I.out TL d5 (Or.inl ⟨rfl, rfl⟩) (by show 0 ≤ _; omega) (by omega) (Nat.le_succ n1))
                               have F5 := hid (X.lowP_blk TL BF.out ⟨by decide, by decide, by decide, by decide, by decide⟩ (fun _ => HGP.out))
                               clear d5 TL CM I XA BF BO RO))
                          go_roundw
                          case rel => exact ⟨i + 1, n1 + 1, c1, mk1, mo1, fr1, ts1, F1, none, _, _, Tl1, none, true, by omega, by omega, by omega, by go_num, I5.out, (fun h => by cases h), F5.out⟩
                          case measure => simp [intOf]; omega
                        · have CM := hid (CMF.out hh)
                          clear CMT CMF hh
                          go_wp2_with (first
                            | (go_at_call 14; refine (CW2.out _).mono ?_; rintro e w0 ⟨rfl, hw⟩; have hw2 := hw.symm; clear hw; subst hw2; clear CW2)
                            | (go_at_call 13
                               refine (CM.out _ XA.out.log I.out.disk).mono ?_
                               rintro e w5 ⟨rfl, l5, d5, TL⟩
                               have L5 := hid l5
                               have D5 := hid d5
                               obtain ⟨u1, u2, u3, u4, u5⟩ := I.out.over TL
                               have B5 := hid u1
                               have G5 := hid u5
                               have O5 := hid (X.lowP_blk TL BO.out ⟨by decide, by decide, by decide, by decide, by decide⟩ (fun e => by cases e))
                               have R5 := hid (X.Recs.lowP RO.out TL)
                               have F5 := hid (X.lowP_blk TL BF.out ⟨by decide, by decide, by decide, by decide, by decide⟩ (fun _ => HGP.out))
                               have x0 := O5.out.cell 0
                               have x1 := O5.out.cell 1
                               have x2 := O5.out.cell 2
                               have x3 := O5.out.cell 3
                               have x4 := O5.out.cell 4
                               have x5 := O5.out.cell 5
                               have y0 := B5.out.cell 0
                               have y1 := B5.out.cell 1
                               have y2 := B5.out.cell 2
                               have y3 := B5.out.cell 3
                               have y4 := B5.out.cell 4
                               have y5 := B5.out.cell 5
                               simp [mdlV] at x0 x1 x2 x3 x4 x5 y0 y1 y2 y3 y4 y5
                               have z0 := B5.out.frozen 0
                               have z1 := B5.out.frozen 1
                               have z2 := B5.out.frozen 2
                               have z3 := B5.out.frozen 3
                               have z4 := B5.out.frozen 4
                               have z5 := B5.out.frozen 5
                               clear l5 d5 TL CM BF BO RO u1 u2 u3 u4 u5))
                          have H7 := grown_set (grown_set (grown_set (grown_set (grown_set (grown_set (grown_refl w5 (some M)) 0 (.slice p6 ((frG w.heap.size fr1).recs.length + Tl1.length) c6)) 1 (.slice none 0 0)) 2 (.int .i64 lg)) 3 (.int .i64 0)) 4 (.string fx)) 5 (.int .i64 mk2)
                          have B7 := (((((B5.out.set 0 (.slice p6 ((frG w.heap.size fr1).recs.length + Tl1.length) c6)).set 1 (.slice none 0 0)).set 2 (.int .i64 lg)).set 3 (.int .i64 0)).set 4 (.string fx)).set 5 (.int .i64 mk2)
                          have R7 := rowG_kept R5.out B5.out (by decide) H7
                          have G7 := grown_through G5.out H7 (Nat.le_of_lt I.out.memM)
                          have L7 := L5.out.law B5.out H7
                          have D7 := X.IsP.law D5.out B5.out H7
                          have O7 := O5.out.kept H7 (fun e => by have := Option.some.inj e; omega)
                          have F7 := F5.out.kept H7 (fun e => far_ne' F5.out B5.out (by decide) (Option.some.inj e))
                          obtain ⟨W7, hW7⟩ : ∃ W7, W7 = ((((((w5.setCell ⟨M, 0, none⟩ (.slice p6 ((frG w.heap.size fr1).recs.length + Tl1.length) c6)).setCell ⟨M, 1, none⟩ (.slice none 0 0)).setCell ⟨M, 2, none⟩ (.int .i64 lg)).setCell ⟨M, 3, none⟩ (.int .i64 0)).setCell ⟨M, 4, none⟩ (.string fx)).setCell ⟨M, 5, none⟩ (.int .i64 mk2)) := ⟨_, rfl⟩
                          rw [← hW7] at B7 R7 G7 L7 D7 O7 F7 ⊢
                          clear hW7 H7
                          have PN := FaC.commit I.out XA.out L7 D7 (by rw [← HLG.out.1, ← HMK.out.1]; exact B7) R7 ⟨_, _, _, _, _, _, O7⟩ G7 HFW.out
                          have P1 := hid PN.1
                          have P2 := hid PN.2
                          have P3 := hid F7
                          clear PN L7 D7 B7 R7 O7 G7 F7 L5 D5 B5 G5 O5 R5 F5 I XA x0 x1 x2 x3 x4 x5 y0 y1 y2 y3 y4 y5 z0 z1 z2 z3 z4 z5
                          generalize fr1 ++ List.map recF ts1 ++ [(false, fx)] = fr' at P1 P2
                          go_roundw
                          case rel => exact ⟨i + 1, n1 + 1, c1 + 1, mk1 + 1, 0, fr', [], _, none, _, _, [], pl1, false, by omega, by omega, by omega, by go_num, P1.out, (fun _ => P2.out), P3.out⟩
                          case measure => simp [intOf]; omega
                  · as_aux_lemma =>
                      have hfw := fewS_size asx
                      have CW := hid (fun W => few_any asx W)
                      have CW2 := hid CW.out
                      have CW3 := hid CW.out
                      have hby := XQ.out.bytes IQ.out
                      obtain ⟨pt, hpt⟩ : ∃ pt : Nat, pt = (bytL fr1).size + mo1 := ⟨_, rfl⟩
                      have AP : Hid (∀ W, IsLog W w.heap.size bb (logP w.heap.size fr1 ts1) → Calls Try.prog 22 #[.pointer (some ⟨bb, 0, none⟩), .string (fewS asx)] W fun e w' => e = .returned (.tuple #[.int .i64 (pt : Nat), .int .i64 0]) ∧ IsLog w' w.heap.size bb (logP w.heap.size fr1 (ts1 ++ [fewS asx])) ∧ LT w.heap.size bb W w') := hid (fun W h => by
                        have := append_frames w.heap.size bb w.heap.size fr1 ts1 (fewS asx) W h hfw (by omega) (by have := XQ.out.recsz; omega)
                        rw [← XQ.out.more, ← hpt] at this
                        exact this)
                      have CF := hid (fun W => lframe_any (fewS asx) W (by omega))
                      have htl : Tl1.length ≤ 1000 := by have := XQ.out.few; omega
                      have hmo : mo1 ≤ 60000 := by omega
                      have HFW := hid hfw
                      have HPT := hid (And.intro hpt trivial)
                      have d7 : (kd == 7) = false := by simp; omega
                      clear hfw hpt hby
                      generalize fewS asx = fx at *
                      have k5 : ¬ 4 ≤ kd := by omega
                      go_wp2_with (first
                        | (go_at_call 14; refine (CW.out _).mono ?_; rintro e w0 ⟨rfl, hw⟩; have hw2 := hw.symm; clear hw; subst hw2; clear CW)
                        | (go_at_call 22
                           refine (AP.out _ XQ.out.log).mono ?_
                           rintro e w5 ⟨rfl, l5, t5⟩
                           have L5 := hid l5
                           have TL := X.LowP.of_low (g := gp) (Low.of_lt t5 XQ.out.log.blk)
                           obtain ⟨_, hbb⟩ := XQ.out.log.blk
                           have D5 := hid (X.IsP.log IQ.out.disk hbb t5)
                           obtain ⟨u1, u2, u3, u4, u5⟩ := IQ.out.over TL
                           have B5 := hid u1
                           have S5 := hid u2
                           have W5 := hid u3
                           have O5 := hid u4
                           have G5 := hid u5
                           have Q5 := hid (X.lowP_blk TL BQ.out ⟨by decide, by decide, by decide, by decide, by decide⟩ (fun e => by cases e))
                           have F5 := hid (X.lowP_blk TL BFQ.out ⟨by decide, by decide, by decide, by decide, by decide⟩ (fun _ => HGP.out))
                           have y1 := u1.cell 1
                           simp [mdlV] at y1
                           have r2 := Q5.out.cell 2
                           simp at r2
                           clear l5 t5 TL u1 u2 u3 u4 u5 AP hbb))
                      have hmem := hid IQ.out.memM
                      have ma1 := (B5.out.alloc (.cells #[] 49)).cell 1
                      have ra2 := (Q5.out.alloc (.cells #[] 49)).cell 2
                      simp [mdlV] at ma1 ra2
                      have GA := hid (grown_drew (grown_alloc (grown_refl w5 none) (.cells #[] 49)))
                      have EA : Hid (Recs (w5.alloc (.cells #[] 49)).drew w5.heap.size (.slice (some ⟨w5.heap.size, 0, none⟩) 0 0) []) := recs_new w5 _ (Nat.le_refl _)
                      have HB : Hid (w5.heap.size ≤ (w5.alloc (.cells #[] 49)).drew.heap.size) := GA.out.size
                      have HN1 : Hid (([] : List (Nat × ByteArray)).length + Tl1.length ≤ 1000000) := (by show 0 + Tl1.length ≤ _; omega)
                      have HN2 : Hid (([] ++ Tl1 : List (Nat × ByteArray)).length + [(pt, fx)].length ≤ 1000000) := (by show Tl1.length + 1 ≤ _; omega)
                      have HMO := hid hmo
                      clear htl hmo d7 j0 j2 j3 k4 k5 BQ BFQ
                      go_cut [99] (fun v wx => ∃ p4 c4, v = .slice p4 (Tl1.length + 1) c4 ∧ Blk wx M 32 (mdlV (.slice ps (frG w.heap.size fr1).recs.length cs) (.slice p4 (Tl1.length + 1) c4) (bytL fr1).size mo1 (frG w.heap.size fr1).root mk1) ∧ Blk wx qb 37 #[.int .i64 kd, .int .i64 an, .string asx, .slice lp ln lc, .int .i64 fat, .int .i64 kp, .int .i64 tn] ∧ IsLog wx w.heap.size bb (logP w.heap.size fr1 (ts1 ++ [fx])) ∧ X.IsP wx w.heap.size w.heap.size gp false 0 (X.Dt F1 none c1 false) pl1 ∧ Recs wx 0 (.slice ps (frG w.heap.size fr1).recs.length cs) (frG w.heap.size fr1).recs ∧ Recs wx 0 (.slice p4 (Tl1.length + 1) c4) (Tl1 ++ [(pt, fx)]) ∧ (∃ so wo lo mo ro ko, Blk wx (M + 1) 32 (mdlV so wo lo mo ro ko)) ∧ Blk wx Fb 35 #[.int .i64 ((c : Int) + q), .int .i64 fk, .int .i64 ft] ∧ w.grownBy wx none)
                      case first =>
                        clear CF CW3 IQ XQ HMO HFW HPT hn0 hn1 hi hi30
                        go_region_law (first
                          | (refine step_recs (.tmp 89) (.tmp 91) rfl rfl w5.heap.size 0 _ _ [] Tl1 EA.out (W5.out.none GA.out) HN1.out HB.out rfl rfl ?_; intro v3 w11 h3 g3; have G3 := hid (grown_recs GA.out EA.out g3 (Nat.le_refl _)); have Z3 := hid (Nat.le_trans HB.out g3.size); have R3 := hid h3; obtain ⟨p3, c3, rfl⟩ := h3.form; have n2 := (Q5.out.kept G3.out (by simp)).cell 2; simp at n2; have RO : Hid (Recs (w11.alloc (.cells #[.int .i64 pt, .string fx] 49)) w5.heap.size (.slice (some ⟨w11.heap.size, 0, none⟩) 1 1) [(pt, fx)]) := (recs_one w11 _ _ (by have := Z3.out; have := G3.out.size; omega)); have RA : Hid (Recs (w11.alloc (.cells #[.int .i64 pt, .string fx] 49)) w5.heap.size (.slice p3 ([] ++ Tl1).length c3) ([] ++ Tl1)) := (World.ownsRow.alloc R3.out _); have H2 : Hid (w5.heap.size ≤ (w11.alloc (.cells #[.int .i64 pt, .string fx] 49)).heap.size) := ((grown_alloc G3.out _).size); clear h3 g3)
                          | (go_simp; go_at_call 14; refine (CW2.out _).mono ?_; rintro e w0 ⟨rfl, hw⟩; have hw2 := hw.symm; clear hw; subst hw2; clear CW2)
                          | (refine step_recs (.tmp 92) (.tmp 98) rfl rfl w5.heap.size w5.heap.size _ _ ([] ++ Tl1) _ RA.out RO.out HN2.out H2.out rfl rfl ?_; intro v4 w12 h4 g4; have G4 := hid (grown_recs (grown_alloc G3.out _) RA.out g4 (Nat.le_refl _)); have R4 := hid h4; obtain ⟨p4, c4, e4⟩ := h4.form; have e5 : (([] ++ Tl1) ++ [(pt, fx)]).length = Tl1.length + 1 := (by rw [List.length_append]; rfl); rw [e5] at e4; subst e4; have B12 := hid (B5.out.kept G4.out (by simp)); have n1' := B12.out.cell 1; have n3 := B12.out.frozen 1; simp [mdlV] at n1'; clear h4 g4 e5))
                        all_goals (
                          have H13 := grown_set (grown_refl w12 (some M)) 1 (.slice p4 (Tl1.length + 1) c4)
                          have B13 : Hid (Blk (w12.setCell ⟨M, 1, none⟩ (.slice p4 (Tl1.length + 1) c4)) M 32 (mdlV (.slice ps (frG w.heap.size fr1).recs.length cs) (.slice p4 (Tl1.length + 1) c4) (bytL fr1).size mo1 (frG w.heap.size fr1).root mk1)) := B12.out.set 1 _
                          have Q12 := Q5.out.kept G4.out (by simp)
                          have F12 := F5.out.kept G4.out (by simp)
                          have Q13 := hid (Q12.kept H13 (fun e => far_ne' Q12 B12.out (by decide) (Option.some.inj e)))
                          have F13 := hid (F12.kept H13 (fun e => far_ne' F12 B12.out (by decide) (Option.some.inj e)))
                          obtain ⟨so, wo, lo', mo', ro, ko, hO⟩ := O5.out
                          have O13 := hid ((hO.kept G4.out (by simp)).kept H13 (fun e => by have := Option.some.inj e; omega))
                          have L13 := hid ((L5.out.kept G4.out).law B12.out H13)
                          have D13 := hid (X.IsP.law (D5.out.kept G4.out) B12.out H13)
                          have S13 := hid (rowG_kept (S5.out.none G4.out) B12.out (by decide) H13)
                          have W13 := hid (rowG_kept (Recs.down R4.out (Nat.zero_le _)) B12.out (by decide) H13)
                          have G13 := hid (grown_through (grown_none G5.out G4.out) H13 (Nat.le_of_lt hmem.out))
                          clear H13 Q12 F12 hO Q5 F5 O5 L5 D5 S5 W5 G5 G4 R4 G3 R3 Z3 RO RA H2 n1' n2 n3 B12 B5 EA GA HB HN1 HN2 ma1 ra2 y1 r2 hmem
                          (try go_wp2_with fail)
                          go_meet
                          exact ⟨p4, c4, rfl, B13.out, Q13.out, L13.out, D13.out, S13.out, W13.out, ⟨_, _, _, _, _, _, O13.out⟩, F13.out, G13.out⟩)
                      case rest =>
                        obtain ⟨p4, c4, rfl, b13, q13, l13, d13, s13, w13, o13, f13, g13⟩ := hcut
                        have B13 := hid b13
                        have Q13 := hid q13
                        have L13 := hid l13
                        have D13 := hid d13
                        have S13 := hid s13
                        have W13 := hid w13
                        have O13 := hid o13
                        have F13 := hid f13
                        have G13 := hid g13
                        have m3 := b13.cell 3
                        have m2 := q13.cell 2
                        simp [mdlV] at m3 m2
                        clear b13 q13 l13 d13 s13 w13 o13 f13 g13 HN1 HN2 HB EA GA ma1 ra2 y1 r2 L5 D5 B5 S5 W5 G5 Q5 O5 F5 CW2
                        have hfw := HFW.out
                        have hmo := HMO.out
                        have i4 : (fx.size : Int) ≤ 300 := by omega
                        have i5 : (mo1 : Int) ≤ 60000 := by omega
                        have iw1 : IntKind.i64.wrap ((mo1 : Int) + ((fx.size : Int) + 9)) = (mo1 : Int) + ((fx.size : Int) + 9) := by rw [IntKind.wrap_i64]; omega
                        clear hfw hmo
                        obtain ⟨wk, hwk⟩ : ∃ wk, wk = wc := ⟨_, rfl⟩
                        subst hwk
                        go_wp2_with fail
                        go_region_law (first
                          | (go_simp; go_at_call 14; refine (CW3.out _).mono ?_; rintro e w0 ⟨rfl, hw⟩; have hw2 := hw.symm; clear hw; subst hw2; clear CW3)
                          | (go_simp; go_at_call 23; refine (CF.out _).mono ?_; rintro e w14 ⟨rfl, g14⟩; have G14 : Hid (wk.grownBy w14 none) := hid (grown_trans (grown_drew (grown_refl _ _)) g14); have B14 := hid (B13.out.kept G14.out (by simp)); have d3 := B14.out.cell 3; have d4 := B14.out.frozen 3; simp [mdlV] at d3; clear g14 CF))
                        all_goals (
                          have H7 := grown_set (grown_refl w14 (some M)) 3 (.int .i64 ((mo1 : Int) + ((fx.size : Int) + 9)))
                          have B7 := B14.out.set 3 (.int .i64 ((mo1 : Int) + ((fx.size : Int) + 9)))
                          have S7 := rowG_kept (S13.out.none G14.out) B14.out (by decide) H7
                          have V7 := rowG_kept (W13.out.none G14.out) B14.out (by decide) H7
                          have G7 := grown_through (grown_none G13.out G14.out) H7 (Nat.le_of_lt hmem.out)
                          have L7 := (L13.out.kept G14.out).law B14.out H7
                          have D7 := X.IsP.law (D13.out.kept G14.out) B14.out H7
                          obtain ⟨so, wo, lo', mo', ro, ko, hO⟩ := O13.out
                          have O7 := (hO.kept G14.out (by simp)).kept H7 (fun e => by have := Option.some.inj e; omega)
                          have F14 := F13.out.kept G14.out (by simp)
                          have F7 := F14.kept H7 (fun e => far_ne' F14 B14.out (by decide) (Option.some.inj e))
                          obtain ⟨W7, hW7⟩ : ∃ W7, W7 = w14.setCell ⟨M, 3, none⟩ (.int .i64 ((mo1 : Int) + ((fx.size : Int) + 9))) := ⟨_, rfl⟩
                          rw [← hW7] at B7 S7 V7 G7 L7 D7 O7 F7 ⊢
                          clear hW7 H7
                          have ec : ((mo1 + (fx.size + 9) : Nat) : Int) = (mo1 : Int) + ((fx.size : Int) + 9) := by omega
                          have PN := FaC.append (wv' := .slice p4 (Tl1.length + 1) c4) IQ.out XQ.out L7 D7 (by unfold mdlV; rw [ec]; exact B7) S7 (by rw [← HPT.out.1]; exact V7) ⟨_, _, _, _, _, _, O7⟩ G7 HFW.out
                          have P1 := hid PN.1
                          have P2 := hid PN.2
                          have P3 := hid F7
                          clear PN ec B7 S7 V7 G7 L7 D7 O7 F7 F14 hO G14 B14 d3 d4 m3 m2 B13 Q13 L13 D13 S13 W13 O13 F13 G13 IQ XQ iw1 i4 i5
                          generalize ts1 ++ [fx] = ts' at P2
                          generalize Tl1 ++ [((bytL fr1).size + mo1, fx)] = Tl' at P1 P2
                          generalize mo1 + (fx.size + 9) = mo2 at P1 P2
                          (try go_wp2_with fail)
                          go_roundw
                          case rel => exact ⟨i + 1, n1 + 1, c1, mk1, mo2, fr1, ts', F1, none, _, _, Tl', pl1, false, by omega, by omega, by omega, by go_num, P1.out, (fun _ => P2.out), P3.out⟩
                          case measure => simp [intOf]; omega)
                  · as_aux_lemma =>
                      have hfw := fewS_size asx
                      have CW := hid (fun W => few_any asx W)
                      have CW2 := hid CW.out
                      have CW3 := hid CW.out
                      have hby := XQ.out.bytes IQ.out
                      obtain ⟨pt, hpt⟩ : ∃ pt : Nat, pt = (bytL fr1).size + mo1 := ⟨_, rfl⟩
                      have AP : Hid (∀ W, IsLog W w.heap.size bb (logP w.heap.size fr1 ts1) → Calls Try.prog 22 #[.pointer (some ⟨bb, 0, none⟩), .string (fewS asx)] W fun e w' => e = .returned (.tuple #[.int .i64 (pt : Nat), .int .i64 0]) ∧ IsLog w' w.heap.size bb (logP w.heap.size fr1 (ts1 ++ [fewS asx])) ∧ LT w.heap.size bb W w') := hid (fun W h => by
                        have := append_frames w.heap.size bb w.heap.size fr1 ts1 (fewS asx) W h hfw (by omega) (by have := XQ.out.recsz; omega)
                        rw [← XQ.out.more, ← hpt] at this
                        exact this)
                      have CF := hid (fun W => lframe_any (fewS asx) W (by omega))
                      have htl : Tl1.length ≤ 1000 := by have := XQ.out.few; omega
                      have hmo : mo1 ≤ 60000 := by omega
                      have HFW := hid hfw
                      have HPT := hid (And.intro hpt trivial)
                      have d7 : (kd == 7) = false := by simp; omega
                      clear hfw hpt hby
                      generalize fewS asx = fx at *
                      have k4 : 4 ≤ kd := by omega
                      have k5 : ¬ kd ≤ 6 := by omega
                      go_wp2_with (first
                        | (go_at_call 14; refine (CW.out _).mono ?_; rintro e w0 ⟨rfl, hw⟩; have hw2 := hw.symm; clear hw; subst hw2; clear CW)
                        | (go_at_call 22
                           refine (AP.out _ XQ.out.log).mono ?_
                           rintro e w5 ⟨rfl, l5, t5⟩
                           have L5 := hid l5
                           have TL := X.LowP.of_low (g := gp) (Low.of_lt t5 XQ.out.log.blk)
                           obtain ⟨_, hbb⟩ := XQ.out.log.blk
                           have D5 := hid (X.IsP.log IQ.out.disk hbb t5)
                           obtain ⟨u1, u2, u3, u4, u5⟩ := IQ.out.over TL
                           have B5 := hid u1
                           have S5 := hid u2
                           have W5 := hid u3
                           have O5 := hid u4
                           have G5 := hid u5
                           have Q5 := hid (X.lowP_blk TL BQ.out ⟨by decide, by decide, by decide, by decide, by decide⟩ (fun e => by cases e))
                           have F5 := hid (X.lowP_blk TL BFQ.out ⟨by decide, by decide, by decide, by decide, by decide⟩ (fun _ => HGP.out))
                           have y1 := u1.cell 1
                           simp [mdlV] at y1
                           have r2 := Q5.out.cell 2
                           simp at r2
                           clear l5 t5 TL u1 u2 u3 u4 u5 AP hbb))
                      have hmem := hid IQ.out.memM
                      have ma1 := (B5.out.alloc (.cells #[] 49)).cell 1
                      have ra2 := (Q5.out.alloc (.cells #[] 49)).cell 2
                      simp [mdlV] at ma1 ra2
                      have GA := hid (grown_drew (grown_alloc (grown_refl w5 none) (.cells #[] 49)))
                      have EA : Hid (Recs (w5.alloc (.cells #[] 49)).drew w5.heap.size (.slice (some ⟨w5.heap.size, 0, none⟩) 0 0) []) := recs_new w5 _ (Nat.le_refl _)
                      have HB : Hid (w5.heap.size ≤ (w5.alloc (.cells #[] 49)).drew.heap.size) := GA.out.size
                      have HN1 : Hid (([] : List (Nat × ByteArray)).length + Tl1.length ≤ 1000000) := (by show 0 + Tl1.length ≤ _; omega)
                      have HN2 : Hid (([] ++ Tl1 : List (Nat × ByteArray)).length + [(pt, fx)].length ≤ 1000000) := (by show Tl1.length + 1 ≤ _; omega)
                      have HMO := hid hmo
                      clear htl hmo d7 j0 j2 j3 k4 k5 k7 BQ BFQ
                      go_cut [99] (fun v wx => ∃ p4 c4, v = .slice p4 (Tl1.length + 1) c4 ∧ Blk wx M 32 (mdlV (.slice ps (frG w.heap.size fr1).recs.length cs) (.slice p4 (Tl1.length + 1) c4) (bytL fr1).size mo1 (frG w.heap.size fr1).root mk1) ∧ Blk wx qb 37 #[.int .i64 kd, .int .i64 an, .string asx, .slice lp ln lc, .int .i64 fat, .int .i64 kp, .int .i64 tn] ∧ IsLog wx w.heap.size bb (logP w.heap.size fr1 (ts1 ++ [fx])) ∧ X.IsP wx w.heap.size w.heap.size gp false 0 (X.Dt F1 none c1 false) pl1 ∧ Recs wx 0 (.slice ps (frG w.heap.size fr1).recs.length cs) (frG w.heap.size fr1).recs ∧ Recs wx 0 (.slice p4 (Tl1.length + 1) c4) (Tl1 ++ [(pt, fx)]) ∧ (∃ so wo lo mo ro ko, Blk wx (M + 1) 32 (mdlV so wo lo mo ro ko)) ∧ Blk wx Fb 35 #[.int .i64 ((c : Int) + q), .int .i64 fk, .int .i64 ft] ∧ w.grownBy wx none)
                      case first =>
                        clear CF CW3 IQ XQ HMO HFW HPT hn0 hn1 hi hi30
                        go_region_law (first
                          | (refine step_recs (.tmp 89) (.tmp 91) rfl rfl w5.heap.size 0 _ _ [] Tl1 EA.out (W5.out.none GA.out) HN1.out HB.out rfl rfl ?_; intro v3 w11 h3 g3; have G3 := hid (grown_recs GA.out EA.out g3 (Nat.le_refl _)); have Z3 := hid (Nat.le_trans HB.out g3.size); have R3 := hid h3; obtain ⟨p3, c3, rfl⟩ := h3.form; have n2 := (Q5.out.kept G3.out (by simp)).cell 2; simp at n2; have RO : Hid (Recs (w11.alloc (.cells #[.int .i64 pt, .string fx] 49)) w5.heap.size (.slice (some ⟨w11.heap.size, 0, none⟩) 1 1) [(pt, fx)]) := (recs_one w11 _ _ (by have := Z3.out; have := G3.out.size; omega)); have RA : Hid (Recs (w11.alloc (.cells #[.int .i64 pt, .string fx] 49)) w5.heap.size (.slice p3 ([] ++ Tl1).length c3) ([] ++ Tl1)) := (World.ownsRow.alloc R3.out _); have H2 : Hid (w5.heap.size ≤ (w11.alloc (.cells #[.int .i64 pt, .string fx] 49)).heap.size) := ((grown_alloc G3.out _).size); clear h3 g3)
                          | (go_simp; go_at_call 14; refine (CW2.out _).mono ?_; rintro e w0 ⟨rfl, hw⟩; have hw2 := hw.symm; clear hw; subst hw2; clear CW2)
                          | (refine step_recs (.tmp 92) (.tmp 98) rfl rfl w5.heap.size w5.heap.size _ _ ([] ++ Tl1) _ RA.out RO.out HN2.out H2.out rfl rfl ?_; intro v4 w12 h4 g4; have G4 := hid (grown_recs (grown_alloc G3.out _) RA.out g4 (Nat.le_refl _)); have R4 := hid h4; obtain ⟨p4, c4, e4⟩ := h4.form; have e5 : (([] ++ Tl1) ++ [(pt, fx)]).length = Tl1.length + 1 := (by rw [List.length_append]; rfl); rw [e5] at e4; subst e4; have B12 := hid (B5.out.kept G4.out (by simp)); have n1' := B12.out.cell 1; have n3 := B12.out.frozen 1; simp [mdlV] at n1'; clear h4 g4 e5))
                        all_goals (
                          have H13 := grown_set (grown_refl w12 (some M)) 1 (.slice p4 (Tl1.length + 1) c4)
                          have B13 : Hid (Blk (w12.setCell ⟨M, 1, none⟩ (.slice p4 (Tl1.length + 1) c4)) M 32 (mdlV (.slice ps (frG w.heap.size fr1).recs.length cs) (.slice p4 (Tl1.length + 1) c4) (bytL fr1).size mo1 (frG w.heap.size fr1).root mk1)) := B12.out.set 1 _
                          have Q12 := Q5.out.kept G4.out (by simp)
                          have F12 := F5.out.kept G4.out (by simp)
                          have Q13 := hid (Q12.kept H13 (fun e => far_ne' Q12 B12.out (by decide) (Option.some.inj e)))
                          have F13 := hid (F12.kept H13 (fun e => far_ne' F12 B12.out (by decide) (Option.some.inj e)))
                          obtain ⟨so, wo, lo', mo', ro, ko, hO⟩ := O5.out
                          have O13 := hid ((hO.kept G4.out (by simp)).kept H13 (fun e => by have := Option.some.inj e; omega))
                          have L13 := hid ((L5.out.kept G4.out).law B12.out H13)
                          have D13 := hid (X.IsP.law (D5.out.kept G4.out) B12.out H13)
                          have S13 := hid (rowG_kept (S5.out.none G4.out) B12.out (by decide) H13)
                          have W13 := hid (rowG_kept (Recs.down R4.out (Nat.zero_le _)) B12.out (by decide) H13)
                          have G13 := hid (grown_through (grown_none G5.out G4.out) H13 (Nat.le_of_lt hmem.out))
                          clear H13 Q12 F12 hO Q5 F5 O5 L5 D5 S5 W5 G5 G4 R4 G3 R3 Z3 RO RA H2 n1' n2 n3 B12 B5 EA GA HB HN1 HN2 ma1 ra2 y1 r2 hmem
                          (try go_wp2_with fail)
                          go_meet
                          exact ⟨p4, c4, rfl, B13.out, Q13.out, L13.out, D13.out, S13.out, W13.out, ⟨_, _, _, _, _, _, O13.out⟩, F13.out, G13.out⟩)
                      case rest =>
                        obtain ⟨p4, c4, rfl, b13, q13, l13, d13, s13, w13, o13, f13, g13⟩ := hcut
                        have B13 := hid b13
                        have Q13 := hid q13
                        have L13 := hid l13
                        have D13 := hid d13
                        have S13 := hid s13
                        have W13 := hid w13
                        have O13 := hid o13
                        have F13 := hid f13
                        have G13 := hid g13
                        have m3 := b13.cell 3
                        have m2 := q13.cell 2
                        simp [mdlV] at m3 m2
                        clear b13 q13 l13 d13 s13 w13 o13 f13 g13 HN1 HN2 HB EA GA ma1 ra2 y1 r2 L5 D5 B5 S5 W5 G5 Q5 O5 F5 CW2
                        have hfw := HFW.out
                        have hmo := HMO.out
                        have i4 : (fx.size : Int) ≤ 300 := by omega
                        have i5 : (mo1 : Int) ≤ 60000 := by omega
                        have iw1 : IntKind.i64.wrap ((mo1 : Int) + ((fx.size : Int) + 9)) = (mo1 : Int) + ((fx.size : Int) + 9) := by rw [IntKind.wrap_i64]; omega
                        clear hfw hmo
                        obtain ⟨wk, hwk⟩ : ∃ wk, wk = wc := ⟨_, rfl⟩
                        subst hwk
                        go_wp2_with fail
                        go_region_law (first
                          | (go_simp; go_at_call 14; refine (CW3.out _).mono ?_; rintro e w0 ⟨rfl, hw⟩; have hw2 := hw.symm; clear hw; subst hw2; clear CW3)
                          | (go_simp; go_at_call 23; refine (CF.out _).mono ?_; rintro e w14 ⟨rfl, g14⟩; have G14 : Hid (wk.grownBy w14 none) := hid (grown_trans (grown_drew (grown_refl _ _)) g14); have B14 := hid (B13.out.kept G14.out (by simp)); have d3 := B14.out.cell 3; have d4 := B14.out.frozen 3; simp [mdlV] at d3; clear g14 CF))
                        all_goals (
                          have H7 := grown_set (grown_refl w14 (some M)) 3 (.int .i64 ((mo1 : Int) + ((fx.size : Int) + 9)))
                          have B7 := B14.out.set 3 (.int .i64 ((mo1 : Int) + ((fx.size : Int) + 9)))
                          have S7 := rowG_kept (S13.out.none G14.out) B14.out (by decide) H7
                          have V7 := rowG_kept (W13.out.none G14.out) B14.out (by decide) H7
                          have G7 := grown_through (grown_none G13.out G14.out) H7 (Nat.le_of_lt hmem.out)
                          have L7 := (L13.out.kept G14.out).law B14.out H7
                          have D7 := X.IsP.law (D13.out.kept G14.out) B14.out H7
                          obtain ⟨so, wo, lo', mo', ro, ko, hO⟩ := O13.out
                          have O7 := (hO.kept G14.out (by simp)).kept H7 (fun e => by have := Option.some.inj e; omega)
                          have F14 := F13.out.kept G14.out (by simp)
                          have F7 := F14.kept H7 (fun e => far_ne' F14 B14.out (by decide) (Option.some.inj e))
                          obtain ⟨W7, hW7⟩ : ∃ W7, W7 = w14.setCell ⟨M, 3, none⟩ (.int .i64 ((mo1 : Int) + ((fx.size : Int) + 9))) := ⟨_, rfl⟩
                          rw [← hW7] at B7 S7 V7 G7 L7 D7 O7 F7 ⊢
                          clear hW7 H7
                          have ec : ((mo1 + (fx.size + 9) : Nat) : Int) = (mo1 : Int) + ((fx.size : Int) + 9) := by omega
                          have PN := FaC.append (wv' := .slice p4 (Tl1.length + 1) c4) IQ.out XQ.out L7 D7 (by unfold mdlV; rw [ec]; exact B7) S7 (by rw [← HPT.out.1]; exact V7) ⟨_, _, _, _, _, _, O7⟩ G7 HFW.out
                          have P1 := hid PN.1
                          have P2 := hid PN.2
                          have P3 := hid F7
                          clear PN ec B7 S7 V7 G7 L7 D7 O7 F7 F14 hO G14 B14 d3 d4 m3 m2 B13 Q13 L13 D13 S13 W13 O13 F13 G13 IQ XQ iw1 i4 i5
                          generalize ts1 ++ [fx] = ts' at P2
                          generalize Tl1 ++ [((bytL fr1).size + mo1, fx)] = Tl' at P1 P2
                          generalize mo1 + (fx.size + 9) = mo2 at P1 P2
                          (try go_wp2_with fail)
                          go_roundw
                          case rel => exact ⟨i + 1, n1 + 1, c1, mk1, mo2, fr1, ts', F1, none, _, _, Tl', pl1, false, by omega, by omega, by omega, by go_num, P1.out, (fun _ => P2.out), P3.out⟩
                          case measure => simp [intOf]; omega)
              · have hex : ¬ (i : Int) < n ∨ ((i : Int) < n ∧ ¬ (i : Int) < 30) := by omega
                clear PA HC HX
                rcases hex with e | ⟨e1, e2⟩
                · go_wp2_with fail
                  go_meet
                  exact ⟨n1, c1, mk1, mo1, fr1, F1, N1, _, _, Tl1, pl1, dd1, by omega, I.out, BF.out⟩
                · go_wp2_with fail
                  go_meet
                  exact ⟨n1, c1, mk1, mo1, fr1, F1, N1, _, _, Tl1, pl1, dd1, by omega, I.out, BF.out⟩
          case rest =>
            as_aux_lemma =>
              obtain ⟨n1, c1, mk1, mo1, fr1, F1, N1, sv1, wv1, Tl1, pl1, dd1, hn1, hC, hB⟩ := hcut
              clear I7 X7 BF7 PA HC AA HF
              obtain ⟨ps1, cs1, rfl⟩ := hC.sure.form
              have hNP : N1 = none ∨ pl1 = none := by
                rcases hC.ways with h | h
                · exact Or.inr h.2
                · exact Or.inl h.2
              have hM := hC.mod (by omega)
              have hc2 : X.upC N1 c1 ≤ c1 + 1 := by
                cases N1 with
                | none => exact Nat.le_succ c1
                | some _ => exact Nat.le_refl _
              have hcc := hC.chg
              have hM2 : X.Mod F1 none (X.upC N1 c1) := ⟨hM.f, by show 0 ≤ _; omega, by omega⟩
              have hfl : fr1.length ≤ 1000 := by have := hC.cnt; omega
              have hfs : ∀ x ∈ fr1, x.2.size ≤ 900 := fun x hx => by have := hC.fsz x hx; omega
              have CR := hid (X.crash_f fk ft hC.disk hM HTM.out)
              have UP := hid (fun W (h : X.IsP W w.heap.size w.heap.size gp false 0 (X.Dt F1 N1 c1 true) pl1) => X.up_f h)
              have OP := hid (fun W (h : X.IsP W w.heap.size w.heap.size gp false 0 (X.Dt F1 N1 c1 false) pl1) => X.open_f (fr := fr1) h hNP hM hC.file hC.shut hfl hfs)
              have PN := hid (fun W (h : X.IsP W w.heap.size w.heap.size gp false 0 (X.Dt F1 none (X.upC N1 c1) false) pl1) => X.plannone_q w.heap.size w.heap.size gp gp 0 _ pl1 W h)
              have CR2 := hid (fun W (h : X.IsP W w.heap.size w.heap.size gp false 0 (X.Dt F1 none (X.upC N1 c1) false) none) => X.crash_f ft fk h hM2 HKM.out)
              have UP2 := hid (fun W (h : X.IsP W w.heap.size w.heap.size gp false 0 (X.Dt F1 none (X.upC N1 c1) true) none) => X.up_f h)
              have OP2 := hid (fun W (h : X.IsP W w.heap.size w.heap.size gp false 0 (X.Dt F1 none (X.upC N1 c1) false) none) => X.open_f (fr := fr1) h (Or.inl rfl) hM2 hC.file hC.shut hfl hfs)
              have hc3 : X.upC N1 c1 ≤ 2 * (n1 + 1) := by omega
              have HC3 := hid hc3
              clear hNP hM hc2 hcc hM2 hfl hfs hc3
              have I := hid hC
              have BF := hid hB
              clear hC hB
              have b1 := BF.out.cell 1
              have b2 := BF.out.cell 2
              simp at b1 b2
              generalize X.upC N1 c1 = c2 at *
              have eU : X.upC none c2 = c2 := rfl
              rw [eU] at OP2
              clear eU
              go_wp2_with (first
                | (go_at_call 16; refine CR.out.mono ?_; rintro e w7 ⟨rfl, d7, g7⟩; have D7 := hid d7; have T7 := hid (X.LowP.of_low (g := gp) (self_low (base := w.heap.size) g7 (Nat.le_refl _) I.out.disk.blk)); clear d7 g7 CR)
                | (go_at_call 17; refine (UP.out _ D7.out).mono ?_; rintro e w8 ⟨rfl, d8, g8⟩; have D8 := hid d8; have T8 := hid (X.LowP.trans T7.out (X.LowP.of_low (g := gp) (self_low (base := w.heap.size) g8 (Nat.le_refl _) D7.out.blk))); clear d8 g8 UP)
                | (go_at_call 10; refine (OP.out _ D8.out).mono ?_; rintro e w9 ⟨b9, rfl, hb9, l9, d9, t9⟩; have D9 := hid d9; have T9 := hid (X.LowP.trans T8.out t9); clear d9 t9 l9 hb9 OP)
                | (go_at_call 26; refine (PN.out _ D9.out).mono ?_; rintro e w10 ⟨rfl, d10, g10⟩; have D10 := hid d10; have T10 := hid (X.LowP.trans T9.out (X.LowP.of_low (g := gp) (self_low (base := w.heap.size) g10 (Nat.le_refl _) D9.out.blk))); have BF10 := X.lowP_blk T10.out BF.out ⟨by decide, by decide, by decide, by decide, by decide⟩ (fun _ => HGP.out); have y1 := BF10.cell 1; have y2 := BF10.cell 2; simp at y1 y2; clear d10 g10 PN BF10)
                | (go_at_call 16; refine (CR2.out _ D10.out).mono ?_; rintro e w11 ⟨rfl, d11, g11⟩; have D11 := hid d11; have T11 := hid (X.LowP.trans T10.out (X.LowP.of_low (g := gp) (self_low (base := w.heap.size) g11 (Nat.le_refl _) D10.out.blk))); clear d11 g11 CR2)
                | (go_at_call 17; refine (UP2.out _ D11.out).mono ?_; rintro e w12 ⟨rfl, d12, g12⟩; have D12 := hid d12; have T12 := hid (X.LowP.trans T11.out (X.LowP.of_low (g := gp) (self_low (base := w.heap.size) g12 (Nat.le_refl _) D11.out.blk))); clear d12 g12 UP2)
                | (go_at_call 10
                   refine (OP2.out _ D12.out).mono ?_
                   rintro e w13 ⟨b13, rfl, hb13, l13, d13, t13⟩
                   have I13 := FaC.disk' (n' := n1 + 1) I.out (X.LowP.trans T12.out t13) d13 (Or.inr ⟨rfl, rfl⟩) (by show 0 ≤ _; omega) HC3.out (Nat.le_succ n1)
                   have WI := FaC.wipe I13 l13
                   have I14 := hid WI.1
                   have L14 := hid WI.2
                   have z1 := I13.blk.cell 1
                   have z3 := I13.blk.cell 3
                   have f1 := I13.blk.frozen 1
                   have f3 := I13.blk.frozen 3
                   obtain ⟨so, wo, lo, mo, ro, ko, hO⟩ := I13.oth
                   have s1 := hO.cell 1
                   have s3 := hO.cell 3
                   have t1 := hO.frozen 1
                   have t3 := hO.frozen 3
                   simp [mdlV] at z1 z3 s1 s3
                   have E9 := hid (FaC.same I14.out L14.out (by omega))
                   have q0 := I14.out.blk.cell 0
                   have q1 := I14.out.blk.cell 1
                   have q2 := I14.out.blk.cell 2
                   have q3 := I14.out.blk.cell 3
                   have q4 := I14.out.blk.cell 4
                   have q5 := I14.out.blk.cell 5
                   simp [mdlV] at q0 q1 q2 q3 q4 q5
                   clear WI I13 l13 d13 t13 hO OP2 hb13 T12 T11 T10 T9 T8 T7 D12 D11 D10 D9 D8 D7 y1 y2)
                | (go_at_call 24; refine E9.out.mono ?_; rintro e w15 ⟨rfl, g15⟩; have I15 := hid (I14.out.kept g15); have L15 := hid (L14.out.kept g15); clear g15 E9))
              go_roundw
              case rel => exact ⟨k + 1, b13, n1 + 1, c2, mk1, fr1, F1, _, by omega, by omega, by omega, rfl, rfl, by go_num, I15.out, { log := L15.out, tsz := (fun t ht => by cases ht), cnt := (by have := I15.out.cnt; show fr1.length + 0 ≤ _; omega), more := rfl, all := (by show (frG w.heap.size (fr1 ++ [])).recs = _; rw [List.append_nil, List.append_nil]) }⟩
              case measure => simp [intOf]; omega
    · have hex : (k : Int) = n2 ∨ (k : Int) = 5 := by omega
      have GI := hid I.out.grown
      clear I IX PA HC PF HF
      rcases hex with e | e
      · have k1 : ¬ (k : Int) < n2 := by omega
        clear e
        go_wp2
        go_ret
        exact ⟨rfl, GI.out⟩
      · have k2 : ¬ (k : Int) < 5 := by omega
        by_cases k1 : (k : Int) < n2
        · clear e
          go_wp2
          go_ret
          exact ⟨rfl, GI.out⟩
        · clear e
          go_wp2
          go_ret
          exact ⟨rfl, GI.out⟩
end Go.Proofs.Ytddnjlnnkeiplaa
