/-
  WalPlays: the law's own walk.
-/
import Derived.Test.YtddnjlnnkeiplaaKPlr
namespace Go.Proofs.Ytddnjlnnkeiplaa
open Go.RowKit Go.Maps
set_option maxRecDepth 100000 in
set_option maxHeartbeats 200000000 in
theorem plays_law (pa : Option Addr) (n cap xb xo : Nat) (A : Nat → Ac) (w : World) (hpa : 0 < n → pa = some ⟨xb, xo, none⟩) (hc : ∀ j, j < n → AcAt w xb (xo + j * 7) (A j)) (hn : n ≤ 9223372036854775807) :
    Calls Try.prog 3 #[.slice pa n cap] w fun e w' => e = .returned (.bool true) ∧ w.grownBy w' none := by
  have C9 := hid (new_any w)
  have PA := hid hpa
  have HC := hid hc
  have O0 := hid (fun W h => open_frames w.heap.size w.heap.size none 0 [] W h rfl (Or.inl rfl) (by decide) (by decide) (by decide) (fun x hx => by cases hx))
  have AW := hid lawake_any
  have hn' : (n : Int) ≤ 9223372036854775807 := by omega
  clear hpa hc
  go_enter Try.func3, Try.ntmps3
  go_wp2_with (first
    | (go_at_call 9; refine C9.out.mono ?_; rintro e w1 ⟨rfl, d1, g1⟩; have D1 : Hid (IsDisk w1 w.heap.size w.heap.size (Dn none 0)) := hid d1; have G1 := hid g1; clear d1 g1 C9)
    | (go_at_call 10; refine (O0.out _ D1.out).mono ?_; rintro e w2 ⟨b, rfl, hb2, l2, d2, t2⟩; have L2 := hid l2; have D2 := hid d2; have G2 := hid (Low.grown G1.out t2); clear l2 d2 t2 O0)
    | (go_at_call 11; refine (AW.out _).mono ?_; rintro e w3 ⟨rfl, g3⟩; have L3 := hid (L2.out.kept g3); have D3 := hid (D2.out.kept g3); have G3 := hid (grown_none G2.out g3); have hw3 : w.heap.size < w3.heap.size := D3.out.lt; clear g3 AW))
  have ST := hid (PlI.start L3.out D3.out G3.out hw3)
  clear L3 D3 G3 L2 D2 G2 D1 G1 hb2
  go_loopw [4, 5, 6, 8] (fun lv tv ev iv wr => ∃ (k b c mk : Nat) (fr : List Fr) (ts : List ByteArray) (F : Option ByteArray) (sv wv : Value) (Tl : List (Nat × ByteArray)), k ≤ n ∧ k ≤ 50 ∧ lv = .pointer (some ⟨b, 0, none⟩) ∧ tv = .int .i64 0 ∧ ev = .int .i64 0 ∧ iv = .int .i64 k ∧ PlI w w3.heap.size k b wr fr ts F c mk sv wv Tl) (fun _ _ _ iv _ => n - (intOf iv).toNat)
  case atStart => exact ⟨0, b, 0, 0, [], [], none, _, _, [], Nat.zero_le _, Nat.zero_le _, rfl, rfl, rfl, rfl, ST.out⟩
  case round =>
    obtain ⟨k, bb, c, mk, fr, ts, F, sv, wv, Tl, hk, hk50, rfl, rfl, rfl, rfl, hI⟩ := hrel
    obtain ⟨ps, cs, rfl⟩ := hI.sure.form
    obtain ⟨pw, cw, rfl⟩ := hI.wait.form
    have I := hid hI
    have hM : w3.heap.size < wr.heap.size := hI.blk.lt
    clear hI ST
    have k0 : (0 : Int) ≤ k := by omega
    by_cases hlt : k < n ∧ k < 50
    · obtain ⟨hkn, hk5⟩ := hlt
      have k1 : (k : Int) < n := by omega
      have k2 : (k : Int) < 50 := by omega
      have hp := PA.out (by omega)
      subst hp
      have A0 := hid (HC.out k hkn)
      have AA := hid (A0.out.kept I.out.grown)
      have a0 := AA.out.c0
      have a1 := AA.out.c1
      have a2 := AA.out.c2
      have a3 := AA.out.c3
      have a4 := AA.out.c4
      have a5 := AA.out.c5
      have a6 := AA.out.c6
      generalize A k = ac at *
      obtain ⟨kd, an, asx, lp, ln, lc, fat, kp, tn, lb, lo, ls⟩ := ac
      simp only at a0 a1 a2 a3 a4 a5 a6
      have BQ := hid (Blk.new wr 37 #[.int .i64 kd, .int .i64 an, .string asx, .slice lp ln lc, .int .i64 fat, .int .i64 kp, .int .i64 tn])
      have IQ := hid (I.out.kept (grown_alloc (grown_refl wr none) (.cells #[.int .i64 kd, .int .i64 an, .string asx, .slice lp ln lc, .int .i64 fat, .int .i64 kp, .int .i64 tn] 37)))
      clear HC PA
      have hkd : kd = 3 ∨ kd = 4 ∨ kd = 5 ∨ kd = 6 ∨ kd = 7 ∨ kd = 8 ∨ (kd ≠ 3 ∧ kd ≠ 4 ∧ kd ≠ 5 ∧ kd ≠ 6 ∧ kd ≠ 7 ∧ kd ≠ 8) := by omega
      rcases hkd with rfl | rfl | rfl | rfl | rfl | rfl | ⟨n3, n4, n5, n6, n7, n8⟩
      · as_aux_lemma =>
          have CD := hid (fun W (h : IsLog W w.heap.size bb (logP w.heap.size fr ts)) => drop_frames w.heap.size bb w.heap.size fr ts W h (by have := IQ.out.bytes; omega) (by have := IQ.out.recsz; omega))
          have q3 := IQ.out.blk.cell 3
          simp [mdlV] at q3
          go_wp2_with fail
          go_cut [97] (fun v wx => v = .bool false ∧ IsLog wx w.heap.size bb (logP w.heap.size fr []) ∧ LT w.heap.size bb (wr.alloc (.cells #[.int .i64 3, .int .i64 an, .string asx, .slice lp ln lc, .int .i64 fat, .int .i64 kp, .int .i64 tn] 37)) wx)
          case first =>
            go_region_law (go_simp; go_at_call 12; refine (CD.out _ IQ.out.log.drew).mono ?_; rintro e w5 ⟨rfl, l5, t5⟩; have L5 := hid l5; have T5 : Hid (LT w.heap.size bb (wr.alloc (.cells #[.int .i64 3, .int .i64 an, .string asx, .slice lp ln lc, .int .i64 fat, .int .i64 kp, .int .i64 tn] 37)) w5) := hid (LT.trans (LT.of_none (grown_drew (grown_refl _ _))) t5); have qq := (low_blk (Low.of_lt T5.out IQ.out.log.blk) IQ.out.blk ⟨by decide, by decide, by decide, by decide, by decide⟩).cell 3; simp [mdlV] at qq; clear l5 t5 CD)
            all_goals (
              (try go_wp2_with fail)
              go_meet
              exact ⟨by simp, L5.out, T5.out⟩)
          case rest =>
            obtain ⟨rfl, hl5, ht5⟩ := hcut
            have TL := Low.of_lt ht5 IQ.out.log.blk
            obtain ⟨o1, o2, o3, o4⟩ := IQ.out.over TL
            obtain ⟨_, hbb⟩ := IQ.out.log.blk
            have D5 := IsDisk.keptL IQ.out.disk hbb ht5
            have B5 := hid o1
            have c1 := o1.cell 1
            have c3 := o1.cell 3
            have f1 := o1.frozen 1
            have f3 := o1.frozen 3
            simp [mdlV] at c1 c3
            have H6 := grown_set (grown_set (grown_refl wc (some w3.heap.size)) 1 (.slice none 0 0)) 3 (.int .i64 0)
            have PN : Hid (PlI w w3.heap.size (k + 1) bb ((wc.setCell ⟨w3.heap.size, 1, none⟩ (.slice none 0 0)).setCell ⟨w3.heap.size, 3, none⟩ (.int .i64 0)) fr [] F c mk (.slice ps (frG w.heap.size fr).recs.length cs) (.slice none 0 0) []) := hid (
              { log := hl5.law o1 H6, disk := D5.law o1 H6, file := IQ.out.file, shut := IQ.out.shut, fsz := IQ.out.fsz, tsz := (fun t ht => by cases ht), cnt := by have := IQ.out.cnt; show fr.length + 0 ≤ _; omega, chg := by have := IQ.out.chg; omega, mks := by have := IQ.out.mks; omega, mrk := IQ.out.mrk, blk := (o1.set 1 (.slice none 0 0)).set 3 (.int .i64 0), sure := rowG_kept o2 o1 (by decide) H6, wait := recs_nil _ _, all := by show (frG w.heap.size (fr ++ [])).recs = _; rw [List.append_nil, List.append_nil], mem := IQ.out.mem, grown := grown_through o4 H6 (Nat.le_of_lt IQ.out.mem) })
            clear H6 hl5 ht5 TL o1 o2 o3 o4 D5 IQ I
            have E9 := hid (PN.out.same (by omega))
            have q0 := PN.out.blk.cell 0
            have q1 := PN.out.blk.cell 1
            have q2 := PN.out.blk.cell 2
            have q4 := PN.out.blk.cell 4
            have q5 := PN.out.blk.cell 5
            have q3 := PN.out.blk.cell 3
            simp [mdlV] at q0 q1 q2 q3 q4 q5
            go_wp2_with (go_at_call 24; refine E9.out.mono ?_; rintro e w9 ⟨rfl, g9⟩; have P9 := hid (PN.out.kept g9); clear g9 E9)
            go_roundw
            case rel => exact ⟨k + 1, bb, c, mk, fr, [], F, _, _, _, by omega, by omega, rfl, rfl, rfl, by go_num, P9.out⟩
            case measure => simp [intOf]; omega
      · as_aux_lemma =>
          have hfw := fewS_size asx
          have CW := hid (fun W => few_any asx W)
          have CW2 := hid CW.out
          have CM := hid (fun W h1 h2 => commit_frames w.heap.size bb w.heap.size F c fr ts (fewS asx) W h1 h2 IQ.out.file hfw (by have := IQ.out.bytes; omega) (by have := IQ.out.chg; omega) (by have := IQ.out.recsz; omega))
          have MC := hid (fun W h1 h2 => mcommit_any 0 (frG w.heap.size fr).recs Tl (.slice ps (frG w.heap.size fr).recs.length cs) (.slice pw Tl.length cw) (bytL fr).size (bytL (ts.map recF)).size mk (frG w.heap.size fr).root (fewS asx) W h1 h2 (by have := congrArg List.length IQ.out.all; rw [List.length_append] at this; have := IQ.out.recsz; omega) (by have := IQ.out.bytes; omega) (by have := IQ.out.bytes; omega) (by have := IQ.out.mks; omega) hfw)
          have j0 := BQ.out.cell 0
          have j2 := BQ.out.cell 2
          simp at j0 j2
          generalize hfx : fewS asx = fx at *
          clear hfx
          go_wp2_with (first
            | (go_at_call 14; refine (CW.out _).mono ?_; rintro e w0 ⟨rfl, hw⟩; have hw2 := hw.symm; clear hw; subst hw2; clear CW)
            | (go_at_call 13
               refine (CM.out _ IQ.out.log IQ.out.disk).mono ?_
               rintro e w5 ⟨rfl, l5, d5, TL⟩
               have L5 := hid l5
               have D5 := hid d5
               obtain ⟨o1, o2, o3, o4⟩ := IQ.out.over TL
               have B5 := hid o1
               have S5 := hid o2
               have W5 := hid o3
               have G5 := hid o4
               have Q5 := hid (low_blk TL BQ.out ⟨by decide, by decide, by decide, by decide, by decide⟩)
               have y0 := o1.cell 0
               have y1 := o1.cell 1
               have y2 := o1.cell 2
               have y3 := o1.cell 3
               have y4 := o1.cell 4
               have y5 := o1.cell 5
               simp [mdlV] at y0 y1 y2 y3 y4 y5
               have r2 := Q5.out.cell 2
               simp at r2
               clear l5 d5 TL o1 o2 o3 o4 CM))
          go_region_law (first
            | (go_simp; go_at_call 14; refine (CW2.out _).mono ?_; rintro e w0 ⟨rfl, hw⟩; have hw2 := hw.symm; clear hw; subst hw2; clear CW2)
            | (go_simp
               go_at_call 15
               refine (MC.out _ (S5.out.none (grown_drew (grown_refl w5 none))) (W5.out.none (grown_drew (grown_refl w5 none)))).mono ?_
               rintro e w6 ⟨sv6, rfl, r6, g6⟩
               obtain ⟨p6, c6, rfl⟩ := r6.form
               have R6 := hid r6
               have G6 : Hid (w5.grownBy w6 none) := hid (grown_trans (grown_drew (grown_refl w5 none)) g6)
               have B6 := hid (B5.out.kept G6.out (by simp))
               have z0 := B6.out.frozen 0
               have z1 := B6.out.frozen 1
               have z2 := B6.out.frozen 2
               have z3 := B6.out.frozen 3
               have z4 := B6.out.frozen 4
               have z5 := B6.out.frozen 5
               have x0 := B6.out.cell 0
               have x1 := B6.out.cell 1
               have x2 := B6.out.cell 2
               have x3 := B6.out.cell 3
               have x4 := B6.out.cell 4
               have x5 := B6.out.cell 5
               simp [mdlV] at x0 x1 x2 x3 x4 x5
               unfold mdlV
               clear r6 g6 MC))
          all_goals (
            have H7 := grown_set (grown_set (grown_set (grown_set (grown_set (grown_set (grown_refl w6 (some w3.heap.size)) 0 (.slice p6 ((frG w.heap.size fr).recs.length + Tl.length) c6)) 1 (.slice none 0 0)) 2 (.int .i64 (((bytL fr).size : Int) + (((bytL (List.map recF ts)).size : Int) + ((fx.size : Int) + 9))))) 3 (.int .i64 0)) 4 (.string fx)) 5 (.int .i64 ((mk : Int) + 1))
            have B7 := (((((B6.out.set 0 (.slice p6 ((frG w.heap.size fr).recs.length + Tl.length) c6)).set 1 (.slice none 0 0)).set 2 (.int .i64 (((bytL fr).size : Int) + (((bytL (List.map recF ts)).size : Int) + ((fx.size : Int) + 9))))).set 3 (.int .i64 0)).set 4 (.string fx)).set 5 (.int .i64 ((mk : Int) + 1))
            have R6' := Recs.down R6.out (Nat.zero_le _)
            rw [List.length_append] at R6'
            have R7 := rowG_kept R6' B6.out (by decide) H7
            have G7 := grown_through (grown_none G5.out G6.out) H7 (Nat.le_of_lt IQ.out.mem)
            have L7 := (L5.out.kept G6.out).law B6.out H7
            have D7 := (D5.out.kept G6.out).law B6.out H7
            obtain ⟨W7, hW7⟩ : ∃ W7, W7 = ((((((w6.setCell ⟨w3.heap.size, 0, none⟩ (.slice p6 ((frG w.heap.size fr).recs.length + Tl.length) c6)).setCell ⟨w3.heap.size, 1, none⟩ (.slice none 0 0)).setCell ⟨w3.heap.size, 2, none⟩ (.int .i64 (((bytL fr).size : Int) + (((bytL (List.map recF ts)).size : Int) + ((fx.size : Int) + 9))))).setCell ⟨w3.heap.size, 3, none⟩ (.int .i64 0)).setCell ⟨w3.heap.size, 4, none⟩ (.string fx)).setCell ⟨w3.heap.size, 5, none⟩ (.int .i64 ((mk : Int) + 1))) := ⟨_, rfl⟩
            rw [← hW7] at B7 R7 G7 L7 D7 ⊢
            clear hW7 H7
            have ec : (((bytL fr).size + ((bytL (ts.map recF)).size + (fx.size + 9)) : Nat) : Int) = ((bytL fr).size : Int) + (((bytL (ts.map recF)).size : Int) + ((fx.size : Int) + 9)) := by omega
            have em : ((mk + 1 : Nat) : Int) = (mk : Int) + 1 := by omega
            have PN := hid (PlI.commit (sv' := .slice p6 ((frG w.heap.size fr).recs.length + Tl.length) c6) IQ.out L7 D7 (by unfold mdlV; rw [ec, em]; exact B7) R7 G7 hfw)
            clear ec em B7 R7 G7 L7 D7 R6' R6 G6 B6 z0 z1 z2 z3 z4 z5 x0 x1 x2 x3 x4 x5 y0 y1 y2 y3 y4 y5 r2 L5 D5 B5 S5 W5 G5 Q5 BQ IQ I
            generalize fr ++ List.map recF ts ++ [(false, fx)] = fr' at PN
            have E9 := hid (PN.out.same (by omega))
            have q0 := PN.out.blk.cell 0
            have q1 := PN.out.blk.cell 1
            have q2 := PN.out.blk.cell 2
            have q4 := PN.out.blk.cell 4
            have q5 := PN.out.blk.cell 5
            have q3 := PN.out.blk.cell 3
            simp [mdlV] at q0 q1 q2 q3 q4 q5
            go_wp2_with (go_at_call 24; refine E9.out.mono ?_; rintro e w9 ⟨rfl, g9⟩; have P9 := hid (PN.out.kept g9); clear g9 E9)
            go_roundw
            case rel => exact ⟨k + 1, bb, c + 1, mk + 1, fr', [], _, _, _, _, by omega, by omega, rfl, rfl, rfl, by go_num, P9.out⟩
            case measure => simp [intOf]; omega)
      · as_aux_lemma =>
          have OF := hid (fun W h => open_frames w.heap.size w.heap.size F c fr W h IQ.out.file IQ.out.shut (by have := IQ.out.bytes; omega) (by have := IQ.out.chg; omega) (by have := IQ.out.cnt; omega) (fun x hx => by have := IQ.out.fsz x hx; omega))
          have j0 := BQ.out.cell 0
          simp at j0
          go_wp2_with (first
            | (go_at_call 10
               refine (OF.out _ IQ.out.disk).mono ?_
               rintro e w5 ⟨b5, rfl, hb5, l5, d5, TL⟩
               obtain ⟨o1, o2, o3, o4⟩ := IQ.out.over TL
               have c1 := o1.cell 1
               have c3 := o1.cell 3
               have f1 := o1.frozen 1
               have f3 := o1.frozen 3
               simp [mdlV] at c1 c3
               have H6 := grown_set (grown_set (grown_refl w5 (some w3.heap.size)) 1 (.slice none 0 0)) 3 (.int .i64 0)
               have PN : Hid (PlI w w3.heap.size (k + 1) b5 ((w5.setCell ⟨w3.heap.size, 1, none⟩ (.slice none 0 0)).setCell ⟨w3.heap.size, 3, none⟩ (.int .i64 0)) fr [] F c mk (.slice ps (frG w.heap.size fr).recs.length cs) (.slice none 0 0) []) := hid ({ log := l5.law o1 H6, disk := d5.law o1 H6, file := IQ.out.file, shut := IQ.out.shut, fsz := IQ.out.fsz, tsz := (fun t ht => by cases ht), cnt := (by have := IQ.out.cnt; show fr.length + 0 ≤ _; omega), chg := (by have := IQ.out.chg; omega), mks := (by have := IQ.out.mks; omega), mrk := IQ.out.mrk, blk := (o1.set 1 (.slice none 0 0)).set 3 (.int .i64 0), sure := rowG_kept o2 o1 (by decide) H6, wait := recs_nil _ _, all := (by show (frG w.heap.size (fr ++ [])).recs = _; rw [List.append_nil, List.append_nil]), mem := IQ.out.mem, grown := grown_through o4 H6 (Nat.le_of_lt IQ.out.mem) })
               have E9 := hid (PN.out.same (by omega))
               have q0 := PN.out.blk.cell 0
               have q1 := PN.out.blk.cell 1
               have q2 := PN.out.blk.cell 2
               have q3 := PN.out.blk.cell 3
               have q4 := PN.out.blk.cell 4
               have q5 := PN.out.blk.cell 5
               simp [mdlV] at q0 q1 q2 q3 q4 q5
               clear H6 l5 d5 TL o1 o2 o3 o4
               clear OF)
            | (go_at_call 24; refine E9.out.mono ?_; rintro e w9 ⟨rfl, g9⟩; have P9 := hid (PN.out.kept g9); clear g9 E9))
          go_roundw
          case rel => exact ⟨k + 1, b5, c, mk, fr, [], F, _, _, _, by omega, by omega, rfl, rfl, rfl, by go_num, P9.out⟩
          case measure => simp [intOf]; omega
      · as_aux_lemma =>
          have OF := hid (fun W h => open_frames w.heap.size w.heap.size F c fr W h IQ.out.file IQ.out.shut (by have := IQ.out.bytes; omega) (by have := IQ.out.chg; omega) (by have := IQ.out.cnt; omega) (fun x hx => by have := IQ.out.fsz x hx; omega))
          have CR := hid (fun W h => crash_dn w.heap.size w.heap.size F c kp tn W h (by rw [IQ.out.file]; have := IQ.out.bytes; omega) AA.out.torn)
          have UP := hid (fun W h => up_dn w.heap.size w.heap.size F c W h)
          have j0 := BQ.out.cell 0
          have j5 := BQ.out.cell 5
          have j6 := BQ.out.cell 6
          simp at j0 j5 j6
          go_wp2_with (first
            | (go_at_call 16; refine (CR.out _ IQ.out.disk).mono ?_; rintro e w6 ⟨rfl, d6, g6⟩; have D6 := hid d6; have T6 := hid (self_low (base := w.heap.size) g6 (Nat.le_refl _) IQ.out.disk.blk); clear d6 g6 CR)
            | (go_at_call 17; refine (UP.out _ D6.out).mono ?_; rintro e w7 ⟨rfl, d7, g7⟩; have D7 := hid d7; have T7 := hid (Low.trans T6.out (self_low (base := w.heap.size) g7 (Nat.le_refl _) D6.out.blk)); clear d7 g7 UP)
            | (go_at_call 10
               refine (OF.out _ D7.out).mono ?_
               rintro e w5 ⟨b5, rfl, hb5, l5, d5, t5⟩
               have TL := Low.trans T7.out t5
               obtain ⟨o1, o2, o3, o4⟩ := IQ.out.over TL
               have c1 := o1.cell 1
               have c3 := o1.cell 3
               have f1 := o1.frozen 1
               have f3 := o1.frozen 3
               simp [mdlV] at c1 c3
               have H6 := grown_set (grown_set (grown_refl w5 (some w3.heap.size)) 1 (.slice none 0 0)) 3 (.int .i64 0)
               have PN : Hid (PlI w w3.heap.size (k + 1) b5 ((w5.setCell ⟨w3.heap.size, 1, none⟩ (.slice none 0 0)).setCell ⟨w3.heap.size, 3, none⟩ (.int .i64 0)) fr [] F c mk (.slice ps (frG w.heap.size fr).recs.length cs) (.slice none 0 0) []) := hid ({ log := l5.law o1 H6, disk := d5.law o1 H6, file := IQ.out.file, shut := IQ.out.shut, fsz := IQ.out.fsz, tsz := (fun t ht => by cases ht), cnt := (by have := IQ.out.cnt; show fr.length + 0 ≤ _; omega), chg := (by have := IQ.out.chg; omega), mks := (by have := IQ.out.mks; omega), mrk := IQ.out.mrk, blk := (o1.set 1 (.slice none 0 0)).set 3 (.int .i64 0), sure := rowG_kept o2 o1 (by decide) H6, wait := recs_nil _ _, all := (by show (frG w.heap.size (fr ++ [])).recs = _; rw [List.append_nil, List.append_nil]), mem := IQ.out.mem, grown := grown_through o4 H6 (Nat.le_of_lt IQ.out.mem) })
               have E9 := hid (PN.out.same (by omega))
               have q0 := PN.out.blk.cell 0
               have q1 := PN.out.blk.cell 1
               have q2 := PN.out.blk.cell 2
               have q3 := PN.out.blk.cell 3
               have q4 := PN.out.blk.cell 4
               have q5 := PN.out.blk.cell 5
               simp [mdlV] at q0 q1 q2 q3 q4 q5
               clear H6 l5 d5 TL o1 o2 o3 o4
               clear OF)
            | (go_at_call 24; refine E9.out.mono ?_; rintro e w9 ⟨rfl, g9⟩; have P9 := hid (PN.out.kept g9); clear g9 E9))
          go_roundw
          case rel => exact ⟨k + 1, b5, c, mk, fr, [], F, _, _, _, by omega, by omega, rfl, rfl, rfl, by go_num, P9.out⟩
          case measure => simp [intOf]; omega
      · as_aux_lemma =>
          have hfw := fewS_size asx
          have CW := hid (fun W => few_any asx W)
          have CW2 := hid CW.out
          have CT := hid (fun W (g : w.grownBy W none) => cut_any lp ln lc lb lo ls W A0.out.lp (fun j hj => cell_kept (A0.out.lcell j hj) g (fun _ e => by cases e)) A0.out.len)
          have CT2 := hid CT.out
          have hl6 : (cutK ls (min ln 6)).length ≤ 6 := by rw [cutK_len]; omega
          have hlt : ∀ t ∈ cutK ls (min ln 6), t.size ≤ 300 := fun t ht => by
            unfold cutK at ht
            obtain ⟨j, _, rfl⟩ := List.mem_map.1 ht
            exact fewS_size _
          have HLT := hid hlt
          clear hlt
          have RP := hid (fun W bl v h1 h2 hv => replace_frames w.heap.size bb bl w.heap.size F c fr ts v (cutK ls (min ln 6)) (fewS asx) W h1 h2 (by rw [IQ.out.file]; have := IQ.out.bytes; omega) (by have := IQ.out.chg; omega) hv hl6 HLT.out hfw)
          have RD := hid (fun W bl v hv => replaced_any bl v (cutK ls (min ln 6)) (fewS asx) W hv hl6 HLT.out hfw)
          have j0 := BQ.out.cell 0
          have j2 := BQ.out.cell 2
          have j3 := BQ.out.cell 3
          simp at j0 j2 j3
          generalize hfx : fewS asx = fx at *
          clear hfx
          generalize cutK ls (min ln 6) = cl at *
          go_wp2_with fail
          go_cut [153] (fun v wx => v = .bool false ∧ IsLog wx w.heap.size bb (logP w.heap.size (cl.map recF ++ [(false, fx)]) []) ∧ IsDisk wx w.heap.size w.heap.size (Dn (some (bytL (cl.map recF ++ [(false, fx)]))) (c + 2)) ∧ Low w.heap.size (wr.alloc (.cells #[.int .i64 7, .int .i64 an, .string asx, .slice lp ln lc, .int .i64 fat, .int .i64 kp, .int .i64 tn] 37)) wx)
          case first =>
            as_aux_lemma =>
              go_region_law (first
                | (go_simp; go_at_call 19; refine (CT.out _ (grown_drew IQ.out.grown)).mono ?_; rintro e w4 ⟨v4, rfl, h4, g4⟩; have G4 : Hid ((wr.alloc (.cells #[.int .i64 7, .int .i64 an, .string asx, .slice lp ln lc, .int .i64 fat, .int .i64 kp, .int .i64 tn] 37)).grownBy w4 none) := hid (grown_trans (grown_drew (grown_refl _ _)) g4); have I4 := hid (IQ.out.kept G4.out); have R4 := hid h4; have k2 := (BQ.out.kept G4.out (by simp)).cell 2; simp at k2; obtain ⟨p4, c4, rfl, _⟩ := row_form h4; clear h4 g4 CT)
                | (go_simp; go_at_call 14; refine (CW.out _).mono ?_; rintro e w0 ⟨rfl, hw⟩; have hw2 := hw.symm; clear hw; subst hw2; clear CW)
                | (go_simp; go_at_call 18; refine (RP.out _ _ _ I4.out.log I4.out.disk R4.out).mono ?_; rintro e w5 ⟨rfl, l5, d5, t5⟩; have L5 := hid l5; have D5 := hid d5; have T5 : Hid (Low w.heap.size (wr.alloc (.cells #[.int .i64 7, .int .i64 an, .string asx, .slice lp ln lc, .int .i64 fat, .int .i64 kp, .int .i64 tn] 37)) w5) := hid (Low.trans (Low.of_none G4.out) t5); clear l5 d5 t5 RP))
              all_goals (
                (try go_wp2_with fail)
                go_meet
                exact ⟨by simp, L5.out, D5.out, T5.out⟩)
          case rest =>
            obtain ⟨rfl, l5, d5, TL⟩ := hcut
            have L5 := hid l5
            have D5 := hid d5
            obtain ⟨o1, o2, o3, o4⟩ := IQ.out.over TL
            have B5 := hid o1
            have G5 := hid o4
            have Q5 := hid (low_blk TL BQ.out ⟨by decide, by decide, by decide, by decide, by decide⟩)
            have r2 := Q5.out.cell 2
            have r3 := Q5.out.cell 3
            simp at r2 r3
            clear l5 d5 TL o1 o2 o3 o4 RP CT CW
            go_wp2_with fail
            go_region_law (first
              | (go_simp; go_at_call 19; refine (CT2.out _ (grown_drew G5.out)).mono ?_; rintro e w4 ⟨v4, rfl, h4, g4⟩; have G4 : Hid (wc.grownBy w4 none) := hid (grown_trans (grown_drew (grown_refl _ _)) g4); have R4 := hid h4; have k2 := (Q5.out.kept G4.out (by simp)).cell 2; simp at k2; obtain ⟨p4, c4, rfl, _⟩ := row_form h4; clear h4 g4 CT2)
              | (go_simp; go_at_call 14; refine (CW2.out _).mono ?_; rintro e w0 ⟨rfl, hw⟩; have hw2 := hw.symm; clear hw; subst hw2; clear CW2)
              | (go_simp
                 go_at_call 20
                 refine (RD.out _ _ _ R4.out).mono ?_
                 rintro e w6 ⟨sv6, rfl, r6, g6⟩
                 obtain ⟨p6, c6, e6⟩ := r6.form
                 rw [plcK_len] at e6
                 subst e6
                 have R6 := hid r6
                 have G6 : Hid (wc.grownBy w6 none) := hid (grown_none G4.out g6)
                 have B6 := hid (B5.out.kept G6.out (by simp))
                 have z0 := B6.out.frozen 0
                 have z1 := B6.out.frozen 1
                 have z2 := B6.out.frozen 2
                 have z3 := B6.out.frozen 3
                 have z4 := B6.out.frozen 4
                 have z5 := B6.out.frozen 5
                 have x0 := B6.out.cell 0
                 have x1 := B6.out.cell 1
                 have x2 := B6.out.cell 2
                 have x3 := B6.out.cell 3
                 have x4 := B6.out.cell 4
                 have x5 := B6.out.cell 5
                 simp [mdlV] at x0 x1 x2 x3 x4 x5
                 unfold mdlV
                 clear r6 g6 RD))
            all_goals (
              have H7 := grown_set (grown_set (grown_set (grown_set (grown_set (grown_set (grown_refl w6 (some w3.heap.size)) 0 (.slice p6 cl.length c6)) 1 (.slice none 0 0)) 2 (.int .i64 ((offK cl cl.length : Int) + ((fx.size : Int) + 9)))) 3 (.int .i64 0)) 4 (.string fx)) 5 (.int .i64 1)
              have B7 := (((((B6.out.set 0 (.slice p6 cl.length c6)).set 1 (.slice none 0 0)).set 2 (.int .i64 ((offK cl cl.length : Int) + ((fx.size : Int) + 9)))).set 3 (.int .i64 0)).set 4 (.string fx)).set 5 (.int .i64 1)
              have R7 := rowG_kept (Recs.down R6.out (Nat.zero_le _)) B6.out (by decide) H7
              have G7 := grown_through (grown_none G5.out G6.out) H7 (Nat.le_of_lt IQ.out.mem)
              have L7 := (L5.out.kept G6.out).law B6.out H7
              have D7 := (D5.out.kept G6.out).law B6.out H7
              obtain ⟨W7, hW7⟩ : ∃ W7, W7 = ((((((w6.setCell ⟨w3.heap.size, 0, none⟩ (.slice p6 cl.length c6)).setCell ⟨w3.heap.size, 1, none⟩ (.slice none 0 0)).setCell ⟨w3.heap.size, 2, none⟩ (.int .i64 ((offK cl cl.length : Int) + ((fx.size : Int) + 9)))).setCell ⟨w3.heap.size, 3, none⟩ (.int .i64 0)).setCell ⟨w3.heap.size, 4, none⟩ (.string fx)).setCell ⟨w3.heap.size, 5, none⟩ (.int .i64 1)) := ⟨_, rfl⟩
              rw [← hW7] at B7 R7 G7 L7 D7 ⊢
              clear hW7 H7
              have ec : ((offK cl cl.length + (fx.size + 9) : Nat) : Int) = (offK cl cl.length : Int) + ((fx.size : Int) + 9) := by omega
              have PN := hid (PlI.replace (sv' := .slice p6 cl.length c6) IQ.out L7 D7 (by unfold mdlV; rw [ec]; exact B7) R7 G7 hl6 HLT.out hfw)
              clear ec B7 R7 G7 L7 D7 R6 G6 B6 z0 z1 z2 z3 z4 z5 x0 x1 x2 x3 x4 x5 r2 L5 D5 B5 G5 Q5 BQ IQ I
              generalize cl.map recF ++ [(false, fx)] = fr' at PN
              have E9 := hid (PN.out.same (by omega))
              have q0 := PN.out.blk.cell 0
              have q1 := PN.out.blk.cell 1
              have q2 := PN.out.blk.cell 2
              have q4 := PN.out.blk.cell 4
              have q5 := PN.out.blk.cell 5
              have q3 := PN.out.blk.cell 3
              simp [mdlV] at q0 q1 q2 q3 q4 q5
              go_wp2_with (go_at_call 24; refine E9.out.mono ?_; rintro e w9 ⟨rfl, g9⟩; have P9 := hid (PN.out.kept g9); clear g9 E9)
              go_roundw
              case rel => exact ⟨k + 1, bb, c + 2, 1, fr', [], _, _, _, _, by omega, by omega, rfl, rfl, rfl, by go_num, P9.out⟩
              case measure => simp [intOf]; omega)
      · as_aux_lemma =>
          have RD := hid (fun W h => lread_any w.heap.size bb (logP w.heap.size fr ts) an W h (logP_asc _ _ _) (by have := IQ.out.recsz; omega))
          have j0 := BQ.out.cell 0
          have j1 := BQ.out.cell 1
          simp at j0 j1
          generalize hrt : readT (logP w.heap.size fr ts).recs an = rt at *
          generalize hrc : readC (logP w.heap.size fr ts).recs an = rc at *
          have HT := hid (And.intro hrt trivial)
          have HR := hid (And.intro hrc trivial)
          clear hrt hrc
          go_wp2_with (first
            | (go_at_call 21; refine (RD.out _ IQ.out.log).mono ?_; rintro e w5 ⟨rfl, g5⟩; have I5 := hid (IQ.out.kept g5); have Q5 := hid (BQ.out.kept g5 (by simp)); have y0 := I5.out.blk.cell 0; have y1 := I5.out.blk.cell 1; simp [mdlV] at y0 y1; clear g5 RD))
          have ma0 := (I5.out.blk.alloc (.cells #[] 49)).cell 0
          have ma1 := (I5.out.blk.alloc (.cells #[] 49)).cell 1
          simp [mdlV] at ma0 ma1
          have GA := hid (grown_drew (grown_alloc (grown_refl w5 none) (.cells #[] 49)))
          have EA : Hid (Recs (w5.alloc (.cells #[] 49)).drew w5.heap.size (.slice (some ⟨w5.heap.size, 0, none⟩) 0 0) []) := recs_new w5 _ (Nat.le_refl _)
          have HB : Hid (w5.heap.size ≤ (w5.alloc (.cells #[] 49)).drew.heap.size) := GA.out.size
          have htl : (frG w.heap.size fr).recs.length + Tl.length ≤ 100 := by have := congrArg List.length IQ.out.all; rw [List.length_append] at this; have := IQ.out.recsz; omega
          have HN1 : Hid (([] : List (Nat × ByteArray)).length + (frG w.heap.size fr).recs.length ≤ 1000000) := (by show 0 + _ ≤ _; omega)
          have HN2 : Hid (([] ++ (frG w.heap.size fr).recs : List (Nat × ByteArray)).length + Tl.length ≤ 1000000) := (by show (frG w.heap.size fr).recs.length + Tl.length ≤ _; omega)
          have HTL := hid htl
          have S5 := hid I5.out.sure
          have W5 := hid I5.out.wait
          clear htl
          go_cut [14] (fun v wx => ∃ p4 c4, v = .slice p4 ((frG w.heap.size fr).recs ++ Tl).length c4 ∧ Recs wx 0 (.slice p4 ((frG w.heap.size fr).recs ++ Tl).length c4) ((frG w.heap.size fr).recs ++ Tl) ∧ w5.grownBy wx none)
          case first =>
            as_aux_lemma =>
              go_region_law (first
                | (refine step_recs (.tmp 170) (.tmp 172) rfl rfl w5.heap.size 0 _ _ [] _ EA.out (S5.out.none GA.out) HN1.out HB.out rfl rfl ?_; intro v3 w11 h3 g3; have G3 := hid (grown_recs GA.out EA.out g3 (Nat.le_refl _)); have R3 := hid h3; obtain ⟨p3, c3, rfl⟩ := h3.form; have n1 := (I5.out.blk.kept G3.out (by simp)).cell 1; simp [mdlV] at n1; clear h3 g3)
                | (refine step_recs (.tmp 173) (.tmp 175) rfl rfl w5.heap.size 0 _ _ _ Tl R3.out (W5.out.none G3.out) HN2.out G3.out.size rfl rfl ?_; intro v4 w12 h4 g4; have G4 := hid (grown_recs G3.out R3.out g4 (Nat.le_refl _)); have R4 : Hid (Recs w12 w5.heap.size v4 ((frG w.heap.size fr).recs ++ Tl)) := hid h4; obtain ⟨p4, c4, rfl⟩ := R4.out.form; clear h4 g4))
              all_goals (
                (try go_wp2_with fail)
                go_meet
                refine ⟨p4, c4, ?_, Recs.down R4.out (Nat.zero_le _), G4.out⟩
                simp)
          case rest =>
            obtain ⟨p4, c4, rfl, hr4, hg4⟩ := hcut
            have I6 := hid (I5.out.kept hg4)
            have Q6 := hid (Q5.out.kept hg4 (by simp))
            have hal := I5.out.all
            have HA : Hid (∀ r ∈ (frG w.heap.size fr).recs ++ Tl, atR (logP w.heap.size fr ts).recs r.1 = some r.2) := fun r hr => by
              rw [← hal] at hr
              exact atR_mem (logP_asc _ _ _) hr
            have R6 := hid hr4
            have HTA : Hid (((frG w.heap.size fr).recs ++ Tl).length ≤ 100) := (by have := HTL.out; rw [List.length_append]; exact this)
            clear hal hr4 hg4 HN1 HN2 HB EA GA ma0 ma1 y0 y1 S5 W5 I5 Q5 IQ BQ I HTL j0 j1
            generalize hAq : (frG w.heap.size fr).recs ++ Tl = Aq at R6 HA HTA ⊢
            clear hAq
            have hn6 := HTA.out
            have hn7 : (Aq.length : Int) ≤ 100 := by omega
            have m1 := Q6.out.cell 1
            simp at m1
            generalize hqb : wr.heap.size = qb at *
            clear hqb
            go_wp2
            go_loopw [12, 13, 15] (fun av iv kv wr' => ∃ (k2 : Nat) (sa : ByteArray) (ba : Bool), k2 ≤ Aq.length ∧ av = .string sa ∧ iv = .bool ba ∧ kv = .int .i64 k2 ∧ wc.grownBy wr' none ∧ (ba = true → atR (logP w.heap.size fr ts).recs an = some sa)) (fun _ _ kv _ => Aq.length - (intOf kv).toNat)
            case atStart => exact ⟨0, ⟨#[]⟩, false, Nat.zero_le _, rfl, rfl, rfl, grown_refl _ _, fun e => by cases e⟩
            case round =>
              obtain ⟨k2, sa, ba, hk2, rfl, rfl, rfl, hg, hba⟩ := hrel
              have GR := hid hg
              have HBA := hid hba
              clear hg hba
              have k9 : (0 : Int) ≤ k2 := by omega
              have N6 := hid (Q6.out.kept GR.out (by simp))
              have m1 := N6.out.cell 1
              simp at m1
              by_cases hlt : k2 < Aq.length
              · obtain ⟨q, rfl, c0, c1⟩ := recs_cell (R6.out.none GR.out) k2 hlt
                have ha := HA.out Aq[k2] (List.getElem_mem hlt)
                have hlt' : (k2 : Int) < Aq.length := by omega
                have HAK := hid ha
                clear ha HA HT HR
                generalize Aq[k2].1 = x at *
                generalize Aq[k2].2 = y at *
                by_cases hx : (x : Int) = an
                · subst hx
                  as_aux_lemma =>
                    go_wp2_with fail
                    go_quiet (fail)
                    all_goals (
                      go_wp2
                      go_round
                      case rel => exact ⟨k2 + 1, y, true, by omega, rfl, rfl, by go_num, grown_drewN GR.out _, fun _ => HAK.out⟩
                      case measure => simp [intOf]; omega)
                · have hxb : ((x : Int) == an) = false := by simp [hx]
                  as_aux_lemma =>
                    go_wp2_with fail
                    go_quiet (fail)
                    all_goals (
                      go_wp2
                      go_round
                      case rel => exact ⟨k2 + 1, sa, ba, by omega, rfl, rfl, by go_num, grown_drewN GR.out _, HBA.out⟩
                      case measure => simp [intOf]; omega)
              · obtain rfl : k2 = Aq.length := by omega
                have hlt' : ¬ (Aq.length : Int) < Aq.length := by omega
                have I7 := hid (I6.out.kept GR.out)
                clear HA hlt hk2
                generalize Aq.length = n2 at *
                have c2 := I7.out.blk.cell 2
                have c3 := I7.out.blk.cell 3
                simp [mdlV] at c2 c3
                have hby := I7.out.bytes
                have hbz : ((bytL fr).size : Int) + ((bytL (ts.map recF)).size : Int) ≤ 30000 := by omega
                have hby1 : IntKind.i64.wrap (((bytL fr).size : Int) + ((bytL (ts.map recF)).size : Int)) = ((bytL fr).size : Int) + ((bytL (ts.map recF)).size : Int) := by rw [IntKind.wrap_i64]; omega
                have PN := hid (I7.out.up (Nat.le_succ k))
                have E9 := hid (fun W h => PlI.same (w := w) (M := w3.heap.size) (k := k + 1) (b := bb) (wr := W) (fr := fr) (ts := ts) (F := F) (c := c) (mk := mk) (sv := .slice ps (frG w.heap.size fr).recs.length cs) (wv := .slice pw Tl.length cw) (Tl := Tl) h (by omega))
                have q0 := PN.out.blk.cell 0
                have q1 := PN.out.blk.cell 1
                have q4 := PN.out.blk.cell 4
                have q5 := PN.out.blk.cell 5
                simp [mdlV] at q0 q1 q4 q5
                clear hby
                cases hat : atR (logP w.heap.size fr ts).recs an with
                | none =>
                  as_aux_lemma =>
                    have h2 := read_none hat
                    rw [HR.out.1] at h2
                    subst h2
                    have hb0 : ba = false := by
                      cases ba with
                      | false => rfl
                      | true => have := HBA.out rfl; rw [hat] at this; cases this
                    subst hb0
                    clear HBA HT HR hat
                    go_wp2_with (go_at_call 24; refine (E9.out _ PN.out).mono ?_; rintro e w9 ⟨rfl, g9⟩; have P9 := hid (PN.out.kept g9); clear g9 E9)
                    all_goals (
                      go_roundw
                      case rel => exact ⟨k + 1, bb, c, mk, fr, ts, F, _, _, _, by omega, by omega, rfl, rfl, rfl, by go_num, P9.out⟩
                      case measure => simp [intOf]; omega)
                | some t =>
                  as_aux_lemma =>
                    obtain ⟨h1, h2⟩ := read_some hat
                    obtain ⟨h3, h4⟩ := at_bound hat
                    rw [HR.out.1] at h2
                    rw [HT.out.1] at h1
                    subst h1 h2
                    have n1 : ¬ an < 0 := by omega
                    have n3 : ¬ ((bytL fr).size : Int) + ((bytL (ts.map recF)).size : Int) ≤ an := by omega
                    cases ba with
                    | false =>
                      as_aux_lemma =>
                        clear HBA HT HR hat
                        go_wp2_with (go_at_call 24; refine (E9.out _ PN.out).mono ?_; rintro e w9 ⟨rfl, g9⟩; have P9 := hid (PN.out.kept g9); clear g9 E9)
                        all_goals (
                          go_roundw
                          case rel => exact ⟨k + 1, bb, c, mk, fr, ts, F, _, _, _, by omega, by omega, rfl, rfl, rfl, by go_num, P9.out⟩
                          case measure => simp [intOf]; omega)
                    | true =>
                      as_aux_lemma =>
                        have h5 := HBA.out rfl
                        rw [hat] at h5
                        have h6 := Option.some.inj h5
                        subst h6
                        clear HBA HT HR hat h5
                        go_wp2_with (go_at_call 24; refine (E9.out _ PN.out).mono ?_; rintro e w9 ⟨rfl, g9⟩; have P9 := hid (PN.out.kept g9); clear g9 E9)
                        all_goals (
                          go_roundw
                          case rel => exact ⟨k + 1, bb, c, mk, fr, ts, F, _, _, _, by omega, by omega, rfl, rfl, rfl, by go_num, P9.out⟩
                          case measure => simp [intOf]; omega)
      · as_aux_lemma =>
          have hfw := fewS_size asx
          have CW := hid (fun W => few_any asx W)
          have AP := hid (fun W h => append_frames w.heap.size bb w.heap.size fr ts (fewS asx) W h hfw (by have := IQ.out.bytes; omega) (by have := IQ.out.recsz; omega))
          have CF := hid (fun W => lframe_any (fewS asx) W (by omega))
          have j0 := BQ.out.cell 0
          have j2 := BQ.out.cell 2
          simp at j0 j2
          generalize hfx : fewS asx = fx at *
          clear hfx
          have CW2 := hid CW.out
          have CW3 := hid CW.out
          have hby := IQ.out.bytes
          have hbz : ((bytL fr).size : Int) + ((bytL (ts.map recF)).size : Int) ≤ 30000 := by omega
          have hby1 : IntKind.i64.wrap (((bytL fr).size : Int) + ((bytL (ts.map recF)).size : Int)) = ((bytL fr).size : Int) + ((bytL (ts.map recF)).size : Int) := by rw [IntKind.wrap_i64]; omega
          clear hby
          go_wp2_with (first
            | (go_at_call 14; refine (CW.out _).mono ?_; rintro e w0 ⟨rfl, hw⟩; have hw2 := hw.symm; clear hw; subst hw2; clear CW)
            | (go_at_call 22
               refine (AP.out _ IQ.out.log).mono ?_
               rintro e w5 ⟨rfl, l5, t5⟩
               have L5 := hid l5
               have TL := Low.of_lt t5 IQ.out.log.blk
               obtain ⟨_, hbb⟩ := IQ.out.log.blk
               have D5 := hid (IsDisk.keptL IQ.out.disk hbb t5)
               obtain ⟨o1, o2, o3, o4⟩ := IQ.out.over TL
               have B5 := hid o1
               have S5 := hid o2
               have W5 := hid o3
               have G5 := hid o4
               have Q5 := hid (low_blk TL BQ.out ⟨by decide, by decide, by decide, by decide, by decide⟩)
               have y1 := o1.cell 1
               have y2 := o1.cell 2
               have y3 := o1.cell 3
               simp [mdlV] at y1 y2 y3
               have r2 := Q5.out.cell 2
               simp at r2
               clear l5 t5 TL o1 o2 o3 o4 AP hbb))
          have hmem := hid IQ.out.mem
          have hfws := hid hfw
          clear a0 a1 a2 a3 a4 a5 a6 AA A0 I n3 n4 n5 n6 n7 n8 j0 j2 y2 y3 hbz hby1 BQ hk hw3 hn hn'
          have ma1 := (B5.out.alloc (.cells #[] 49)).cell 1
          have ra2 := (Q5.out.alloc (.cells #[] 49)).cell 2
          simp [mdlV] at ma1 ra2
          have GA := hid (grown_drew (grown_alloc (grown_refl w5 none) (.cells #[] 49)))
          have EA : Hid (Recs (w5.alloc (.cells #[] 49)).drew w5.heap.size (.slice (some ⟨w5.heap.size, 0, none⟩) 0 0) []) := recs_new w5 _ (Nat.le_refl _)
          have HB : Hid (w5.heap.size ≤ (w5.alloc (.cells #[] 49)).drew.heap.size) := GA.out.size
          have htl : Tl.length ≤ 100 := by have := congrArg List.length IQ.out.all; rw [List.length_append] at this; have := IQ.out.recsz; omega
          have HN1 : Hid (([] : List (Nat × ByteArray)).length + Tl.length ≤ 1000000) := (by show 0 + Tl.length ≤ _; omega)
          have HN2 : Hid (([] ++ Tl : List (Nat × ByteArray)).length + [((bytL fr).size + (bytL (ts.map recF)).size, fx)].length ≤ 1000000) := (by show Tl.length + 1 ≤ _; omega)
          have HTL := hid htl
          clear htl hfw
          go_cut [81] (fun v wx => ∃ p4 c4, v = .slice p4 (Tl.length + 1) c4 ∧ Blk wx w3.heap.size 32 (mdlV (.slice ps (frG w.heap.size fr).recs.length cs) (.slice p4 (Tl.length + 1) c4) (bytL fr).size (bytL (ts.map recF)).size (frG w.heap.size fr).root mk) ∧ Blk wx wr.heap.size 37 #[.int .i64 kd, .int .i64 an, .string asx, .slice lp ln lc, .int .i64 fat, .int .i64 kp, .int .i64 tn] ∧ IsLog wx w.heap.size bb (logP w.heap.size fr (ts ++ [fx])) ∧ IsDisk wx w.heap.size w.heap.size (Dn F c) ∧ Recs wx 0 (.slice ps (frG w.heap.size fr).recs.length cs) (frG w.heap.size fr).recs ∧ Recs wx 0 (.slice p4 (Tl.length + 1) c4) (Tl ++ [((bytL fr).size + (bytL (ts.map recF)).size, fx)]) ∧ w.grownBy wx none)
          case first =>
            as_aux_lemma =>
              clear CF CW3 IQ HTL hfws
              go_region_law (first
                | (refine step_recs (.tmp 71) (.tmp 73) rfl rfl w5.heap.size 0 _ _ [] Tl EA.out (W5.out.none GA.out) HN1.out HB.out rfl rfl ?_; intro v3 w11 h3 g3; have G3 := hid (grown_recs GA.out EA.out g3 (Nat.le_refl _)); have Z3 := hid (Nat.le_trans HB.out g3.size); have R3 := hid h3; obtain ⟨p3, c3, rfl⟩ := h3.form; have n2 := (Q5.out.kept G3.out (by simp)).cell 2; simp at n2; have RO : Hid (Recs (w11.alloc (.cells #[.int .i64 (((bytL fr).size : Int) + ((bytL (List.map recF ts)).size : Int)), .string fx] 49)) w5.heap.size (.slice (some ⟨w11.heap.size, 0, none⟩) 1 1) [((bytL fr).size + (bytL (ts.map recF)).size, fx)]) := (by have t : Recs (w11.alloc (.cells #[.int .i64 (((bytL fr).size + (bytL (ts.map recF)).size : Nat) : Int), .string fx] 49)) w5.heap.size (.slice (some ⟨w11.heap.size, 0, none⟩) 1 1) [((bytL fr).size + (bytL (ts.map recF)).size, fx)] := recs_one w11 _ _ (by have := Z3.out; have := G3.out.size; omega); rw [show (((bytL fr).size + (bytL (ts.map recF)).size : Nat) : Int) = (((bytL fr).size : Int) + ((bytL (List.map recF ts)).size : Int)) from by omega] at t; exact t); have RA : Hid (Recs (w11.alloc (.cells #[.int .i64 (((bytL fr).size : Int) + ((bytL (List.map recF ts)).size : Int)), .string fx] 49)) w5.heap.size (.slice p3 ([] ++ Tl).length c3) ([] ++ Tl)) := (World.ownsRow.alloc R3.out _); have H2 : Hid (w5.heap.size ≤ (w11.alloc (.cells #[.int .i64 (((bytL fr).size : Int) + ((bytL (List.map recF ts)).size : Int)), .string fx] 49)).heap.size) := ((grown_alloc G3.out _).size); clear h3 g3)
                | (go_simp; go_at_call 14; refine (CW2.out _).mono ?_; rintro e w0 ⟨rfl, hw⟩; have hw2 := hw.symm; clear hw; subst hw2; clear CW2)
                | (refine step_recs (.tmp 74) (.tmp 80) rfl rfl w5.heap.size w5.heap.size _ _ ([] ++ Tl) _ RA.out RO.out HN2.out H2.out rfl rfl ?_; intro v4 w12 h4 g4; have G4 := hid (grown_recs (grown_alloc G3.out _) RA.out g4 (Nat.le_refl _)); have R4 := hid h4; obtain ⟨p4, c4, e4⟩ := h4.form; have e5 : (([] ++ Tl) ++ [((bytL fr).size + (bytL (ts.map recF)).size, fx)]).length = Tl.length + 1 := (by rw [List.length_append]; rfl); rw [e5] at e4; subst e4; have B12 := hid (B5.out.kept G4.out (by simp)); have n1 := B12.out.cell 1; have n3 := B12.out.frozen 1; simp [mdlV] at n1; clear h4 g4 e5))
              all_goals (
                have H13 := grown_set (grown_refl w12 (some w3.heap.size)) 1 (.slice p4 (Tl.length + 1) c4)
                have B13 : Hid (Blk (w12.setCell ⟨w3.heap.size, 1, none⟩ (.slice p4 (Tl.length + 1) c4)) w3.heap.size 32 (mdlV (.slice ps (frG w.heap.size fr).recs.length cs) (.slice p4 (Tl.length + 1) c4) (bytL fr).size (bytL (ts.map recF)).size (frG w.heap.size fr).root mk)) := B12.out.set 1 _
                have Q13 := hid ((Q5.out.kept G4.out (by simp)).kept H13 (fun e => by have := Option.some.inj e; omega))
                have L13 := hid ((L5.out.kept G4.out).law B12.out H13)
                have D13 := hid ((D5.out.kept G4.out).law B12.out H13)
                have S13 := hid (rowG_kept (S5.out.none G4.out) B12.out (by decide) H13)
                have W13 := hid (rowG_kept (Recs.down R4.out (Nat.zero_le _)) B12.out (by decide) H13)
                have G13 := hid (grown_through (grown_none G5.out G4.out) H13 (Nat.le_of_lt hmem.out))
                clear H13 Q5 L5 D5 S5 W5 G5 G4 R4 G3 R3 Z3 RO RA H2 n1 n2 n3 B12 B5 EA GA HB HN1 HN2 ma1 ra2 y1 r2 hmem
                (try go_wp2_with fail)
                go_meet
                exact ⟨p4, c4, rfl, B13.out, Q13.out, L13.out, D13.out, S13.out, W13.out, G13.out⟩)
          case rest =>
            as_aux_lemma =>
              obtain ⟨p4, c4, rfl, b13, q13, l13, d13, s13, w13, g13⟩ := hcut
              have B13 := hid b13
              have Q13 := hid q13
              have L13 := hid l13
              have D13 := hid d13
              have S13 := hid s13
              have W13 := hid w13
              have G13 := hid g13
              have m3 := b13.cell 3
              have m2 := q13.cell 2
              simp [mdlV] at m3 m2
              clear b13 q13 l13 d13 s13 w13 g13 HN1 HN2 HB EA GA ma1 ra2 y1 r2 L5 D5 B5 S5 W5 G5 Q5 CW2
              have hfw := hfws.out
              have hbz : ((bytL fr).size : Int) + ((bytL (ts.map recF)).size : Int) ≤ 30000 := by have := IQ.out.bytes; omega
              have i4 : (fx.size : Int) ≤ 300 := by omega
              have iw1 : IntKind.i64.wrap (((bytL (List.map recF ts)).size : Int) + ((fx.size : Int) + 9)) = ((bytL (List.map recF ts)).size : Int) + ((fx.size : Int) + 9) := by rw [IntKind.wrap_i64]; omega
              go_wp2_with fail
              go_region_law (first
                | (go_simp; go_at_call 14; refine (CW3.out _).mono ?_; rintro e w0 ⟨rfl, hw⟩; have hw2 := hw.symm; clear hw; subst hw2; clear CW3)
                | (go_simp; go_at_call 23; refine (CF.out _).mono ?_; rintro e w14 ⟨rfl, g14⟩; have G14 : Hid (wc.grownBy w14 none) := hid (grown_trans (grown_drew (grown_refl _ _)) g14); have B14 := hid (B13.out.kept G14.out (by simp)); have d3 := B14.out.cell 3; have d4 := B14.out.frozen 3; simp [mdlV] at d3; clear g14 CF))
              all_goals (
                have H7 := grown_set (grown_refl w14 (some w3.heap.size)) 3 (.int .i64 (((bytL (List.map recF ts)).size : Int) + ((fx.size : Int) + 9)))
                have B7 := B14.out.set 3 (.int .i64 (((bytL (List.map recF ts)).size : Int) + ((fx.size : Int) + 9)))
                have S7 := rowG_kept (S13.out.none G14.out) B14.out (by decide) H7
                have V7 := rowG_kept (W13.out.none G14.out) B14.out (by decide) H7
                have G7 := grown_through (grown_none G13.out G14.out) H7 (Nat.le_of_lt IQ.out.mem)
                have L7 := (L13.out.kept G14.out).law B14.out H7
                have D7 := (D13.out.kept G14.out).law B14.out H7
                obtain ⟨W7, hW7⟩ : ∃ W7, W7 = w14.setCell ⟨w3.heap.size, 3, none⟩ (.int .i64 (((bytL (List.map recF ts)).size : Int) + ((fx.size : Int) + 9))) := ⟨_, rfl⟩
                rw [← hW7] at B7 S7 V7 G7 L7 D7 ⊢
                clear hW7 H7
                have ec : (((bytL (ts.map recF)).size + (fx.size + 9) : Nat) : Int) = ((bytL (ts.map recF)).size : Int) + ((fx.size : Int) + 9) := by omega
                have PN := hid (PlI.append (wv' := .slice p4 (Tl.length + 1) c4) IQ.out L7 D7 (by unfold mdlV; rw [ec]; exact B7) S7 V7 G7 hfw)
                clear ec B7 S7 V7 G7 L7 D7 G14 B14 d3 d4 m3 m2 B13 Q13 L13 D13 S13 W13 G13 IQ iw1 i4 hbz
                generalize ts ++ [fx] = ts' at PN
                generalize hTl' : Tl ++ [((bytL fr).size + (bytL (ts.map recF)).size, fx)] = Tl' at PN
                clear hTl'
                have E9 := hid (PN.out.same (by omega))
                have q0 := PN.out.blk.cell 0
                have q1 := PN.out.blk.cell 1
                have q2 := PN.out.blk.cell 2
                have q4 := PN.out.blk.cell 4
                have q5 := PN.out.blk.cell 5
                have q3 := PN.out.blk.cell 3
                simp [mdlV] at q0 q1 q2 q3 q4 q5
                go_wp2_with (go_at_call 24; refine E9.out.mono ?_; rintro e w9 ⟨rfl, g9⟩; have P9 := hid (PN.out.kept g9); clear g9 E9)
                go_roundw
                case rel => exact ⟨k + 1, bb, c, mk, fr, ts', _, _, _, _, by omega, by omega, rfl, rfl, rfl, by go_num, P9.out⟩
                case measure => simp [intOf]; omega)
    · have hex : (k : Int) = n ∨ (k : Int) = 50 := by omega
      have GI := hid I.out.grown
      clear I PA HC
      rcases hex with e | e
      · have k1 : ¬ (k : Int) < n := by omega
        clear e
        go_wp2
        go_ret
        exact ⟨rfl, GI.out⟩
      · have k2 : ¬ (k : Int) < 50 := by omega
        by_cases k1 : (k : Int) < n
        · clear e
          go_wp2
          go_ret
          exact ⟨rfl, GI.out⟩
        · clear e
          go_wp2
          go_ret
          exact ⟨rfl, GI.out⟩
end Go.Proofs.Ytddnjlnnkeiplaa
