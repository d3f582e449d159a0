/-
  WalReads: the law's own walk, what stands behind is cut.
-/
import Derived.Test.YtddnjlnnkeiplaaKPtext
import Derived.Test.YtddnjlnnkeiplaaRdsk
namespace Go.Proofs.Ytddnjlnnkeiplaa
open Go.RowKit Go.Maps
set_option maxRecDepth 100000 in
set_option maxHeartbeats 8000000 in
theorem reads_b (pa : Option Addr) (n cap xb xo : Nat) (S : Nat → ByteArray) (root rest : ByteArray) (w : World) (hpa : 0 < n → pa = some ⟨xb, xo, none⟩) (hc : ∀ j, j < n → w.cell? ⟨xb, xo + j, none⟩ = some (.string (S j))) (hn : n ≤ 9223372036854775807) (hrest : 1000 < rest.size) :
    Calls Try.prog 5 #[.slice pa n cap, .string root, .string rest] w fun e w' => e = .returned (.bool true) ∧ w.grownBy w' none := by
  obtain ⟨l, hl⟩ : ∃ l, l = cutK S (min n 6) := ⟨_, rfl⟩
  obtain ⟨root', hroot⟩ : ∃ r, r = fewS root := ⟨_, rfl⟩
  obtain ⟨R, hR⟩ : ∃ r, r = rest.extract 0 1000 := ⟨_, rfl⟩
  have hl6 : l.length ≤ 6 := by rw [hl, cutK_len]; omega
  have hl3 : ∀ t ∈ l, t.size ≤ 300 := fun t ht => by
    rw [hl] at ht
    unfold cutK at ht
    obtain ⟨j, _, rfl⟩ := List.mem_map.1 ht
    exact fewS_size _
  have hr3 : root'.size ≤ 300 := by rw [hroot]; exact fewS_size _
  have hR3 : R.size ≤ 1000 := by rw [hR]; rw [ByteArray.size_extract]; omega
  have hoff := offK_le hl3 l.length
  have hend : endT l root' ≤ 6 * 309 + 309 := by unfold endT; omega
  have hall : (wholeT l root' ++ R).size = endT l root' + R.size := by rw [ByteArray.size_append, wholeT_size]
  have hall5 : (wholeT l root' ++ R).size ≤ 4500 := by omega
  have C9 := hid (new_any w)
  have CC : Hid (∀ W, w.grownBy W none → Calls Try.prog 19 #[.slice pa n cap] W (CutPost W l)) := fun W hW => by
    rw [hl]
    exact cut_any pa n cap xb xo S W hpa (fun j hj => cell_kept (hc j hj) hW (fun _ e => by cases e)) hn
  have CF : Hid (∀ W, Calls Try.prog 14 #[.string root] W fun e w' => e = .returned (.string root') ∧ w' = W) := fun W => by rw [hroot]; exact few_any root W
  have CR : Hid (∀ W v bl, W.ownsRow bl 9 1 v l.length (strs l) → Calls Try.prog 20 #[v, .string root'] W (ReplPost W l root')) := fun W v bl h => replaced_any bl v l root' W h hl6 hl3 hr3
  have CX : Hid (∀ k W, Calls Try.prog 28 #[.string (⟨#[100]⟩ ++ l.getD k ⟨#[]⟩)] W fun e w' => e = .returned (.string (Wi.frmS (⟨#[100]⟩ ++ l.getD k ⟨#[]⟩))) ∧ W.grownBy w' none) := fun k W => Wi.refFrame_any _ W (by rw [one_size]; have := getD_size hl3 k; omega)
  have CM : Hid (∀ W, Calls Try.prog 28 #[.string (⟨#[109]⟩ ++ root')] W fun e w' => e = .returned (.string (Wi.frmS (⟨#[109]⟩ ++ root'))) ∧ W.grownBy w' none) := fun W => Wi.refFrame_any _ W (by rw [one_size]; omega)
  have GS := hid (getD_size hl3)
  have OF := hid (offK_le hl3)
  have RT := hid (fun d => run_top d l root' R (wholeT l root' ++ R) hl3 hr3 rfl)
  have A5 := hid hall5
  have R3 := hid hR3
  have AZ := hid hall
  have hrz : ¬ 9223372036854775807 < 1 + root'.size := by omega
  have hm6 : (l.length : Int) ≤ 6 := by omega
  clear hpa hc hl hroot hall hall5 hoff hl3
  have hRR : rest.extract 0 1000 = R := hR.symm
  clear hR
  have q1 : (1000 : Int) < rest.size := by omega
  have q2 : (1000 : Int) ≤ rest.size := by omega
  clear hrest
  go_enter Try.func5, Try.ntmps5
  go_wp2_with (first
    | (go_at_call 9; refine C9.out.mono ?_; rintro e w1 ⟨rfl, d1, g1⟩; have D1 := hid d1; have G1 := hid g1; clear d1 g1 C9)
    | (go_at_call 19; refine (CC.out _ G1.out).mono ?_; rintro e w2 ⟨v2, rfl, o2, g2⟩; have O2 := hid o2; have G2 := hid (grown_none G1.out g2); have H2 := hid g2; obtain ⟨p2, c2, rfl, _⟩ := row_form o2; clear o2 g2)
    | (go_at_call 14; refine (CF.out _).mono ?_; rintro e w0 ⟨rfl, hw⟩; have hw2 := hw.symm; clear hw; subst hw2)
    | (go_at_call 20; refine (CR.out _ _ _ O2.out).mono ?_; rintro e w3 ⟨sv, rfl, r3, g3⟩; obtain ⟨ps, cs, rfl⟩ := r3.form; have RS := hid r3; have G3 := hid (grown_none G2.out g3); have D3 := hid ((D1.out.kept H2.out).kept g3); have Z3 := hid g3.size; unfold mdlV; clear r3 g3 CR O2))
  have HT := hid (txtK_size l)
  go_loopw [9, 10] (fun tv iv wr => ∃ k : Nat, k ≤ l.length ∧ iv = .int .i64 k ∧ tv = .string (txtK l k) ∧ (w3.alloc (.cells #[.slice ps (plcK l l.length).length cs, .slice none 0 0, .int .i64 ((offK l l.length + (root'.size + 9) : Nat) : Int), .int .i64 0, .string root', .int .i64 1] 32)).grownBy wr none) (fun _ iv _ => l.length - (intOf iv).toNat)
  case atStart => exact ⟨0, Nat.zero_le _, rfl, rfl, grown_refl _ _⟩
  case round =>
    obtain ⟨k, hk, rfl, rfl, hg⟩ := hrel
    have GW := hid hg
    have GA := hid (grown_none (grown_alloc G3.out (.cells #[.slice ps (plcK l l.length).length cs, .slice none 0 0, .int .i64 ((offK l l.length + (root'.size + 9) : Nat) : Int), .int .i64 0, .string root', .int .i64 1] 32)) hg)
    clear hg
    have k0 : (0 : Int) ≤ k := by omega
    have hof := OF.out k
    have htx := HT.out k
    by_cases hlt : k < l.length
    · have k1 : (k : Int) < l.length := by omega
      have CE := hid (CX.out k)
      have hgs := GS.out k
      have NX : Hid (txtK l (k + 1) = txtK l k ++ Wi.frmS (⟨#[100]⟩ ++ l.getD k ⟨#[]⟩)) := rfl
      have hfz : (Wi.frmS (⟨#[100]⟩ ++ l.getD k ⟨#[]⟩)).size ≤ 400 := by rw [Wi.frmS_size, one_size]; omega
      have SC := hid (fun (W : World) (bb cc : Nat) (pp : Option Addr) (h : W.ownsRow bb 9 1 (.slice pp l.length cc) l.length (strs l)) => str_cell h k hlt)
      generalize Wi.frmS (⟨#[100]⟩ ++ l.getD k ⟨#[]⟩) = F at *
      generalize l.getD k ⟨#[]⟩ = x at *
      generalize txtK l k = X at *
      have z1 : ¬ 9223372036854775807 < X.size + F.size := by omega
      have z2 : ¬ 9223372036854775807 < 1 + x.size := by omega
      clear htx hof hgs hfz OF GS HT CX
      have C1 := hid CC.out
      have C2 := hid CC.out
      clear CC
      go_wp2_with (first
        | (go_at_call 19; refine (C1.out _ GA.out).mono ?_; rintro e w5 ⟨v5, rfl, o5, g5⟩; have G5 := hid (grown_none GA.out g5); have W5 := hid (grown_none GW.out g5); obtain ⟨p5, c5, rfl, _⟩ := row_form o5; clear o5 g5 C1)
        | (go_at_call 19; refine (C2.out _ G5.out).mono ?_; rintro e w6 ⟨v6, rfl, o6, g6⟩; have G6 := hid (grown_none G5.out g6); have W6 := hid (grown_none W5.out g6); obtain ⟨p6, c6, rfl, _⟩ := row_form o6; obtain ⟨q6, rfl, h6⟩ := SC.out _ _ _ _ o6; clear o6 g6 C2 SC)
        | (go_at_call 28; refine (CE.out _).mono ?_; rintro e w7 ⟨rfl, g7⟩; have W7 := hid (grown_none W6.out g7); clear g7 CE))
      go_round
      case rel => exact ⟨k + 1, by omega, by go_num, by rw [NX.out], W7.out⟩
      case measure => simp [intOf]; omega
    · obtain rfl : k = l.length := by omega
      have k1 : ¬ (l.length : Int) < l.length := by omega
      have BW := hid (Blk.new w3 32 #[.slice ps (plcK l l.length).length cs, .slice none 0 0, .int .i64 ((offK l l.length + (root'.size + 9) : Nat) : Int), .int .i64 0, .string root', .int .i64 1])
      have TZ := hid (wholeT_size l root')
      have hXM : txtK l l.length ++ Wi.frmS (⟨#[109]⟩ ++ root') = wholeT l root' := rfl
      have mz : (Wi.frmS (⟨#[109]⟩ ++ root')).size ≤ 400 := by rw [Wi.frmS_size, one_size]; omega
      have z1 : ¬ 9223372036854775807 < (txtK l l.length).size + (Wi.frmS (⟨#[109]⟩ ++ root')).size := by omega
      have z2 : ¬ 9223372036854775807 < (wholeT l root').size + R.size := by have := A5.out; rw [ByteArray.size_append] at this; omega
      clear OF GS HT CX htx hof mz
      generalize txtK l l.length = X at *
      generalize Wi.frmS (⟨#[109]⟩ ++ root') = M at *
      generalize wholeT l root' = T at *
      have hTR : T ++ R = T ++ R := rfl
      generalize hA : T ++ R = A at *
      clear hTR
      go_wp2_with (first
        | (go_at_call 19; refine (CC.out _ GA.out).mono ?_; rintro e w5 ⟨v5, rfl, o5, g5⟩; have G5 := hid (grown_none GA.out g5); have W5 := hid (grown_none GW.out g5); obtain ⟨p5, c5, rfl, _⟩ := row_form o5; clear o5 g5 CC)
        | (go_at_call 14; refine (CF.out _).mono ?_; rintro e w0 ⟨rfl, hw⟩; have hw2 := hw.symm; clear hw; subst hw2; clear CF)
        | (go_at_call 28; refine (CM.out _).mono ?_; rintro e w8 ⟨rfl, g8⟩; have G8 := hid (grown_none G5.out g8); have W8 := hid (grown_none W5.out g8); have B8 := hid (BW.out.kept W8.out (by simp)); have a0 := (B8.out.alloc (.cells #[.slice none 0 0, .slice none 0 0, .int .i64 0, .int .i64 0, .string ⟨#[]⟩, .int .i64 0] 32)).cell 0; have a1 := (B8.out.alloc (.cells #[.slice none 0 0, .slice none 0 0, .int .i64 0, .int .i64 0, .string ⟨#[]⟩, .int .i64 0] 32)).cell 1; have a2 := (B8.out.alloc (.cells #[.slice none 0 0, .slice none 0 0, .int .i64 0, .int .i64 0, .string ⟨#[]⟩, .int .i64 0] 32)).cell 2; have a3 := (B8.out.alloc (.cells #[.slice none 0 0, .slice none 0 0, .int .i64 0, .int .i64 0, .string ⟨#[]⟩, .int .i64 0] 32)).cell 3; have a4 := (B8.out.alloc (.cells #[.slice none 0 0, .slice none 0 0, .int .i64 0, .int .i64 0, .string ⟨#[]⟩, .int .i64 0] 32)).cell 4; have a5 := (B8.out.alloc (.cells #[.slice none 0 0, .slice none 0 0, .int .i64 0, .int .i64 0, .string ⟨#[]⟩, .int .i64 0] 32)).cell 5; simp at a0 a1 a2 a3 a4 a5; clear g8 CM))
      have ec : ((endT l root' : Nat) : Int) = (offK l l.length : Int) + ((root'.size : Int) + 9) := by unfold endT; omega
      obtain ⟨rt1, rt2, rt3⟩ := RT.out w.heap.size
      have RR := hid (And.intro rt3 trivial)
      have RI := hid rt2
      have DD := hid ((D3.out.kept (grown_alloc (grown_refl _ _) _)).kept W8.out)
      have RS8 := hid (Recs.none (World.ownsRow.alloc RS.out (.cells #[.slice ps (plcK l l.length).length cs, .slice none 0 0, .int .i64 ((offK l l.length + (root'.size + 9) : Nat) : Int), .int .i64 0, .string root', .int .i64 1] 32)) W8.out)
      have EC := hid ec
      have CU : Hid (∀ p W, p ≤ A.size → Calls Try.prog 29 #[.string A, .int .i64 p] W fun e w' => e = .returned (.tuple #[.string (unV A p), .int .i64 (unX A p), .int .i64 (unY A p)]) ∧ W.grownBy w' none) := fun p W hp => refUn_any A p A5.out hp W
      have a9 : (A.size : Int) ≤ 4500 := by have := A5.out; omega
      have hw8 : w3.heap.size ≤ w8.heap.size := by have := W8.out.size; rw [World.size_alloc] at this; omega
      have hw38 : w.heap.size ≤ w8.heap.size := G8.out.size
      clear a0 a1 a2 a3 a4 a5 B8 BW W8 W5 G5 GA GW RS D1 D3 G1 G2 H2 G3 Z3 RT rt1 rt2 rt3 hXM z1 z2 ec hk hlt k0 k1 hl6 hm6
      go_loopw [11, 12] (fun ev av wr => ∃ (p : Nat) (g : Lg) (sv wv : Value) (mm mk : Nat), av = .int .i64 p ∧ ev = .int .i64 g.len ∧ p ≤ A.size ∧ Inv A p g ∧ runG A (A.size + 1 - p) p g = parseG A w.heap.size ∧ g.marked = true ∧ mm ≤ p ∧ 0 < mk ∧ mk ≤ p ∧ Blk wr w8.heap.size 32 (mdlV sv wv g.len mm g.root mk) ∧ Recs wr 0 sv (g.recs.take g.com) ∧ Recs wr 0 wv (g.recs.drop g.com) ∧ w8.grownBy wr none) (fun _ av _ => A.size - (intOf av).toNat)
      case atStart =>
        have tz := TZ.out
        have l9 : 9 ≤ endT l root' := by unfold endT; omega
        refine ⟨endT l root', topG w.heap.size l root', .slice ps (plcK l l.length).length cs, .slice none 0 0, 0, 1, by rw [tz], by rw [tz]; rfl, (by have := RI.out.len; exact this), RI.out, RR.out.1, rfl, Nat.zero_le _, by decide, by omega, ?_, ?_, ?_, grown_alloc (grown_refl _ _) _⟩
        · have := Blk.new w8 32 (mdlV (.slice ps (plcK l l.length).length cs) (.slice none 0 0) (endT l root') 0 root' 1)
          unfold mdlV at this ⊢
          rw [EC.out] at this
          show Blk _ _ _ #[_, _, .int .i64 ((endT l root' : Nat) : Int), _, _, _]
          rw [EC.out]
          exact this
        · show Recs _ 0 _ ((plcK l l.length).take l.length)
          rw [List.take_of_length_le (by rw [plcK_len]; exact Nat.le_refl _)]
          exact Recs.down (World.ownsRow.alloc RS8.out _) (Nat.zero_le _)
        · show Recs _ 0 _ ((plcK l l.length).drop l.length)
          rw [List.drop_eq_nil_of_le (by rw [plcK_len]; exact Nat.le_refl _)]
          exact recs_nil _ _
      case round =>
        obtain ⟨p, g, sv, wv, mm, mk, rfl, rfl, hp, hI, hrun, hmark, hmm, hmk0, hmk, hb, hsv, hwv, hg⟩ := hrel
        obtain ⟨Dr, hDr⟩ : ∃ D, D = g.recs.drop g.com := ⟨_, rfl⟩
        obtain ⟨Tk, hTk⟩ : ∃ D, D = g.recs.take g.com := ⟨_, rfl⟩
        rw [← hDr] at hwv
        rw [← hTk] at hsv
        have DQ := hid (And.intro hDr hTk)
        have dl : Dr.length ≤ p := by rw [hDr, List.length_drop]; have := hI.few; omega
        have ql : Tk.length ≤ p := by rw [hTk, List.length_take]; have := hI.few; omega
        have bi : Tk.length + Dr.length ≤ p := by rw [hTk, hDr, List.length_take, List.length_drop]; have := hI.few; omega
        clear hDr hTk
        have BK := hid hb
        have IV := hid hI
        have RU := hid (And.intro hrun trivial)
        have MK := hid hmark
        have SV := hid hsv
        have WV := hid hwv
        have GB := hid hg
        obtain ⟨ps2, cs2, rfl⟩ := hsv.form
        obtain ⟨pw2, cw2, rfl⟩ := hwv.form
        have hb8 : w8.heap.size < wr.heap.size := hb.lt
        clear hb hI hrun hmark hsv hwv hg
        have p0 : (0 : Int) ≤ p := by omega
        have p1 : (p : Int) ≤ 4500 := by omega
        by_cases hpA : p < A.size
        · have q1 : (p : Int) < A.size := by omega
          rcases ucas A p hp with ⟨hy, hst⟩ | ⟨hy, hv, hst⟩ | ⟨c, r', hy, hv, hr', hc1, hc2, hst⟩ | ⟨r', x, hy, hv, hr', hx, hx1, hx2, hst⟩ | ⟨r', x, hy, hv, hr', hx, hx1, hx2, hst⟩
          · have CE : Hid (∀ W, Calls Try.prog 29 #[.string A, .int .i64 p] W fun e w' => e = .returned (.tuple #[.string (unV A p), .int .i64 (unX A p), .int .i64 (unY A p)]) ∧ W.grownBy w' none) := fun W => by
              have := CU.out p W hp
              exact this
            have PG : Hid (parseG A w.heap.size = g ∧ True) := hid (And.intro (by rw [← RU.out.1]; exact run_stop (hst g) _) trivial)
            have LG : Hid (loadG A w.heap.size = dropG g ∧ True) := hid (And.intro (by unfold loadG; rw [PG.out.1]) trivial)
            obtain ⟨G', hG'⟩ : ∃ G', G' = dropG g := ⟨_, rfl⟩
            obtain ⟨K, hK⟩ : ∃ K, K = kD A R (loadG A w.heap.size).len := ⟨_, rfl⟩
            obtain ⟨K2, hK2⟩ : ∃ X, X = openD K 0 (loadG A w.heap.size).len := ⟨_, rfl⟩
            obtain ⟨c, hc⟩ : ∃ c : Nat, c = A.size - g.len := ⟨_, rfl⟩
            have hgl := IV.out.len
            have hlen : (loadG A w.heap.size).len = g.len := by rw [LG.out.1]; rfl
            have FT : Hid (FarT 32) := hid ⟨by decide, by decide, by decide, by decide, by decide⟩
            have TA := hid lawake_any
            have WA := hid (fun W h => writeA w.heap.size w.heap.size A W h A5.out)
            have WB := hid (fun W h => writeB w.heap.size w.heap.size A R W h A5.out R3.out)
            have SY := hid (fun W h => syncC w.heap.size w.heap.size A R W h A5.out R3.out)
            have OC : Hid (∀ W, IsDisk W w.heap.size w.heap.size (kC A R) → Calls Try.prog 10 #[.pointer (some ⟨w.heap.size, 0, none⟩)] W (OpenPost w.heap.size w.heap.size W G' c K)) := hid (fun W h => by
              have := openC w.heap.size w.heap.size A R W h A5.out R3.out
              rw [← hK, hlen, ← hc, LG.out.1, ← hG'] at this
              exact this)
            have RN : Hid (∀ W, IsDisk W w.heap.size w.heap.size K → Calls Try.prog 32 #[.pointer (some ⟨w.heap.size, 0, none⟩), .string ⟨#[108, 111, 103, 46, 110, 101, 119]⟩] W fun e w' => e = .returned (.tuple #[.string ⟨#[]⟩, .int .i64 2]) ∧ W.grownBy w' none) := hid (fun W h => by
              rw [hK] at h
              exact readN w.heap.size w.heap.size A R _ (load_again A w.heap.size A5.out).1 W h)
            have OD : Hid (∀ W, IsDisk W w.heap.size w.heap.size K → Calls Try.prog 10 #[.pointer (some ⟨w.heap.size, 0, none⟩)] W (OpenPost w.heap.size w.heap.size W G' 0 K2)) := hid (fun W h => by
              have h' := h
              rw [hK] at h'
              have := openD2 w.heap.size w.heap.size A R W h' A5.out
              rw [← hK, ← hK2, LG.out.1, ← hG'] at this
              exact this)
            have SMa : Hid (∀ W b, IsLog W w.heap.size b G' → Recs W 0 (.slice ps2 Tk.length cs2) Tk → Calls Try.prog 24 #[.pointer (some ⟨b, 0, none⟩), .agg #[.slice ps2 Tk.length cs2, .slice none 0 0, .int .i64 g.len, .int .i64 0, .string g.root, .int .i64 mk]] W fun e w' => e = .returned (.bool true) ∧ W.grownBy w' none) := hid (fun W b h1 h2 => by
              rw [hG'] at h1
              have er : (dropG g).recs = Tk := DQ.out.2.symm
              have at1 : Asc (dropG g).recs := by rw [er, DQ.out.2]; exact asc_take IV.out.asc _
              have := same_any w.heap.size b 0 (dropG g) Tk [] (.slice ps2 Tk.length cs2) (.slice none 0 0) mk W h1 h2 (recs_nil _ _) at1 (by rw [er]; omega) (fun r hr => by
                rw [List.append_nil] at hr
                rw [er] at at1 ⊢
                exact atR_mem at1 hr) (by show g.marked = _; rw [MK.out, decide_eq_true hmk0]) (by show Tk.length + 0 ≤ _; omega)
              exact this)
            have SMb := hid SMa.out
            have cz : (((c : Nat) : Int) != (A.size : Int) - (g.len : Int)) = false := by
              have : ((c : Nat) : Int) = (A.size : Int) - (g.len : Int) := by omega
              rw [this]
              simp
            have cz2 : IntKind.i64.wrap ((A.size : Int) - (g.len : Int)) = (A.size : Int) - (g.len : Int) := by rw [IntKind.wrap_i64]; omega
            clear hG' hK hK2 hc hlen hgl PG LG RU IV MK DQ A5 R3 AZ TZ EC RR RI CU
            have yb : (((unY A p : Nat) : Int) == 0) = false := by simp; exact hy
            have yb2 : (((unY A p : Nat) : Int) != 0) = true := by simp; exact hy
            clear hy hst
            generalize unY A p = yy at *
            generalize unV A p = VV at *
            generalize unX A p = XX at *
            go_wp2_with (first
              | (go_at_call 29; refine (CE.out _).mono ?_; rintro e w10 ⟨rfl, g10⟩; have B10 := hid (BK.out.kept g10 (by simp)); have S10 := hid (SV.out.none g10); have H10 := hid (grown_none GB.out g10); have y0 := B10.out.cell 1; have y1 := B10.out.cell 3; have y2 := B10.out.frozen 1; have y3 := B10.out.frozen 3; simp [mdlV] at y0 y1; clear g10 CE BK SV WV GB)
              | (go_at_call 11; refine (TA.out _).mono ?_; rintro e w14 ⟨rfl, g14⟩; have B14 := hid ((((B10.out.set 1 (.slice none 0 0)).set 3 (.int .i64 0))).kept g14 (by simp)); have S14 := hid (Recs.none (rowG_kept S10.out B10.out (by decide) (grown_set (grown_set (grown_refl _ _) 1 (.slice none 0 0)) 3 (.int .i64 0))) g14); have H14 := hid (grown_none (grown_through H10.out (grown_set (grown_set (grown_refl _ _) 1 (.slice none 0 0)) 3 (.int .i64 0)) (Nat.le_refl _)) g14); have D14 := hid (DD.out.kept H14.out); clear TA g14)
              | (go_at_call 30; refine (WA.out _ D14.out).mono ?_; rintro e w15 ⟨rfl, d15, t15⟩; have D15 := hid d15; have T15 := hid (Low.of_tend t15 D14.out.blk); have B15 := hid (low_blk T15.out B14.out FT.out); have S15 := hid (S14.out.low T15.out); clear WA d15 t15)
              | (go_at_call 30; refine (WB.out _ D15.out).mono ?_; rintro e w16 ⟨rfl, d16, t16⟩; have D16 := hid d16; have T16' := Low.of_tend t16 D15.out.blk; have T16 := hid (Low.trans T15.out T16'); have B16 := hid (low_blk T16' B15.out FT.out); have S16 := hid (S15.out.low T16'); clear WB d16 t16 T16')
              | (go_at_call 31; refine (SY.out _ D16.out).mono ?_; rintro e w17 ⟨rfl, d17, g17⟩; have D17 := hid d17; have T17' := self_low (base := w.heap.size) g17 (Nat.le_refl _) D16.out.blk; have T17 := hid (Low.trans T16.out T17'); have B17 := hid (low_blk T17' B16.out FT.out); have S17 := hid (S16.out.low T17'); clear SY d17 g17 T17')
              | (go_at_call 10; refine (OC.out _ D17.out).mono ?_; rintro e w18 ⟨b1, rfl, hb1, l18, d18, t18⟩; have L18 := hid l18; have D18 := hid d18; have T18 := hid (Low.trans T17.out t18); have B18 := hid (low_blk t18 B17.out FT.out); have S18 := hid (S17.out.low t18); have o0 := B18.out.cell 0; have o1 := B18.out.cell 1; have o2 := B18.out.cell 2; have o3 := B18.out.cell 3; have o4 := B18.out.cell 4; have o5 := B18.out.cell 5; simp [mdlV] at o0 o1 o2 o3 o4 o5; clear OC l18 d18 t18 hb1)
              | (go_at_call 24; refine (SMa.out _ _ L18.out S18.out).mono ?_; rintro e w19 ⟨rfl, g19⟩; have D19 := hid (D18.out.kept g19); have T19 := hid (Low.trans T18.out (Low.of_none g19)); have B19 := hid (B18.out.kept g19 (by simp)); have S19 := hid (S18.out.none g19); clear SMa g19)
              | (go_at_call 32; refine (RN.out _ D19.out).mono ?_; rintro e w20 ⟨rfl, g20⟩; have D20 := hid (D19.out.kept g20); have T20 := hid (Low.trans T19.out (Low.of_none g20)); have B20 := hid (B19.out.kept g20 (by simp)); have S20 := hid (S19.out.none g20); clear RN g20)
              | (go_at_call 10; refine (OD.out _ D20.out).mono ?_; rintro e w21 ⟨b2, rfl, hb2, l21, d21, t21⟩; have L21 := hid l21; have T21 := hid (Low.trans T20.out t21); have B21 := hid (low_blk t21 B20.out FT.out); have S21 := hid (S20.out.low t21); have u0 := B21.out.cell 0; have u1 := B21.out.cell 1; have u2 := B21.out.cell 2; have u3 := B21.out.cell 3; have u4 := B21.out.cell 4; have u5 := B21.out.cell 5; simp [mdlV] at u0 u1 u2 u3 u4 u5; clear OD l21 d21 t21 hb2)
              | (go_at_call 24; refine (SMb.out _ _ L21.out S21.out).mono ?_; rintro e w22 ⟨rfl, g22⟩; have T22 := hid (Low.trans T21.out (Low.of_none g22)); clear SMb g22))
            go_ret
            exact ⟨rfl, Low.grown (grown_none G8.out H14.out) T22.out⟩
          · have CE : Hid (∀ W, Calls Try.prog 29 #[.string A, .int .i64 p] W fun e w' => e = .returned (.tuple #[.string ⟨#[]⟩, .int .i64 (unX A p), .int .i64 0]) ∧ W.grownBy w' none) := fun W => by
              have := CU.out p W hp
              rw [hy, hv] at this
              exact this
            have PG : Hid (parseG A w.heap.size = g ∧ True) := hid (And.intro (by rw [← RU.out.1]; exact run_stop (hst g) _) trivial)
            have LG : Hid (loadG A w.heap.size = dropG g ∧ True) := hid (And.intro (by unfold loadG; rw [PG.out.1]) trivial)
            obtain ⟨G', hG'⟩ : ∃ G', G' = dropG g := ⟨_, rfl⟩
            obtain ⟨K, hK⟩ : ∃ K, K = kD A R (loadG A w.heap.size).len := ⟨_, rfl⟩
            obtain ⟨K2, hK2⟩ : ∃ X, X = openD K 0 (loadG A w.heap.size).len := ⟨_, rfl⟩
            obtain ⟨c, hc⟩ : ∃ c : Nat, c = A.size - g.len := ⟨_, rfl⟩
            have hgl := IV.out.len
            have hlen : (loadG A w.heap.size).len = g.len := by rw [LG.out.1]; rfl
            have FT : Hid (FarT 32) := hid ⟨by decide, by decide, by decide, by decide, by decide⟩
            have TA := hid lawake_any
            have WA := hid (fun W h => writeA w.heap.size w.heap.size A W h A5.out)
            have WB := hid (fun W h => writeB w.heap.size w.heap.size A R W h A5.out R3.out)
            have SY := hid (fun W h => syncC w.heap.size w.heap.size A R W h A5.out R3.out)
            have OC : Hid (∀ W, IsDisk W w.heap.size w.heap.size (kC A R) → Calls Try.prog 10 #[.pointer (some ⟨w.heap.size, 0, none⟩)] W (OpenPost w.heap.size w.heap.size W G' c K)) := hid (fun W h => by
              have := openC w.heap.size w.heap.size A R W h A5.out R3.out
              rw [← hK, hlen, ← hc, LG.out.1, ← hG'] at this
              exact this)
            have RN : Hid (∀ W, IsDisk W w.heap.size w.heap.size K → Calls Try.prog 32 #[.pointer (some ⟨w.heap.size, 0, none⟩), .string ⟨#[108, 111, 103, 46, 110, 101, 119]⟩] W fun e w' => e = .returned (.tuple #[.string ⟨#[]⟩, .int .i64 2]) ∧ W.grownBy w' none) := hid (fun W h => by
              rw [hK] at h
              exact readN w.heap.size w.heap.size A R _ (load_again A w.heap.size A5.out).1 W h)
            have OD : Hid (∀ W, IsDisk W w.heap.size w.heap.size K → Calls Try.prog 10 #[.pointer (some ⟨w.heap.size, 0, none⟩)] W (OpenPost w.heap.size w.heap.size W G' 0 K2)) := hid (fun W h => by
              have h' := h
              rw [hK] at h'
              have := openD2 w.heap.size w.heap.size A R W h' A5.out
              rw [← hK, ← hK2, LG.out.1, ← hG'] at this
              exact this)
            have SMa : Hid (∀ W b, IsLog W w.heap.size b G' → Recs W 0 (.slice ps2 Tk.length cs2) Tk → Calls Try.prog 24 #[.pointer (some ⟨b, 0, none⟩), .agg #[.slice ps2 Tk.length cs2, .slice none 0 0, .int .i64 g.len, .int .i64 0, .string g.root, .int .i64 mk]] W fun e w' => e = .returned (.bool true) ∧ W.grownBy w' none) := hid (fun W b h1 h2 => by
              rw [hG'] at h1
              have er : (dropG g).recs = Tk := DQ.out.2.symm
              have at1 : Asc (dropG g).recs := by rw [er, DQ.out.2]; exact asc_take IV.out.asc _
              have := same_any w.heap.size b 0 (dropG g) Tk [] (.slice ps2 Tk.length cs2) (.slice none 0 0) mk W h1 h2 (recs_nil _ _) at1 (by rw [er]; omega) (fun r hr => by
                rw [List.append_nil] at hr
                rw [er] at at1 ⊢
                exact atR_mem at1 hr) (by show g.marked = _; rw [MK.out, decide_eq_true hmk0]) (by show Tk.length + 0 ≤ _; omega)
              exact this)
            have SMb := hid SMa.out
            have cz : (((c : Nat) : Int) != (A.size : Int) - (g.len : Int)) = false := by
              have : ((c : Nat) : Int) = (A.size : Int) - (g.len : Int) := by omega
              rw [this]
              simp
            have cz2 : IntKind.i64.wrap ((A.size : Int) - (g.len : Int)) = (A.size : Int) - (g.len : Int) := by rw [IntKind.wrap_i64]; omega
            clear hG' hK hK2 hc hlen hgl PG LG RU IV MK DQ A5 R3 AZ TZ EC RR RI CU
            clear hy hv hst
            generalize unX A p = XX at *
            go_wp2_with (first
              | (go_at_call 29; refine (CE.out _).mono ?_; rintro e w10 ⟨rfl, g10⟩; have B10 := hid (BK.out.kept g10 (by simp)); have S10 := hid (SV.out.none g10); have H10 := hid (grown_none GB.out g10); have y0 := B10.out.cell 1; have y1 := B10.out.cell 3; have y2 := B10.out.frozen 1; have y3 := B10.out.frozen 3; simp [mdlV] at y0 y1; clear g10 CE BK SV WV GB)
              | (go_at_call 11; refine (TA.out _).mono ?_; rintro e w14 ⟨rfl, g14⟩; have B14 := hid ((((B10.out.set 1 (.slice none 0 0)).set 3 (.int .i64 0))).kept g14 (by simp)); have S14 := hid (Recs.none (rowG_kept S10.out B10.out (by decide) (grown_set (grown_set (grown_refl _ _) 1 (.slice none 0 0)) 3 (.int .i64 0))) g14); have H14 := hid (grown_none (grown_through H10.out (grown_set (grown_set (grown_refl _ _) 1 (.slice none 0 0)) 3 (.int .i64 0)) (Nat.le_refl _)) g14); have D14 := hid (DD.out.kept H14.out); clear TA g14)
              | (go_at_call 30; refine (WA.out _ D14.out).mono ?_; rintro e w15 ⟨rfl, d15, t15⟩; have D15 := hid d15; have T15 := hid (Low.of_tend t15 D14.out.blk); have B15 := hid (low_blk T15.out B14.out FT.out); have S15 := hid (S14.out.low T15.out); clear WA d15 t15)
              | (go_at_call 30; refine (WB.out _ D15.out).mono ?_; rintro e w16 ⟨rfl, d16, t16⟩; have D16 := hid d16; have T16' := Low.of_tend t16 D15.out.blk; have T16 := hid (Low.trans T15.out T16'); have B16 := hid (low_blk T16' B15.out FT.out); have S16 := hid (S15.out.low T16'); clear WB d16 t16 T16')
              | (go_at_call 31; refine (SY.out _ D16.out).mono ?_; rintro e w17 ⟨rfl, d17, g17⟩; have D17 := hid d17; have T17' := self_low (base := w.heap.size) g17 (Nat.le_refl _) D16.out.blk; have T17 := hid (Low.trans T16.out T17'); have B17 := hid (low_blk T17' B16.out FT.out); have S17 := hid (S16.out.low T17'); clear SY d17 g17 T17')
              | (go_at_call 10; refine (OC.out _ D17.out).mono ?_; rintro e w18 ⟨b1, rfl, hb1, l18, d18, t18⟩; have L18 := hid l18; have D18 := hid d18; have T18 := hid (Low.trans T17.out t18); have B18 := hid (low_blk t18 B17.out FT.out); have S18 := hid (S17.out.low t18); have o0 := B18.out.cell 0; have o1 := B18.out.cell 1; have o2 := B18.out.cell 2; have o3 := B18.out.cell 3; have o4 := B18.out.cell 4; have o5 := B18.out.cell 5; simp [mdlV] at o0 o1 o2 o3 o4 o5; clear OC l18 d18 t18 hb1)
              | (go_at_call 24; refine (SMa.out _ _ L18.out S18.out).mono ?_; rintro e w19 ⟨rfl, g19⟩; have D19 := hid (D18.out.kept g19); have T19 := hid (Low.trans T18.out (Low.of_none g19)); have B19 := hid (B18.out.kept g19 (by simp)); have S19 := hid (S18.out.none g19); clear SMa g19)
              | (go_at_call 32; refine (RN.out _ D19.out).mono ?_; rintro e w20 ⟨rfl, g20⟩; have D20 := hid (D19.out.kept g20); have T20 := hid (Low.trans T19.out (Low.of_none g20)); have B20 := hid (B19.out.kept g20 (by simp)); have S20 := hid (S19.out.none g20); clear RN g20)
              | (go_at_call 10; refine (OD.out _ D20.out).mono ?_; rintro e w21 ⟨b2, rfl, hb2, l21, d21, t21⟩; have L21 := hid l21; have T21 := hid (Low.trans T20.out t21); have B21 := hid (low_blk t21 B20.out FT.out); have S21 := hid (S20.out.low t21); have u0 := B21.out.cell 0; have u1 := B21.out.cell 1; have u2 := B21.out.cell 2; have u3 := B21.out.cell 3; have u4 := B21.out.cell 4; have u5 := B21.out.cell 5; simp [mdlV] at u0 u1 u2 u3 u4 u5; clear OD l21 d21 t21 hb2)
              | (go_at_call 24; refine (SMb.out _ _ L21.out S21.out).mono ?_; rintro e w22 ⟨rfl, g22⟩; have T22 := hid (Low.trans T21.out (Low.of_none g22)); clear SMb g22))
            go_ret
            exact ⟨rfl, Low.grown (grown_none G8.out H14.out) T22.out⟩
          · have CE : Hid (∀ W, Calls Try.prog 29 #[.string A, .int .i64 p] W fun e w' => e = .returned (.tuple #[.string (⟨#[c]⟩ ++ r'), .int .i64 (unX A p), .int .i64 0]) ∧ W.grownBy w' none) := fun W => by
              have := CU.out p W hp
              rw [hy, hv] at this
              exact this
            have e3 := one_size c r'
            have t0 : (⟨#[c]⟩ ++ r' : ByteArray).toList = c :: r'.data.toList := by rw [ByteArray.toList_eq]; simp
            generalize hV : (⟨#[c]⟩ ++ r' : ByteArray) = V at *
            have t1 : (V.toList == []) = false := by rw [t0]; rfl
            have vz : 0 < V.size := by omega
            have v0 : (((V[0]'vz).toNat : Nat) : Int) = ((c.toNat : Nat) : Int) := by rw [head_get c r' V hV vz]
            have cn1 : c.toNat ≠ 100 := fun e => hc1 (UInt8.toNat_inj.1 e)
            have cn2 : c.toNat ≠ 109 := fun e => hc2 (UInt8.toNat_inj.1 e)
            obtain ⟨cc, hcc⟩ : ∃ cc : Nat, cc = c.toNat := ⟨_, rfl⟩
            rw [← hcc] at v0 cn1 cn2
            have c1' : (((cc : Nat) : Int) != 100) = true := by simp; omega
            have c2' : (((cc : Nat) : Int) != 109) = true := by simp; omega
            have c3' : (((cc : Nat) : Int) == 100) = false := by simp; omega
            have c4' : (((cc : Nat) : Int) == 109) = false := by simp; omega
            clear hcc cn1 cn2 hc1 hc2 t0 e3 hV
            have PG : Hid (parseG A w.heap.size = g ∧ True) := hid (And.intro (by rw [← RU.out.1]; exact run_stop (hst g) _) trivial)
            have LG : Hid (loadG A w.heap.size = dropG g ∧ True) := hid (And.intro (by unfold loadG; rw [PG.out.1]) trivial)
            obtain ⟨G', hG'⟩ : ∃ G', G' = dropG g := ⟨_, rfl⟩
            obtain ⟨K, hK⟩ : ∃ K, K = kD A R (loadG A w.heap.size).len := ⟨_, rfl⟩
            obtain ⟨K2, hK2⟩ : ∃ X, X = openD K 0 (loadG A w.heap.size).len := ⟨_, rfl⟩
            obtain ⟨c9, hc⟩ : ∃ c9 : Nat, c9 = A.size - g.len := ⟨_, rfl⟩
            have hgl := IV.out.len
            have hlen : (loadG A w.heap.size).len = g.len := by rw [LG.out.1]; rfl
            have FT : Hid (FarT 32) := hid ⟨by decide, by decide, by decide, by decide, by decide⟩
            have TA := hid lawake_any
            have WA := hid (fun W h => writeA w.heap.size w.heap.size A W h A5.out)
            have WB := hid (fun W h => writeB w.heap.size w.heap.size A R W h A5.out R3.out)
            have SY := hid (fun W h => syncC w.heap.size w.heap.size A R W h A5.out R3.out)
            have OC : Hid (∀ W, IsDisk W w.heap.size w.heap.size (kC A R) → Calls Try.prog 10 #[.pointer (some ⟨w.heap.size, 0, none⟩)] W (OpenPost w.heap.size w.heap.size W G' c9 K)) := hid (fun W h => by
              have := openC w.heap.size w.heap.size A R W h A5.out R3.out
              rw [← hK, hlen, ← hc, LG.out.1, ← hG'] at this
              exact this)
            have RN : Hid (∀ W, IsDisk W w.heap.size w.heap.size K → Calls Try.prog 32 #[.pointer (some ⟨w.heap.size, 0, none⟩), .string ⟨#[108, 111, 103, 46, 110, 101, 119]⟩] W fun e w' => e = .returned (.tuple #[.string ⟨#[]⟩, .int .i64 2]) ∧ W.grownBy w' none) := hid (fun W h => by
              rw [hK] at h
              exact readN w.heap.size w.heap.size A R _ (load_again A w.heap.size A5.out).1 W h)
            have OD : Hid (∀ W, IsDisk W w.heap.size w.heap.size K → Calls Try.prog 10 #[.pointer (some ⟨w.heap.size, 0, none⟩)] W (OpenPost w.heap.size w.heap.size W G' 0 K2)) := hid (fun W h => by
              have h' := h
              rw [hK] at h'
              have := openD2 w.heap.size w.heap.size A R W h' A5.out
              rw [← hK, ← hK2, LG.out.1, ← hG'] at this
              exact this)
            have SMa : Hid (∀ W b, IsLog W w.heap.size b G' → Recs W 0 (.slice ps2 Tk.length cs2) Tk → Calls Try.prog 24 #[.pointer (some ⟨b, 0, none⟩), .agg #[.slice ps2 Tk.length cs2, .slice none 0 0, .int .i64 g.len, .int .i64 0, .string g.root, .int .i64 mk]] W fun e w' => e = .returned (.bool true) ∧ W.grownBy w' none) := hid (fun W b h1 h2 => by
              rw [hG'] at h1
              have er : (dropG g).recs = Tk := DQ.out.2.symm
              have at1 : Asc (dropG g).recs := by rw [er, DQ.out.2]; exact asc_take IV.out.asc _
              have := same_any w.heap.size b 0 (dropG g) Tk [] (.slice ps2 Tk.length cs2) (.slice none 0 0) mk W h1 h2 (recs_nil _ _) at1 (by rw [er]; omega) (fun r hr => by
                rw [List.append_nil] at hr
                rw [er] at at1 ⊢
                exact atR_mem at1 hr) (by show g.marked = _; rw [MK.out, decide_eq_true hmk0]) (by show Tk.length + 0 ≤ _; omega)
              exact this)
            have SMb := hid SMa.out
            have cz : (((c9 : Nat) : Int) != (A.size : Int) - (g.len : Int)) = false := by
              have : ((c9 : Nat) : Int) = (A.size : Int) - (g.len : Int) := by omega
              rw [this]
              simp
            have cz2 : IntKind.i64.wrap ((A.size : Int) - (g.len : Int)) = (A.size : Int) - (g.len : Int) := by rw [IntKind.wrap_i64]; omega
            clear hG' hK hK2 hc hlen hgl PG LG RU IV MK DQ A5 R3 AZ TZ EC RR RI CU
            clear hy hv hst
            generalize unX A p = XX at *
            go_wp2_with (first
              | (go_at_call 29; refine (CE.out _).mono ?_; rintro e w10 ⟨rfl, g10⟩; have B10 := hid (BK.out.kept g10 (by simp)); have S10 := hid (SV.out.none g10); have H10 := hid (grown_none GB.out g10); have y0 := B10.out.cell 1; have y1 := B10.out.cell 3; have y2 := B10.out.frozen 1; have y3 := B10.out.frozen 3; simp [mdlV] at y0 y1; clear g10 CE BK SV WV GB)
              | (go_at_call 11; refine (TA.out _).mono ?_; rintro e w14 ⟨rfl, g14⟩; have B14 := hid ((((B10.out.set 1 (.slice none 0 0)).set 3 (.int .i64 0))).kept g14 (by simp)); have S14 := hid (Recs.none (rowG_kept S10.out B10.out (by decide) (grown_set (grown_set (grown_refl _ _) 1 (.slice none 0 0)) 3 (.int .i64 0))) g14); have H14 := hid (grown_none (grown_through H10.out (grown_set (grown_set (grown_refl _ _) 1 (.slice none 0 0)) 3 (.int .i64 0)) (Nat.le_refl _)) g14); have D14 := hid (DD.out.kept H14.out); clear TA g14)
              | (go_at_call 30; refine (WA.out _ D14.out).mono ?_; rintro e w15 ⟨rfl, d15, t15⟩; have D15 := hid d15; have T15 := hid (Low.of_tend t15 D14.out.blk); have B15 := hid (low_blk T15.out B14.out FT.out); have S15 := hid (S14.out.low T15.out); clear WA d15 t15)
              | (go_at_call 30; refine (WB.out _ D15.out).mono ?_; rintro e w16 ⟨rfl, d16, t16⟩; have D16 := hid d16; have T16' := Low.of_tend t16 D15.out.blk; have T16 := hid (Low.trans T15.out T16'); have B16 := hid (low_blk T16' B15.out FT.out); have S16 := hid (S15.out.low T16'); clear WB d16 t16 T16')
              | (go_at_call 31; refine (SY.out _ D16.out).mono ?_; rintro e w17 ⟨rfl, d17, g17⟩; have D17 := hid d17; have T17' := self_low (base := w.heap.size) g17 (Nat.le_refl _) D16.out.blk; have T17 := hid (Low.trans T16.out T17'); have B17 := hid (low_blk T17' B16.out FT.out); have S17 := hid (S16.out.low T17'); clear SY d17 g17 T17')
              | (go_at_call 10; refine (OC.out _ D17.out).mono ?_; rintro e w18 ⟨b1, rfl, hb1, l18, d18, t18⟩; have L18 := hid l18; have D18 := hid d18; have T18 := hid (Low.trans T17.out t18); have B18 := hid (low_blk t18 B17.out FT.out); have S18 := hid (S17.out.low t18); have o0 := B18.out.cell 0; have o1 := B18.out.cell 1; have o2 := B18.out.cell 2; have o3 := B18.out.cell 3; have o4 := B18.out.cell 4; have o5 := B18.out.cell 5; simp [mdlV] at o0 o1 o2 o3 o4 o5; clear OC l18 d18 t18 hb1)
              | (go_at_call 24; refine (SMa.out _ _ L18.out S18.out).mono ?_; rintro e w19 ⟨rfl, g19⟩; have D19 := hid (D18.out.kept g19); have T19 := hid (Low.trans T18.out (Low.of_none g19)); have B19 := hid (B18.out.kept g19 (by simp)); have S19 := hid (S18.out.none g19); clear SMa g19)
              | (go_at_call 32; refine (RN.out _ D19.out).mono ?_; rintro e w20 ⟨rfl, g20⟩; have D20 := hid (D19.out.kept g20); have T20 := hid (Low.trans T19.out (Low.of_none g20)); have B20 := hid (B19.out.kept g20 (by simp)); have S20 := hid (S19.out.none g20); clear RN g20)
              | (go_at_call 10; refine (OD.out _ D20.out).mono ?_; rintro e w21 ⟨b2, rfl, hb2, l21, d21, t21⟩; have L21 := hid l21; have T21 := hid (Low.trans T20.out t21); have B21 := hid (low_blk t21 B20.out FT.out); have S21 := hid (S20.out.low t21); have u0 := B21.out.cell 0; have u1 := B21.out.cell 1; have u2 := B21.out.cell 2; have u3 := B21.out.cell 3; have u4 := B21.out.cell 4; have u5 := B21.out.cell 5; simp [mdlV] at u0 u1 u2 u3 u4 u5; clear OD l21 d21 t21 hb2)
              | (go_at_call 24; refine (SMb.out _ _ L21.out S21.out).mono ?_; rintro e w22 ⟨rfl, g22⟩; have T22 := hid (Low.trans T21.out (Low.of_none g22)); clear SMb g22))
            go_ret
            exact ⟨rfl, Low.grown (grown_none G8.out H14.out) T22.out⟩
          · have CE : Hid (∀ W, Calls Try.prog 29 #[.string A, .int .i64 p] W fun e w' => e = .returned (.tuple #[.string (⟨#[100]⟩ ++ r'), .int .i64 x, .int .i64 0]) ∧ W.grownBy w' none) := fun W => by
              have := CU.out p W hp
              rw [hy, hv, hx] at this
              exact this
            have ST := hid (And.intro (hst g) trivial)
            have e2 : (⟨#[100]⟩ ++ r' : ByteArray).extract 1 (r'.size + 1) = r' := tail_of 100 _
            have e3 := one_size 100 r'
            have t0 : (⟨#[100]⟩ ++ r' : ByteArray).toList = 100 :: r'.data.toList := by rw [ByteArray.toList_eq]; simp
            clear hst hy hv hx
            generalize hV : (⟨#[100]⟩ ++ r' : ByteArray) = V at *
            have i1 : (V.size : Int) = (r'.size : Int) + 1 := by omega
            have i2 : (r'.size : Int) ≤ 4500 := by omega
            have t1 : (V.toList == []) = false := by rw [t0]; rfl
            have vz : 0 < V.size := by omega
            have v0 : (((V[0]'vz).toNat : Nat) : Int) = 100 := by rw [head_get 100 r' V hV vz]; rfl
            have i3 : (1 : Int) ≤ (r'.size : Int) + 1 := by omega
            clear t0 hV
            go_wp2_with (go_at_call 29; refine (CE.out _).mono ?_; rintro e w10 ⟨rfl, g10⟩; have G10 := hid g10; clear g10 CE)
            have B10 := hid (BK.out.kept G10.out (by simp))
            have W10 := hid (WV.out.none G10.out)
            have S10 := hid (SV.out.none G10.out)
            have H10 := hid (grown_none GB.out G10.out)
            have s10 : w8.heap.size < w10.heap.size := B10.out.lt
            clear BK WV SV
            have m1 := B10.out.cell 1
            have ma1 := (B10.out.alloc (.cells #[] 49)).cell 1
            have mb1 := ((B10.out.alloc (.cells #[] 49)).alloc (.cells #[.int .i64 p, .string r'] 49)).cell 1
            have mc1 := ((B10.out.alloc (.cells #[.int .i64 p, .string r'] 49)).alloc (.cells #[] 49)).cell 1
            have md1 := (B10.out.alloc (.cells #[.int .i64 p, .string r'] 49)).cell 1
            simp [mdlV] at m1 ma1 mb1 mc1 md1
            have GAa := hid (grown_drew (grown_alloc (grown_refl w10 none) (.cells #[] 49)))
            have GAb := hid (grown_drew (grown_alloc (grown_alloc (grown_refl w10 none) (.cells #[] 49)) (.cells #[.int .i64 p, .string r'] 49)))
            have GAc := hid (grown_drew (grown_alloc (grown_alloc (grown_refl w10 none) (.cells #[.int .i64 p, .string r'] 49)) (.cells #[] 49)))
            have EAa : Hid (Recs (w10.alloc (.cells #[] 49)).drew w10.heap.size (.slice (some ⟨w10.heap.size, 0, none⟩) 0 0) []) := recs_new w10 _ (Nat.le_refl _)
            have EAb : Hid (Recs ((w10.alloc (.cells #[] 49)).alloc (.cells #[.int .i64 p, .string r'] 49)).drew w10.heap.size (.slice (some ⟨w10.heap.size, 0, none⟩) 0 0) []) := World.ownsRow.alloc (recs_new w10 _ (Nat.le_refl _)) _
            have EAc : Hid (Recs ((w10.alloc (.cells #[.int .i64 p, .string r'] 49)).alloc (.cells #[] 49)).drew w10.heap.size (.slice (some ⟨w10.heap.size + 1, 0, none⟩) 0 0) []) := (by
              have := recs_new (w10.alloc (.cells #[.int .i64 p, .string r'] 49)) w10.heap.size (by rw [World.size_alloc]; omega)
              rw [World.size_alloc] at this
              exact this)
            have ROb : Hid (Recs ((w10.alloc (.cells #[] 49)).alloc (.cells #[.int .i64 p, .string r'] 49)).drew 0 (.slice (some ⟨w10.heap.size + 1, 0, none⟩) 1 1) [(p, r')]) := (by
              have := recs_one (w10.alloc (.cells #[] 49)) 0 (p, r') (Nat.zero_le _)
              rw [World.size_alloc] at this
              exact this)
            have ROc : Hid (Recs ((w10.alloc (.cells #[.int .i64 p, .string r'] 49)).alloc (.cells #[] 49)).drew 0 (.slice (some ⟨w10.heap.size, 0, none⟩) 1 1) [(p, r')]) := World.ownsRow.alloc (recs_one w10 0 (p, r') (Nat.zero_le _)) _
            have HBa : Hid (w10.heap.size ≤ (w10.alloc (.cells #[] 49)).drew.heap.size) := GAa.out.size
            have HBb : Hid (w10.heap.size ≤ ((w10.alloc (.cells #[] 49)).alloc (.cells #[.int .i64 p, .string r'] 49)).drew.heap.size) := GAb.out.size
            have HBc : Hid (w10.heap.size ≤ ((w10.alloc (.cells #[.int .i64 p, .string r'] 49)).alloc (.cells #[] 49)).drew.heap.size) := GAc.out.size
            have HN1 : Hid (([] : List (Nat × ByteArray)).length + (Dr).length ≤ 1000000) := (by show 0 + _ ≤ _; omega)
            have HN2 : Hid (([] ++ Dr : List (Nat × ByteArray)).length + [(p, r')].length ≤ 1000000) := (by show (Dr).length + 1 ≤ _; omega)
            go_region_law (first
              | (refine step_recs (.tmp 98) (.tmp 100) rfl rfl w10.heap.size 0 _ _ [] (Dr) EAa.out (W10.out.none GAa.out) HN1.out HBa.out rfl rfl ?_; intro v3 w11 h3 g3; have G3 := hid (grown_recs GAa.out EAa.out g3 (Nat.le_refl _)); have R3 := hid h3; have RO := hid (World.ownsRow.alloc h3 (.cells #[.int .i64 p, .string r'] 49)); obtain ⟨p3, c3, rfl⟩ := h3.form; clear h3 g3 ROb ROc)
              | (refine step_recs (.tmp 98) (.tmp 100) rfl rfl w10.heap.size 0 _ _ [] (Dr) EAb.out (W10.out.none GAb.out) HN1.out HBb.out rfl rfl ?_; intro v3 w11 h3 g3; have G3 := hid (grown_recs GAb.out EAb.out g3 (Nat.le_refl _)); have R3 := hid h3; have RO := hid (Recs.far ROb.out g3 (fun q hq e => absurd ((Option.some.inj hq).trans (Option.some.inj e).symm) (Nat.succ_ne_self _))); obtain ⟨p3, c3, rfl⟩ := h3.form; clear h3 g3 ROb ROc)
              | (refine step_recs (.tmp 98) (.tmp 100) rfl rfl w10.heap.size 0 _ _ [] (Dr) EAc.out (W10.out.none GAc.out) HN1.out HBc.out rfl rfl ?_; intro v3 w11 h3 g3; have G3 := hid (grown_recs GAc.out EAc.out g3 (Nat.le_refl _)); have R3 := hid h3; have RO := hid (Recs.far ROc.out g3 (fun q hq e => absurd ((Option.some.inj hq).trans (Option.some.inj e).symm).symm (Nat.succ_ne_self _))); obtain ⟨p3, c3, rfl⟩ := h3.form; clear h3 g3 ROb ROc)
              | (refine step_recs (.tmp 101) (.tmp 106) rfl rfl w10.heap.size 0 _ _ ([] ++ Dr) [(p, r')] R3.out RO.out HN2.out G3.out.size rfl rfl ?_; intro v4 w12 h4 g4; have G4 := hid (grown_recs G3.out R3.out g4 (Nat.le_refl _)); have R4 := hid h4; obtain ⟨p4, c4, rfl⟩ := h4.form; have B12 := hid (B10.out.kept G4.out (by simp)); have n1 := B12.out.cell 1; have n2 := B12.out.frozen 1; simp [mdlV] at n1; clear h4 g4)
              | (refine step_recs (.tmp 101) (.tmp 106) rfl rfl w10.heap.size 0 _ _ ([] ++ Dr) [(p, r')] RO.out (recs_one w11 0 (p, r') (Nat.zero_le _)) HN2.out (Nat.le_trans G3.out.size (grown_alloc (grown_refl w11 none) (.cells #[.int .i64 p, .string r'] 49)).size) rfl rfl ?_; intro v4 w12 h4 g4; have G4 := hid (grown_recs (grown_alloc G3.out (.cells #[.int .i64 p, .string r'] 49)) RO.out g4 (Nat.le_refl _)); have R4 := hid h4; obtain ⟨p4, c4, rfl⟩ := h4.form; have B12 := hid (B10.out.kept G4.out (by simp)); have n1 := B12.out.cell 1; have n2 := B12.out.frozen 1; simp [mdlV] at n1; clear h4 g4))
            all_goals (
              have ev : (Value.slice p4 ([] ++ Dr ++ [(p, r')]).length c4) = .slice p4 (Dr.length + 1) c4 := by rw [List.length_append]; rfl
              have R4' := R4.out
              rw [ev] at R4'
              have B13 : Hid (Blk (w12.setCell ⟨w8.heap.size, 1, none⟩ (.slice p4 (Dr.length + 1) c4)) w8.heap.size 32 (mdlV (.slice ps2 Tk.length cs2) (.slice p4 (Dr.length + 1) c4) g.len mm g.root mk)) := B12.out.set 1 _
              have R13 := hid (rowG_kept R4' B12.out (by decide) (grown_set (grown_refl _ _) 1 (.slice p4 (Dr.length + 1) c4)))
              have S13 := hid (rowG_kept (S10.out.none G4.out) B12.out (by decide) (grown_set (grown_refl _ _) 1 (.slice p4 (Dr.length + 1) c4)))
              have G13 := hid (grown_set_new (grown_none H10.out G4.out) (a := ⟨w8.heap.size, 1, none⟩) (.slice p4 (Dr.length + 1) c4) (Nat.le_refl _))
              clear n1 n2 R4 R4' ev G4 B12 R3 RO G3 HN1 HN2 HBa HBb HBc EAa EAb EAc GAa GAb GAc m1 ma1 mb1 mc1 md1 B10 W10 S10 H10 G10 CU
              generalize w12.setCell ⟨w8.heap.size, 1, none⟩ (.slice p4 (Dr.length + 1) c4) = w13 at *
              have c3' := B13.out.cell 3
              have f3' := B13.out.frozen 3
              simp [mdlV] at c3'
              have x5 : (x : Int) ≤ 4500 := by omega
              have x6 : (mm : Int) ≤ 4500 := by omega
              go_wp2
              go_roundw
              case rel =>
                have ec2 : ((mm + (x - p) : Nat) : Int) = (mm : Int) + ((x : Int) - p) := by omega
                have eb := B13.out.set 3 (.int .i64 ((mm + (x - p) : Nat) : Int))
                rw [ec2] at eb
                refine ⟨x, { g with recs := g.recs ++ [(p, r')] }, .slice ps2 Tk.length cs2, .slice p4 (Dr.length + 1) c4, mm + (x - p), mk, rfl, rfl, hx2, IV.out.step hp ST.out.1, ?_, MK.out, by omega, hmk0, by omega, ?_, ?_, ?_, ?_⟩
                · rw [← RU.out.1]
                  exact (run_one hp ST.out.1).symm
                · show Blk _ _ _ (mdlV _ _ g.len _ g.root mk)
                  unfold mdlV
                  rw [ec2]
                  exact eb
                · show Recs _ 0 _ ((g.recs ++ [(p, r')]).take g.com)
                  rw [take_rec_com IV.out.com, ← DQ.out.2]
                  exact rowG_kept S13.out B13.out (by decide) (grown_set (grown_refl _ _) 3 _)
                · show Recs _ 0 _ ((g.recs ++ [(p, r')]).drop g.com)
                  rw [drop_rec_com IV.out.com, ← DQ.out.1]
                  have := rowG_kept R13.out B13.out (by decide) (grown_set (grown_refl _ _) 3 (.int .i64 ((mm : Int) + ((x : Int) - p))))
                  exact Recs.down (show Recs _ w10.heap.size _ (Dr ++ [(p, r')]) from this) (Nat.zero_le _)
                · exact grown_set_new G13.out _ (Nat.le_refl _)
              case measure => simp [intOf]; omega)
          · have CE : Hid (∀ W, Calls Try.prog 29 #[.string A, .int .i64 p] W fun e w' => e = .returned (.tuple #[.string (⟨#[109]⟩ ++ r'), .int .i64 x, .int .i64 0]) ∧ W.grownBy w' none) := fun W => by
              have := CU.out p W hp
              rw [hy, hv, hx] at this
              exact this
            have ST := hid (And.intro (hst g) trivial)
            have e2 : (⟨#[109]⟩ ++ r' : ByteArray).extract 1 (r'.size + 1) = r' := tail_of 109 _
            have e3 := one_size 109 r'
            have t0 : (⟨#[109]⟩ ++ r' : ByteArray).toList = 109 :: r'.data.toList := by rw [ByteArray.toList_eq]; simp
            clear hst hy hv hx
            generalize hV : (⟨#[109]⟩ ++ r' : ByteArray) = V at *
            have i1 : (V.size : Int) = (r'.size : Int) + 1 := by omega
            have i2 : (r'.size : Int) ≤ 4500 := by omega
            have t1 : (V.toList == []) = false := by rw [t0]; rfl
            have vz : 0 < V.size := by omega
            have v0 : (((V[0]'vz).toNat : Nat) : Int) = 109 := by rw [head_get 109 r' V hV vz]; rfl
            have i3 : (1 : Int) ≤ (r'.size : Int) + 1 := by omega
            clear t0 hV
            go_wp2_with (go_at_call 29; refine (CE.out _).mono ?_; rintro e w10 ⟨rfl, g10⟩; have G10 := hid g10; clear g10 CE)
            have B10 := hid (BK.out.kept G10.out (by simp))
            have W10 := hid (WV.out.none G10.out)
            have S10 := hid (SV.out.none G10.out)
            have H10 := hid (grown_none GB.out G10.out)
            have s10 : w8.heap.size < w10.heap.size := B10.out.lt
            clear BK WV SV
            have m0 := B10.out.cell 0
            have m1 := B10.out.cell 1
            have ma0 := (B10.out.alloc (.cells #[] 49)).cell 0
            have ma1 := (B10.out.alloc (.cells #[] 49)).cell 1
            simp [mdlV] at m0 m1 ma0 ma1
            have GAa := hid (grown_drew (grown_alloc (grown_refl w10 none) (.cells #[] 49)))
            have EAa : Hid (Recs (w10.alloc (.cells #[] 49)).drew w10.heap.size (.slice (some ⟨w10.heap.size, 0, none⟩) 0 0) []) := recs_new w10 _ (Nat.le_refl _)
            have HBa : Hid (w10.heap.size ≤ (w10.alloc (.cells #[] 49)).drew.heap.size) := GAa.out.size
            have HN1 : Hid (([] : List (Nat × ByteArray)).length + Tk.length ≤ 1000000) := (by show 0 + _ ≤ _; omega)
            have HN2 : Hid (([] ++ Tk : List (Nat × ByteArray)).length + Dr.length ≤ 1000000) := (by show Tk.length + _ ≤ _; omega)
            go_region_law (first
              | (refine step_recs (.tmp 116) (.tmp 118) rfl rfl w10.heap.size 0 _ _ [] Tk EAa.out (S10.out.none GAa.out) HN1.out HBa.out rfl rfl ?_; intro v3 w11 h3 g3; have G3 := hid (grown_recs GAa.out EAa.out g3 (Nat.le_refl _)); have R3 := hid h3; obtain ⟨p3, c3, rfl⟩ := h3.form; have B11 := hid (B10.out.kept G3.out (by simp)); have n0 := B11.out.cell 1; simp [mdlV] at n0; clear h3 g3)
              | (refine step_recs (.tmp 119) (.tmp 121) rfl rfl w10.heap.size 0 _ _ ([] ++ Tk) Dr R3.out (W10.out.none G3.out) HN2.out G3.out.size rfl rfl ?_; intro v4 w12 h4 g4; have G4 := hid (grown_recs G3.out R3.out g4 (Nat.le_refl _)); have R4 := hid h4; obtain ⟨p4, c4, rfl⟩ := h4.form; have B12 := hid (B10.out.kept G4.out (by simp)); have n1 := B12.out.cell 0; have n2 := B12.out.frozen 0; simp [mdlV] at n1; clear h4 g4))
            all_goals (
              have ev : (Value.slice p4 ([] ++ Tk ++ Dr).length c4) = .slice p4 (Tk.length + Dr.length) c4 := by rw [List.length_append]; rfl
              have R4' := R4.out
              rw [ev] at R4'
              have B13 : Hid (Blk (w12.setCell ⟨w8.heap.size, 0, none⟩ (.slice p4 (Tk.length + Dr.length) c4)) w8.heap.size 32 (mdlV (.slice p4 (Tk.length + Dr.length) c4) (.slice pw2 Dr.length cw2) g.len mm g.root mk)) := B12.out.set 0 _
              have R13 := hid (rowG_kept R4' B12.out (by decide) (grown_set (grown_refl _ _) 0 (.slice p4 (Tk.length + Dr.length) c4)))
              have G13 := hid (grown_set_new (grown_none H10.out G4.out) (a := ⟨w8.heap.size, 0, none⟩) (.slice p4 (Tk.length + Dr.length) c4) (Nat.le_refl _))
              clear n1 n2 R4 R4' ev G4 B12 R3 G3 HN1 HN2 HBa EAa GAa m0 m1 ma0 ma1 B10 W10 S10 H10 G10 CU
              generalize w12.setCell ⟨w8.heap.size, 0, none⟩ (.slice p4 (Tk.length + Dr.length) c4) = w13 at *
              obtain ⟨b0, b1, b2, b3, b4, b5⟩ := B13.out.m6
              have z1 := B13.out.frozen 1
              have z2 := B13.out.frozen 2
              have z3 := B13.out.frozen 3
              have z4 := B13.out.frozen 4
              have z5 := B13.out.frozen 5
              have x5 : (x : Int) ≤ 4500 := by omega
              have x6 : (mk : Int) ≤ 4500 := by omega
              have iw : IntKind.i64.wrap ((mk : Int) + 1) = (mk : Int) + 1 := by rw [IntKind.wrap_i64]; omega
              go_wp2_with fail
              go_region
              all_goals (
                have ec3 : ((mk + 1 : Nat) : Int) = (mk : Int) + 1 := by omega
                have B14 := hid (((((B13.out.set 2 (.int .i64 x)).set 1 (.slice none 0 0)).set 3 (.int .i64 0)).set 4 (.string r')).set 5 (.int .i64 ((mk : Int) + 1))).drew
                have H14 := grown_drew (grown_set (grown_set (grown_set (grown_set (grown_set (grown_refl w13 (some w8.heap.size)) 2 (.int .i64 x)) 1 (.slice none 0 0)) 3 (.int .i64 0)) 4 (.string r')) 5 (.int .i64 ((mk : Int) + 1)))
                have R14 := hid (rowG_kept R13.out B13.out (by decide) H14)
                have G14 := hid (grown_through G13.out H14 (Nat.le_refl _))
                clear b0 b1 b2 b3 b4 b5 z1 z2 z3 z4 z5 B13 R13 G13 H14
                go_wp2
                go_roundw
                case rel =>
                  refine ⟨x, { g with com := g.recs.length, len := x, wait := ⟨#[]⟩, root := r', marked := true }, .slice p4 (Tk.length + Dr.length) c4, .slice none 0 0, 0, mk + 1, rfl, rfl, hx2, IV.out.step hp ST.out.1, ?_, rfl, Nat.zero_le _, Nat.succ_pos _, by omega, ?_, ?_, ?_, G14.out⟩
                  · rw [← RU.out.1]
                    exact (run_one hp ST.out.1).symm
                  · show Blk _ _ _ (mdlV _ _ x _ r' (mk + 1))
                    unfold mdlV
                    rw [ec3]
                    exact B14.out
                  · show Recs _ 0 _ (g.recs.take g.recs.length)
                    rw [List.take_length]
                    have e4 : ([] ++ Tk ++ Dr : List (Nat × ByteArray)) = g.recs := by rw [List.nil_append, DQ.out.1, DQ.out.2, List.take_append_drop]
                    have r14 : Recs _ w10.heap.size _ ([] ++ Tk ++ Dr) := R14.out
                    rw [e4] at r14
                    exact r14.down (Nat.zero_le _)
                  · show Recs _ 0 _ (g.recs.drop g.recs.length)
                    rw [List.drop_length]
                    exact recs_nil _ _
                case measure => simp [intOf]; omega))
        · obtain rfl : p = A.size := by omega
          have q1 : ¬ (A.size : Int) < A.size := by omega
          have PG : Hid (parseG A w.heap.size = g ∧ True) := hid (And.intro (by rw [← RU.out.1]; exact run_stop (step_end A g) _) trivial)
          have LG : Hid (loadG A w.heap.size = dropG g ∧ True) := hid (And.intro (by unfold loadG; rw [PG.out.1]) trivial)
          obtain ⟨G', hG'⟩ : ∃ G', G' = dropG g := ⟨_, rfl⟩
          obtain ⟨K, hK⟩ : ∃ K, K = kD A R (loadG A w.heap.size).len := ⟨_, rfl⟩
          obtain ⟨K2, hK2⟩ : ∃ X, X = openD K 0 (loadG A w.heap.size).len := ⟨_, rfl⟩
          obtain ⟨c, hc⟩ : ∃ c : Nat, c = A.size - g.len := ⟨_, rfl⟩
          have hgl := IV.out.len
          have hlen : (loadG A w.heap.size).len = g.len := by rw [LG.out.1]; rfl
          have FT : Hid (FarT 32) := hid ⟨by decide, by decide, by decide, by decide, by decide⟩
          have TA := hid lawake_any
          have WA := hid (fun W h => writeA w.heap.size w.heap.size A W h A5.out)
          have WB := hid (fun W h => writeB w.heap.size w.heap.size A R W h A5.out R3.out)
          have SY := hid (fun W h => syncC w.heap.size w.heap.size A R W h A5.out R3.out)
          have OC : Hid (∀ W, IsDisk W w.heap.size w.heap.size (kC A R) → Calls Try.prog 10 #[.pointer (some ⟨w.heap.size, 0, none⟩)] W (OpenPost w.heap.size w.heap.size W G' c K)) := hid (fun W h => by
            have := openC w.heap.size w.heap.size A R W h A5.out R3.out
            rw [← hK, hlen, ← hc, LG.out.1, ← hG'] at this
            exact this)
          have RN : Hid (∀ W, IsDisk W w.heap.size w.heap.size K → Calls Try.prog 32 #[.pointer (some ⟨w.heap.size, 0, none⟩), .string ⟨#[108, 111, 103, 46, 110, 101, 119]⟩] W fun e w' => e = .returned (.tuple #[.string ⟨#[]⟩, .int .i64 2]) ∧ W.grownBy w' none) := hid (fun W h => by
            rw [hK] at h
            exact readN w.heap.size w.heap.size A R _ (load_again A w.heap.size A5.out).1 W h)
          have OD : Hid (∀ W, IsDisk W w.heap.size w.heap.size K → Calls Try.prog 10 #[.pointer (some ⟨w.heap.size, 0, none⟩)] W (OpenPost w.heap.size w.heap.size W G' 0 K2)) := hid (fun W h => by
            have h' := h
            rw [hK] at h'
            have := openD2 w.heap.size w.heap.size A R W h' A5.out
            rw [← hK, ← hK2, LG.out.1, ← hG'] at this
            exact this)
          have SMa : Hid (∀ W b, IsLog W w.heap.size b G' → Recs W 0 (.slice ps2 Tk.length cs2) Tk → Calls Try.prog 24 #[.pointer (some ⟨b, 0, none⟩), .agg #[.slice ps2 Tk.length cs2, .slice none 0 0, .int .i64 g.len, .int .i64 0, .string g.root, .int .i64 mk]] W fun e w' => e = .returned (.bool true) ∧ W.grownBy w' none) := hid (fun W b h1 h2 => by
            rw [hG'] at h1
            have er : (dropG g).recs = Tk := DQ.out.2.symm
            have at1 : Asc (dropG g).recs := by rw [er, DQ.out.2]; exact asc_take IV.out.asc _
            have := same_any w.heap.size b 0 (dropG g) Tk [] (.slice ps2 Tk.length cs2) (.slice none 0 0) mk W h1 h2 (recs_nil _ _) at1 (by rw [er]; omega) (fun r hr => by
              rw [List.append_nil] at hr
              rw [er] at at1 ⊢
              exact atR_mem at1 hr) (by show g.marked = _; rw [MK.out, decide_eq_true hmk0]) (by show Tk.length + 0 ≤ _; omega)
            exact this)
          have SMb := hid SMa.out
          have cz : (((c : Nat) : Int) != (A.size : Int) - (g.len : Int)) = false := by
            have : ((c : Nat) : Int) = (A.size : Int) - (g.len : Int) := by omega
            rw [this]
            simp
          have cz2 : IntKind.i64.wrap ((A.size : Int) - (g.len : Int)) = (A.size : Int) - (g.len : Int) := by rw [IntKind.wrap_i64]; omega
          clear hG' hK hK2 hc hlen hgl PG LG RU IV MK DQ A5 R3 AZ TZ EC RR RI CU
          obtain ⟨w10, hw10⟩ : ∃ w10, w10 = wr := ⟨_, rfl⟩
          subst hw10
          have B10 := hid BK.out
          have S10 := hid SV.out
          have H10 := hid GB.out
          have y0 := B10.out.cell 1
          have y1 := B10.out.cell 3
          have y2 := B10.out.frozen 1
          have y3 := B10.out.frozen 3
          simp [mdlV] at y0 y1
          clear BK SV WV GB
          go_wp2_with (first
            | (go_at_call 11; refine (TA.out _).mono ?_; rintro e w14 ⟨rfl, g14⟩; have B14 := hid ((((B10.out.set 1 (.slice none 0 0)).set 3 (.int .i64 0))).kept g14 (by simp)); have S14 := hid (Recs.none (rowG_kept S10.out B10.out (by decide) (grown_set (grown_set (grown_refl _ _) 1 (.slice none 0 0)) 3 (.int .i64 0))) g14); have H14 := hid (grown_none (grown_through H10.out (grown_set (grown_set (grown_refl _ _) 1 (.slice none 0 0)) 3 (.int .i64 0)) (Nat.le_refl _)) g14); have D14 := hid (DD.out.kept H14.out); clear TA g14)
            | (go_at_call 30; refine (WA.out _ D14.out).mono ?_; rintro e w15 ⟨rfl, d15, t15⟩; have D15 := hid d15; have T15 := hid (Low.of_tend t15 D14.out.blk); have B15 := hid (low_blk T15.out B14.out FT.out); have S15 := hid (S14.out.low T15.out); clear WA d15 t15)
            | (go_at_call 30; refine (WB.out _ D15.out).mono ?_; rintro e w16 ⟨rfl, d16, t16⟩; have D16 := hid d16; have T16' := Low.of_tend t16 D15.out.blk; have T16 := hid (Low.trans T15.out T16'); have B16 := hid (low_blk T16' B15.out FT.out); have S16 := hid (S15.out.low T16'); clear WB d16 t16 T16')
            | (go_at_call 31; refine (SY.out _ D16.out).mono ?_; rintro e w17 ⟨rfl, d17, g17⟩; have D17 := hid d17; have T17' := self_low (base := w.heap.size) g17 (Nat.le_refl _) D16.out.blk; have T17 := hid (Low.trans T16.out T17'); have B17 := hid (low_blk T17' B16.out FT.out); have S17 := hid (S16.out.low T17'); clear SY d17 g17 T17')
            | (go_at_call 10; refine (OC.out _ D17.out).mono ?_; rintro e w18 ⟨b1, rfl, hb1, l18, d18, t18⟩; have L18 := hid l18; have D18 := hid d18; have T18 := hid (Low.trans T17.out t18); have B18 := hid (low_blk t18 B17.out FT.out); have S18 := hid (S17.out.low t18); have o0 := B18.out.cell 0; have o1 := B18.out.cell 1; have o2 := B18.out.cell 2; have o3 := B18.out.cell 3; have o4 := B18.out.cell 4; have o5 := B18.out.cell 5; simp [mdlV] at o0 o1 o2 o3 o4 o5; clear OC l18 d18 t18 hb1)
            | (go_at_call 24; refine (SMa.out _ _ L18.out S18.out).mono ?_; rintro e w19 ⟨rfl, g19⟩; have D19 := hid (D18.out.kept g19); have T19 := hid (Low.trans T18.out (Low.of_none g19)); have B19 := hid (B18.out.kept g19 (by simp)); have S19 := hid (S18.out.none g19); clear SMa g19)
            | (go_at_call 32; refine (RN.out _ D19.out).mono ?_; rintro e w20 ⟨rfl, g20⟩; have D20 := hid (D19.out.kept g20); have T20 := hid (Low.trans T19.out (Low.of_none g20)); have B20 := hid (B19.out.kept g20 (by simp)); have S20 := hid (S19.out.none g20); clear RN g20)
            | (go_at_call 10; refine (OD.out _ D20.out).mono ?_; rintro e w21 ⟨b2, rfl, hb2, l21, d21, t21⟩; have L21 := hid l21; have T21 := hid (Low.trans T20.out t21); have B21 := hid (low_blk t21 B20.out FT.out); have S21 := hid (S20.out.low t21); have u0 := B21.out.cell 0; have u1 := B21.out.cell 1; have u2 := B21.out.cell 2; have u3 := B21.out.cell 3; have u4 := B21.out.cell 4; have u5 := B21.out.cell 5; simp [mdlV] at u0 u1 u2 u3 u4 u5; clear OD l21 d21 t21 hb2)
            | (go_at_call 24; refine (SMb.out _ _ L21.out S21.out).mono ?_; rintro e w22 ⟨rfl, g22⟩; have T22 := hid (Low.trans T21.out (Low.of_none g22)); clear SMb g22))
          go_ret
          exact ⟨rfl, Low.grown (grown_none G8.out H14.out) T22.out⟩
end Go.Proofs.Ytddnjlnnkeiplaa
