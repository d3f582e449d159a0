/-
  PageLimits: more than eight keys
-/
import Derived.Test.YtomknaendicpkaaLim
namespace Go.Proofs.Ytomknaendicpkaa
open Go.RowKit
set_option maxRecDepth 100000 in
set_option maxHeartbeats 4000000 in
theorem lim_a (a0 a1 value odd : Int) (n k d : Nat) (V : Nat) (ht : value.tmod 8300 = (V : Int)) (ht1 : V < 8300) (hn' : bits .and .i64 a0 15 = (n : Int)) (hk' : bits .and .i64 a1 127 = (k : Int)) (hd' : bits .and .i64 odd 3 = (d : Int)) (hn15 : n ≤ 15) (hk127 : k ≤ 127) (hd3 : d ≤ 3) (hz : 0 < n) (o1 : ¬ n ≤ 8) (w : World) : Calls Try.prog 6 #[.agg #[.int .i64 a0, .int .i64 a1], .int .i64 value, .int .i64 odd] w fun e w' => e = .returned (.bool true) ∧ w.grownBy w' none := by
  have hw : IntKind.i64.wrap (V : Int) = (V : Int) := by
    rw [IntKind.wrap_i64]
    omega
  have v0 : ¬ ((V : Int) < 0) := by omega
  have B0 : Hid (Blk (w.alloc (.cells #[.int .i64 a0, .int .i64 a1] 47)) w.heap.size 47 #[.int .i64 a0, .int .i64 a1]) := Blk.new w 47 _
  have H_hz := hid hz
  have H_o1 := hid o1
  clear hz o1
  go_enter Try.func6, Try.ntmps6
  go_wp2
  go_quiet (fail)
  go_wp2
  go_loopw [11] (fun iv wr => ∃ (i : Nat) (a b : Value), i ≤ n ∧ iv = .int .i64 i ∧ Blk wr (w.heap.size + 1) 25 #[.bool true, a, b, .slice none 0 0] ∧ w.grownBy wr none ∧ wr.ownsRow (w.heap.size + 2) 9 1 a i (strs (kys i k)) ∧ wr.ownsRow (w.heap.size + 2) 9 1 b i (strs (List.replicate i ⟨#[]⟩)) ∧ (∀ g, a.ownBlock = some g → b.ownBlock ≠ some g)) (fun iv _ => n - (intOf iv).toNat)
  case atStart =>
    refine ⟨0, _, _, Nat.zero_le _, rfl, ?_, grown_alloc (grown_drewN (grown_alloc (grown_refl _ _) _) _) _, World.ownsRow_nil _ _ _ _, World.ownsRow_nil _ _ _ _, fun g h => by cases h⟩
    have := Blk.new ((w.alloc (.cells #[.int .i64 a0, .int .i64 a1] 47)).drewN nq) 25 #[.bool true, .slice none 0 0, .slice none 0 0, .slice none 0 0]
    rwa [show ((w.alloc (.cells #[.int .i64 a0, .int .i64 a1] 47)).drewN nq).heap.size = w.heap.size + 1 from by show (w.alloc _).heap.size = _; simp] at this
  case round =>
    obtain ⟨W, rfl⟩ : ∃ W, W = wr := ⟨_, rfl⟩
    obtain ⟨i, a, b, hi, rfl, hb, hg, ha1, hb1, hap⟩ := hrel
    obtain ⟨pa, ca, rfl⟩ := owns_slice ha1
    obtain ⟨pb, cb, rfl⟩ := owns_slice hb1
    have B := hid hb
    have G := hid hg
    have RA := hid ha1
    have RB := hid hb1
    have AP := hid hap
    have hsz : w.heap.size + 1 < W.heap.size := hb.lt
    clear hb hg ha1 hb1 hap
    have i0 : (0 : Int) ≤ i := by omega
    have i15 : (i : Int) ≤ 15 := by omega
    by_cases hlt : i < n
    · have y1 : (i : Int) < n := by omega
      have MK := make_bytes k W (by omega)
      have NB := hid (Blk.new W 5 (arr .u8 k (fun _ => 0)))
      go_wp2
      go_loopw [13] (fun jv w2 => ∃ (j : Nat), j ≤ k ∧ jv = .int .i64 j ∧ Blk w2 W.heap.size 5 (arr .u8 k (fun x => if x < j then (97 : Int) + i else 0)) ∧ (W.alloc (.cells (arr .u8 k (fun _ => 0)) 5)).grownBy w2 (some W.heap.size)) (fun jv _ => k - (intOf jv).toNat)
      case atStart => exact ⟨0, Nat.zero_le _, rfl, NB.out.congr (fun x _ => by simp), grown_refl _ _⟩
      case round =>
        obtain ⟨j, hj, rfl, hb2, hg2⟩ := hrel
        have B2 := hid hb2
        have G2 := hid hg2
        clear hb2 hg2 NB
        have j0 : (0 : Int) ≤ j := by omega
        by_cases hjk : j < k
        · have y3 : (j : Int) < k := by omega
          have c0 := B2.out.ints j hjk
          have f0 := B2.out.frozen j
          have c97 : IntKind.u8.wrap ((97 : Int) + i) = 97 + i := by rw [show IntKind.u8.wrap ((97 : Int) + i) = ((97 : Int) + i) % 256 from rfl]; omega
          rw [if_neg (Nat.lt_irrefl _)] at c0
          have nx : Hid (Blk (wr.setCell ⟨W.heap.size, j, none⟩ (.int .u8 (97 + i))) W.heap.size 5 (arr .u8 k (fun x => if x < j + 1 then (97 : Int) + i else 0))) := hid ((B2.out.seti j (97 + i)).congr (fun x hx => by
            unfold upd
            by_cases e : x = j
            · rw [if_pos e, if_pos (by omega)]
            · rw [if_neg e]
              show (if x < j then (97 : Int) + i else 0) = _
              by_cases e2 : x < j
              · rw [if_pos e2, if_pos (by omega)]
              · rw [if_neg e2, if_neg (by omega)]))
          have gx := hid (grown_set G2.out j (.int .u8 (97 + i)))
          clear B2
          go_wp2
          go_round
          case rel => exact ⟨j + 1, by omega, by go_num, nx.out, gx.out⟩
          case measure => simp [intOf]; omega
        · obtain rfl : k = j := by omega
          have y3 : ¬ (k : Int) < k := by omega
          have KY : Hid ((convert 48 9 (.slice (some ⟨W.heap.size, 0, none⟩) k k)).run Try.prog wr = .ok (.string (ky k i)) wr) := hid (owned_str _ wr _ _ (by
            have := bytes_own (97 + i) _ B2.out (by omega) (by omega) (fun x hx => by rw [if_pos hx]; simp)
            exact this))
          have hw2 : W.heap.size < wr.heap.size := B2.out.lt
          have P2 := hid (((B.out.alloc _).kept G2.out (by simp; omega)))
          have GW := hid (grown_through (grown_alloc G.out _) G2.out (by omega))
          have R1 := hid (owns_far (RA.out.alloc _) G2.out (fun g hg e => by have := (RA.out.lt g hg).2; have := Option.some.inj e; omega))
          have R2 := hid (owns_far (RB.out.alloc _) G2.out (fun g hg e => by have := (RB.out.lt g hg).2; have := Option.some.inj e; omega))
          have q1 := P2.out.cell 1
          have q2 := P2.out.frozen 1
          simp at q1
          have KY' := KY.out
          go_wp2_with (at_builtin; refine append_fresh (w.heap.size + 2) (kys i k) (ky k i) _ ⟨wr.heap.size, 0, none⟩ 1 (by rw [kys_len]; exact R1.out.alloc _) ((Blk.new wr 9 _).cell 0) (by rw [kys_len]; omega) (by simp; omega) _ _ rfl rfl rfl rfl ?_)
          intro v8 w8 h8 hg8 hf8
          rw [kys_len, kys_snoc] at h8
          obtain ⟨pu, cu, rfl⟩ := owns_slice h8
          have L8 := hid h8
          have P8 := hid ((P2.out.alloc (.cells #[.string (ky k i)] 9)).kept hg8 (fun e => by have := (R1.out.lt _ e.symm).1; omega))
          have G8 := hid (grown_ob' (grown_alloc GW.out (.cells #[.string (ky k i)] 9)) hg8 (fun x e => by have := (R1.out.lt x e).1; omega))
          have Q8 := hid (owns_far (R2.out.alloc (.cells #[.string (ky k i)] 9)) hg8 (fun g hg e => AP.out g e hg))
          have A8 : Hid (∀ g, (Value.slice pu (i + 1) cu).ownBlock = some g → (Value.slice pb i cb).ownBlock ≠ some g) := hid (fun g hg e => by
            rcases hf8 g hg with h | h
            · exact AP.out g h e
            · have := (R2.out.lt g e).2
              omega)
          have z8 : wr.heap.size + 1 ≤ w8.heap.size := by have := hg8.size; simpa using this
          clear q1 q2 h8 hg8 hf8 P2 GW KY KY' R1 R2 RA RB AP B G MK
          have q1 := P8.out.cell 1
          have q2 := P8.out.frozen 1
          simp at q1
          have P9 := hid (P8.out.set 1 (.slice pu (i + 1) cu))
          have q3 := P9.out.cell 2
          have q4 := P9.out.frozen 2
          simp at q3
          have L9 := hid (ownsRow_setCell_below L8.out (a := ⟨w.heap.size + 1, 1, none⟩) (by show w.heap.size + 1 < _; omega) (.slice pu (i + 1) cu))
          have Q9 := hid (ownsRow_setCell_below Q8.out (a := ⟨w.heap.size + 1, 1, none⟩) (by show w.heap.size + 1 < _; omega) (.slice pu (i + 1) cu))
          have G9 := hid (grown_set_new G8.out (a := ⟨w.heap.size + 1, 1, none⟩) (.slice pu (i + 1) cu) (by show w.heap.size ≤ w.heap.size + 1; omega))
          have z9 : (w8.setCell ⟨w.heap.size + 1, 1, none⟩ (.slice pu (i + 1) cu)).heap.size = w8.heap.size := by simp [World.setCell]
          have c2 := P8.out.cell 2
          simp at c2
          have NC : Hid (((w8.setCell ⟨w.heap.size + 1, 1, none⟩ (.slice pu (i + 1) cu)).alloc (.cells #[.string ⟨#[]⟩] 9)).cell? ⟨w8.heap.size, 0, none⟩ = some (.string ⟨#[]⟩)) := hid (by
            have := Blk.new (w8.setCell ⟨w.heap.size + 1, 1, none⟩ (.slice pu (i + 1) cu)) 9 #[.string ⟨#[]⟩]
            rw [z9] at this
            exact this.cell 0)
          go_wp2_with (at_builtin; refine append_fresh (w.heap.size + 2) (List.replicate i ⟨#[]⟩) ⟨#[]⟩ _ ⟨w8.heap.size, 0, none⟩ 1 (by rw [List.length_replicate]; exact Q9.out.alloc _) NC.out (by rw [List.length_replicate]; omega) (by simp [World.setCell]; omega) _ _ rfl rfl rfl rfl ?_)
          intro v10 w10 h10 hg10 hf10
          have er : List.replicate i (⟨#[]⟩ : ByteArray) ++ [⟨#[]⟩] = List.replicate (i + 1) ⟨#[]⟩ := by rw [List.replicate_succ']
          rw [er] at h10
          obtain ⟨pz, cz, rfl⟩ := owns_slice h10
          have L10 := hid h10
          have P10 := hid ((P9.out.alloc (.cells #[.string ⟨#[]⟩] 9)).kept hg10 (fun e => by have := (Q9.out.lt _ e.symm).1; omega))
          have G10 := hid (grown_ob' (grown_alloc G9.out (.cells #[.string ⟨#[]⟩] 9)) hg10 (fun x e => by have := (Q9.out.lt x e).1; omega))
          have K10 := hid (owns_far (L9.out.alloc (.cells #[.string ⟨#[]⟩] 9)) hg10 (fun g hg e => A8.out g hg e))
          have A10 : Hid (∀ g, (Value.slice pu (i + 1) cu).ownBlock = some g → (Value.slice pz (i + 1) cz).ownBlock ≠ some g) := hid (fun g hg e => by
            rcases hf10 g e with h | h
            · exact A8.out g hg h
            · have := (L8.out.lt g hg).2
              omega)
          clear q1 q2 q3 q4 c2 NC h10 hg10 hf10 P8 P9 Q8 Q9 L8 L9 G8 G9 A8
          have q1 := P10.out.cell 2
          have q2 := P10.out.frozen 2
          simp at q1
          go_wp2
          go_roundw
          case rel => exact ⟨i + 1, _, _, by omega, by go_num, P10.out.set 2 (.slice pz (i + 1) cz), grown_set_new G10.out (a := ⟨w.heap.size + 1, 2, none⟩) _ (by show w.heap.size ≤ w.heap.size + 1; omega), ownsRow_setCell_below K10.out (a := ⟨w.heap.size + 1, 2, none⟩) (by show w.heap.size + 1 < _; omega) _, ownsRow_setCell_below L10.out (a := ⟨w.heap.size + 1, 2, none⟩) (by show w.heap.size + 1 < _; omega) _, A10.out⟩
          case measure => simp [intOf]; omega
    · obtain rfl : n = i := by omega
      have hz := H_hz.out; have o1 := H_o1.out
      have hzd : decide (0 < n) = true := decide_eq_true hz
      obtain ⟨g, cg, e1, hbg, hob, hcl, hfz, hput⟩ := row_set (zeros V) (n - 1) (by rw [List.length_replicate]; omega) (owns_drew (RB.out.alloc (.cells (arr .u8 V (fun _ => 0)) 5)))
      injection e1 with e1 e2 e3
      subst e1; subst e3
      have MK : (Instr.makeSlice 48 (.int .i64 V) (.int .i64 V)).run Try.prog W.drew = .ok (.slice (some ⟨W.heap.size, 0, none⟩) V V) (W.alloc (.cells (arr .u8 V (fun _ => 0)) 5)).drew := make_bytes V W.drew (by omega)
      have CV : (convert 48 9 (.slice (some ⟨W.heap.size, 0, none⟩) V V)).run Try.prog (W.alloc (.cells (arr .u8 V (fun _ => 0)) 5)).drew = .ok (.string (zeros V)) (W.alloc (.cells (arr .u8 V (fun _ => 0)) 5)).drew := zeros_own (Blk.new W 5 _).drew (by omega)
      have w1 : IntKind.i64.wrap ((n : Int) - 1) = (n : Int) - 1 := by simp [IntKind.wrap, IntKind.bits, IntKind.signed]; omega
      have w2 : (0 : Int) ≤ (n : Int) - 1 := by omega
      have w3 : (n : Int) - 1 < n := by omega
      have w4 : ((n : Int) - 1).toNat = n - 1 := by omega
      have q2 := B.out.cell 2
      have q3 := (B.out.alloc (.cells (arr .u8 V (fun _ => 0)) 5)).cell 2
      simp at q2 q3
      have PUT := hid hput
      clear hput
      go_wp2
      go_region
      have BX := hid (((B.out.alloc (.cells (arr .u8 V (fun _ => 0)) 5)).other (a := ⟨g, n - 1, none⟩) (.string (zeros V)) (by show w.heap.size + 1 ≠ g; omega)).drew)
      have GX := hid (grown_drew (grown_set_new (grown_alloc G.out (.cells (arr .u8 V (fun _ => 0)) 5)) (a := ⟨g, n - 1, none⟩) (.string (zeros V)) (by show w.heap.size ≤ g; omega)))
      have KX := hid (owns_drew (ownsRow_setCell_other (RA.out.alloc (.cells (arr .u8 V (fun _ => 0)) 5)) (a := ⟨g, n - 1, none⟩) (fun e => AP.out g e hob) (.string (zeros V))))
      have VX : Hid (((W.alloc (.cells (arr .u8 V (fun _ => 0)) 5)).setCell ⟨g, n - 1, none⟩ (.string (zeros V))).drew.ownsRow (w.heap.size + 2) 9 1 (.slice (some ⟨g, 0, none⟩) n cb) n (strs (vlL n V))) := PUT.out
      have AX := hid (fun e => AP.out g e hob)
      clear PUT MK CV w1 w2 w3 w4 q2 q3 RA RB AP B G hcl hfz
      generalize ((W.alloc (.cells (arr .u8 V (fun _ => 0)) 5)).setCell ⟨g, n - 1, none⟩ (.string (zeros V))).drew = X at *
      have p1 := BX.out.cell 1
      have p2 := BX.out.cell 3
      have p3 := BX.out.frozen 3
      simp at p1 p2
      have f1 : ¬ (n : Int) ≤ 8 := by omega
      have nz : ¬ (n : Int) = 0 := by omega
      have nz' : ((n : Int) == 0) = false := by simp; omega
      have dcs : d = 0 ∨ d = 3 ∨ d = 2 ∨ (d = 1 ∧ 1 < n ∧ 0 < k) ∨ (d = 1 ∧ 1 < n ∧ ¬ 0 < k) := by omega
      rcases dcs with e | e | e | ⟨e, e5, e6⟩ | ⟨e, e5, e6⟩
      · have hd2 : bits .and .i64 odd 3 = 0 := by rw [hd', e]; rfl
        clear hd' e
        have FT : Pg.fits ⟨true, kys n k, vlL n V, []⟩ := ⟨by show (kys n k).length ≤ _; rw [kys_len]; omega, by show (vlL n V).length ≤ _; rw [vlL_len]; omega, Nat.zero_le _⟩
        have CK : Hid (∀ Z v, PgV Z v ⟨true, kys n k, vlL n V, []⟩ → Calls Try.prog 11 #[v] Z fun e w' => e = .returned (.int .i64 6) ∧ Z.grownBy w' none) := fun Z v h => by
          have := check_any v ⟨true, kys n k, vlL n V, []⟩ Z h FT
          rwa [chk_six (lim_many n k _ [] o1)] at this
        have PV : Hid (PgV X (.agg #[.bool true, .slice pa n ca, .slice (some ⟨g, 0, none⟩) n cb, .slice none 0 0]) ⟨true, kys n k, vlL n V, []⟩) := hid ⟨_, _, _, rfl, RowV.owns (by rw [kys_len]; exact KX.out), RowV.owns (by rw [vlL_len]; exact VX.out), RowV.nil _ _⟩
        have GY := GX
        have BY := BX
        go_wp2_with (first
          | (go_at_call 10; refine (awake_any _).mono ?_; rintro e w7 ⟨rfl, hg⟩; have G7 : Hid (w.grownBy w7 none) := grown_none GY.out hg; have B7 := hid (BY.out.kept hg (by simp)); have V7 := hid (PV.out.kept hg); have r0 := B7.out.cell 0; have r1 := B7.out.cell 1; have r2 := B7.out.cell 2; have r3 := B7.out.cell 3; simp at r0 r1 r2 r3; clear hg GY BY PV)
          | (go_at_call 11; refine (CK.out _ _ V7.out).mono ?_; rintro e w8 ⟨rfl, hg⟩; have G8 : Hid (w.grownBy w8 none) := grown_none G7.out hg; clear hg CK))
        go_ret
        exact ⟨rfl, G8.out⟩
      · have hd2 : bits .and .i64 odd 3 = 3 := by rw [hd', e]; rfl
        clear hd' e
        have FT : Pg.fits ⟨true, kys n k, vlL n V, []⟩ := ⟨by show (kys n k).length ≤ _; rw [kys_len]; omega, by show (vlL n V).length ≤ _; rw [vlL_len]; omega, Nat.zero_le _⟩
        have CK : Hid (∀ Z v, PgV Z v ⟨true, kys n k, vlL n V, []⟩ → Calls Try.prog 11 #[v] Z fun e w' => e = .returned (.int .i64 6) ∧ Z.grownBy w' none) := fun Z v h => by
          have := check_any v ⟨true, kys n k, vlL n V, []⟩ Z h FT
          rwa [chk_six (lim_many n k _ [] o1)] at this
        have PV : Hid (PgV X (.agg #[.bool true, .slice pa n ca, .slice (some ⟨g, 0, none⟩) n cb, .slice none 0 0]) ⟨true, kys n k, vlL n V, []⟩) := hid ⟨_, _, _, rfl, RowV.owns (by rw [kys_len]; exact KX.out), RowV.owns (by rw [vlL_len]; exact VX.out), RowV.nil _ _⟩
        have GY := GX
        have BY := BX
        go_wp2_with (first
          | (go_at_call 10; refine (awake_any _).mono ?_; rintro e w7 ⟨rfl, hg⟩; have G7 : Hid (w.grownBy w7 none) := grown_none GY.out hg; have B7 := hid (BY.out.kept hg (by simp)); have V7 := hid (PV.out.kept hg); have r0 := B7.out.cell 0; have r1 := B7.out.cell 1; have r2 := B7.out.cell 2; have r3 := B7.out.cell 3; simp at r0 r1 r2 r3; clear hg GY BY PV)
          | (go_at_call 11; refine (CK.out _ _ V7.out).mono ?_; rintro e w8 ⟨rfl, hg⟩; have G8 : Hid (w.grownBy w8 none) := grown_none G7.out hg; clear hg CK))
        go_ret
        exact ⟨rfl, G8.out⟩
      · have hd2 : bits .and .i64 odd 3 = 2 := by rw [hd', e]; rfl
        clear hd' e
        have FT : Pg.fits ⟨true, kys n k, vlL n V, [0]⟩ := ⟨by show (kys n k).length ≤ _; rw [kys_len]; omega, by show (vlL n V).length ≤ _; rw [vlL_len]; omega, by show 1 ≤ _; omega⟩
        have CK : Hid (∀ Z v, PgV Z v ⟨true, kys n k, vlL n V, [0]⟩ → Calls Try.prog 11 #[v] Z fun e w' => e = .returned (.int .i64 6) ∧ Z.grownBy w' none) := fun Z v h => by
          have := check_any v ⟨true, kys n k, vlL n V, [0]⟩ Z h FT
          rwa [chk_six (lim_kids n k _)] at this
        have BY := hid ((BX.out.set 3 (.slice (some ⟨X.heap.size, 0, none⟩) 1 1)).alloc (.cells #[.int .i64 0] 3))
        have GY := hid (grown_alloc (grown_set_new GX.out (a := ⟨w.heap.size + 1, 3, none⟩) (.slice (some ⟨X.heap.size, 0, none⟩) 1 1) (by show w.heap.size ≤ w.heap.size + 1; omega)) (.cells #[.int .i64 0] 3))
        have hX1 : w.heap.size + 1 < X.heap.size := BX.out.lt
        have p4 := (BX.out.alloc (.cells #[.int .i64 0] 3)).cell 3
        have p5 := (BX.out.alloc (.cells #[.int .i64 0] 3)).frozen 3
        simp at p4
        have hXs : (X.setCell ⟨w.heap.size + 1, 3, none⟩ (.slice (some ⟨X.heap.size, 0, none⟩) 1 1)).heap.size = X.heap.size := by simp [World.setCell]
        have NW := Blk.new (X.setCell ⟨w.heap.size + 1, 3, none⟩ (.slice (some ⟨X.heap.size, 0, none⟩) 1 1)) 3 #[.int .i64 0]
        rw [hXs] at NW
        have PV : Hid (PgV ((X.setCell ⟨w.heap.size + 1, 3, none⟩ (.slice (some ⟨X.heap.size, 0, none⟩) 1 1)).alloc (.cells #[.int .i64 0] 3)) (.agg #[.bool true, .slice pa n ca, .slice (some ⟨g, 0, none⟩) n cb, .slice (some ⟨X.heap.size, 0, none⟩) 1 1]) ⟨true, kys n k, vlL n V, [0]⟩) := hid ⟨_, _, _, rfl, RowV.owns (by rw [kys_len]; exact (ownsRow_setCell_below KX.out (a := ⟨w.heap.size + 1, 3, none⟩) (by show w.heap.size + 1 < _; omega) _).alloc _), RowV.owns (by rw [vlL_len]; exact (ownsRow_setCell_below VX.out (a := ⟨w.heap.size + 1, 3, none⟩) (by show w.heap.size + 1 < _; omega) _).alloc _), ⟨_, 1, X.heap.size, 0, rfl, fun _ => rfl, fun i hi => by
          have : i = 0 := by have : i < 1 := hi; omega
          subst this
          rw [NW.cell]
          rfl⟩⟩
        clear NW hXs
        go_wp2_with (first
          | (go_at_call 10; refine (awake_any _).mono ?_; rintro e w7 ⟨rfl, hg⟩; have G7 : Hid (w.grownBy w7 none) := grown_none GY.out hg; have B7 := hid (BY.out.kept hg (by simp)); have V7 := hid (PV.out.kept hg); have r0 := B7.out.cell 0; have r1 := B7.out.cell 1; have r2 := B7.out.cell 2; have r3 := B7.out.cell 3; simp at r0 r1 r2 r3; clear hg GY BY PV)
          | (go_at_call 11; refine (CK.out _ _ V7.out).mono ?_; rintro e w8 ⟨rfl, hg⟩; have G8 : Hid (w.grownBy w8 none) := grown_none G7.out hg; clear hg CK))
        go_ret
        exact ⟨rfl, G8.out⟩
      · have g5 : (1 : Int) < n := by omega
        have g6 : (0 : Int) < k := by omega
        have hd2 : bits .and .i64 odd 3 = 1 := by rw [hd', e]; rfl
        clear hd' e
        have FT : Pg.fits ⟨true, (kys n k).set 1 (ky k 0), vlL n V, []⟩ := ⟨by show ((kys n k).set 1 (ky k 0)).length ≤ _; rw [List.length_set, kys_len]; omega, by show (vlL n V).length ≤ _; rw [vlL_len]; omega, Nat.zero_le _⟩
        have CK : Hid (∀ Z v, PgV Z v ⟨true, (kys n k).set 1 (ky k 0), vlL n V, []⟩ → Calls Try.prog 11 #[v] Z fun e w' => e = .returned (.int .i64 6) ∧ Z.grownBy w' none) := fun Z v h => by
          have := check_any v ⟨true, (kys n k).set 1 (ky k 0), vlL n V, []⟩ Z h FT
          rwa [chk_six (lim_twice n k _ [] e5)] at this
        obtain ⟨ga, ca', e1, hba, hoba, hcla, hfza, hputa⟩ := row_set (ky k 0) 1 (by rw [kys_len]; omega) KX.out
        injection e1 with e1 e2 e3
        subst e1; subst e3
        have C0 := KX.out.cellAt 0 (by omega)
        have c0 : X.cell? ⟨ga, 0, none⟩ = some (.string (ky k 0)) := by rw [C0]; simp [strs, kys, hz]
        clear C0
        have PUT := hid hputa
        clear hputa
        have n1 : (1 : Int) < (n : Int) := by omega
        have n0 : (0 : Int) < (n : Int) := by omega
        have cK : (kys n k)[1]'(by rw [kys_len]; omega) = ky k 1 := by simp [kys]
        rw [cK] at hcla
        clear cK
        go_wp2
        go_region
        have BY := hid ((BX.out.other (a := ⟨ga, 1, none⟩) (.string (ky k 0)) (by show w.heap.size + 1 ≠ ga; omega)).drew)
        have GY := hid (grown_drew (grown_set_new GX.out (a := ⟨ga, 1, none⟩) (.string (ky k 0)) (by show w.heap.size ≤ ga; omega)))
        have PV : Hid (PgV (X.setCell ⟨ga, 1, none⟩ (.string (ky k 0))).drew (.agg #[.bool true, .slice (some ⟨ga, 0, none⟩) n ca, .slice (some ⟨g, 0, none⟩) n cb, .slice none 0 0]) ⟨true, (kys n k).set 1 (ky k 0), vlL n V, []⟩) := hid ⟨_, _, _, rfl, RowV.owns (by rw [List.length_set, kys_len]; exact owns_drew PUT.out), RowV.owns (by rw [vlL_len]; exact owns_drew (ownsRow_setCell_other VX.out (a := ⟨ga, 1, none⟩) (fun e => AX.out (by rw [hoba, ← hob, e])) _)), RowV.nil _ _⟩
        go_wp2_with (first
          | (go_at_call 10; refine (awake_any _).mono ?_; rintro e w7 ⟨rfl, hg⟩; have G7 : Hid (w.grownBy w7 none) := grown_none GY.out hg; have B7 := hid (BY.out.kept hg (by simp)); have V7 := hid (PV.out.kept hg); have r0 := B7.out.cell 0; have r1 := B7.out.cell 1; have r2 := B7.out.cell 2; have r3 := B7.out.cell 3; simp at r0 r1 r2 r3; clear hg GY BY PV)
          | (go_at_call 11; refine (CK.out _ _ V7.out).mono ?_; rintro e w8 ⟨rfl, hg⟩; have G8 : Hid (w.grownBy w8 none) := grown_none G7.out hg; clear hg CK))
        go_ret
        exact ⟨rfl, G8.out⟩
      · have hd2 : bits .and .i64 odd 3 = 1 := by rw [hd', e]; rfl
        clear hd' e
        have g5 : (1 : Int) < n := by omega
        have g6 : ¬ (0 : Int) < k := by omega
        have FT : Pg.fits ⟨true, kys n k, vlL n V, []⟩ := ⟨by show (kys n k).length ≤ _; rw [kys_len]; omega, by show (vlL n V).length ≤ _; rw [vlL_len]; omega, Nat.zero_le _⟩
        have CK : Hid (∀ Z v, PgV Z v ⟨true, kys n k, vlL n V, []⟩ → Calls Try.prog 11 #[v] Z fun e w' => e = .returned (.int .i64 6) ∧ Z.grownBy w' none) := fun Z v h => by
          have := check_any v ⟨true, kys n k, vlL n V, []⟩ Z h FT
          rwa [chk_six (lim_many n k _ [] o1)] at this
        have PV : Hid (PgV X (.agg #[.bool true, .slice pa n ca, .slice (some ⟨g, 0, none⟩) n cb, .slice none 0 0]) ⟨true, kys n k, vlL n V, []⟩) := hid ⟨_, _, _, rfl, RowV.owns (by rw [kys_len]; exact KX.out), RowV.owns (by rw [vlL_len]; exact VX.out), RowV.nil _ _⟩
        have GY := GX
        have BY := BX
        go_wp2_with (first
          | (go_at_call 10; refine (awake_any _).mono ?_; rintro e w7 ⟨rfl, hg⟩; have G7 : Hid (w.grownBy w7 none) := grown_none GY.out hg; have B7 := hid (BY.out.kept hg (by simp)); have V7 := hid (PV.out.kept hg); have r0 := B7.out.cell 0; have r1 := B7.out.cell 1; have r2 := B7.out.cell 2; have r3 := B7.out.cell 3; simp at r0 r1 r2 r3; clear hg GY BY PV)
          | (go_at_call 11; refine (CK.out _ _ V7.out).mono ?_; rintro e w8 ⟨rfl, hg⟩; have G8 : Hid (w.grownBy w8 none) := grown_none G7.out hg; clear hg CK))
        go_ret
        exact ⟨rfl, G8.out⟩

end Go.Proofs.Ytomknaendicpkaa
