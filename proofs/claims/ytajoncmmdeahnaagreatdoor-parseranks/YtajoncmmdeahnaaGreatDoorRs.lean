/-
  ParseRanks: the law's own walk.
-/
import Derived.Test.YtajoncmmdeahnaaGreatDoorRq
namespace Go.Proofs.YtajoncmmdeahnaaGreatDoor
namespace Rk
open Pm Pt Go.RowKit
set_option maxRecDepth 100000 in
set_option maxHeartbeats 1000000 in
theorem ranks_law (xs : List Int) (pa : Option Addr) (c g o : Nat) (w : World) (hG : GlB w w.heap.size) (hx : xs.length ≤ maxLen) (hp : 0 < xs.length → pa = some ⟨g, o, none⟩) (hc : ∀ i, (h : i < xs.length) → w.cell? ⟨g, o + i, none⟩ = some (.int .i64 xs[i])) : Calls Tryz.prog 3 #[.slice pa xs.length c] w (Sc.TrueP w) := by
  have HX := hid hx
  have HP := hid hp
  have HC := hid hc
  have HG := hid hG
  have hx' : (xs.length : Int) ≤ 9223372036854775807 := by unfold maxLen at hx; omega
  clear hx hp hc hG
  go_enter Tryz.func3, Tryz.ntmps3
  go_wp2
  go_loopw [4, 5, 6, 7] (fun v4 v5 v6 v7 wr => ∃ i : Nat, i ≤ (sgs xs).length ∧ v7 = .int .i64 i ∧ v6 = .string ⟨(txL xs i).toArray⟩ ∧ LI w (itR 0 ((sgs xs).take i)) i v4 v5 wr) (fun _ _ _ v7 _ => (sgs xs).length - (intOf v7).toNat)
  case atStart =>
    refine ⟨0, Nat.zero_le _, rfl, rfl, ?_⟩
    rw [List.take_zero]
    have B0 := ((Blk.new w 9 SGS).alloc (.cells #[.string ⟨#[97]⟩] 9)).alloc (.cells #[] 9)
    have B1 := (Blk.new (w.alloc (.cells SGS 9)) 9 #[.string ⟨#[97]⟩]).alloc (.cells #[] 9)
    have B2 := Blk.new ((w.alloc (.cells SGS 9)).alloc (.cells #[.string ⟨#[97]⟩] 9)) 9 #[]
    rw [World.size_alloc] at B1
    rw [World.size_alloc, World.size_alloc] at B2
    exact ⟨B0, ⟨rfl, Or.inr ⟨w.heap.size + 1, 1, _, rfl, Nat.le_refl _, B1, Nat.le_refl _, by decide, rfl, rfl⟩⟩, ⟨rfl, Or.inr ⟨w.heap.size + 1 + 1, 0, _, rfl, by omega, B2, Nat.le_refl _, by decide, rfl, rfl⟩⟩, ⟨_, rfl⟩, ⟨_, rfl⟩, fun e => by have h : w.heap.size + 1 = w.heap.size + 1 + 1 := Option.some.inj e; omega, grown_alloc (grown_alloc (grown_alloc (grown_refl w none) _) _) _⟩
  case round =>
    obtain ⟨i, hi, rfl, rfl, hI⟩ := hrel
    have i0 : (0 : Int) ≤ i := by omega
    have hN : (sgs xs).length = min 12 xs.length := by unfold sgs; rw [List.length_map, List.length_take]
    by_cases hlt : i < (sgs xs).length
    · have i1 : (i : Int) < xs.length := by omega
      have i2 : (i : Int) < 12 := by omega
      have i3 : i < xs.length := by omega
      have c0 : wr.cell? ⟨g, o + i, none⟩ = some (.int .i64 xs[i]) := ((grown_below hI.g).cell (p := ⟨g, o + i, none⟩) (World.block_lt_of_cell? _ _ (HC.out i i3))).trans (HC.out i i3)
      have e0 : pa = some ⟨g, o, none⟩ := HP.out (by omega)
      subst e0
      have hq : ((xs[i].tmod 13 + 13).tmod 13) = (pkR xs[i] : Int) := by
        unfold pkR
        have h1 : xs[i].tmod 13 < 13 := Int.tmod_lt_of_pos _ (by decide)
        have h2 : -13 < xs[i].tmod 13 := Int.lt_tmod_of_pos _ (by decide)
        have h3 : 0 ≤ (xs[i].tmod 13 + 13).tmod 13 := Int.tmod_nonneg _ (by omega)
        omega
      have hw1 : IntKind.i64.wrap (xs[i].tmod 13 + 13) = xs[i].tmod 13 + 13 := by
        have h1 : xs[i].tmod 13 < 13 := Int.tmod_lt_of_pos _ (by decide)
        have h2 : -13 < xs[i].tmod 13 := Int.lt_tmod_of_pos _ (by decide)
        exact IntWalk.i64_in _ (by omega)
      have hq13 := pkR_lt xs[i]
      have hs0 : wr.cell? ⟨w.heap.size, pkR xs[i], none⟩ = some (.string ⟨(sgR (pkR xs[i])).toArray⟩) := by rw [hI.sg.cell, SGS_at _ hq13]
      have hσ : (sgs xs)[i] = pkR xs[i] := by simp [sgs]
      have TS : (sgs xs).take (i + 1) = (sgs xs).take i ++ [pkR xs[i]] := by rw [List.take_succ_eq_append_getElem hlt, hσ]
      have hl2 : ((sgs xs).take i).length = i := by rw [List.length_take]; omega
      have TX : (⟨(txL xs i).toArray⟩ : ByteArray) ++ ((⟨#[32]⟩ : ByteArray) ++ ⟨(sgR (pkR xs[i])).toArray⟩ ++ ⟨#[32]⟩ ++ ⟨(nmR i).toArray⟩) = ⟨(txL xs (i + 1)).toArray⟩ := by
        unfold txL
        rw [TS, bdR_snoc, hl2, Nat.zero_add]
        apply ByteArray.ext
        simp
      have IS : itR 0 ((sgs xs).take (i + 1)) = itR 0 ((sgs xs).take i) ++ [(sgR (pkR xs[i]), nmR i)] := by rw [TS, itR_snoc, hl2, Nat.zero_add]
      have zT : (⟨(txL xs i).toArray⟩ : ByteArray).size ≤ 1000 := by
        show (txL xs i).length ≤ 1000
        unfold txL
        have h := bdR_len ((sgs xs).take i) 0 (fun y hy => by
          obtain ⟨z, _, rfl⟩ := List.mem_map.1 (List.mem_of_mem_take hy)
          exact pkR_lt z)
        rw [List.length_cons]
        omega
      have zS : (⟨(sgR (pkR xs[i])).toArray⟩ : ByteArray).size ≤ 2 := sgR_len _ hq13
      have zN : (⟨(nmR i).toArray⟩ : ByteArray).size = 1 := rfl
      have hcv : (convert 24 9 (.slice (some ⟨wr.heap.size, 0, none⟩) 1 1)).run Tryz.prog (wr.alloc (.cells #[.int .u8 (98 + (i : Int))] 5)) = .ok (.string ⟨(nmR i).toArray⟩) (wr.alloc (.cells #[.int .u8 (98 + (i : Int))] 5)) := by
        refine run_convert_bytes_back (P := Tryz.prog) (wr.alloc (.cells #[.int .u8 (98 + (i : Int))] 5)) 24 9 5 ⟨wr.heap.size, 0, none⟩ 1 (nmR i) Tryz.underlying24 Tryz.underlying5 Tryz.underlying9 (fun j hj => ?_)
        have hj0 : j = 0 := by have : j < 1 := hj; omega
        subst hj0
        have h := (Blk.new wr 5 #[.int .u8 (98 + (i : Int))]).cell 0
        have e : ((nmR i)[0].toNat : Int) = 98 + (i : Int) := by
          show ((UInt8.ofNat (98 + i)).toNat : Int) = _
          rw [UInt8.toNat_ofNat']
          omega
        rw [e]
        exact h
      obtain ⟨pn, cn, e4, hn1, hn2, _⟩ := Lw.row_form hI.n
      subst e4
      obtain ⟨pb, cb, e5, hb1, hb2, _⟩ := Lw.row_form hI.b
      subst e5
      clear TS hσ
      generalize pkR xs[i] = q at *
      generalize xs[i] = X at *
      have G1 : Hid (wr.grownBy ((wr.alloc (.cells #[.int .u8 (98 + (i : Int))] 5)).alloc (.cells #[.string ⟨(nmR i).toArray⟩] 9)) none) := grown_alloc (grown_alloc (grown_refl wr none) _) _
      have L1 : (nmV (itR 0 ((sgs xs).take i))).length = i + 1 := by simp [nmV, itR_len, hl2]
      have L2 : (btV (itR 0 ((sgs xs).take i))).length = i := by simp [btV, itR_len, hl2]
      have hIn := hI.n
      rw [← L1] at hIn
      have RN := hid (Lw.row_none hIn G1.out)
      have CL : Hid (((wr.alloc (.cells #[.int .u8 (98 + (i : Int))] 5)).alloc (.cells #[.string ⟨(nmR i).toArray⟩] 9)).cell? ⟨wr.heap.size + 1, 0, none⟩ = some (.string ⟨(nmR i).toArray⟩)) := by
        have h := (Blk.new (wr.alloc (.cells #[.int .u8 (98 + (i : Int))] 5)) 9 #[.string ⟨(nmR i).toArray⟩]).cell 0
        rw [World.size_alloc] at h
        exact h
      have S1 : w.heap.size + 1 ≤ wr.heap.size := by have := hI.sg.lt; omega
      have LM := hid (fun w2 hg W2 G2 => hI.mid (W1 := (wr.alloc (.cells #[.int .u8 (98 + (i : Int))] 5)).alloc (.cells #[.string ⟨(nmR i).toArray⟩] 9)) (w2 := w2) (W2 := W2) G1.out hg G2)
      have LS := hid (fun w2 W2 w3 vn' vb' hr hg ho G2 hr2 hg2 ho2 => hI.step (W1 := (wr.alloc (.cells #[.int .u8 (98 + (i : Int))] 5)).alloc (.cells #[.string ⟨(nmR i).toArray⟩] 9)) (w2 := w2) (W2 := W2) (w3 := w3) (vn' := vn') (vb' := vb') (sgR q, nmR i) G1.out hr hg ho G2 hr2 hg2 ho2)
      have IS := hid IS
      have TX := hid TX
      rw [L1] at RN
      generalize nmV (itR 0 ((sgs xs).take i)) = NL at *
      generalize btV (itR 0 ((sgs xs).take i)) = BL at *
      clear hIn hI hl2
      generalize (⟨(sgR q).toArray⟩ : ByteArray) = S at *
      generalize (⟨(nmR i).toArray⟩ : ByteArray) = NM at *
      generalize (⟨(txL xs i).toArray⟩ : ByteArray) = T at *
      have L1' := hid L1
      have L2' := hid L2
      clear L1 L2
      go_wp2_with (first
        | (at_builtin; refine append_s9 (w.heap.size + 1) _ NL NM ⟨wr.heap.size + 1, 0, none⟩ 1 (by rw [L1'.out]; exact RN.out) CL.out (by rw [L1'.out]; omega) (by rw [World.size_alloc, World.size_alloc]; omega) _ _ rfl rfl rfl rfl ?_; intro vn' w2 hr hg ho; rw [L1'.out] at hr; obtain ⟨p3, c3, e3, _, _, _⟩ := Lw.row_form hr; subst e3; have RB := hid (LM.out w2 hg _ (grown_alloc (grown_refl w2 none) (.cells #[.string S] 9))); have CB : Hid ((w2.alloc (.cells #[.string S] 9)).cell? ⟨w2.heap.size, 0, none⟩ = some (.string S)) := (Blk.new w2 9 #[.string S]).cell 0; have S2 := hid (show w.heap.size + 1 ≤ w2.heap.size by (have := hg.size; rw [World.size_alloc, World.size_alloc] at this; omega)); have HR := hid hr; have HGG := hid hg; have HO := hid ho; clear hr hg ho RN CL LM)
        | (at_builtin; refine append_s9 (w.heap.size + 1) _ BL S ⟨w2.heap.size, 0, none⟩ 1 (by rw [L2'.out]; exact RB.out) CB.out (by rw [L2'.out]; omega) (by rw [World.size_alloc]; have := S2.out; omega) _ _ rfl rfl rfl rfl ?_; intro vb' w3 hr hg ho; rw [L2'.out] at hr; obtain ⟨p4, c4, e4, _, _, _⟩ := Lw.row_form hr; subst e4; have LF := hid (LS.out _ _ _ _ _ HR.out HGG.out HO.out (grown_alloc (grown_refl w2 none) (.cells #[.string S] 9)) hr hg ho); clear hr hg ho RB CB HR HGG HO LS))
      go_roundw
      case rel => exact ⟨i + 1, by omega, by go_num, by rw [← TX.out], by rw [IS.out]; exact LF.out⟩
      case measure => simp [intOf]; omega
    · have hiN : i = (sgs xs).length := by omega
      have TKN : (sgs xs).take i = sgs xs := List.take_of_length_le (by omega)
      have TE : Hid ((⟨#[116, 101, 115, 116, 32, 116, 32, 123, 32, 97, 115, 115, 101, 114, 116, 32]⟩ : ByteArray) ++ ⟨(txL xs i).toArray⟩ ++ ⟨#[59, 32, 125]⟩ = Sc.mkS (txR (sgs xs))) := by
        show _ = _
        unfold txL txR tlR Sc.mkS
        rw [TKN]
        apply ByteArray.ext
        simp
      rw [TKN] at hI
      have hσ : ∀ s ∈ sgs xs, s < 13 := fun y hy => by
        obtain ⟨z, _, rfl⟩ := List.mem_map.1 hy
        exact pkR_lt z
      have hl12 : (sgs xs).length ≤ 12 := by omega
      have zT : (⟨(txL xs i).toArray⟩ : ByteArray).size ≤ 1000 := by
        show (txL xs i).length ≤ 1000
        unfold txL
        have h := bdR_len ((sgs xs).take i) 0 (fun y hy => hσ y (List.mem_of_mem_take hy))
        rw [List.length_cons]
        rw [List.length_take] at h
        omega
      obtain ⟨pn, cn, e4, hn1, hn2, _⟩ := Lw.row_form hI.n
      subst e4
      obtain ⟨pb, cb, e5, hb1, hb2, _⟩ := Lw.row_form hI.b
      subst e5
      obtain ⟨gn, hgn, hNm⟩ := hI.nm
      have hBt := hI.bt
      have hL : (itR 0 (sgs xs)).length = i := by rw [itR_len]; exact hiN.symm
      obtain ⟨t, ht⟩ := pr_more 12 [97] (itR 0 (sgs xs)) (by omega)
      have hit := it_small (sgs xs) 0 hσ
      have htl := pr_len i (itR 0 (sgs xs)) 13 [97] t hL rfl (fun x hx => (it_two (sgs xs) 0 hσ) x hx) ht
      have hCP := Sc.parse_closed 60 (txR (sgs xs)) (prR (sgs xs)) wr (by
        unfold txR tlR
        have h := bdR_len (sgs xs) 0 hσ
        simp
        omega) (Sc.glb_all HG.out wr hI.g) (text_parse (sgs xs) hl12 hσ)
      have hok := pr_ok (sgs xs) hσ
      have hcnt := pr_cnt (sgs xs) hl12
      have hfour := pr_four (sgs xs)
      generalize prR (sgs xs) = n at *
      generalize hX : cutT [97] (itR 0 (sgs xs)) = X at *
      have CP := hid hCP
      have G0 := hid hI.g
      have CW := hid (fun W (h : w.grownBy W none) => awake_any W (Sc.glb_all HG.out W h))
      have CA := hid (fun P v W hv => at_four n X hfour hok hcnt P v W hv)
      have CX := hid (fun P v W hv => print_any P 13 X t v W ht htl.2 (by have := htl.1; omega) hv)
      have CC : Hid (∀ W, wr.grownBy W none → Calls Tryz.prog 13 #[.slice pn (i + 1) cn, .slice pb i cb] W (CutP W t)) := fun W h => by
        subst hgn
        exact cut_any i (itR 0 (sgs xs)) 13 [97] t gn 0 cn pb cb W hL (by omega) (fun x hx => (hit x hx).2.2) (hNm.kept h) hn1 hn2 hb1 hb2 (fun h0 => by
          obtain ⟨g2, o2, e, hb⟩ := hBt h0
          exact ⟨g2, o2, e, hb.kept h⟩) (by rw [hX]; exact ht) (by have := htl.1; omega)
      have R0 := hid (grown_refl wr none)
      clear hI hNm hBt hCP hit htl ht hok hcnt hfour hX hL hgn
      generalize (⟨(txL xs i).toArray⟩ : ByteArray) = T at *
      have hcase : (i : Int) < xs.length → ¬ (i : Int) < 12 := by omega
      have zI : i ≤ 12 := by omega
      clear hiN TKN hN hσ hl12 hlt hi
      by_cases h1 : (i : Int) < xs.length
      · have h2 : ¬ (i : Int) < 12 := hcase h1
        clear hcase
        go_wp2_with (first
          | (go_at_call 9; rw [TE.out]; refine CP.out.mono ?_; rintro e w1 ⟨ps, cp, rfl, hk, hg⟩; have R1 := hid (grown_alloc (grown_none R0.out hg) (.cells #[.int .i64 n.kind, .int .i64 n.ty, .string n.txt, .int .i64 n.num, .slice ps n.kids.length cp] 27)); have K1 := hid (hk.kept (grown_alloc (grown_refl _ none) (.cells #[.int .i64 n.kind, .int .i64 n.ty, .string n.txt, .int .i64 n.num, .slice ps n.kids.length cp] 27))); have B1 := hid (Blk.new w1 27 #[.int .i64 n.kind, .int .i64 n.ty, .string n.txt, .int .i64 n.num, .slice ps n.kids.length cp]); clear CP hk hg)
          | (go_at_call 10; refine (CW.out _ (grown_none G0.out R1.out)).mono ?_; rintro e w2 ⟨rfl, hg⟩; have R2 := hid (grown_none R1.out hg); have K2 := hid (K1.out.kept hg); have hB2 := B1.out.kept hg (by simp); have z0 := hB2.cell 0; have z1 := hB2.cell 1; have z2 := hB2.cell 2; have z3 := hB2.cell 3; have z4 := hB2.cell 4; simp at z0 z1 z2 z3 z4; clear CW hg hB2 B1)
          | (go_at_call 11; refine (CA.out _ _ _ ⟨_, rfl, K2.out⟩).mono ?_; rintro e w3 ⟨px, cx, rfl, hk, hg⟩; have R3 := hid (grown_alloc (grown_none R2.out hg) (.cells #[.int .i64 X.kind, .int .i64 X.ty, .string X.txt, .int .i64 X.num, .slice px X.kids.length cx] 27)); have K3 := hid (hk.kept (grown_alloc (grown_refl _ none) (.cells #[.int .i64 X.kind, .int .i64 X.ty, .string X.txt, .int .i64 X.num, .slice px X.kids.length cx] 27))); clear CA hk hg z0 z1 z2 z3 z4)
          | (go_at_call 12; refine (CX.out _ _ _ ⟨_, rfl, K3.out⟩).mono ?_; rintro e w4 ⟨rfl, hg⟩; have R4 := hid (grown_none R3.out hg); clear CX hg)
          | (go_at_call 13; refine (CC.out _ R4.out).mono ?_; rintro e w5 ⟨rfl, m5, rfl⟩; have R5 := hid (Lw.grown_drewN R4.out m5); clear CC))
        go_ret
        exact ⟨rfl, grown_none G0.out R5.out⟩
      · clear hcase
        go_wp2_with (first
          | (go_at_call 9; rw [TE.out]; refine CP.out.mono ?_; rintro e w1 ⟨ps, cp, rfl, hk, hg⟩; have R1 := hid (grown_alloc (grown_none R0.out hg) (.cells #[.int .i64 n.kind, .int .i64 n.ty, .string n.txt, .int .i64 n.num, .slice ps n.kids.length cp] 27)); have K1 := hid (hk.kept (grown_alloc (grown_refl _ none) (.cells #[.int .i64 n.kind, .int .i64 n.ty, .string n.txt, .int .i64 n.num, .slice ps n.kids.length cp] 27))); have B1 := hid (Blk.new w1 27 #[.int .i64 n.kind, .int .i64 n.ty, .string n.txt, .int .i64 n.num, .slice ps n.kids.length cp]); clear CP hk hg)
          | (go_at_call 10; refine (CW.out _ (grown_none G0.out R1.out)).mono ?_; rintro e w2 ⟨rfl, hg⟩; have R2 := hid (grown_none R1.out hg); have K2 := hid (K1.out.kept hg); have hB2 := B1.out.kept hg (by simp); have z0 := hB2.cell 0; have z1 := hB2.cell 1; have z2 := hB2.cell 2; have z3 := hB2.cell 3; have z4 := hB2.cell 4; simp at z0 z1 z2 z3 z4; clear CW hg hB2 B1)
          | (go_at_call 11; refine (CA.out _ _ _ ⟨_, rfl, K2.out⟩).mono ?_; rintro e w3 ⟨px, cx, rfl, hk, hg⟩; have R3 := hid (grown_alloc (grown_none R2.out hg) (.cells #[.int .i64 X.kind, .int .i64 X.ty, .string X.txt, .int .i64 X.num, .slice px X.kids.length cx] 27)); have K3 := hid (hk.kept (grown_alloc (grown_refl _ none) (.cells #[.int .i64 X.kind, .int .i64 X.ty, .string X.txt, .int .i64 X.num, .slice px X.kids.length cx] 27))); clear CA hk hg z0 z1 z2 z3 z4)
          | (go_at_call 12; refine (CX.out _ _ _ ⟨_, rfl, K3.out⟩).mono ?_; rintro e w4 ⟨rfl, hg⟩; have R4 := hid (grown_none R3.out hg); clear CX hg)
          | (go_at_call 13; refine (CC.out _ R4.out).mono ?_; rintro e w5 ⟨rfl, m5, rfl⟩; have R5 := hid (Lw.grown_drewN R4.out m5); clear CC))
        go_ret
        exact ⟨rfl, grown_none G0.out R5.out⟩
end Rk
end Go.Proofs.YtajoncmmdeahnaaGreatDoor
