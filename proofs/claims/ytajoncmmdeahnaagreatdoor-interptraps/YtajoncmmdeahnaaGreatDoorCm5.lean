/-
  The checker over trees: a function, or a test.
-/
import Derived.Test.YtajoncmmdeahnaaGreatDoorKCm4
namespace Go.Proofs.YtajoncmmdeahnaaGreatDoor
open Go.RowKit
namespace Ck
def boI (F : Fn) (k : Nat) (R : Rc) (T : Bool) (L i : Nat) (x : Nd) : Ck Nd := if i + 1 < L ∧ T = false then parameterC F k x else R.block x
theorem bodyL_eq (F : Fn) (k : Nat) (R : Rc) (T : Bool) : ∀ (l : List Nd) (i L : Nat), i + l.length = L → bodyL F k R T l = mapI (boI F k R T L) i l
  | [], _, _, _ => rfl
  | x :: r, i, L, h => by
    unfold bodyL mapI
    rw [bodyL_eq F k R T r (i + 1) L (by rw [List.length_cons] at h; omega)]
    have e : boI F k R T L i x = if r ≠ [] ∧ T = false then parameterC F k x else R.block x := by
      unfold boI
      cases r with
      | nil =>
        rw [if_neg (fun hh => by have := hh.1; rw [List.length_cons, List.length_nil] at h; omega), if_neg (fun hh => hh.1 rfl)]
      | cons y r =>
        by_cases hT : T = false
        · rw [if_pos ⟨by rw [List.length_cons, List.length_cons] at h; omega, hT⟩, if_pos ⟨by simp, hT⟩]
        · rw [if_neg (fun hh => hT hh.2), if_neg (fun hh => hT hh.2)]
    rw [e]
def boC : Ck Unit := fun st => if 1000000 ≤ st.bo then .error none else (limitC (st.bo + 1) 32) { st with bo := st.bo + 1 }
def endC (T : Bool) (ks : List Nd) : Ck Unit := if T = false ∧ endsL ks = false then rej 124 else pure ()
def bodyT (T : Bool) (n : Nd) (ks : List Nd) : Ck Nd := forgetC 0 >>= fun _ => doneC (withKids n ks) >>= fun _ => boC >>= fun _ => endC T ks >>= fun _ => pure (withKids n ks)
def bodyM (F : Fn) (k : Nat) (R : Rc) (T : Bool) (n : Nd) : Ck Nd := mapI (boI F k R T n.kids.length) 0 n.kids >>= bodyT T n
def inB (T : Bool) (n : Nd) (st : Cs) : Cs := { st with te := T, an := n.ty }
theorem body_eq (F : Fn) (k : Nat) (R : Rc) (n : Nd) (st : Cs) : bodyC F k R n st = bodyM F k R (n.kind == 4) n (inB (n.kind == 4) n st) := by
  unfold bodyC bodyM
  rw [← bodyL_eq F k R _ n.kids 0 n.kids.length (by omega)]
  rfl
theorem bo_bad {st : Cs} (h : ¬ 1000000 ≤ st.bo) (h2 : (32 : Int) < (st.bo : Int) + 1) : boC st = .error (some 125) := by
  unfold boC limitC
  rw [if_neg h, if_pos (by omega)]
  rfl
theorem bo_ok {st : Cs} (h : ¬ 1000000 ≤ st.bo) (h2 : ¬ (32 : Int) < (st.bo : Int) + 1) : boC st = .ok ((), { st with bo := st.bo + 1 }) := by
  unfold boC limitC
  rw [if_neg h, if_neg (by omega)]
  rfl
set_option maxRecDepth 100000 in
set_option maxHeartbeats 4000000 in
theorem body_some {X : Xc} {F : Fn} {k : Nat} {R : Rc} (hPA : ElC X F 138 (parameterC F k)) (hR : ElC X F 139 R.block) (hkp : ∀ x, KpT (R.block x)) (n : Nd) (g o lo hi : Nat) (cs : Array Value) (w : World) (st : Cs) (hC : CkA w X F st) (hn : NdI w g o lo hi n) (p1 : X.low ≤ g) (p2 : g < lo) (p3 : hi ≤ X.base) (hB : Blk w g 27 cs) (T : Bool) (hT : (n.kind == 4) = T) (hk34 : n.kind = 3 ∨ n.kind = 4) (hx : bodyM F k R T n (inB T n st) ≠ .error none) :
    Calls Tryz.prog 99 #[.pointer (some ⟨X.c, 0, none⟩), .pointer (some ⟨g, o, none⟩)] w (CkT X F g o lo hi w (bodyM F k R T n (inB T n st))) := by
  have HP := hid (Pl.mk p1 p2 p3)
  have N0 := NS.start hC hn hB
  obtain ⟨p, c, c0, c1, c2, c3, c4, hk, hf⟩ := N0.cells
  obtain ⟨pv, hRR⟩ := hC
  have hne : X.c ≠ g := by have := hRR.ok.bc; have := hn.le; omega
  have hne2 : g ≠ X.c := fun h => hne h.symm
  have y7 := hRR.blk.cell 7
  have y8 := hRR.blk.cell 8
  have f7 := hRR.blk.frozen 7
  have f8 := hRR.blk.frozen 8
  simp at y7 y8
  have HX := hid (bnd_ne hx)
  have HXX := hid hx
  have HPA := hid hPA
  have HR := hid hR
  have HKP := hid hkp
  have FL : Hid (∀ ys s a q, T = false → doneC (withKids n ys) s = .ok (a, q) → 0 < ys.length) := hid (fun ys s a q h1 h2 => by
    have h3 : n.kind = 3 := by
      rcases hk34 with h | h
      · exact h
      · rw [h1, beq_eq_false_iff_ne] at hT
        exact absurd h hT
    unfold doneC formN at h2
    rw [show (withKids n ys).kind = 3 from h3, show (withKids n ys).kids.length = ys.length from rfl] at h2
    by_cases h0 : 0 < ys.length
    · exact h0
    · have h4 : ys.length = 0 := by omega
      rw [h4] at h2
      split at h2
      · cases h2
      · simp [formB] at h2)
  -- behind the first region
  obtain ⟨w1, hw1⟩ : ∃ w1, ((w.setCell ⟨X.c, 7, none⟩ (.bool T)).setCell ⟨X.c, 8, none⟩ (.int .i64 n.ty)).drew = w1 := ⟨_, rfl⟩
  have G1 : w.grownBy w1 (some X.c) := by rw [← hw1]; exact grown_drew (grown_set (grown_set (grown_refl _ _) _ _) _ _)
  have B1 : Blk w1 X.c 101 #[.map (some X.mf), .map (some X.mv), pv, .map (some X.mt), .int .i64 st.gl, .int .i64 st.bo, .int .i64 st.no, .bool T, .int .i64 n.ty] := by
    rw [← hw1]
    have h := ((hRR.blk.set 7 (.bool T)).set 8 (.int .i64 n.ty)).drew
    simpa using h
  have R1 : CkR w1 X F (inB T n st) pv := hRR.upd (st' := inB T n st) G1 B1 rfl rfl rfl rfl
  have N1 := N0.frc HP.out (FrC.c G1) ⟨pv, R1⟩
  have eg := N0.at HP.out (FrC.c (X := X) G1) ⟨pv, R1⟩
  have L0 := hid (LH.start (φ := boI F k R T n.kids.length) (st := inB T n st) N1 (N0.rows HP.out (FrC.c (X := X) G1) ⟨pv, R1⟩ hk) ((World.cell?_of_block (a := ⟨g, o, none⟩) eg).trans c0) ((World.cell?_of_block (a := ⟨g, o + 1, none⟩) eg).trans c1) ((World.cell?_of_block (a := ⟨g, o + 2, none⟩) eg).trans c2) ((World.cell?_of_block (a := ⟨g, o + 3, none⟩) eg).trans c3) ((World.cell?_of_block (a := ⟨g, o + 4, none⟩) eg).trans c4))
  have d4 := (World.cell?_of_block (a := ⟨g, o + 4, none⟩) eg).trans c4
  obtain ⟨L, hL⟩ : ∃ L, n.kids.length = L := ⟨_, rfl⟩
  have HL := hid (And.intro hL trivial)
  rw [hL] at L0 c4 d4 hk HX
  have Lmax := ksI_len hk
  have wl : IntKind.i64.wrap ((L : Int) - 1) = (L : Int) - 1 := by rw [IntKind.wrap_i64]; omega
  have hte0 : (inB T n st).te = T := rfl
  generalize inB T n st = st1 at *
  clear hx hn hB N0 hk hf hPA hR hkp hL G1 B1 R1 N1 eg hRR c2 c3
  clear hk34
  generalize n.kind = kd at *
  go_enter Tryz.func99, Tryz.ntmps99
  go_wp2_with fail
  go_region
  clear c0 c1 c4 y7 y8 f7 f8 hw1 hT
  go_wp2_with fail
  go_loopw [32] (fun i wr => ∃ (j : Nat) (ys : List Nd) (s : Cs), i = .int .i64 j ∧ LH X F g o lo hi w n p c L (boI F k R T L) st1 j ys s wr ∧ s.te = T) (fun i _ => L - (intOf i).toNat)
  case atStart => exact ⟨0, [], st1, rfl, L0.out, hte0⟩
  case round =>
    obtain ⟨j, ys, s, rfl, hh, hte⟩ := hrel
    clear L0 d4 hte0
    have c4 := hh.c4
    have hj := hh.le
    have j0 : (0 : Int) ≤ j := by omega
    by_cases hlt : j < L
    · have j1 : (j : Int) < L := by omega
      obtain ⟨g', x, m, m', rfl, _, hnx, hgg, call, frn, err, step⟩ := hh.next HP.out hlt HX.out
      have FN := hid frn
      have ER := hid err
      have ST := hid step
      have HN := hid hnx
      obtain ⟨pvj, hRj⟩ := hh.ns.a
      have y7 := hRj.blk.cell 7
      simp at y7
      rw [hte] at y7
      clear frn err step hnx hh hRj
      by_cases hb : j + 1 < L ∧ T = false
      · obtain ⟨hb1, hb2⟩ := hb
        subst hb2
        have b1 : (j : Int) < (L : Int) - 1 := by omega
        have e1 : boI F k R false L j = parameterC F k := by
          funext x
          unfold boI
          rw [if_pos ⟨hb1, rfl⟩]
        rw [e1] at ST ER HN
        have CC := hid (call 138 _ HPA.out HN.out)
        have HT := hid (And.intro hte trivial)
        clear call e1 hte
        go_wp2_with (go_at_call 138; refine CC.out.mono ?_; intro e w1 hh; rcases CkT.cases hh HN.out with ⟨e1, hz, rfl, hF⟩ | ⟨y, s', hz, rfl, hN, hA, hF⟩; (case inl => exact ⟨rfl, by unfold bodyM; rw [HL.out.1, bnd_err (ER.out _ hz)]; exact ⟨rfl, (FN.out _ hF).1⟩⟩); have L1 := hid (And.intro (ST.out y s' w1 hz hN hA hF) ((kp_parameter F k x s y s' hz).trans HT.out.1)); clear hz hN hA hF hh CC)
        go_roundw
        case rel => exact ⟨j + 1, ys ++ [y], s', by go_num, L1.out.1, L1.out.2⟩
        case measure => simp [intOf]; omega
      · have e1 : boI F k R T L j = R.block := by
          funext x
          unfold boI
          rw [if_neg hb]
        rw [e1] at ST ER HN
        have CC := hid (call 139 _ HR.out HN.out)
        have HT := hid (And.intro hte trivial)
        clear call e1 hte
        by_cases hb1 : j + 1 < L
        · have hT : T = true := by
            cases T with
            | true => rfl
            | false => exact absurd ⟨hb1, rfl⟩ hb
          subst hT
          have b1 : (j : Int) < (L : Int) - 1 := by omega
          go_wp2_with (go_at_call 139; refine CC.out.mono ?_; intro e w1 hh; rcases CkT.cases hh HN.out with ⟨e1, hz, rfl, hF⟩ | ⟨y, s', hz, rfl, hN, hA, hF⟩; (case inl => exact ⟨rfl, by unfold bodyM; rw [HL.out.1, bnd_err (ER.out _ hz)]; exact ⟨rfl, (FN.out _ hF).1⟩⟩); have L1 := hid (And.intro (ST.out y s' w1 hz hN hA hF) ((HKP.out x s y s' hz).trans HT.out.1)); clear hz hN hA hF hh CC)
          go_roundw
          case rel => exact ⟨j + 1, ys ++ [y], s', by go_num, L1.out.1, L1.out.2⟩
          case measure => simp [intOf]; omega
        · have b1 : ¬ (j : Int) < (L : Int) - 1 := by omega
          clear y7 hb
          go_wp2_with (go_at_call 139; refine CC.out.mono ?_; intro e w1 hh; rcases CkT.cases hh HN.out with ⟨e1, hz, rfl, hF⟩ | ⟨y, s', hz, rfl, hN, hA, hF⟩; (case inl => exact ⟨rfl, by unfold bodyM; rw [HL.out.1, bnd_err (ER.out _ hz)]; exact ⟨rfl, (FN.out _ hF).1⟩⟩); have L1 := hid (And.intro (ST.out y s' w1 hz hN hA hF) ((HKP.out x s y s' hz).trans HT.out.1)); clear hz hN hA hF hh CC)
          go_roundw
          case rel => exact ⟨j + 1, ys ++ [y], s', by go_num, L1.out.1, L1.out.2⟩
          case measure => simp [intOf]; omega
    · have j1 : ¬ (j : Int) < L := by omega
      have e1 : j = L := by omega
      subst e1
      obtain ⟨z1, z2, z3, z4⟩ := hh.done
      have EQ : Hid (bodyM F k R T n st1 = bodyT T n ys s ∧ True) := hid ⟨by unfold bodyM; rw [HL.out.1, bnd_ok z1], trivial⟩
      have HG : Hid (bodyT T n ys s ≠ .error none) := hid (by rw [← EQ.out.1]; exact HXX.out)
      have N9 := hid z3
      have HT := hid (And.intro hte trivial)
      have HN2 : Hid (forgetC 0 s ≠ .error none) := hid (by have h := HG.out; unfold bodyT at h; exact bnd_ne h)
      have hyl := z2
      clear z1 z2 z3 z4 hh HR HPA HKP hte HX HXX
      cases T with
      | true =>
        clear FL hyl
        go_wp2_with (first
          | (go_at_call 140; refine (forget_any 0 _ N9.out.a HN2.out).mono ?_; intro e w2 hh; rcases CkP.cases hh HN2.out with ⟨e1, hz, rfl, hF⟩ | ⟨t, s2, v, hz, rfl, hv, hA, hF⟩; (case inl => exact ⟨rfl, by rw [EQ.out.1]; unfold bodyT; rw [bnd_err hz]; exact ⟨rfl, N9.out.bad HP.out hF⟩⟩); have hv' : v = .tuple #[] := hv; subst hv'; have HZ2 := hid (And.intro hz ((kp_forget 0 s t s2 hz).trans HT.out.1)); have N2 := hid (N9.out.frc HP.out hF hA); obtain ⟨p2', c2', d0, d1, d2, d3, d4, hk2, hf2⟩ := N2.out.cells; have HN3 : Hid (doneC (withKids n ys) s2 ≠ .error none) := hid (by have h := HG.out; unfold bodyT at h; rw [bnd_ok hz] at h; exact bnd_ne h); clear hz hA hF hh hk2 c4)
          | (go_at_call 136; refine (done_any (withKids n ys) p2' c2' _ N2.out.a HN3.out).mono ?_; intro e w3 hh; rcases CkP.cases hh HN3.out with ⟨e1, hz, rfl, hF⟩ | ⟨t, s3, v, hz, rfl, hv, hA, hF⟩; (case inl => exact ⟨rfl, by rw [EQ.out.1]; unfold bodyT; rw [bnd_ok HZ2.out.1, bnd_err hz]; exact ⟨rfl, N2.out.bad HP.out hF⟩⟩); have hv' : v = .tuple #[] := hv; subst hv'; have HZ3 := hid (And.intro hz ((kp_done _ s2 t s3 hz).trans HZ2.out.2)); have N3 := hid (N2.out.frc HP.out hF hA); obtain ⟨pv3, hR3⟩ := hA; have y5 := hR3.blk.cell 5; have x5 := hR3.blk.frozen 5; have y7 := hR3.blk.cell 7; simp at y5 y7; rw [HZ3.out.2] at y7; have hbo : ¬ 1000000 ≤ s3.bo := (fun hh => by have h := HG.out; unfold bodyT at h; rw [bnd_ok HZ2.out.1, bnd_ok hz] at h; refine bnd_ne h ?_; unfold boC; rw [if_pos hh]); have wi : IntKind.i64.wrap ((s3.bo : Int) + 1) = (s3.bo : Int) + 1 := (by rw [IntKind.wrap_i64]; omega); have F4 := hid (FrC.c (X := X) (grown_set (grown_refl w3 (some X.c)) 5 (.int .i64 ((s3.bo : Int) + 1)))); have R4 : Hid (CkR (w3.setCell ⟨X.c, 5, none⟩ (.int .i64 ((s3.bo : Int) + 1))) X F { s3 with bo := s3.bo + 1 } pv3) := hid (hR3.upd (st' := { s3 with bo := s3.bo + 1 }) (grown_set (grown_refl _ (some X.c)) 5 _) (by have := hR3.blk.set 5 (.int .i64 ((s3.bo : Int) + 1)); simpa using this) rfl rfl rfl rfl); have N4 := hid (N3.out.frc HP.out F4.out ⟨pv3, R4.out⟩); have HBO := hid hbo; clear d0 d1 d2 d3 d4 hz hF hh hR3 R4 hbo)
          | (go_at_call 137; refine (limit_any ((s3.bo : Int) + 1) 32 _).mono ?_; rintro e w5 ⟨hh, hw⟩; subst hw; by_cases hm : (32 : Int) < (s3.bo : Int) + 1; (case pos => rw [if_pos hm] at hh; subst hh; exact ⟨rfl, by rw [EQ.out.1]; unfold bodyT; rw [bnd_ok HZ2.out.1, bnd_ok HZ3.out.1, bnd_err (bo_bad HBO.out hm)]; exact ⟨rfl, N3.out.bad HP.out F4.out⟩⟩); rw [if_neg hm] at hh; subst hh; have HZ4 := hid (And.intro (bo_ok HBO.out hm) trivial); clear hm))
        refine bodyPost_ret (v := .tuple #[]) (by simp [results, Tryz.results99, go_sem]) rfl ?_
        rw [EQ.out.1]
        unfold bodyT
        rw [bnd_ok HZ2.out.1, bnd_ok HZ3.out.1, bnd_ok HZ4.out.1, bnd_ok (x := endC true ys) (by unfold endC; rw [if_neg (fun h => absurd h.1 (by decide))]; rfl)]
        exact N4.out.ok
      | false =>
        cases hj0 : j with
        | zero =>
          subst hj0
          go_wp2_with (first
            | (go_at_call 140; refine (forget_any 0 _ N9.out.a HN2.out).mono ?_; intro e w2 hh; rcases CkP.cases hh HN2.out with ⟨e1, hz, rfl, hF⟩ | ⟨t, s2, v, hz, rfl, hv, hA, hF⟩; (case inl => exact ⟨rfl, by rw [EQ.out.1]; unfold bodyT; rw [bnd_err hz]; exact ⟨rfl, N9.out.bad HP.out hF⟩⟩); have hv' : v = .tuple #[] := hv; subst hv'; have HZ2 := hid (And.intro hz ((kp_forget 0 s t s2 hz).trans HT.out.1)); have N2 := hid (N9.out.frc HP.out hF hA); obtain ⟨p2', c2', d0, d1, d2, d3, d4, hk2, hf2⟩ := N2.out.cells; have HN3 : Hid (doneC (withKids n ys) s2 ≠ .error none) := hid (by have h := HG.out; unfold bodyT at h; rw [bnd_ok hz] at h; exact bnd_ne h); clear hz hA hF hh hk2 c4))
          go_at_call 136
          refine (done_any (withKids n ys) p2' c2' _ N2.out.a HN3.out).mono ?_
          intro e w3 hh
          rcases CkP.cases hh HN3.out with ⟨e1, hz, rfl, hF⟩ | ⟨t, s3, v, hz, rfl, hv, hA, hF⟩
          · exact ⟨rfl, by rw [EQ.out.1]; unfold bodyT; rw [bnd_ok HZ2.out.1, bnd_err hz]; exact ⟨rfl, N2.out.bad HP.out hF⟩⟩
          · exact absurd (FL.out _ _ _ _ (by trivial) hz) (by omega)
        | succ m =>
          subst hj0
          clear FL
          obtain ⟨x, hxm⟩ : ∃ x, ys[m]'(by omega) = x := ⟨_, rfl⟩
          have EL : endsL ys = endsB x := endsL_last hyl (by rw [List.getElem?_eq_getElem (by omega), hxm])
          have em : ((m + 1 : Nat) : Int) - 1 = (m : Int) := by omega
          have i1 : (m : Int) < (m : Int) + 1 := by omega
          have i2 : (0 : Int) ≤ (m : Int) := by omega
          have C97 : Hid (∀ W, Calls Tryz.prog 97 #[.int .i64 (124 : Nat)] W fun e w' => e = .panicked (RjV 124) ∧ w' = W) := fun W => reject_any 124 W
          cases hEx : endsB x with
          | false =>
            rw [hEx] at EL
            have HEL := hid (And.intro EL trivial)
            clear EL
            go_wp2_with (first
              | (go_at_call 140; refine (forget_any 0 _ N9.out.a HN2.out).mono ?_; intro e w2 hh; rcases CkP.cases hh HN2.out with ⟨e1, hz, rfl, hF⟩ | ⟨t, s2, v, hz, rfl, hv, hA, hF⟩; (case inl => exact ⟨rfl, by rw [EQ.out.1]; unfold bodyT; rw [bnd_err hz]; exact ⟨rfl, N9.out.bad HP.out hF⟩⟩); have hv' : v = .tuple #[] := hv; subst hv'; have HZ2 := hid (And.intro hz ((kp_forget 0 s t s2 hz).trans HT.out.1)); have N2 := hid (N9.out.frc HP.out hF hA); obtain ⟨p2', c2', d0, d1, d2, d3, d4, hk2, hf2⟩ := N2.out.cells; have HN3 : Hid (doneC (withKids n ys) s2 ≠ .error none) := hid (by have h := HG.out; unfold bodyT at h; rw [bnd_ok hz] at h; exact bnd_ne h); clear hz hA hF hh hk2 c4)
              | (go_at_call 136; refine (done_any (withKids n ys) p2' c2' _ N2.out.a HN3.out).mono ?_; intro e w3 hh; rcases CkP.cases hh HN3.out with ⟨e1, hz, rfl, hF⟩ | ⟨t, s3, v, hz, rfl, hv, hA, hF⟩; (case inl => exact ⟨rfl, by rw [EQ.out.1]; unfold bodyT; rw [bnd_ok HZ2.out.1, bnd_err hz]; exact ⟨rfl, N2.out.bad HP.out hF⟩⟩); have hv' : v = .tuple #[] := hv; subst hv'; have HZ3 := hid (And.intro hz ((kp_done _ s2 t s3 hz).trans HZ2.out.2)); have N3 := hid (N2.out.frc HP.out hF hA); obtain ⟨pv3, hR3⟩ := hA; have y5 := hR3.blk.cell 5; have x5 := hR3.blk.frozen 5; have y7 := hR3.blk.cell 7; simp at y5 y7; rw [HZ3.out.2] at y7; have hbo : ¬ 1000000 ≤ s3.bo := (fun hh => by have h := HG.out; unfold bodyT at h; rw [bnd_ok HZ2.out.1, bnd_ok hz] at h; refine bnd_ne h ?_; unfold boC; rw [if_pos hh]); have wi : IntKind.i64.wrap ((s3.bo : Int) + 1) = (s3.bo : Int) + 1 := (by rw [IntKind.wrap_i64]; omega); have F4 := hid (FrC.c (X := X) (grown_set (grown_refl w3 (some X.c)) 5 (.int .i64 ((s3.bo : Int) + 1)))); have R4 : Hid (CkR (w3.setCell ⟨X.c, 5, none⟩ (.int .i64 ((s3.bo : Int) + 1))) X F { s3 with bo := s3.bo + 1 } pv3) := hid (hR3.upd (st' := { s3 with bo := s3.bo + 1 }) (grown_set (grown_refl _ (some X.c)) 5 _) (by have := hR3.blk.set 5 (.int .i64 ((s3.bo : Int) + 1)); simpa using this) rfl rfl rfl rfl); have N4 := hid (N3.out.frc HP.out F4.out ⟨pv3, R4.out⟩); have HBO := hid hbo; clear d0 d1 d2 d3 d4 hz hF hh hR3 R4 hbo; obtain ⟨p4, c4', d0, d1, d2, d3, d4, hk4, hf4⟩ := N4.out.cells; have HB4 := HP.out.c; have hbc := N4.out.a.ok.bc; have hk5 := hk4.ks (P := fun b => b < X.base) (fun b _ h2 => by omega); obtain ⟨g9, hp9, hlt9, hat9⟩ := hk5.at m (by show m < ys.length; omega); subst hp9; obtain ⟨q9, e0, e1, e2, e3, e4, hkq9⟩ := hat9.cells; have oth : ∀ b i, b ≠ X.c → (w3.setCell ⟨X.c, 5, none⟩ (.int .i64 ((s3.bo : Int) + 1))).cell? ⟨b, i, none⟩ = w3.cell? ⟨b, i, none⟩ := (fun b i hb => World.cell?_setCell_other _ _ _ _ (by intro e; injection e with e _; exact hb e.symm)); have hne9 : g9 ≠ X.c := (by omega); have hne8 : X.c ≠ g9 := (by omega); rw [oth g _ hne2] at d4; rw [Nat.mul_comm 5 m, oth g9 _ hne9] at e0; rw [Nat.mul_comm 5 m, oth g9 _ hne9] at e1; rw [Nat.mul_comm 5 m, oth g9 _ hne9] at e2; rw [Nat.mul_comm 5 m, oth g9 _ hne9] at e3; rw [Nat.mul_comm 5 m, oth g9 _ hne9] at e4; obtain ⟨p9, c9, hq9, _⟩ := hkq9.form; subst hq9; have hd4 : (withKids n ys).kids.length = m + 1 := hyl; rw [hd4] at d4; have CE := hid (ends_any _ _ _ _ _ hkq9); have hxx : (withKids n ys).kids[m] = x := hxm; simp only [hxx] at e0 e1 e2 e3 e4 CE; rw [hEx] at CE; clear d0 d1 d2 d3 hk4 hk5 hat9 hkq9 oth hf4 hlt9)
              | (go_at_call 137; refine (limit_any ((s3.bo : Int) + 1) 32 _).mono ?_; rintro e w5 ⟨hh, hw⟩; subst hw; by_cases hm : (32 : Int) < (s3.bo : Int) + 1; (case pos => rw [if_pos hm] at hh; subst hh; exact ⟨rfl, by rw [EQ.out.1]; unfold bodyT; rw [bnd_ok HZ2.out.1, bnd_ok HZ3.out.1, bnd_err (bo_bad HBO.out hm)]; exact ⟨rfl, N3.out.bad HP.out F4.out⟩⟩); rw [if_neg hm] at hh; subst hh; have HZ4 := hid (And.intro (bo_ok HBO.out hm) trivial); clear hm)
              | (go_at_call 141; refine CE.out.mono ?_; rintro e w6 ⟨rfl, hg⟩; have F6 := hid (FrC.nil (X := X) hg); clear hg CE)
              | (go_at_call 97; refine (C97.out _).mono ?_; rintro e w7 ⟨rfl, hw⟩; replace hw := hw.symm; subst hw; clear C97))
            refine ⟨rfl, ?_⟩
            rw [EQ.out.1]
            unfold bodyT
            rw [bnd_ok HZ2.out.1, bnd_ok HZ3.out.1, bnd_ok HZ4.out.1, bnd_err (x := endC false ys) (e := some 124) (by unfold endC; rw [if_pos ⟨rfl, HEL.out.1⟩]; rfl)]
            exact ⟨rfl, N4.out.bad HP.out F6.out⟩
          | true =>
            rw [hEx] at EL
            have HEL := hid (And.intro EL trivial)
            clear EL C97
            go_wp2_with (first
              | (go_at_call 140; refine (forget_any 0 _ N9.out.a HN2.out).mono ?_; intro e w2 hh; rcases CkP.cases hh HN2.out with ⟨e1, hz, rfl, hF⟩ | ⟨t, s2, v, hz, rfl, hv, hA, hF⟩; (case inl => exact ⟨rfl, by rw [EQ.out.1]; unfold bodyT; rw [bnd_err hz]; exact ⟨rfl, N9.out.bad HP.out hF⟩⟩); have hv' : v = .tuple #[] := hv; subst hv'; have HZ2 := hid (And.intro hz ((kp_forget 0 s t s2 hz).trans HT.out.1)); have N2 := hid (N9.out.frc HP.out hF hA); obtain ⟨p2', c2', d0, d1, d2, d3, d4, hk2, hf2⟩ := N2.out.cells; have HN3 : Hid (doneC (withKids n ys) s2 ≠ .error none) := hid (by have h := HG.out; unfold bodyT at h; rw [bnd_ok hz] at h; exact bnd_ne h); clear hz hA hF hh hk2 c4)
              | (go_at_call 136; refine (done_any (withKids n ys) p2' c2' _ N2.out.a HN3.out).mono ?_; intro e w3 hh; rcases CkP.cases hh HN3.out with ⟨e1, hz, rfl, hF⟩ | ⟨t, s3, v, hz, rfl, hv, hA, hF⟩; (case inl => exact ⟨rfl, by rw [EQ.out.1]; unfold bodyT; rw [bnd_ok HZ2.out.1, bnd_err hz]; exact ⟨rfl, N2.out.bad HP.out hF⟩⟩); have hv' : v = .tuple #[] := hv; subst hv'; have HZ3 := hid (And.intro hz ((kp_done _ s2 t s3 hz).trans HZ2.out.2)); have N3 := hid (N2.out.frc HP.out hF hA); obtain ⟨pv3, hR3⟩ := hA; have y5 := hR3.blk.cell 5; have x5 := hR3.blk.frozen 5; have y7 := hR3.blk.cell 7; simp at y5 y7; rw [HZ3.out.2] at y7; have hbo : ¬ 1000000 ≤ s3.bo := (fun hh => by have h := HG.out; unfold bodyT at h; rw [bnd_ok HZ2.out.1, bnd_ok hz] at h; refine bnd_ne h ?_; unfold boC; rw [if_pos hh]); have wi : IntKind.i64.wrap ((s3.bo : Int) + 1) = (s3.bo : Int) + 1 := (by rw [IntKind.wrap_i64]; omega); have F4 := hid (FrC.c (X := X) (grown_set (grown_refl w3 (some X.c)) 5 (.int .i64 ((s3.bo : Int) + 1)))); have R4 : Hid (CkR (w3.setCell ⟨X.c, 5, none⟩ (.int .i64 ((s3.bo : Int) + 1))) X F { s3 with bo := s3.bo + 1 } pv3) := hid (hR3.upd (st' := { s3 with bo := s3.bo + 1 }) (grown_set (grown_refl _ (some X.c)) 5 _) (by have := hR3.blk.set 5 (.int .i64 ((s3.bo : Int) + 1)); simpa using this) rfl rfl rfl rfl); have N4 := hid (N3.out.frc HP.out F4.out ⟨pv3, R4.out⟩); have HBO := hid hbo; clear d0 d1 d2 d3 d4 hz hF hh hR3 R4 hbo; obtain ⟨p4, c4', d0, d1, d2, d3, d4, hk4, hf4⟩ := N4.out.cells; have HB4 := HP.out.c; have hbc := N4.out.a.ok.bc; have hk5 := hk4.ks (P := fun b => b < X.base) (fun b _ h2 => by omega); obtain ⟨g9, hp9, hlt9, hat9⟩ := hk5.at m (by show m < ys.length; omega); subst hp9; obtain ⟨q9, e0, e1, e2, e3, e4, hkq9⟩ := hat9.cells; have oth : ∀ b i, b ≠ X.c → (w3.setCell ⟨X.c, 5, none⟩ (.int .i64 ((s3.bo : Int) + 1))).cell? ⟨b, i, none⟩ = w3.cell? ⟨b, i, none⟩ := (fun b i hb => World.cell?_setCell_other _ _ _ _ (by intro e; injection e with e _; exact hb e.symm)); have hne9 : g9 ≠ X.c := (by omega); have hne8 : X.c ≠ g9 := (by omega); rw [oth g _ hne2] at d4; rw [Nat.mul_comm 5 m, oth g9 _ hne9] at e0; rw [Nat.mul_comm 5 m, oth g9 _ hne9] at e1; rw [Nat.mul_comm 5 m, oth g9 _ hne9] at e2; rw [Nat.mul_comm 5 m, oth g9 _ hne9] at e3; rw [Nat.mul_comm 5 m, oth g9 _ hne9] at e4; obtain ⟨p9, c9, hq9, _⟩ := hkq9.form; subst hq9; have hd4 : (withKids n ys).kids.length = m + 1 := hyl; rw [hd4] at d4; have CE := hid (ends_any _ _ _ _ _ hkq9); have hxx : (withKids n ys).kids[m] = x := hxm; simp only [hxx] at e0 e1 e2 e3 e4 CE; rw [hEx] at CE; clear d0 d1 d2 d3 hk4 hk5 hat9 hkq9 oth hf4 hlt9)
              | (go_at_call 137; refine (limit_any ((s3.bo : Int) + 1) 32 _).mono ?_; rintro e w5 ⟨hh, hw⟩; subst hw; by_cases hm : (32 : Int) < (s3.bo : Int) + 1; (case pos => rw [if_pos hm] at hh; subst hh; exact ⟨rfl, by rw [EQ.out.1]; unfold bodyT; rw [bnd_ok HZ2.out.1, bnd_ok HZ3.out.1, bnd_err (bo_bad HBO.out hm)]; exact ⟨rfl, N3.out.bad HP.out F4.out⟩⟩); rw [if_neg hm] at hh; subst hh; have HZ4 := hid (And.intro (bo_ok HBO.out hm) trivial); clear hm)
              | (go_at_call 141; refine CE.out.mono ?_; rintro e w6 ⟨rfl, hg⟩; have N6 := hid (N4.out.grown HP.out hg); clear hg CE))
            refine bodyPost_ret (v := .tuple #[]) (by simp [results, Tryz.results99, go_sem]) rfl ?_
            rw [EQ.out.1]
            unfold bodyT
            rw [bnd_ok HZ2.out.1, bnd_ok HZ3.out.1, bnd_ok HZ4.out.1, bnd_ok (x := endC false ys) (by unfold endC; rw [if_neg (fun h => by rw [HEL.out.1] at h; exact absurd h.2 (by decide))]; rfl)]
            exact N6.out.ok
theorem body_any {X : Xc} {F : Fn} {k : Nat} {R : Rc} (hPA : ElC X F 138 (parameterC F k)) (hR : ElC X F 139 R.block) (hkp : ∀ x, KpT (R.block x)) (n : Nd) (g o lo hi : Nat) (cs : Array Value) (w : World) (st : Cs) (hC : CkA w X F st) (hn : NdI w g o lo hi n) (p1 : X.low ≤ g) (p2 : g < lo) (p3 : hi ≤ X.base) (hB : Blk w g 27 cs) (hx : bodyC F k R n st ≠ .error none) (hk : n.kind = 3 ∨ n.kind = 4) :
    Calls Tryz.prog 99 #[.pointer (some ⟨X.c, 0, none⟩), .pointer (some ⟨g, o, none⟩)] w (CkT X F g o lo hi w (bodyC F k R n st)) := by
  rw [body_eq] at hx ⊢
  exact body_some hPA hR hkp n g o lo hi cs w st hC hn p1 p2 p3 hB _ rfl hk hx
end Ck
end Go.Proofs.YtajoncmmdeahnaaGreatDoor
