/-
  The checker over trees: a function, or a test. The checker over trees: a declaration. The checker: look, with its deferred call. The checker: look. The checker: a new one, and what it knows ahead of all declarations. check.Program as a function of trees; declarations one behind the other; what holds between two of them.
-/
import Derived.Test.YtajoncmmdeahnaaGreatDoorKCm4
import Derived.Defers
import Derived.Recover
import Derived.Test.YtajoncmmdeahnaaGreatDoorKCl3
import Derived.Test.YtajoncmmdeahnaaGreatDoorKCb
namespace Go.Proofs.YtajoncmmdeahnaaGreatDoor
open Go.RowKit
namespace Ck
def boI (F : Fn) (k : Nat) (R : Rc) (T : Bool) (L i : Nat) (x : Nd) : Ck Nd := if i + 1 < L ∧ T = false then parameterC F k x else R.block x
theorem bodyL_eq (F : Fn) (k : Nat) (R : Rc) (T : Bool) : ∀ (l : List Nd) (i L : Nat), i + l.length = L → bodyL F k R T l = mapI (boI F k R T L) i l
  | [], _, _, _ => rfl
  | x :: r, i, L, h => by
    unfold bodyL mapI
    rw [bodyL_eq F k R T r (i + 1) L (by rw [List.length_cons] at h; omega)]
    have e : boI F k R T L i x = if r ≠ [] ∧ T = false then parameterC F k x else R.block x := by
      unfold boI
      cases r with
      | nil =>
        rw [if_neg (fun hh => by have := hh.1; rw [List.length_cons, List.length_nil] at h; omega), if_neg (fun hh => hh.1 rfl)]
      | cons y r =>
        by_cases hT : T = false
        · rw [if_pos ⟨by rw [List.length_cons, List.length_cons] at h; omega, hT⟩, if_pos ⟨by simp, hT⟩]
        · rw [if_neg (fun hh => hT hh.2), if_neg (fun hh => hT hh.2)]
    rw [e]
def boC : Ck Unit := fun st => if 1000000 ≤ st.bo then .error none else (limitC (st.bo + 1) 32) { st with bo := st.bo + 1 }
def endC (T : Bool) (ks : List Nd) : Ck Unit := if T = false ∧ endsL ks = false then rej 124 else pure ()
def bodyT (T : Bool) (n : Nd) (ks : List Nd) : Ck Nd := forgetC 0 >>= fun _ => doneC (withKids n ks) >>= fun _ => boC >>= fun _ => endC T ks >>= fun _ => pure (withKids n ks)
def bodyM (F : Fn) (k : Nat) (R : Rc) (T : Bool) (n : Nd) : Ck Nd := mapI (boI F k R T n.kids.length) 0 n.kids >>= bodyT T n
def inB (T : Bool) (n : Nd) (st : Cs) : Cs := { st with te := T, an := n.ty }
theorem body_eq (F : Fn) (k : Nat) (R : Rc) (n : Nd) (st : Cs) : bodyC F k R n st = bodyM F k R (n.kind == 4) n (inB (n.kind == 4) n st) := by
  unfold bodyC bodyM
  rw [← bodyL_eq F k R _ n.kids 0 n.kids.length (by omega)]
  rfl
theorem bo_bad {st : Cs} (h : ¬ 1000000 ≤ st.bo) (h2 : (32 : Int) < (st.bo : Int) + 1) : boC st = .error (some 125) := by
  unfold boC limitC
  rw [if_neg h, if_pos (by omega)]
  rfl
theorem bo_ok {st : Cs} (h : ¬ 1000000 ≤ st.bo) (h2 : ¬ (32 : Int) < (st.bo : Int) + 1) : boC st = .ok ((), { st with bo := st.bo + 1 }) := by
  unfold boC limitC
  rw [if_neg h, if_neg (by omega)]
  rfl
set_option maxRecDepth 100000 in
set_option maxHeartbeats 4000000 in
theorem body_some {X : Xc} {F : Fn} {k : Nat} {R : Rc} (hPA : ElC X F 138 (parameterC F k)) (hR : ElC X F 139 R.block) (hkp : ∀ x, KpT (R.block x)) (n : Nd) (g o lo hi : Nat) (cs : Array Value) (w : World) (st : Cs) (hC : CkA w X F st) (hn : NdI w g o lo hi n) (p1 : X.low ≤ g) (p2 : g < lo) (p3 : hi ≤ X.base) (hB : Blk w g 27 cs) (T : Bool) (hT : (n.kind == 4) = T) (hk34 : n.kind = 3 ∨ n.kind = 4) (hx : bodyM F k R T n (inB T n st) ≠ .error none) :
    Calls Tryz.prog 99 #[.pointer (some ⟨X.c, 0, none⟩), .pointer (some ⟨g, o, none⟩)] w (CkT X F g o lo hi w (bodyM F k R T n (inB T n st))) := by
  have HP := hid (Pl.mk p1 p2 p3)
  have N0 := NS.start hC hn hB
  obtain ⟨p, c, c0, c1, c2, c3, c4, hk, hf⟩ := N0.cells
  obtain ⟨pv, hRR⟩ := hC
  have hne : X.c ≠ g := by have := hRR.ok.bc; have := hn.le; omega
  have hne2 : g ≠ X.c := fun h => hne h.symm
  have y7 := hRR.blk.cell 7
  have y8 := hRR.blk.cell 8
  have f7 := hRR.blk.frozen 7
  have f8 := hRR.blk.frozen 8
  simp at y7 y8
  have HX := hid (bnd_ne hx)
  have HXX := hid hx
  have HPA := hid hPA
  have HR := hid hR
  have HKP := hid hkp
  have FL : Hid (∀ ys s a q, T = false → doneC (withKids n ys) s = .ok (a, q) → 0 < ys.length) := hid (fun ys s a q h1 h2 => by
    have h3 : n.kind = 3 := by
      rcases hk34 with h | h
      · exact h
      · rw [h1, beq_eq_false_iff_ne] at hT
        exact absurd h hT
    unfold doneC formN at h2
    rw [show (withKids n ys).kind = 3 from h3, show (withKids n ys).kids.length = ys.length from rfl] at h2
    by_cases h0 : 0 < ys.length
    · exact h0
    · have h4 : ys.length = 0 := by omega
      rw [h4] at h2
      split at h2
      · cases h2
      · simp [formB] at h2)
  -- behind the first region
  obtain ⟨w1, hw1⟩ : ∃ w1, ((w.setCell ⟨X.c, 7, none⟩ (.bool T)).setCell ⟨X.c, 8, none⟩ (.int .i64 n.ty)).drew = w1 := ⟨_, rfl⟩
  have G1 : w.grownBy w1 (some X.c) := by rw [← hw1]; exact grown_drew (grown_set (grown_set (grown_refl _ _) _ _) _ _)
  have B1 : Blk w1 X.c 101 #[.map (some X.mf), .map (some X.mv), pv, .map (some X.mt), .int .i64 st.gl, .int .i64 st.bo, .int .i64 st.no, .bool T, .int .i64 n.ty] := by
    rw [← hw1]
    have h := ((hRR.blk.set 7 (.bool T)).set 8 (.int .i64 n.ty)).drew
    simpa using h
  have R1 : CkR w1 X F (inB T n st) pv := hRR.upd (st' := inB T n st) G1 B1 rfl rfl rfl rfl
  have N1 := N0.frc HP.out (FrC.c G1) ⟨pv, R1⟩
  have eg := N0.at HP.out (FrC.c (X := X) G1) ⟨pv, R1⟩
  have L0 := hid (LH.start (φ := boI F k R T n.kids.length) (st := inB T n st) N1 (N0.rows HP.out (FrC.c (X := X) G1) ⟨pv, R1⟩ hk) ((World.cell?_of_block (a := ⟨g, o, none⟩) eg).trans c0) ((World.cell?_of_block (a := ⟨g, o + 1, none⟩) eg).trans c1) ((World.cell?_of_block (a := ⟨g, o + 2, none⟩) eg).trans c2) ((World.cell?_of_block (a := ⟨g, o + 3, none⟩) eg).trans c3) ((World.cell?_of_block (a := ⟨g, o + 4, none⟩) eg).trans c4))
  have d4 := (World.cell?_of_block (a := ⟨g, o + 4, none⟩) eg).trans c4
  obtain ⟨L, hL⟩ : ∃ L, n.kids.length = L := ⟨_, rfl⟩
  have HL := hid (And.intro hL trivial)
  rw [hL] at L0 c4 d4 hk HX
  have Lmax := ksI_len hk
  have wl : IntKind.i64.wrap ((L : Int) - 1) = (L : Int) - 1 := by rw [IntKind.wrap_i64]; omega
  have hte0 : (inB T n st).te = T := rfl
  generalize inB T n st = st1 at *
  clear hx hn hB N0 hk hf hPA hR hkp hL G1 B1 R1 N1 eg hRR c2 c3
  clear hk34
  generalize n.kind = kd at *
  go_enter Tryz.func99, Tryz.ntmps99
  go_wp2_with fail
  go_region
  clear c0 c1 c4 y7 y8 f7 f8 hw1 hT
  go_wp2_with fail
  go_loopw [32] (fun i wr => ∃ (j : Nat) (ys : List Nd) (s : Cs), i = .int .i64 j ∧ LH X F g o lo hi w n p c L (boI F k R T L) st1 j ys s wr ∧ s.te = T) (fun i _ => L - (intOf i).toNat)
  case atStart => exact ⟨0, [], st1, rfl, L0.out, hte0⟩
  case round =>
    obtain ⟨j, ys, s, rfl, hh, hte⟩ := hrel
    clear L0 d4 hte0
    have c4 := hh.c4
    have hj := hh.le
    have j0 : (0 : Int) ≤ j := by omega
    by_cases hlt : j < L
    · have j1 : (j : Int) < L := by omega
      obtain ⟨g', x, m, m', rfl, _, hnx, hgg, call, frn, err, step⟩ := hh.next HP.out hlt HX.out
      have FN := hid frn
      have ER := hid err
      have ST := hid step
      have HN := hid hnx
      obtain ⟨pvj, hRj⟩ := hh.ns.a
      have y7 := hRj.blk.cell 7
      simp at y7
      rw [hte] at y7
      clear frn err step hnx hh hRj
      by_cases hb : j + 1 < L ∧ T = false
      · obtain ⟨hb1, hb2⟩ := hb
        subst hb2
        have b1 : (j : Int) < (L : Int) - 1 := by omega
        have e1 : boI F k R false L j = parameterC F k := by
          funext x
          unfold boI
          rw [if_pos ⟨hb1, rfl⟩]
        rw [e1] at ST ER HN
        have CC := hid (call 138 _ HPA.out HN.out)
        have HT := hid (And.intro hte trivial)
        clear call e1 hte
        go_wp2_with (go_at_call 138; refine CC.out.mono ?_; intro e w1 hh; rcases CkT.cases hh HN.out with ⟨e1, hz, rfl, hF⟩ | ⟨y, s', hz, rfl, hN, hA, hF⟩; (case inl => exact ⟨rfl, by unfold bodyM; rw [HL.out.1, bnd_err (ER.out _ hz)]; exact ⟨rfl, (FN.out _ hF).1⟩⟩); have L1 := hid (And.intro (ST.out y s' w1 hz hN hA hF) ((kp_parameter F k x s y s' hz).trans HT.out.1)); clear hz hN hA hF hh CC)
        go_roundw
        case rel => exact ⟨j + 1, ys ++ [y], s', by go_num, L1.out.1, L1.out.2⟩
        case measure => simp [intOf]; omega
      · have e1 : boI F k R T L j = R.block := by
          funext x
          unfold boI
          rw [if_neg hb]
        rw [e1] at ST ER HN
        have CC := hid (call 139 _ HR.out HN.out)
        have HT := hid (And.intro hte trivial)
        clear call e1 hte
        by_cases hb1 : j + 1 < L
        · have hT : T = true := by
            cases T with
            | true => rfl
            | false => exact absurd ⟨hb1, rfl⟩ hb
          subst hT
          have b1 : (j : Int) < (L : Int) - 1 := by omega
          go_wp2_with (go_at_call 139; refine CC.out.mono ?_; intro e w1 hh; rcases CkT.cases hh HN.out with ⟨e1, hz, rfl, hF⟩ | ⟨y, s', hz, rfl, hN, hA, hF⟩; (case inl => exact ⟨rfl, by unfold bodyM; rw [HL.out.1, bnd_err (ER.out _ hz)]; exact ⟨rfl, (FN.out _ hF).1⟩⟩); have L1 := hid (And.intro (ST.out y s' w1 hz hN hA hF) ((HKP.out x s y s' hz).trans HT.out.1)); clear hz hN hA hF hh CC)
          go_roundw
          case rel => exact ⟨j + 1, ys ++ [y], s', by go_num, L1.out.1, L1.out.2⟩
          case measure => simp [intOf]; omega
        · have b1 : ¬ (j : Int) < (L : Int) - 1 := by omega
          clear y7 hb
          go_wp2_with (go_at_call 139; refine CC.out.mono ?_; intro e w1 hh; rcases CkT.cases hh HN.out with ⟨e1, hz, rfl, hF⟩ | ⟨y, s', hz, rfl, hN, hA, hF⟩; (case inl => exact ⟨rfl, by unfold bodyM; rw [HL.out.1, bnd_err (ER.out _ hz)]; exact ⟨rfl, (FN.out _ hF).1⟩⟩); have L1 := hid (And.intro (ST.out y s' w1 hz hN hA hF) ((HKP.out x s y s' hz).trans HT.out.1)); clear hz hN hA hF hh CC)
          go_roundw
          case rel => exact ⟨j + 1, ys ++ [y], s', by go_num, L1.out.1, L1.out.2⟩
          case measure => simp [intOf]; omega
    · have j1 : ¬ (j : Int) < L := by omega
      have e1 : j = L := by omega
      subst e1
      obtain ⟨z1, z2, z3, z4⟩ := hh.done
      have EQ : Hid (bodyM F k R T n st1 = bodyT T n ys s ∧ True) := hid ⟨by unfold bodyM; rw [HL.out.1, bnd_ok z1], trivial⟩
      have HG : Hid (bodyT T n ys s ≠ .error none) := hid (by rw [← EQ.out.1]; exact HXX.out)
      have N9 := hid z3
      have HT := hid (And.intro hte trivial)
      have HN2 : Hid (forgetC 0 s ≠ .error none) := hid (by have h := HG.out; unfold bodyT at h; exact bnd_ne h)
      have hyl := z2
      clear z1 z2 z3 z4 hh HR HPA HKP hte HX HXX
      cases T with
      | true =>
        clear FL hyl
        go_wp2_with (first
          | (go_at_call 140; refine (forget_any 0 _ N9.out.a HN2.out).mono ?_; intro e w2 hh; rcases CkP.cases hh HN2.out with ⟨e1, hz, rfl, hF⟩ | ⟨t, s2, v, hz, rfl, hv, hA, hF⟩; (case inl => exact ⟨rfl, by rw [EQ.out.1]; unfold bodyT; rw [bnd_err hz]; exact ⟨rfl, N9.out.bad HP.out hF⟩⟩); have hv' : v = .tuple #[] := hv; subst hv'; have HZ2 := hid (And.intro hz ((kp_forget 0 s t s2 hz).trans HT.out.1)); have N2 := hid (N9.out.frc HP.out hF hA); obtain ⟨p2', c2', d0, d1, d2, d3, d4, hk2, hf2⟩ := N2.out.cells; have HN3 : Hid (doneC (withKids n ys) s2 ≠ .error none) := hid (by have h := HG.out; unfold bodyT at h; rw [bnd_ok hz] at h; exact bnd_ne h); clear hz hA hF hh hk2 c4)
          | (go_at_call 136; refine (done_any (withKids n ys) p2' c2' _ N2.out.a HN3.out).mono ?_; intro e w3 hh; rcases CkP.cases hh HN3.out with ⟨e1, hz, rfl, hF⟩ | ⟨t, s3, v, hz, rfl, hv, hA, hF⟩; (case inl => exact ⟨rfl, by rw [EQ.out.1]; unfold bodyT; rw [bnd_ok HZ2.out.1, bnd_err hz]; exact ⟨rfl, N2.out.bad HP.out hF⟩⟩); have hv' : v = .tuple #[] := hv; subst hv'; have HZ3 := hid (And.intro hz ((kp_done _ s2 t s3 hz).trans HZ2.out.2)); have N3 := hid (N2.out.frc HP.out hF hA); obtain ⟨pv3, hR3⟩ := hA; have y5 := hR3.blk.cell 5; have x5 := hR3.blk.frozen 5; have y7 := hR3.blk.cell 7; simp at y5 y7; rw [HZ3.out.2] at y7; have hbo : ¬ 1000000 ≤ s3.bo := (fun hh => by have h := HG.out; unfold bodyT at h; rw [bnd_ok HZ2.out.1, bnd_ok hz] at h; refine bnd_ne h ?_; unfold boC; rw [if_pos hh]); have wi : IntKind.i64.wrap ((s3.bo : Int) + 1) = (s3.bo : Int) + 1 := (by rw [IntKind.wrap_i64]; omega); have F4 := hid (FrC.c (X := X) (grown_set (grown_refl w3 (some X.c)) 5 (.int .i64 ((s3.bo : Int) + 1)))); have R4 : Hid (CkR (w3.setCell ⟨X.c, 5, none⟩ (.int .i64 ((s3.bo : Int) + 1))) X F { s3 with bo := s3.bo + 1 } pv3) := hid (hR3.upd (st' := { s3 with bo := s3.bo + 1 }) (grown_set (grown_refl _ (some X.c)) 5 _) (by have := hR3.blk.set 5 (.int .i64 ((s3.bo : Int) + 1)); simpa using this) rfl rfl rfl rfl); have N4 := hid (N3.out.frc HP.out F4.out ⟨pv3, R4.out⟩); have HBO := hid hbo; clear d0 d1 d2 d3 d4 hz hF hh hR3 R4 hbo)
          | (go_at_call 137; refine (limit_any ((s3.bo : Int) + 1) 32 _).mono ?_; rintro e w5 ⟨hh, hw⟩; subst hw; by_cases hm : (32 : Int) < (s3.bo : Int) + 1; (case pos => rw [if_pos hm] at hh; subst hh; exact ⟨rfl, by rw [EQ.out.1]; unfold bodyT; rw [bnd_ok HZ2.out.1, bnd_ok HZ3.out.1, bnd_err (bo_bad HBO.out hm)]; exact ⟨rfl, N3.out.bad HP.out F4.out⟩⟩); rw [if_neg hm] at hh; subst hh; have HZ4 := hid (And.intro (bo_ok HBO.out hm) trivial); clear hm))
        refine bodyPost_ret (v := .tuple #[]) (by simp [results, Tryz.results99, go_sem]) rfl ?_
        rw [EQ.out.1]
        unfold bodyT
        rw [bnd_ok HZ2.out.1, bnd_ok HZ3.out.1, bnd_ok HZ4.out.1, bnd_ok (x := endC true ys) (by unfold endC; rw [if_neg (fun h => absurd h.1 (by decide))]; rfl)]
        exact N4.out.ok
      | false =>
        cases hj0 : j with
        | zero =>
          subst hj0
          go_wp2_with (first
            | (go_at_call 140; refine (forget_any 0 _ N9.out.a HN2.out).mono ?_; intro e w2 hh; rcases CkP.cases hh HN2.out with ⟨e1, hz, rfl, hF⟩ | ⟨t, s2, v, hz, rfl, hv, hA, hF⟩; (case inl => exact ⟨rfl, by rw [EQ.out.1]; unfold bodyT; rw [bnd_err hz]; exact ⟨rfl, N9.out.bad HP.out hF⟩⟩); have hv' : v = .tuple #[] := hv; subst hv'; have HZ2 := hid (And.intro hz ((kp_forget 0 s t s2 hz).trans HT.out.1)); have N2 := hid (N9.out.frc HP.out hF hA); obtain ⟨p2', c2', d0, d1, d2, d3, d4, hk2, hf2⟩ := N2.out.cells; have HN3 : Hid (doneC (withKids n ys) s2 ≠ .error none) := hid (by have h := HG.out; unfold bodyT at h; rw [bnd_ok hz] at h; exact bnd_ne h); clear hz hA hF hh hk2 c4))
          go_at_call 136
          refine (done_any (withKids n ys) p2' c2' _ N2.out.a HN3.out).mono ?_
          intro e w3 hh
          rcases CkP.cases hh HN3.out with ⟨e1, hz, rfl, hF⟩ | ⟨t, s3, v, hz, rfl, hv, hA, hF⟩
          · exact ⟨rfl, by rw [EQ.out.1]; unfold bodyT; rw [bnd_ok HZ2.out.1, bnd_err hz]; exact ⟨rfl, N2.out.bad HP.out hF⟩⟩
          · exact absurd (FL.out _ _ _ _ (by trivial) hz) (by omega)
        | succ m =>
          subst hj0
          clear FL
          obtain ⟨x, hxm⟩ : ∃ x, ys[m]'(by omega) = x := ⟨_, rfl⟩
          have EL : endsL ys = endsB x := endsL_last hyl (by rw [List.getElem?_eq_getElem (by omega), hxm])
          have em : ((m + 1 : Nat) : Int) - 1 = (m : Int) := by omega
          have i1 : (m : Int) < (m : Int) + 1 := by omega
          have i2 : (0 : Int) ≤ (m : Int) := by omega
          have C97 : Hid (∀ W, Calls Tryz.prog 97 #[.int .i64 (124 : Nat)] W fun e w' => e = .panicked (RjV 124) ∧ w' = W) := fun W => reject_any 124 W
          cases hEx : endsB x with
          | false =>
            rw [hEx] at EL
            have HEL := hid (And.intro EL trivial)
            clear EL
            go_wp2_with (first
              | (go_at_call 140; refine (forget_any 0 _ N9.out.a HN2.out).mono ?_; intro e w2 hh; rcases CkP.cases hh HN2.out with ⟨e1, hz, rfl, hF⟩ | ⟨t, s2, v, hz, rfl, hv, hA, hF⟩; (case inl => exact ⟨rfl, by rw [EQ.out.1]; unfold bodyT; rw [bnd_err hz]; exact ⟨rfl, N9.out.bad HP.out hF⟩⟩); have hv' : v = .tuple #[] := hv; subst hv'; have HZ2 := hid (And.intro hz ((kp_forget 0 s t s2 hz).trans HT.out.1)); have N2 := hid (N9.out.frc HP.out hF hA); obtain ⟨p2', c2', d0, d1, d2, d3, d4, hk2, hf2⟩ := N2.out.cells; have HN3 : Hid (doneC (withKids n ys) s2 ≠ .error none) := hid (by have h := HG.out; unfold bodyT at h; rw [bnd_ok hz] at h; exact bnd_ne h); clear hz hA hF hh hk2 c4)
              | (go_at_call 136; refine (done_any (withKids n ys) p2' c2' _ N2.out.a HN3.out).mono ?_; intro e w3 hh; rcases CkP.cases hh HN3.out with ⟨e1, hz, rfl, hF⟩ | ⟨t, s3, v, hz, rfl, hv, hA, hF⟩; (case inl => exact ⟨rfl, by rw [EQ.out.1]; unfold bodyT; rw [bnd_ok HZ2.out.1, bnd_err hz]; exact ⟨rfl, N2.out.bad HP.out hF⟩⟩); have hv' : v = .tuple #[] := hv; subst hv'; have HZ3 := hid (And.intro hz ((kp_done _ s2 t s3 hz).trans HZ2.out.2)); have N3 := hid (N2.out.frc HP.out hF hA); obtain ⟨pv3, hR3⟩ := hA; have y5 := hR3.blk.cell 5; have x5 := hR3.blk.frozen 5; have y7 := hR3.blk.cell 7; simp at y5 y7; rw [HZ3.out.2] at y7; have hbo : ¬ 1000000 ≤ s3.bo := (fun hh => by have h := HG.out; unfold bodyT at h; rw [bnd_ok HZ2.out.1, bnd_ok hz] at h; refine bnd_ne h ?_; unfold boC; rw [if_pos hh]); have wi : IntKind.i64.wrap ((s3.bo : Int) + 1) = (s3.bo : Int) + 1 := (by rw [IntKind.wrap_i64]; omega); have F4 := hid (FrC.c (X := X) (grown_set (grown_refl w3 (some X.c)) 5 (.int .i64 ((s3.bo : Int) + 1)))); have R4 : Hid (CkR (w3.setCell ⟨X.c, 5, none⟩ (.int .i64 ((s3.bo : Int) + 1))) X F { s3 with bo := s3.bo + 1 } pv3) := hid (hR3.upd (st' := { s3 with bo := s3.bo + 1 }) (grown_set (grown_refl _ (some X.c)) 5 _) (by have := hR3.blk.set 5 (.int .i64 ((s3.bo : Int) + 1)); simpa using this) rfl rfl rfl rfl); have N4 := hid (N3.out.frc HP.out F4.out ⟨pv3, R4.out⟩); have HBO := hid hbo; clear d0 d1 d2 d3 d4 hz hF hh hR3 R4 hbo; obtain ⟨p4, c4', d0, d1, d2, d3, d4, hk4, hf4⟩ := N4.out.cells; have HB4 := HP.out.c; have hbc := N4.out.a.ok.bc; have hk5 := hk4.ks (P := fun b => b < X.base) (fun b _ h2 => by omega); obtain ⟨g9, hp9, hlt9, hat9⟩ := hk5.at m (by show m < ys.length; omega); subst hp9; obtain ⟨q9, e0, e1, e2, e3, e4, hkq9⟩ := hat9.cells; have oth : ∀ b i, b ≠ X.c → (w3.setCell ⟨X.c, 5, none⟩ (.int .i64 ((s3.bo : Int) + 1))).cell? ⟨b, i, none⟩ = w3.cell? ⟨b, i, none⟩ := (fun b i hb => World.cell?_setCell_other _ _ _ _ (by intro e; injection e with e _; exact hb e.symm)); have hne9 : g9 ≠ X.c := (by omega); have hne8 : X.c ≠ g9 := (by omega); rw [oth g _ hne2] at d4; rw [Nat.mul_comm 5 m, oth g9 _ hne9] at e0; rw [Nat.mul_comm 5 m, oth g9 _ hne9] at e1; rw [Nat.mul_comm 5 m, oth g9 _ hne9] at e2; rw [Nat.mul_comm 5 m, oth g9 _ hne9] at e3; rw [Nat.mul_comm 5 m, oth g9 _ hne9] at e4; obtain ⟨p9, c9, hq9, _⟩ := hkq9.form; subst hq9; have hd4 : (withKids n ys).kids.length = m + 1 := hyl; rw [hd4] at d4; have CE := hid (ends_any _ _ _ _ _ hkq9); have hxx : (withKids n ys).kids[m] = x := hxm; simp only [hxx] at e0 e1 e2 e3 e4 CE; rw [hEx] at CE; clear d0 d1 d2 d3 hk4 hk5 hat9 hkq9 oth hf4 hlt9)
              | (go_at_call 137; refine (limit_any ((s3.bo : Int) + 1) 32 _).mono ?_; rintro e w5 ⟨hh, hw⟩; subst hw; by_cases hm : (32 : Int) < (s3.bo : Int) + 1; (case pos => rw [if_pos hm] at hh; subst hh; exact ⟨rfl, by rw [EQ.out.1]; unfold bodyT; rw [bnd_ok HZ2.out.1, bnd_ok HZ3.out.1, bnd_err (bo_bad HBO.out hm)]; exact ⟨rfl, N3.out.bad HP.out F4.out⟩⟩); rw [if_neg hm] at hh; subst hh; have HZ4 := hid (And.intro (bo_ok HBO.out hm) trivial); clear hm)
              | (go_at_call 141; refine CE.out.mono ?_; rintro e w6 ⟨rfl, hg⟩; have F6 := hid (FrC.nil (X := X) hg); clear hg CE)
              | (go_at_call 97; refine (C97.out _).mono ?_; rintro e w7 ⟨rfl, hw⟩; replace hw := hw.symm; subst hw; clear C97))
            refine ⟨rfl, ?_⟩
            rw [EQ.out.1]
            unfold bodyT
            rw [bnd_ok HZ2.out.1, bnd_ok HZ3.out.1, bnd_ok HZ4.out.1, bnd_err (x := endC false ys) (e := some 124) (by unfold endC; rw [if_pos ⟨rfl, HEL.out.1⟩]; rfl)]
            exact ⟨rfl, N4.out.bad HP.out F6.out⟩
          | true =>
            rw [hEx] at EL
            have HEL := hid (And.intro EL trivial)
            clear EL C97
            go_wp2_with (first
              | (go_at_call 140; refine (forget_any 0 _ N9.out.a HN2.out).mono ?_; intro e w2 hh; rcases CkP.cases hh HN2.out with ⟨e1, hz, rfl, hF⟩ | ⟨t, s2, v, hz, rfl, hv, hA, hF⟩; (case inl => exact ⟨rfl, by rw [EQ.out.1]; unfold bodyT; rw [bnd_err hz]; exact ⟨rfl, N9.out.bad HP.out hF⟩⟩); have hv' : v = .tuple #[] := hv; subst hv'; have HZ2 := hid (And.intro hz ((kp_forget 0 s t s2 hz).trans HT.out.1)); have N2 := hid (N9.out.frc HP.out hF hA); obtain ⟨p2', c2', d0, d1, d2, d3, d4, hk2, hf2⟩ := N2.out.cells; have HN3 : Hid (doneC (withKids n ys) s2 ≠ .error none) := hid (by have h := HG.out; unfold bodyT at h; rw [bnd_ok hz] at h; exact bnd_ne h); clear hz hA hF hh hk2 c4)
              | (go_at_call 136; refine (done_any (withKids n ys) p2' c2' _ N2.out.a HN3.out).mono ?_; intro e w3 hh; rcases CkP.cases hh HN3.out with ⟨e1, hz, rfl, hF⟩ | ⟨t, s3, v, hz, rfl, hv, hA, hF⟩; (case inl => exact ⟨rfl, by rw [EQ.out.1]; unfold bodyT; rw [bnd_ok HZ2.out.1, bnd_err hz]; exact ⟨rfl, N2.out.bad HP.out hF⟩⟩); have hv' : v = .tuple #[] := hv; subst hv'; have HZ3 := hid (And.intro hz ((kp_done _ s2 t s3 hz).trans HZ2.out.2)); have N3 := hid (N2.out.frc HP.out hF hA); obtain ⟨pv3, hR3⟩ := hA; have y5 := hR3.blk.cell 5; have x5 := hR3.blk.frozen 5; have y7 := hR3.blk.cell 7; simp at y5 y7; rw [HZ3.out.2] at y7; have hbo : ¬ 1000000 ≤ s3.bo := (fun hh => by have h := HG.out; unfold bodyT at h; rw [bnd_ok HZ2.out.1, bnd_ok hz] at h; refine bnd_ne h ?_; unfold boC; rw [if_pos hh]); have wi : IntKind.i64.wrap ((s3.bo : Int) + 1) = (s3.bo : Int) + 1 := (by rw [IntKind.wrap_i64]; omega); have F4 := hid (FrC.c (X := X) (grown_set (grown_refl w3 (some X.c)) 5 (.int .i64 ((s3.bo : Int) + 1)))); have R4 : Hid (CkR (w3.setCell ⟨X.c, 5, none⟩ (.int .i64 ((s3.bo : Int) + 1))) X F { s3 with bo := s3.bo + 1 } pv3) := hid (hR3.upd (st' := { s3 with bo := s3.bo + 1 }) (grown_set (grown_refl _ (some X.c)) 5 _) (by have := hR3.blk.set 5 (.int .i64 ((s3.bo : Int) + 1)); simpa using this) rfl rfl rfl rfl); have N4 := hid (N3.out.frc HP.out F4.out ⟨pv3, R4.out⟩); have HBO := hid hbo; clear d0 d1 d2 d3 d4 hz hF hh hR3 R4 hbo; obtain ⟨p4, c4', d0, d1, d2, d3, d4, hk4, hf4⟩ := N4.out.cells; have HB4 := HP.out.c; have hbc := N4.out.a.ok.bc; have hk5 := hk4.ks (P := fun b => b < X.base) (fun b _ h2 => by omega); obtain ⟨g9, hp9, hlt9, hat9⟩ := hk5.at m (by show m < ys.length; omega); subst hp9; obtain ⟨q9, e0, e1, e2, e3, e4, hkq9⟩ := hat9.cells; have oth : ∀ b i, b ≠ X.c → (w3.setCell ⟨X.c, 5, none⟩ (.int .i64 ((s3.bo : Int) + 1))).cell? ⟨b, i, none⟩ = w3.cell? ⟨b, i, none⟩ := (fun b i hb => World.cell?_setCell_other _ _ _ _ (by intro e; injection e with e _; exact hb e.symm)); have hne9 : g9 ≠ X.c := (by omega); have hne8 : X.c ≠ g9 := (by omega); rw [oth g _ hne2] at d4; rw [Nat.mul_comm 5 m, oth g9 _ hne9] at e0; rw [Nat.mul_comm 5 m, oth g9 _ hne9] at e1; rw [Nat.mul_comm 5 m, oth g9 _ hne9] at e2; rw [Nat.mul_comm 5 m, oth g9 _ hne9] at e3; rw [Nat.mul_comm 5 m, oth g9 _ hne9] at e4; obtain ⟨p9, c9, hq9, _⟩ := hkq9.form; subst hq9; have hd4 : (withKids n ys).kids.length = m + 1 := hyl; rw [hd4] at d4; have CE := hid (ends_any _ _ _ _ _ hkq9); have hxx : (withKids n ys).kids[m] = x := hxm; simp only [hxx] at e0 e1 e2 e3 e4 CE; rw [hEx] at CE; clear d0 d1 d2 d3 hk4 hk5 hat9 hkq9 oth hf4 hlt9)
              | (go_at_call 137; refine (limit_any ((s3.bo : Int) + 1) 32 _).mono ?_; rintro e w5 ⟨hh, hw⟩; subst hw; by_cases hm : (32 : Int) < (s3.bo : Int) + 1; (case pos => rw [if_pos hm] at hh; subst hh; exact ⟨rfl, by rw [EQ.out.1]; unfold bodyT; rw [bnd_ok HZ2.out.1, bnd_ok HZ3.out.1, bnd_err (bo_bad HBO.out hm)]; exact ⟨rfl, N3.out.bad HP.out F4.out⟩⟩); rw [if_neg hm] at hh; subst hh; have HZ4 := hid (And.intro (bo_ok HBO.out hm) trivial); clear hm)
              | (go_at_call 141; refine CE.out.mono ?_; rintro e w6 ⟨rfl, hg⟩; have N6 := hid (N4.out.grown HP.out hg); clear hg CE))
            refine bodyPost_ret (v := .tuple #[]) (by simp [results, Tryz.results99, go_sem]) rfl ?_
            rw [EQ.out.1]
            unfold bodyT
            rw [bnd_ok HZ2.out.1, bnd_ok HZ3.out.1, bnd_ok HZ4.out.1, bnd_ok (x := endC false ys) (by unfold endC; rw [if_neg (fun h => by rw [HEL.out.1] at h; exact absurd h.2 (by decide))]; rfl)]
            exact N6.out.ok
theorem body_any {X : Xc} {F : Fn} {k : Nat} {R : Rc} (hPA : ElC X F 138 (parameterC F k)) (hR : ElC X F 139 R.block) (hkp : ∀ x, KpT (R.block x)) (n : Nd) (g o lo hi : Nat) (cs : Array Value) (w : World) (st : Cs) (hC : CkA w X F st) (hn : NdI w g o lo hi n) (p1 : X.low ≤ g) (p2 : g < lo) (p3 : hi ≤ X.base) (hB : Blk w g 27 cs) (hx : bodyC F k R n st ≠ .error none) (hk : n.kind = 3 ∨ n.kind = 4) :
    Calls Tryz.prog 99 #[.pointer (some ⟨X.c, 0, none⟩), .pointer (some ⟨g, o, none⟩)] w (CkT X F g o lo hi w (bodyC F k R n st)) := by
  rw [body_eq] at hx ⊢
  exact body_some hPA hR hkp n g o lo hi cs w st hC hn p1 p2 p3 hB _ rfl hk hx
end Ck
end Go.Proofs.YtajoncmmdeahnaaGreatDoor
namespace Go.Proofs.YtajoncmmdeahnaaGreatDoor
open Go.RowKit
namespace Ck
theorem CkR.tak_set {w w' : World} {X : Xc} {F : Fn} {st : Cs} {pv : Value} (h : CkR w X F st pv) (hg : w.grownBy w' (some X.mt)) (f : Fm) (hf : Mp.MapR w' X.mt (st.ops + 1) (iM f)) : CkR w' X F { st with tak := f, ops := st.ops + 1 } pv := by
  have hb := h.ok.bt
  have hl := h.ok.lb
  refine ⟨h.ok, h.blk.kept hg (fun e => h.tak.ne h.blk (Option.some.inj e)), FnsR.frc h (FrC.of hg (fun r e => by injection e with e; exact Or.inr (Or.inr (Or.inl e.symm)))), (h.vars.kept hg (fun e => h.ok.vt (Option.some.inj e))).more (Nat.le_succ _), hf, ?_, h.short, h.gl.keptR hg (fun k e => by injection e with e; omega)⟩
  refine h.row.kept hg ?_
  cases hv : pv.ownBlock with
  | none => exact Or.inl rfl
  | some r =>
    refine Or.inr (fun e => ?_)
    obtain ⟨_, cs, hs⟩ := row_block h.row r hv
    exact h.tak.ne hs (Option.some.inj e)
def tkC (n : Nd) (st : Cs) : Cs := { st with tak := Mp.upd st.tak n.txt ((st.tak n.txt).getD 0 + 1), ops := st.ops + 1 }
set_option maxRecDepth 100000 in
set_option maxHeartbeats 2000000 in
theorem decl_twice {X : Xc} {F : Fn} {n : Nd} {g o lo hi : Nat} {cs : Array Value} {w : World} {st : Cs} (hC : CkA w X F st) (hn : NdI w g o lo hi n) (hB : Blk w g 27 cs) (hk : n.kind = 2 ∨ n.kind = 3 ∨ n.kind = 4) (hs : n.txt.size ≤ 1000000) (hv : 0 < (st.tak n.txt).getD 0) :
    Calls Tryz.prog 55 #[.pointer (some ⟨X.c, 0, none⟩), .pointer (some ⟨g, o, none⟩)] w (CkT X F g o lo hi w (.error (some 120))) := by
  obtain ⟨p, c, c0, c1, c2, c3, c4, _, hf⟩ := (NS.start hC hn hB).cells
  obtain ⟨pv, hR⟩ := hC
  have y3 := hR.blk.cell 3
  simp at y3
  have GD := grown_drew (grown_refl w none)
  have L5 := (hR.kept GD).tak.look1 Tryz.underlying99 (zero3 w.drew) n.txt (Nat.le_trans hs maxLen_ge)
  have eV : (iM st.tak n.txt).getD (.int .i64 0) = .int .i64 ((st.tak n.txt).getD 0) := by
    unfold iM
    cases st.tak n.txt <;> rfl
  rw [eV] at L5
  have HF := hid (FrN.refl X g o lo hi w.drew)
  have FD : Hid (FrN X g o lo hi w w.drew) := hid ⟨rfl, rfl, rfl, Nat.le_refl _, fun _ _ _ _ _ _ _ _ => rfl, fun _ _ => rfl, fun _ cs h => ⟨cs, h, rfl⟩⟩
  have C97 : Hid (∀ W, Calls Tryz.prog 97 #[.int .i64 (120 : Nat)] W fun e w' => e = .panicked (RjV 120) ∧ w' = W) := fun W => reject_any 120 W
  generalize (st.tak n.txt).getD 0 = V at *
  clear hn hB hf c1 c3 c4 hR eV HF hs
  rcases hk with h | h | h
  all_goals
    rw [h] at c0
    clear h
    go_enter Tryz.func55, Tryz.ntmps55
    go_wp2_with fail
    go_region
    go_wp2_with (go_at_call 97; refine (C97.out _).mono ?_; rintro e w2 ⟨rfl, hw⟩; replace hw := hw.symm; subst hw; clear C97)
    exact ⟨rfl, rfl, FD.out⟩
set_option maxRecDepth 100000 in
set_option maxHeartbeats 2000000 in
theorem decl_go {X : Xc} {F : Fn} {n : Nd} {g o lo hi : Nat} {cs : Array Value} {w : World} {st : Cs} (x : Rk Nd) (K : Int) (f : Nat) (hKf : (K = 2 ∧ f = 98) ∨ (K = 3 ∧ f = 99) ∨ (K = 4 ∧ f = 99)) (hC : CkA w X F st) (hn : NdI w g o lo hi n) (hp : Pl X g lo hi) (hB : Blk w g 27 cs) (hk : n.kind = K) (hs : n.txt.size ≤ 1000000) (ho : st.ops < 1000000) (hv : ¬ 0 < (st.tak n.txt).getD 0) (hv2 : 0 ≤ (st.tak n.txt).getD 0) (hx : x ≠ .error none)
    (hc : ∀ w1, NS X F g o lo hi w w1 n (tkC n st) → Calls Tryz.prog f #[.pointer (some ⟨X.c, 0, none⟩), .pointer (some ⟨g, o, none⟩)] w1 (CkT X F g o lo hi w1 x)) :
    Calls Tryz.prog 55 #[.pointer (some ⟨X.c, 0, none⟩), .pointer (some ⟨g, o, none⟩)] w (CkT X F g o lo hi w x) := by
  have N0 := hid (NS.start hC hn hB)
  obtain ⟨p, c, c0, c1, c2, c3, c4, _, hf⟩ := N0.out.cells
  obtain ⟨pv, hR⟩ := hC
  have y3 := hR.blk.cell 3
  simp at y3
  have GD := grown_drew (grown_refl w none)
  have GDD := grown_drew (grown_drew (grown_refl w none))
  have L5 := (hR.kept GD).tak.look1 Tryz.underlying99 (zero3 w.drew) n.txt (Nat.le_trans hs maxLen_ge)
  have L7 := (hR.kept GDD).tak.look1 Tryz.underlying99 (zero3 w.drew.drew) n.txt (Nat.le_trans hs maxLen_ge)
  have eV : (iM st.tak n.txt).getD (.int .i64 0) = .int .i64 ((st.tak n.txt).getD 0) := by
    unfold iM
    cases st.tak n.txt <;> rfl
  rw [eV] at L5 L7
  have hz : (st.tak n.txt).getD 0 = 0 := by omega
  rw [hz] at L5 L7
  have RD := hid (hR.kept GDD)
  have SZ := hid (Nat.le_trans hs maxLen_ge)
  have SO := hid (Nat.lt_of_lt_of_le ho maxLen_ge)
  have HP := hid hp
  have HZ := hid (And.intro hz trivial)
  have FD : Hid (FrC X w w.drew.drew) := hid (FrC.nil GDD)
  have UPD : Hid (∀ w1, Mp.MapR w1 X.mt (st.ops + 1) (Mp.upd (iM st.tak) n.txt (.int .i64 1)) → w.drew.drew.grownBy w1 (some X.mt) → CkR w1 X F (tkC n st) pv ∧ FrC X w w1) := hid (fun w1 hm hg => by
    refine ⟨RD.out.tak_set hg _ (hm.congr (fun y => ?_)), FD.out.trans (FrC.of hg (fun r e => by injection e with e; exact Or.inr (Or.inr (Or.inl e.symm))))⟩
    rw [hz]
    unfold iM Mp.upd
    cases Mp.same y n.txt <;> rfl)
  obtain ⟨w1, hrun, hm, hg⟩ := RD.out.tak.store Tryz.underlying99 SO.out n.txt SZ.out (.int .i64 1)
  obtain ⟨r1, r2⟩ := UPD.out w1 hm hg
  have N1 := hid (N0.out.frc HP.out r2 ⟨pv, r1⟩)
  have CC := hid (hc w1 N1.out)
  have eg := N0.out.at HP.out r2 ⟨pv, r1⟩
  have d0 := (World.cell?_of_block (a := ⟨g, o, none⟩) eg).trans c0
  have HX := hid hx
  clear hn hB hf c1 c3 c4 hR eV hs hz hv hv2 ho hp hc GD GDD hx hm hg r1 r2 eg UPD RD
  rcases hKf with ⟨rfl, rfl⟩ | ⟨rfl, rfl⟩ | ⟨rfl, rfl⟩
  all_goals
    rw [hk] at c0 d0
    clear hk
    go_enter Tryz.func55, Tryz.ntmps55
    go_wp2_with fail
    go_region
    go_wp2_with fail
    go_region
    go_wp2_with (first
      | (go_at_call 98; refine CC.out.mono ?_; intro e w2 hh; rcases CkT.cases hh HX.out with ⟨m, hz, rfl, hF⟩ | ⟨y, s', hz, rfl, hN, hA, hF⟩; (case inl => exact ⟨rfl, by rw [hz]; exact ⟨rfl, N1.out.fr.trans hF⟩⟩); have HE := hid (And.intro hz (And.intro hN (And.intro hA (N1.out.fr.trans hF)))); clear hz hN hA hF hh CC)
      | (go_at_call 99; refine CC.out.mono ?_; intro e w2 hh; rcases CkT.cases hh HX.out with ⟨m, hz, rfl, hF⟩ | ⟨y, s', hz, rfl, hN, hA, hF⟩; (case inl => exact ⟨rfl, by rw [hz]; exact ⟨rfl, N1.out.fr.trans hF⟩⟩); have HE := hid (And.intro hz (And.intro hN (And.intro hA (N1.out.fr.trans hF)))); clear hz hN hA hF hh CC))
    go_end0
    rw [HE.out.1]
    exact ⟨rfl, HE.out.2.1, HE.out.2.2.1, HE.out.2.2.2⟩
set_option maxRecDepth 100000 in
set_option maxHeartbeats 2000000 in
theorem decl_bad {X : Xc} {F : Fn} {n : Nd} {g o lo hi : Nat} {cs : Array Value} {w : World} {st : Cs} (hC : CkA w X F st) (hn : NdI w g o lo hi n) (hB : Blk w g 27 cs) (h : ¬ (n.kind = 2 ∨ n.kind = 3 ∨ n.kind = 4)) :
    Calls Tryz.prog 55 #[.pointer (some ⟨X.c, 0, none⟩), .pointer (some ⟨g, o, none⟩)] w (CkT X F g o lo hi w (.error (some 125))) := by
  obtain ⟨p, c, c0, c1, c2, c3, c4, hk, hf⟩ := (NS.start hC hn hB).cells
  have C97 : Hid (∀ W, Calls Tryz.prog 97 #[.int .i64 (125 : Nat)] W fun e w' => e = .panicked (RjV 125) ∧ w' = W) := fun W => reject_any 125 W
  have e2 : (n.kind == 2) = false := by rw [beq_eq_false_iff_ne]; omega
  have e3 : (n.kind == 3) = false := by rw [beq_eq_false_iff_ne]; omega
  have e4 : (n.kind == 4) = false := by rw [beq_eq_false_iff_ne]; omega
  generalize n.kind = kd at *
  clear hk c1 c2 c3 c4 hn h
  go_enter Tryz.func55, Tryz.ntmps55
  go_wp2_with (go_at_call 97; refine (C97.out _).mono ?_; rintro e w2 ⟨rfl, hw⟩; replace hw := hw.symm; subst hw; clear C97)
  exact ⟨rfl, rfl, FrN.refl _ _ _ _ _ _⟩
def declC (F : Fn) (k : Nat) (R : Rc) (n : Nd) : Ck Nd := fun st =>
  if ¬ (n.kind = 2 ∨ n.kind = 3 ∨ n.kind = 4) then .error (some 125)
  else if 1000000 < n.txt.size ∨ 1000000 ≤ st.ops ∨ (st.tak n.txt).getD 0 < 0 then .error none
  else if 0 < (st.tak n.txt).getD 0 then .error (some 120)
  else (if n.kind = 2 then globalC F k n else bodyC F k R n) (tkC n st)
theorem decl_any {X : Xc} {F : Fn} {k : Nat} {R : Rc} (hE : ElC X F 211 (exprC F k)) (hR : ElC X F 139 R.block) (hkp : ∀ x, KpT (R.block x)) : ElC X F 55 (declC F k R) := by
  intro n g o lo hi cs w st hC hn p1 p2 p3 hB hx
  unfold declC at hx ⊢
  by_cases h1 : ¬ (n.kind = 2 ∨ n.kind = 3 ∨ n.kind = 4)
  · rw [if_pos h1]
    exact decl_bad hC hn hB h1
  rw [if_neg h1] at hx ⊢
  by_cases h2 : 1000000 < n.txt.size ∨ 1000000 ≤ st.ops ∨ (st.tak n.txt).getD 0 < 0
  · rw [if_pos h2] at hx
    exact absurd rfl hx
  rw [if_neg h2] at hx ⊢
  replace h1 := Decidable.of_not_not h1
  by_cases h3 : 0 < (st.tak n.txt).getD 0
  · rw [if_pos h3]
    exact decl_twice hC hn hB h1 (by omega) h3
  rw [if_neg h3] at hx ⊢
  by_cases h4 : n.kind = 2
  · rw [if_pos h4] at hx ⊢
    refine decl_go _ 2 98 (Or.inl ⟨rfl, rfl⟩) hC hn ⟨p1, p2, p3⟩ hB h4 (by omega) (by omega) h3 (by omega) hx fun w1 N => ?_
    obtain ⟨cs1, hB1⟩ := N.blk
    exact global_any (constant_any hE) n g o lo hi cs1 w1 _ N.a N.n p1 p2 p3 hB1 hx
  · rw [if_neg h4] at hx ⊢
    have hb : ∀ w1, NS X F g o lo hi w w1 n (tkC n st) → Calls Tryz.prog 99 #[.pointer (some ⟨X.c, 0, none⟩), .pointer (some ⟨g, o, none⟩)] w1 (CkT X F g o lo hi w1 (bodyC F k R n (tkC n st))) := fun w1 N => by
      obtain ⟨cs1, hB1⟩ := N.blk
      exact body_any (parameter_any hE) hR hkp n g o lo hi cs1 w1 _ N.a N.n p1 p2 p3 hB1 hx (by omega)
    rcases h1 with h | h | h
    · exact absurd h h4
    · exact decl_go _ 3 99 (Or.inr (Or.inl ⟨rfl, rfl⟩)) hC hn ⟨p1, p2, p3⟩ hB h (by omega) (by omega) h3 (by omega) hx hb
    · exact decl_go _ 4 99 (Or.inr (Or.inr ⟨rfl, rfl⟩)) hC hn ⟨p1, p2, p3⟩ hB h (by omega) (by omega) h3 (by omega) hx hb
end Ck
end Go.Proofs.YtajoncmmdeahnaaGreatDoor
namespace Go.Proofs.YtajoncmmdeahnaaGreatDoor
open Go.RowKit
namespace Ck
set_option maxRecDepth 100000 in
set_option maxHeartbeats 1000000 in
theorem catch_idle (p0 : Addr) (w : World) :
    CallsD Tryz.prog 54 #[.pointer (some p0)] .returning w fun e u' w' => e = .returned (.tuple #[]) ∧ u' = .returning ∧ w' = w := by
  have hn : ∀ W : World, (binOp BinOp.eql 20 .nilIface .nilIface).run Tryz.prog W = .ok (.bool true) W := fun W => by kernel_rfl
  refine callsD_of_wpS Tryz.func54 rfl fun c₀ cs hu => ?_
  apply wpS_seq
  apply wpS_region
  simp [wpOpsS, go_sem, recoverD, hu, Tryz.ntmps54, Exit.thenS]
  apply wpS_seq
  apply wpS_seq
  apply wpS_region
  simp [wpOpsS, go_sem, hn, Exit.thenS]
  refine wpS_cond (t := true) (by simp [Act.eval]) ?_
  simp only [if_true]
  refine wpS_of_wp (wp_ret ?_)
  simp [Exit.thenS]
  cases c₀
  simp_all [bodyPostS, results, Tryz.results54]
theorem bodyS_normal {P : Program} {fn : Func} {c₀ : Frame} {cs : List Frame} {R : Ending → FrameMode → World → Prop} {a : Act} {u : FrameMode} {w : World} {v : Value} (hd : a.defers = []) (hr : (results fn a.tmps).run P w = .ok v w) (h : R (.returned v) u w) : bodyPostS P fn c₀ cs R .normal a ({ c₀ with mode := u } :: cs) w := ⟨hd, u, rfl, v, hr, h⟩
theorem results_54 (tmps : Array Value) (w : World) : (results Tryz.f54 tmps).run Tryz.prog w = .ok (.tuple #[]) w := by
  simp [results, Tryz.results54, go_sem]
set_option maxRecDepth 100000 in
set_option maxHeartbeats 4000000 in
theorem catch_thrown (b : Nat) (y : Int) (n : Nat) (w : World) (h0 : Blk w b 28 #[.int .i64 y]) :
    CallsD Tryz.prog 54 #[.pointer (some ⟨b, 0, none⟩)] (.panicking (RjV n)) w fun e u' w' => e = .returned (.tuple #[]) ∧ u' = .panicking [{ v := .iface 107 (.agg #[.int .i64 n]), recovered := true }] ∧ w.grownBy w' (some b) ∧ Blk w' b 28 #[.int .i64 n] := by
  have hn : ∀ (W : World) v, (binOp BinOp.eql 20 (.iface 107 v) .nilIface).run Tryz.prog W = .ok (.bool false) W := fun W v => by kernel_rfl
  refine callsD_of_wpS Tryz.func54 rfl fun c₀ cs hu => ?_
  apply wpS_seq
  apply wpS_region
  simp [wpOpsS, go_sem, recoverD, hu, RjV, Tryz.ntmps54, Exit.thenS]
  apply wpS_seq
  apply wpS_seq
  apply wpS_region
  simp [wpOpsS, go_sem, hn, Exit.thenS]
  refine wpS_cond (t := false) (by simp [Act.eval]) ?_
  simp only [Bool.false_eq_true, if_false]
  refine wpS_of_wp (wp_skip ?_)
  simp [Exit.thenS]
  refine wpS_of_wp ?_
  generalize ht : (_ ++ _ : Array Value) = T
  have hT : T = #[(Value.pointer (some ⟨b, 0, none⟩)), (Value.iface 107 (Value.agg #[Value.int IntKind.i64 ↑n])), undef, undef, (Value.iface 107 (Value.agg #[Value.int IntKind.i64 ↑n])), (Value.iface 107 (Value.agg #[Value.int IntKind.i64 ↑n])), (Value.bool false), undef, undef, undef, undef, undef, undef, undef, undef, undef, undef] := by rw [← ht]; rfl
  subst hT
  clear ht hn
  have ha : ∀ (W : World) v, (Instr.typeAssert (.iface 107 v) 20 107 true).run Tryz.prog W = .ok (.tuple #[v, .bool true]) W := fun W v => by kernel_rfl
  have HU := hid hu
  clear hu
  have A0 := hid (h0.alloc (Obj.cells #[Value.int IntKind.i64 ↑n] 107))
  have GW := hid (grown_alloc (grown_refl w (some b)) (Obj.cells #[Value.int IntKind.i64 ↑n] 107))
  have n4 : b ≠ w.heap.size := Nat.ne_of_lt h0.lt
  have S0 := Blk.new w 107 #[Value.int IntKind.i64 ↑n]
  have a0 := A0.out.cell 0
  have a7 := S0.cell 0
  simp at a0 a7
  have z0 := A0.out.frozen 0
  have gA := hid (grown_set GW.out 0 (.int .i64 n))
  have kA := hid (A0.out.set 0 (.int .i64 n))
  clear h0 S0
  go_wp2
  all_goals exact bodyS_normal rfl (results_54 _ _) ⟨rfl, rfl, gA.out, by have := kA.out; simpa using this⟩
end Ck
end Go.Proofs.YtajoncmmdeahnaaGreatDoor
namespace Go.Proofs.YtajoncmmdeahnaaGreatDoor
open Go.RowKit
namespace Ck
theorem blk_ty {w : World} {g : Nat} {t t' : TypeId} {cs cs' : Array Value} (h : Blk w g t cs) (h' : Blk w g t' cs') : t = t' := by
  unfold Blk at h h'
  rw [h] at h'
  injection h' with h'
  injection h' with _ h'
theorem CkR.keptE {w w' : World} {X : Xc} {F : Fn} {st : Cs} {pv : Value} {b : Nat} {cs : Array Value} (h : CkR w X F st pv) (hg : w.grownBy w' (some b)) (hB : Blk w b 28 cs) (h1 : X.low ≤ b) : CkR w' X F st pv := by
  refine ⟨h.ok, h.blk.kept hg (fun e => ?_), h.fns.kept (hg.block _ (by obtain ⟨n, f, q, _⟩ := h.fns; exact q.lt) (fun e => ?_)) (fun i cs q hB' => hB'.kept hg (fun e => ?_)), h.vars.kept hg (fun e => h.vars.ne hB (Option.some.inj e).symm), h.tak.kept hg (fun e => h.tak.ne hB (Option.some.inj e).symm), ?_, h.short, h.gl.keptR hg (fun k e => by injection e with e; omega)⟩
  · have e := Option.some.inj e
    rw [← e] at hB
    exact absurd (blk_ty h.blk hB) (by decide)
  · have e := Option.some.inj e
    obtain ⟨n, f, q, _⟩ := h.fns
    exact q.ne hB e.symm
  · have e := Option.some.inj e
    rw [← e] at hB
    exact absurd (blk_ty hB' hB) (by decide)
  · refine h.row.kept hg ?_
    cases hv : pv.ownBlock with
    | none => exact Or.inl rfl
    | some r =>
      refine Or.inr (fun e => ?_)
      obtain ⟨_, cs', hs⟩ := row_block h.row r hv
      have e := Option.some.inj e
      rw [← e] at hB
      exact absurd (blk_ty hs hB) (by decide)
theorem CkA.keptE {w w' : World} {X : Xc} {F : Fn} {st : Cs} {b : Nat} {cs : Array Value} (h : CkA w X F st) (hg : w.grownBy w' (some b)) (hB : Blk w b 28 cs) (h1 : X.low ≤ b) : CkA w' X F st := by
  obtain ⟨pv, h⟩ := h
  exact ⟨pv, h.keptE hg hB h1⟩
theorem CkA.lts {w : World} {X : Xc} {F : Fn} {st : Cs} (h : CkA w X F st) : X.c < w.heap.size ∧ X.mv < w.heap.size ∧ X.mt < w.heap.size ∧ X.mf < w.heap.size ∧ X.base < w.heap.size := by
  obtain ⟨pv, h⟩ := h
  have h1 := h.blk.lt
  have h2 := h.ok.bc
  obtain ⟨n, f, q, _⟩ := h.fns
  exact ⟨h1, h.vars.lt, h.tak.lt, q.lt, by omega⟩
theorem FrN.cellk {X : Xc} {g o lo hi b : Nat} {w w' : World} {t : TypeId} {cs : Array Value} (h : FrN X g o lo hi w w') (hB : Blk w b t cs) (ht : t ≠ 9) (hc : b ≠ X.c) (hv : b ≠ X.mv) (hm : b ≠ X.mt) (hg : b ≠ g) (hi' : hi ≤ b) : Blk w' b t cs :=
  (h.block b hB.lt hc hv hm (fun _ ⟨cs', hs⟩ => ht (blk_ty hB hs)) (fun ⟨_, q⟩ => by omega) hg).trans hB
theorem FrN.new {X : Xc} {g o lo hi b : Nat} {w w1 w2 : World} (h : FrN X g o lo hi w w1) (hg : w1.grownBy w2 (some b)) (hb : w.heap.size ≤ b) (hgs : g < w.heap.size) : FrN X g o lo hi w w2 := by
  have e : ∀ i, i < w.heap.size → w2.heap[i]? = w1.heap[i]? := fun i hi => hg.block i (Nat.lt_of_lt_of_le hi h.size) (fun e => by injection e with e; omega)
  refine ⟨hg.os.trans h.os, hg.tape.trans h.tape, hg.output.trans h.output, Nat.le_trans h.size hg.size, fun i q1 q2 q3 q4 q5 q6 q7 => (e i q1).trans (h.block i q1 q2 q3 q4 q5 q6 q7), fun j hj => (World.cell?_of_block (e g hgs)).trans (h.cell j hj), fun t cs hB => ?_⟩
  obtain ⟨cs', k1, k2⟩ := h.form t cs hB
  exact ⟨cs', (e g hgs).trans k1, k2⟩
def LkP (X : Xc) (F : Fn) (g o lo hi : Nat) (w : World) (x : Rk Nd) (e : Ending) (w' : World) : Prop := match x with
  | .ok (n, st) => e = .returned (.int .i64 0) ∧ NdI w' g o lo hi n ∧ CkA w' X F st ∧ FrN X g o lo hi w w'
  | .error (some m) => e = .returned (.int .i64 m) ∧ FrN X g o lo hi w w'
  | .error none => True
set_option maxRecDepth 100000 in
set_option maxHeartbeats 2000000 in
theorem look_any {X : Xc} {F : Fn} {φ : Nd → Ck Nd} (hD : ElC X F 55 φ) (x : Nd) (g o lo hi : Nat) (cs : Array Value) (w : World) (st : Cs) (hC : CkA w X F st) (hn : NdI w g o lo hi x) (p1 : X.low ≤ g) (p2 : g < lo) (p3 : hi ≤ X.base) (hB : Blk w g 27 cs) (hx : φ x st ≠ .error none) :
    Calls Tryz.prog 29 #[.pointer (some ⟨X.c, 0, none⟩), .pointer (some ⟨g, o, none⟩)] w (LkP X F g o lo hi w (φ x st)) := by
  obtain ⟨l1, l2, l3, l4, l5⟩ := hC.lts
  have hlh := NdI.le hn
  have GA := grown_alloc (grown_refl w none) (.cells #[.int .i64 0] 28)
  have X0 := hid (Blk.new w 28 #[.int .i64 0])
  have HA := hC.kept GA
  have HN : NdI (w.alloc (.cells #[.int .i64 0] 28)) g o lo hi x := NdI.kept (fun b b1 b2 => GA.block b (by omega) (by simp)) (fun j _ _ => World.cell?_of_block (GA.block g hB.lt (by simp))) hn
  have hg := hB.lt
  have CC := hid (hD x g o lo hi cs (w.alloc (.cells #[.int .i64 0] 28)) st HA HN p1 p2 p3 (hB.kept GA (by simp)) hx)
  have hF0 : FrN X g o lo hi w (w.alloc (.cells #[.int .i64 0] 28)) := ⟨GA.os, GA.tape, GA.output, GA.size, fun i q1 _ _ _ _ _ _ => GA.block i q1 (by simp), fun j _ => World.cell?_of_block (GA.block g hg (by simp)), fun t cs h => ⟨cs, h.kept GA (by simp), rfl⟩⟩
  have F0 := hid hF0
  have K : Hid (∀ w2, FrN X g o lo hi (w.alloc (.cells #[.int .i64 0] 28)) w2 → Blk w2 w.heap.size 28 #[.int .i64 0]) := hid fun w2 h => h.cellk X0.out (by decide) (by omega) (by omega) (by omega) (by omega) (by omega)
  have PB := hid (And.intro hg (show X.low ≤ w.heap.size by have := hC.ok.lb; omega))
  have KB : Hid (hi < w.heap.size) := hid (by omega)
  have hmf : ∀ (fn : Go.Fn) (first cap : Array Value) (w : World), (Instr.makeFunc fn first cap).run Tryz.prog w = .ok (.func fn first cap) w := fun _ _ _ _ => rfl
  rcases hz : φ x st with _ | ⟨y, s'⟩
  · rename_i e0
    rcases e0 with _ | m
    · exact absurd hz hx
    rw [hz] at CC
    clear hz hx hC hn hB HA HN hF0 GA l1 l2 l3 l4 l5 p1 p2 p3 hlh hg
    go_enter_defers Tryz.func29, Tryz.ntmps29
    go_wp2_with (go_at_call 55; refine CC.out.mono ?_; rintro e w2 ⟨rfl, hF⟩; have F2 := hid hF; clear hF CC)
    have X2 := hid (K.out w2 F2.out)
    refine leaves_cons (f := 54) (args := #[.pointer (some ⟨w.heap.size, 0, none⟩)]) (by simp) (by simp [go_sem]) ?_
    refine (catch_thrown w.heap.size _ m _ X2.out).mono ?_
    rintro e u' w6 ⟨rfl, rfl, g6, k0⟩
    have c0 := k0.cell 0
    simp at c0
    refine ⟨.int .i64 m, ?_, rfl, (F0.out.trans F2.out).new g6 (Nat.le_refl _) PB.out.1⟩
    simp [results, Tryz.results29, go_sem, c0]
  · rw [hz] at CC
    clear hz hx hC hn hB HA HN hF0 GA l1 l2 l3 l4 l5 p1 p2 p3 hlh hg
    go_enter_defers Tryz.func29, Tryz.ntmps29
    go_wp2_with (go_at_call 55; refine CC.out.mono ?_; rintro e w2 ⟨rfl, hN, hA, hF⟩; have F2 := hid hF; have X2 := hid (K.out w2 hF); have HE := hid (And.intro hN hA); clear hN hA hF CC; have y0 := X2.out.cell 0; have z0 := X2.out.frozen 0; simp at y0)
    have gA := grown_set (grown_refl w2 (some w.heap.size)) 0 (.int .i64 0)
    have X3 := X2.out.set 0 (.int .i64 0)
    simp at X3
    have E1 : FrN X g o lo hi w (w2.setCell ⟨w.heap.size, 0, none⟩ (.int .i64 0)) := (F0.out.trans F2.out).new gA (Nat.le_refl _) PB.out.1
    have E2 := HE.out.2.keptE gA X2.out PB.out.2
    have E3 : NdI (w2.setCell ⟨w.heap.size, 0, none⟩ (.int .i64 0)) g o lo hi y := NdI.kept (fun b _ b2 => heap_setCell_other _ _ _ _ (by show b ≠ w.heap.size; have := KB.out; omega)) (fun j _ _ => World.cell?_of_block (heap_setCell_other _ _ _ _ (by show g ≠ w.heap.size; have := PB.out.1; omega))) HE.out.1
    refine leaves_cons (f := 54) (args := #[.pointer (some ⟨w.heap.size, 0, none⟩)]) (by simp) (by simp [go_sem]) ?_
    refine (catch_idle _ _).mono ?_
    rintro e u' w9 ⟨rfl, rfl, rfl⟩
    have c0 := X3.cell 0
    simp at c0
    refine ⟨.int .i64 0, ?_, rfl, E3, E2, E1⟩
    simp [results, Tryz.results29, go_sem, c0]
end Ck
end Go.Proofs.YtajoncmmdeahnaaGreatDoor
namespace Go.Proofs.YtajoncmmdeahnaaGreatDoor
open Go.RowKit
namespace Ck
def FnsN (w : World) (base mf m : Nat) (F : Fn) : Prop := ∃ f, Mp.MapR w mf m f ∧ ∀ s, match F s with
  | none => f s = none
  | some (ps, a) => ∃ pa cap, f s = some (.agg #[.slice pa ps.length cap, .int .i64 a]) ∧ ps.length ≤ cap ∧ cap ≤ maxLen ∧ IntR w base pa ps
theorem FnsN.r {w : World} {X : Xc} {m : Nat} {F : Fn} (h : FnsN w X.base X.mf m F) : FnsR w X F := by
  obtain ⟨f, h1, h2⟩ := h
  exact ⟨m, f, h1, h2⟩
theorem FnsN.kept {w w' : World} {base mf m : Nat} {F : Fn} (h : FnsN w base mf m F) (hm : w'.heap[mf]? = w.heap[mf]?) (hk : ∀ g cs, base ≤ g → Blk w g 3 cs → Blk w' g 3 cs) : FnsN w' base mf m F := by
  obtain ⟨f, h1, h2⟩ := h
  refine ⟨f, h1.heap hm, fun s => ?_⟩
  have h3 := h2 s
  cases hF : F s with
  | none => rw [hF] at h3; exact h3
  | some x =>
    rw [hF] at h3
    obtain ⟨pa, cap, e1, e2, e3, e4⟩ := h3
    exact ⟨pa, cap, e1, e2, e3, e4.kept hk⟩
theorem FnsN.more {w : World} {base mf m m' : Nat} {F : Fn} (h : FnsN w base mf m F) (hm : m ≤ m') : FnsN w base mf m' F := by
  obtain ⟨f, h1, h2⟩ := h
  exact ⟨f, h1.more hm, h2⟩
theorem int_row {w : World} {b base : Nat} {pa : Option Addr} {cap : Nat} {ps : List Int} (h : w.ownsRow b 3 1 (.slice pa ps.length cap) ps.length (ps.map (Value.int .i64))) (hb : base ≤ b) : ps.length ≤ cap ∧ cap ≤ maxLen ∧ IntR w base pa ps := by
  obtain ⟨pa', cap', e, h1, h2, _⟩ := Lw.row_form h
  injection e with e1 e2 e3
  subst e3
  refine ⟨h1, h2, ?_⟩
  rcases h.2 with ⟨_, h3⟩ | ⟨g, cap2, cur, e, h3, h4, _, _, _, h5⟩
  · exact Or.inl (List.length_eq_zero_iff.1 h3)
  · injection e with e1 e2 e3
    refine Or.inr ⟨g, cur, e1, Nat.le_trans hb h3, h4, fun i x hx => ?_⟩
    have h6 : (cur.toList.take (ps.length * 1))[i]? = some (Value.int .i64 x) := by
      rw [h5, List.getElem?_map, hx]
      rfl
    rw [List.getElem?_take] at h6
    split at h6
    · rw [Array.getElem?_toList] at h6
      exact h6
    · cases h6
theorem FnsN.store {w : World} {base mf m : Nat} {F : Fn} (h : FnsN w base mf m F) (hm : m < maxLen) (s : ByteArray) (hs : s.size ≤ maxLen) (ps : List Int) (a : Int) (pa : Option Addr) (cap b : Nat) (hb : base ≤ b) (hr : w.ownsRow b 3 1 (.slice pa ps.length cap) ps.length (ps.map (Value.int .i64))) :
    ∃ w', (Instr.mapUpdate 98 (.map (some mf)) (.string s) (.agg #[.slice pa ps.length cap, .int .i64 a])).run Tryz.prog w = .ok () w' ∧ FnsN w' base mf (m + 1) (Mp.upd F s (ps, a)) ∧ w.grownBy w' (some mf) := by
  obtain ⟨f, h1, h2⟩ := h
  obtain ⟨w', k1, k2, k3⟩ := h1.store Tryz.underlying98 hm s hs (.agg #[.slice pa ps.length cap, .int .i64 a])
  have hk : ∀ g cs, Blk w g 3 cs → Blk w' g 3 cs := fun g cs hB => hB.kept k3 (fun e => h1.ne hB (Option.some.inj e))
  obtain ⟨q1, q2, q3⟩ := int_row hr hb
  refine ⟨w', k1, ⟨_, k2, fun x => ?_⟩, k3⟩
  unfold Mp.upd
  cases Mp.same x s with
  | true => exact ⟨pa, cap, rfl, q1, q2, q3.kept (fun g cs _ hB => hk g cs hB)⟩
  | false =>
    have h3 := h2 x
    simp only [Bool.false_eq_true, if_false]
    cases hF : F x with
    | none => rw [hF] at h3; exact h3
    | some z =>
      rw [hF] at h3
      obtain ⟨pa, cap, e1, e2, e3, e4⟩ := h3
      exact ⟨pa, cap, e1, e2, e3, e4.kept (fun g cs _ hB => hk g cs hB)⟩
structure NcW (w : World) (k t : Int) (s : ByteArray) (n : Int) (q : Value) (F : Fn) (V : Fm) (j : Nat) (W : World) : Prop where
  g : w.grownBy W none
  b0 : Blk W w.heap.size 27 #[.int .i64 k, .int .i64 t, .string s, .int .i64 n, q]
  c : Blk W (w.heap.size + 4) 101 #[.map (some (w.heap.size + 1)), .map (some (w.heap.size + 2)), .slice none 0 0, .map (some (w.heap.size + 3)), .int .i64 0, .int .i64 0, .int .i64 0, .bool false, .int .i64 0]
  f : FnsN W w.heap.size (w.heap.size + 1) j F
  v : Mp.MapR W (w.heap.size + 2) j (iM V)
  t : Mp.MapR W (w.heap.size + 3) 0 (fun _ => none)
section
variable {w W W' : World} {k t : Int} {s : ByteArray} {n : Int} {q : Value} {F : Fn} {V : Fm} {j : Nat}
theorem NcW.kept (h : NcW w k t s n q F V j W) (hg : W.grownBy W' none) : NcW w k t s n q F V j W' := by
  refine ⟨grown_none h.g hg, h.b0.kept hg (by simp), h.c.kept hg (by simp), h.f.kept (hg.block _ (by obtain ⟨f, q, _⟩ := h.f; exact q.lt) (by simp)) (fun g cs _ hB => hB.kept hg (by simp)), h.v.kept hg (by simp), h.t.kept hg (by simp)⟩
theorem NcW.more (h : NcW w k t s n q F V j W) : NcW w k t s n q F V (j + 1) W := ⟨h.g, h.b0, h.c, h.f.more (Nat.le_succ _), h.v.more (Nat.le_succ _), h.t⟩
theorem NcW.setV (h : NcW w k t s n q F V j W) (x : ByteArray) (y : Int) (hg : W.grownBy W' (some (w.heap.size + 2))) (hm : Mp.MapR W' (w.heap.size + 2) (j + 1) (Mp.upd (iM V) x (.int .i64 y))) : NcW w k t s n q F (Mp.upd V x y) (j + 1) W' := by
  refine ⟨grown_through h.g hg (by omega), h.b0.kept hg (by simp), h.c.kept hg (by simp), (h.f.kept (hg.block _ (by obtain ⟨f, q, _⟩ := h.f; exact q.lt) (by simp)) (fun g cs _ hB => hB.kept hg (fun e => h.v.ne hB (Option.some.inj e)))).more (Nat.le_succ _), hm.congr (fun z => ?_), h.t.kept hg (by simp)⟩
  unfold iM Mp.upd
  cases Mp.same z x <;> rfl
theorem NcW.setF (h : NcW w k t s n q F V j W) (F' : Fn) (hg : W.grownBy W' (some (w.heap.size + 1))) (hm : FnsN W' w.heap.size (w.heap.size + 1) (j + 1) F') : NcW w k t s n q F' V (j + 1) W' := by
  refine ⟨grown_through h.g hg (by omega), h.b0.kept hg (by simp), h.c.kept hg (by simp), hm, (h.v.kept hg (by simp)).more (Nat.le_succ _), h.t.kept hg (by simp)⟩
end
end Ck
end Go.Proofs.YtajoncmmdeahnaaGreatDoor
namespace Go.Proofs.YtajoncmmdeahnaaGreatDoor
open Go.RowKit
namespace Ck
def declsT (F : Fn) (k : Nat) (R : Rc) : Nat → List Nd → Cs → Except (Option (Nat × Nat)) (List Nd)
  | _, [], _ => .ok []
  | i, x :: r, st => match declC F k R x st with
    | .error none => .error none
    | .error (some e) => if e = 0 then .error none else .error (some (i, e))
    | .ok (y, st2) => match declsT F k R (i + 1) r st2 with
      | .ok l => .ok (y :: l)
      | .error e => .error e
def st0 (ks : List Nd) : Cs := ⟨varsOf ks fun _ => none, [], fun _ => none, 0, 0, 0, false, 0, ks.length⟩
def fn0 (ks : List Nd) : Fn := fnsOf ks fun _ => none
mutual
def okB : Nd → Bool
  | .mk k t s n ks => decide (0 ≤ k) && decide (k ≤ 255) && decide (0 ≤ t) && decide (t ≤ 255) && decide (s.size ≤ 100) && decide (-9223372036854775808 ≤ n) && decide (n ≤ 9223372036854775807) && decide (ks.length ≤ 255) && oksB ks
def oksB : List Nd → Bool
  | [] => true
  | x :: r => okB x && oksB r
end
mutual
theorem okB_ok : ∀ {x : Nd}, okB x = true → x.ok
  | .mk k t s n ks, h => by
    rw [okB] at h
    simp only [Bool.and_eq_true, decide_eq_true_eq] at h
    obtain ⟨⟨⟨⟨⟨⟨⟨⟨h1, h2⟩, h3⟩, h4⟩, h5⟩, h6⟩, h7⟩, h8⟩, h9⟩ := h
    exact ⟨⟨h1, h2, h3, h4, h5, h6, h7⟩, h8, oksB_ok h9⟩
theorem oksB_ok : ∀ {l : List Nd}, oksB l = true → Nd.oks l
  | [], _ => trivial
  | x :: r, h => by
    rw [oksB, Bool.and_eq_true] at h
    exact ⟨okB_ok h.1, oksB_ok h.2⟩
end
def checkT (k : Nat) (n : Nd) : Except (Option (Nat × Nat)) Nd := if okB n = false then .error none else if n.kind ≠ 1 then .error (some (0, 125)) else match formN n with
  | none => .error none
  | some false => .error (some (0, 125))
  | some true => match declsT (fn0 n.kids) k (rc (fn0 n.kids) k k) 0 n.kids (st0 n.kids) with
    | .ok l => .ok (withKids n l)
    | .error e => .error e
def addD (ys : List Nd) (x : Except (Option (Nat × Nat)) (List Nd)) : Except (Option (Nat × Nat)) (List Nd) := match x with
  | .ok l => .ok (ys ++ l)
  | .error e => .error e
structure HalfD (F : Fn) (k : Nat) (R : Rc) (ks : List Nd) (st : Cs) (ys : List Nd) (s : Cs) : Prop where
  eq : declsT F k R 0 ks st = addD ys (declsT F k R ys.length (ks.drop ys.length) s)
section
variable {F : Fn} {k : Nat} {R : Rc} {ks ys : List Nd} {st s s' : Cs} {y : Nd} {e : Nat}
theorem HalfD.zero : HalfD F k R ks st [] st := ⟨by
  rw [List.length_nil, List.drop_zero]
  unfold addD
  cases declsT F k R 0 ks st with
  | error e => rfl
  | ok z => rfl⟩
theorem HalfD.done (h : HalfD F k R ks st ys s) (hl : ks.length ≤ ys.length) : declsT F k R 0 ks st = .ok ys := by
  rw [h.eq, List.drop_eq_nil_of_le hl]
  show addD ys (.ok []) = _
  simp [addD]
theorem HalfD.ne (h : HalfD F k R ks st ys s) (hx : declsT F k R 0 ks st ≠ .error none) (hl : ys.length < ks.length) : declC F k R ks[ys.length] s ≠ .error none := fun e => by
  rw [h.eq, List.drop_eq_getElem_cons hl, declsT, e] at hx
  exact hx rfl
theorem HalfD.err (h : HalfD F k R ks st ys s) (hx : declsT F k R 0 ks st ≠ .error none) (hl : ys.length < ks.length) (he : declC F k R ks[ys.length] s = .error (some e)) : e ≠ 0 ∧ declsT F k R 0 ks st = .error (some (ys.length, e)) := by
  rw [h.eq, List.drop_eq_getElem_cons hl, declsT, he] at hx ⊢
  simp only [] at hx ⊢
  by_cases h0 : e = 0
  · rw [if_pos h0] at hx
    exact absurd rfl hx
  · rw [if_neg h0]
    exact ⟨h0, rfl⟩
theorem HalfD.step (h : HalfD F k R ks st ys s) (hl : ys.length < ks.length) (he : declC F k R ks[ys.length] s = .ok (y, s')) : HalfD F k R ks st (ys ++ [y]) s' := ⟨by
  rw [h.eq, List.drop_eq_getElem_cons hl, declsT, he, List.length_append, List.length_singleton]
  simp only []
  cases declsT F k R (ys.length + 1) (ks.drop (ys.length + 1)) s' with
  | error e => rfl
  | ok z => simp [addD]⟩
end
def Xc.of (low b : Nat) : Xc := ⟨b, low, b + 4, b + 1, b + 2, b + 3⟩
theorem Xc.of_ok (low b : Nat) (h : low ≤ b) : (Xc.of low b).Ok := by
  refine ⟨h, ?_, ?_, ?_, ?_, ?_, ?_, ?_⟩ <;> simp [Xc.of]
theorem NcW.a {w W : World} {k t : Int} {s : ByteArray} {n : Int} {q : Value} {ks : List Nd} {low : Nat} (h : NcW w k t s n q (fn0 ks) (varsOf ks fun _ => none) ks.length W) (hG : Pm.GlB W low) (hl : low ≤ w.heap.size) : CkA W (Xc.of low w.heap.size) (fn0 ks) (st0 ks) := by
  refine ⟨.slice none 0 0, Xc.of_ok _ _ hl, h.c, FnsN.r (X := Xc.of low w.heap.size) h.f, h.v, ?_, World.ownsRow_nil _ _ _ _, (fun s hs => by cases hs), hG⟩
  exact (h.t.more (Nat.zero_le _)).congr (fun _ => rfl)
structure PgI (X : Xc) (F : Fn) (lo hi : Nat) (q : Value) (ks ys : List Nd) (s : Cs) (w wr : World) : Prop where
  a : CkA wr X F s
  ks : KsI wr lo hi q (ys ++ ks.drop ys.length)
  fr : FrI X lo hi w wr
theorem PgI.next {X : Xc} {F : Fn} {lo hi c : Nat} {p : Option Addr} {ks ys : List Nd} {s : Cs} {w wr : World} (h : PgI X F lo hi (.slice p ks.length c) ks ys s w wr) (hl : ys.length < ks.length) (k1 : X.low ≤ lo) (k3 : hi ≤ X.base) : ∃ g m m' cs, p = some ⟨g, 0, none⟩ ∧ Blk wr g 27 cs ∧ X.low ≤ g ∧ g < m ∧ m' ≤ X.base ∧ NdI wr g (5 * ys.length) m m' ks[ys.length] ∧
    (∀ (w' : World), FrN X g (5 * ys.length) m m' wr w' → FrI X lo hi w w') ∧
    ∀ (y : Nd) (s' : Cs) (w' : World), NdI w' g (5 * ys.length) m m' y → CkA w' X F s' → FrN X g (5 * ys.length) m m' wr w' → PgI X F lo hi (.slice p ks.length c) ks (ys ++ [y]) s' w w' := by
  have el : (ys ++ ks.drop ys.length).length = ks.length := by rw [List.length_append, List.length_drop]; omega
  rcases ksI_form (by rw [← el] at h; exact h.ks) with ⟨_, e, _⟩ | ⟨g, cap, cs, e, h1, h2, h3, h4, h5, h6, h7⟩
  · rw [e] at el
    rw [List.length_nil] at el
    omega
  · injection e with e1 e2 e3
    subst e3
    subst e1
    rw [el] at h1 h3 h6
    have H : RowH X F g lo hi ks ys s w wr := ⟨h.a, h7, ⟨cs, h5, h6⟩, h.fr⟩
    obtain ⟨m, m', q1, q2, q3, q4, q5⟩ := H.node hl h4 k3
    refine ⟨g, m, m', cs, rfl, h5, by omega, by omega, by omega, q3, q4, fun y s' w' a1 a2 a3 => ?_⟩
    have H2 := q5 y s' w' a1 a2 a3
    obtain ⟨cs2, b1, b2⟩ := H2.blk
    have el2 : ((ys ++ [y]) ++ ks.drop (ys ++ [y]).length).length = ks.length := by rw [List.length_append, List.length_drop, List.length_append, List.length_singleton]; omega
    refine ⟨H2.a, ?_, H2.fr⟩
    unfold KsI
    rw [el2]
    exact Or.inr ⟨g, c, cs2, rfl, h1, h2, h3, h4, b1, b2, H2.row⟩
theorem KsI.low {w : World} {lo lo' hi : Nat} {q : Value} {ks : List Nd} (h : KsI w lo hi q ks) (hl : lo' ≤ lo) : KsI w lo' hi q ks := by
  rcases h with ⟨e1, e2, e3⟩ | ⟨g', cap, cs, e1, e2, e3, e4, e5, e6⟩
  · exact Or.inl ⟨e1, e2, by omega⟩
  · exact Or.inr ⟨g', cap, cs, e1, e2, e3, e4, by omega, e6⟩
theorem FrI.grown {X : Xc} {lo hi : Nat} {w w5 w6 : World} (h : FrI X lo hi w5 w6) (hG : w.grownBy w5 none) (hX : X.Ok) (h1 : w.heap.size ≤ lo) (h2 : w.heap.size ≤ X.base) : w.grownBy w6 none := by
  have e1 := hX.bc
  have e2 := hX.bv
  have e3 := hX.bt
  refine ⟨h.os.trans hG.os, h.tape.trans hG.tape, h.output.trans hG.output, Nat.le_trans hG.size h.size, fun i hi hn => ?_⟩
  exact (h.block i (Nat.lt_of_lt_of_le hi hG.size) (by omega) (by omega) (by omega) (fun _ => by omega) (by omega)).trans (hG.block i hi hn)
theorem FrI.cells {X : Xc} {lo hi b : Nat} {w5 w6 : World} {t : TypeId} {cs : Array Value} (h : FrI X lo hi w5 w6) (hX : X.Ok) (hB : Blk w5 b t cs) (h1 : b < X.base) (h2 : ¬ (lo ≤ b ∧ b < hi)) : Blk w6 b t cs := (h.same hX h1 hB.lt h2).trans hB
def ChP (w : World) (x : Except (Option (Nat × Nat)) Nd) (e : Ending) (w' : World) : Prop := match x with
  | .ok n => ∃ q hi, e = .returned (.tuple #[.agg #[.int .i64 n.kind, .int .i64 n.ty, .string n.txt, .int .i64 n.num, q], .int .i64 0, .int .i64 0]) ∧ KsI w' w.heap.size hi q n.kids ∧ hi ≤ w'.heap.size ∧ w.grownBy w' none
  | .error (some (a, m)) => e = .returned (.tuple #[Pm.zV, .int .i64 a, .int .i64 m]) ∧ w.grownBy w' none
  | .error none => True
end Ck
end Go.Proofs.YtajoncmmdeahnaaGreatDoor
