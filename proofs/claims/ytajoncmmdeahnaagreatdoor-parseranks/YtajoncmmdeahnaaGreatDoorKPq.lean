/-
  The parser: statement. The parser: otherwise.
-/
import Derived.Test.YtajoncmmdeahnaaGreatDoorKPo
namespace Go.Proofs.YtajoncmmdeahnaaGreatDoor
open Go.RowKit
namespace Pm
set_option maxRecDepth 100000 in
set_option maxHeartbeats 4000000 in
theorem statement_any {b tg cp : Nat} {all : List Tk} {p : Ps} (R : Rc) (w : World) (hP : PsA w b tg cp all p) (hx : statementP R p ≠ .error none)
    (h197 : ∀ q W, PsA W b tg cp all q → R.branches q ≠ .error none → Calls Tryz.prog 197 #[.pointer (some ⟨b, 0, none⟩)] W (PrP (nV W.heap.size) b tg cp all W (R.branches q)))
    (h198 : ∀ q W, PsA W b tg cp all q → loopP R q ≠ .error none → Calls Tryz.prog 198 #[.pointer (some ⟨b, 0, none⟩)] W (PrP (nV W.heap.size) b tg cp all W (loopP R q)))
    (h199 : ∀ (k : Int) q W, PsA W b tg cp all q → lineP R k q ≠ .error none → Calls Tryz.prog 199 #[.pointer (some ⟨b, 0, none⟩), .int .i64 k] W (PrP (nV W.heap.size) b tg cp all W (lineP R k q)))
    (h200 : ∀ q W, PsA W b tg cp all q → namedP R q ≠ .error none → Calls Tryz.prog 200 #[.pointer (some ⟨b, 0, none⟩)] W (PrP (nV W.heap.size) b tg cp all W (namedP R q))) :
    Calls Tryz.prog 166 #[.pointer (some ⟨b, 0, none⟩)] w (PrP (nV w.heap.size) b tg cp all w (statementP R p)) := by
  have hbl := hP.lt
  have htl := hP.tgl
  have X0 := hid (Blk.new w 27 #[.int .i64 0, .int .i64 0, .string ⟨#[]⟩, .int .i64 0, .slice none 0 0])
  have G0 := hid (grown_refl w (some b))
  have P0 := hid hP
  match hw : p.ws with
  | [] => exact absurd (by unfold statementP; rw [bnd_err (nxt_nil hw)]) hx
  | t :: r =>
    have C38 : Hid (∀ W, w.grownBy W none → Calls Tryz.prog 38 #[.pointer (some ⟨b, 0, none⟩)] W fun e w' => e = .returned (.agg #[.int .i64 t.kind, .string ⟨t.s.toArray⟩, .int .i64 t.pl]) ∧ W.grownBy w' none) := fun W hW => next_any W (hP.kept hW) hw
    have f1 := fld1
    have e0 : statementP R p = (if (t.s == wIf) = true then R.branches p else (if (t.s == wFor) = true then loopP R p else (if (t.s == wReturn) = true then lineP R 11 p else (if (t.s == wAssert) = true then lineP R 12 p else (if (t.s == wSkip) = true then skipP p else namedP R p))))) := by
      unfold statementP
      rw [bnd_ok (nxt_eq hw)]
      by_cases k1 : (t.s == wIf) = true
      · rw [if_pos k1, if_pos k1]
      rw [if_neg k1, if_neg k1]
      by_cases k2 : (t.s == wFor) = true
      · rw [if_pos k2, if_pos k2]
      rw [if_neg k2, if_neg k2]
      by_cases k3 : (t.s == wReturn) = true
      · rw [if_pos k3, if_pos k3]
      rw [if_neg k3, if_neg k3]
      by_cases k4 : (t.s == wAssert) = true
      · rw [if_pos k4, if_pos k4]
      rw [if_neg k4, if_neg k4]
      by_cases k5 : (t.s == wSkip) = true
      · rw [if_pos k5, if_pos k5]
      rw [if_neg k5, if_neg k5]
    rw [e0] at hx ⊢
    clear e0 hw hP
    by_cases k1 : (t.s == wIf) = true
    · rw [if_pos k1] at hx ⊢
      have HX := hid hx
      clear hx
      have CX : Hid (∀ q W, PsA W b tg cp all q → R.branches q ≠ .error none → Calls Tryz.prog 197 #[.pointer (some ⟨b, 0, none⟩)] W (PrP (nV W.heap.size) b tg cp all W (R.branches q))) := hid h197
      unfold wIf at k1
      go_enter Tryz.func166, Tryz.ntmps166
      go_wp2_with (first
        | (go_at_call 38; refine (C38.out _ (by repeat (first | exact grown_refl _ _ | refine grown_alloc ?_ _))).mono ?_; rintro e w1 ⟨rfl, g⟩; have P1 := hid (P0.out.kept (grown_none (by repeat (first | exact grown_refl _ _ | refine grown_alloc ?_ _)) g)); have G1 : Hid (w.grownBy w1 (some b)) := hid (grown_b (b := b) (grown_none (by repeat (first | exact grown_refl _ _ | refine grown_alloc ?_ _)) g)); have X1 := hid (X0.out.kept g (by simp)); have s1 := g.size; rw [World.size_alloc] at s1; clear g)
        | (go_at_call 197; refine (CX.out p _ P1.out HX.out).mono ?_; intro e w2 hh0; rcases PrP.cases hh0 HX.out with hh | hh; (case inl => obtain ⟨at_, n, hz, rfl, g⟩ := hh; exact ⟨rfl, by rw [hz]; exact ⟨rfl, grown_bb G1.out g⟩⟩); obtain ⟨a2, q2, v2, hz, rfl, hv, pp, g⟩ := hh; obtain ⟨qs2, rfl, hk⟩ := hv; obtain ⟨ps2, cs2, rfl, _, _, _⟩ := hk.form; have HZ2 := hid (And.intro hz trivial); have P2 := hid pp; have G2 := hid (grown_bb G1.out g); have K2 := hid hk; have X2 := hid (X1.out.kept g (lt_nb hbl _ (by omega))); have s12 := g.size; clear hz pp g hh0)
        | (refine store_nd (.tmp 2) (.tmp 9) rfl rfl w.heap.size X2.out rfl rfl ?_; intro w9 b9 g9; have Z9 := hid b9; have G9 := hid (grown_to G2.out g9 (Nat.le_refl _)); have P9 := hid (P2.out.keptG g9 (by omega) (by omega)); have K9 := hid (K2.out.keptB g9 (by omega)); clear b9 g9))
      refine bodyPost_ret (results_nd rfl _ _ w.heap.size rfl Z9.out) rfl ?_
      rw [HZ2.out.1]
      exact ⟨_, rfl, ⟨_, rfl, K9.out.mono (fun g hg _ => by have h5 : w1.heap.size ≤ g := hg; omega)⟩, P9.out, G9.out⟩
    replace k1 : (t.s == wIf) = false := by simpa using k1
    rw [if_neg (by rw [k1]; decide)] at hx ⊢
    by_cases k2 : (t.s == wFor) = true
    · rw [if_pos k2] at hx ⊢
      have HX := hid hx
      clear hx
      have CX : Hid (∀ q W, PsA W b tg cp all q → loopP R q ≠ .error none → Calls Tryz.prog 198 #[.pointer (some ⟨b, 0, none⟩)] W (PrP (nV W.heap.size) b tg cp all W (loopP R q))) := hid h198
      unfold wIf at k1
      unfold wFor at k2
      go_enter Tryz.func166, Tryz.ntmps166
      go_wp2_with (first
        | (go_at_call 38; refine (C38.out _ (by repeat (first | exact grown_refl _ _ | refine grown_alloc ?_ _))).mono ?_; rintro e w1 ⟨rfl, g⟩; have P1 := hid (P0.out.kept (grown_none (by repeat (first | exact grown_refl _ _ | refine grown_alloc ?_ _)) g)); have G1 : Hid (w.grownBy w1 (some b)) := hid (grown_b (b := b) (grown_none (by repeat (first | exact grown_refl _ _ | refine grown_alloc ?_ _)) g)); have X1 := hid (X0.out.kept g (by simp)); have s1 := g.size; rw [World.size_alloc] at s1; clear g)
        | (go_at_call 198; refine (CX.out p _ P1.out HX.out).mono ?_; intro e w2 hh0; rcases PrP.cases hh0 HX.out with hh | hh; (case inl => obtain ⟨at_, n, hz, rfl, g⟩ := hh; exact ⟨rfl, by rw [hz]; exact ⟨rfl, grown_bb G1.out g⟩⟩); obtain ⟨a2, q2, v2, hz, rfl, hv, pp, g⟩ := hh; obtain ⟨qs2, rfl, hk⟩ := hv; obtain ⟨ps2, cs2, rfl, _, _, _⟩ := hk.form; have HZ2 := hid (And.intro hz trivial); have P2 := hid pp; have G2 := hid (grown_bb G1.out g); have K2 := hid hk; have X2 := hid (X1.out.kept g (lt_nb hbl _ (by omega))); have s12 := g.size; clear hz pp g hh0)
        | (refine store_nd (.tmp 2) (.tmp 13) rfl rfl w.heap.size X2.out rfl rfl ?_; intro w9 b9 g9; have Z9 := hid b9; have G9 := hid (grown_to G2.out g9 (Nat.le_refl _)); have P9 := hid (P2.out.keptG g9 (by omega) (by omega)); have K9 := hid (K2.out.keptB g9 (by omega)); clear b9 g9))
      refine bodyPost_ret (results_nd rfl _ _ w.heap.size rfl Z9.out) rfl ?_
      rw [HZ2.out.1]
      exact ⟨_, rfl, ⟨_, rfl, K9.out.mono (fun g hg _ => by have h5 : w1.heap.size ≤ g := hg; omega)⟩, P9.out, G9.out⟩
    replace k2 : (t.s == wFor) = false := by simpa using k2
    rw [if_neg (by rw [k2]; decide)] at hx ⊢
    by_cases k3 : (t.s == wReturn) = true
    · rw [if_pos k3] at hx ⊢
      have HX := hid hx
      clear hx
      have CX : Hid (∀ q W, PsA W b tg cp all q → lineP R 11 q ≠ .error none → Calls Tryz.prog 199 #[.pointer (some ⟨b, 0, none⟩), .int .i64 11] W (PrP (nV W.heap.size) b tg cp all W (lineP R 11 q))) := hid (h199 11)
      unfold wIf at k1
      unfold wFor at k2
      unfold wReturn at k3
      go_enter Tryz.func166, Tryz.ntmps166
      go_wp2_with (first
        | (go_at_call 38; refine (C38.out _ (by repeat (first | exact grown_refl _ _ | refine grown_alloc ?_ _))).mono ?_; rintro e w1 ⟨rfl, g⟩; have P1 := hid (P0.out.kept (grown_none (by repeat (first | exact grown_refl _ _ | refine grown_alloc ?_ _)) g)); have G1 : Hid (w.grownBy w1 (some b)) := hid (grown_b (b := b) (grown_none (by repeat (first | exact grown_refl _ _ | refine grown_alloc ?_ _)) g)); have X1 := hid (X0.out.kept g (by simp)); have s1 := g.size; rw [World.size_alloc] at s1; clear g)
        | (go_at_call 199; refine (CX.out p _ P1.out HX.out).mono ?_; intro e w2 hh0; rcases PrP.cases hh0 HX.out with hh | hh; (case inl => obtain ⟨at_, n, hz, rfl, g⟩ := hh; exact ⟨rfl, by rw [hz]; exact ⟨rfl, grown_bb G1.out g⟩⟩); obtain ⟨a2, q2, v2, hz, rfl, hv, pp, g⟩ := hh; obtain ⟨qs2, rfl, hk⟩ := hv; obtain ⟨ps2, cs2, rfl, _, _, _⟩ := hk.form; have HZ2 := hid (And.intro hz trivial); have P2 := hid pp; have G2 := hid (grown_bb G1.out g); have K2 := hid hk; have X2 := hid (X1.out.kept g (lt_nb hbl _ (by omega))); have s12 := g.size; clear hz pp g hh0)
        | (refine store_nd (.tmp 2) (.tmp 17) rfl rfl w.heap.size X2.out rfl rfl ?_; intro w9 b9 g9; have Z9 := hid b9; have G9 := hid (grown_to G2.out g9 (Nat.le_refl _)); have P9 := hid (P2.out.keptG g9 (by omega) (by omega)); have K9 := hid (K2.out.keptB g9 (by omega)); clear b9 g9))
      refine bodyPost_ret (results_nd rfl _ _ w.heap.size rfl Z9.out) rfl ?_
      rw [HZ2.out.1]
      exact ⟨_, rfl, ⟨_, rfl, K9.out.mono (fun g hg _ => by have h5 : w1.heap.size ≤ g := hg; omega)⟩, P9.out, G9.out⟩
    replace k3 : (t.s == wReturn) = false := by simpa using k3
    rw [if_neg (by rw [k3]; decide)] at hx ⊢
    by_cases k4 : (t.s == wAssert) = true
    · rw [if_pos k4] at hx ⊢
      have HX := hid hx
      clear hx
      have CX : Hid (∀ q W, PsA W b tg cp all q → lineP R 12 q ≠ .error none → Calls Tryz.prog 199 #[.pointer (some ⟨b, 0, none⟩), .int .i64 12] W (PrP (nV W.heap.size) b tg cp all W (lineP R 12 q))) := hid (h199 12)
      unfold wIf at k1
      unfold wFor at k2
      unfold wReturn at k3
      unfold wAssert at k4
      go_enter Tryz.func166, Tryz.ntmps166
      go_wp2_with (first
        | (go_at_call 38; refine (C38.out _ (by repeat (first | exact grown_refl _ _ | refine grown_alloc ?_ _))).mono ?_; rintro e w1 ⟨rfl, g⟩; have P1 := hid (P0.out.kept (grown_none (by repeat (first | exact grown_refl _ _ | refine grown_alloc ?_ _)) g)); have G1 : Hid (w.grownBy w1 (some b)) := hid (grown_b (b := b) (grown_none (by repeat (first | exact grown_refl _ _ | refine grown_alloc ?_ _)) g)); have X1 := hid (X0.out.kept g (by simp)); have s1 := g.size; rw [World.size_alloc] at s1; clear g)
        | (go_at_call 199; refine (CX.out p _ P1.out HX.out).mono ?_; intro e w2 hh0; rcases PrP.cases hh0 HX.out with hh | hh; (case inl => obtain ⟨at_, n, hz, rfl, g⟩ := hh; exact ⟨rfl, by rw [hz]; exact ⟨rfl, grown_bb G1.out g⟩⟩); obtain ⟨a2, q2, v2, hz, rfl, hv, pp, g⟩ := hh; obtain ⟨qs2, rfl, hk⟩ := hv; obtain ⟨ps2, cs2, rfl, _, _, _⟩ := hk.form; have HZ2 := hid (And.intro hz trivial); have P2 := hid pp; have G2 := hid (grown_bb G1.out g); have K2 := hid hk; have X2 := hid (X1.out.kept g (lt_nb hbl _ (by omega))); have s12 := g.size; clear hz pp g hh0)
        | (refine store_nd (.tmp 2) (.tmp 21) rfl rfl w.heap.size X2.out rfl rfl ?_; intro w9 b9 g9; have Z9 := hid b9; have G9 := hid (grown_to G2.out g9 (Nat.le_refl _)); have P9 := hid (P2.out.keptG g9 (by omega) (by omega)); have K9 := hid (K2.out.keptB g9 (by omega)); clear b9 g9))
      refine bodyPost_ret (results_nd rfl _ _ w.heap.size rfl Z9.out) rfl ?_
      rw [HZ2.out.1]
      exact ⟨_, rfl, ⟨_, rfl, K9.out.mono (fun g hg _ => by have h5 : w1.heap.size ≤ g := hg; omega)⟩, P9.out, G9.out⟩
    replace k4 : (t.s == wAssert) = false := by simpa using k4
    rw [if_neg (by rw [k4]; decide)] at hx ⊢
    by_cases k5 : (t.s == wSkip) = true
    · rw [if_pos k5] at hx ⊢
      have HX := hid hx
      clear hx
      have C43 : Hid (∀ q W, PsA W b tg cp all q → passP q ≠ .error none → Calls Tryz.prog 43 #[.pointer (some ⟨b, 0, none⟩)] W (PrP uV b tg cp all W (passP q))) := fun q W hW h => pass_any W hW h
      have C120 : Hid (∀ q W, PsA W b tg cp all q → wantP [59] q ≠ .error none → Calls Tryz.prog 120 #[.pointer (some ⟨b, 0, none⟩), .string ⟨#[59]⟩] W (PrP uV b tg cp all W (wantP [59] q))) := fun q W hW h => want_any [59] W hW h
      have C42 : Hid (∀ q x k t s n ps l c W, PsA W b tg cp all q → madeP x q ≠ .error none → Calls Tryz.prog 42 #[.pointer (some ⟨b, 0, none⟩), .agg #[.int .i64 k, .int .i64 t, .string s, .int .i64 n, .slice ps l c]] W (PrP (fun _ _ v => v = .agg #[.int .i64 k, .int .i64 t, .string s, .int .i64 n, .slice ps l c]) b tg cp all W (madeP x q))) := fun q x k t s n ps l c W hW h => made_any x k t s n ps l c W hW h
      unfold wIf at k1
      unfold wFor at k2
      unfold wReturn at k3
      unfold wAssert at k4
      unfold wSkip at k5
      go_enter Tryz.func166, Tryz.ntmps166
      go_wp2_with (first
        | (go_at_call 38; refine (C38.out _ (by repeat (first | exact grown_refl _ _ | refine grown_alloc ?_ _))).mono ?_; rintro e w1 ⟨rfl, g⟩; have P1 := hid (P0.out.kept (grown_none (by repeat (first | exact grown_refl _ _ | refine grown_alloc ?_ _)) g)); have G1 : Hid (w.grownBy w1 (some b)) := hid (grown_b (b := b) (grown_none (by repeat (first | exact grown_refl _ _ | refine grown_alloc ?_ _)) g)); have X1 := hid (X0.out.kept g (by simp)); have s1 := g.size; rw [World.size_alloc] at s1; clear g)
        | (go_at_call 43; refine (C43.out p _ P1.out (by have h := HX.out; unfold skipP at h; exact bnd_ne h)).mono ?_; intro e w2 hh0; rcases PrP.cases hh0 (by have h := HX.out; unfold skipP at h; exact bnd_ne h) with hh | hh; (case inl => obtain ⟨at_, n, hz, rfl, g⟩ := hh; exact ⟨rfl, by unfold skipP; rw [bnd_err hz]; exact ⟨rfl, grown_bb G1.out g⟩⟩); obtain ⟨a2, q2, v2, hz, rfl, hv, pp, g⟩ := hh; have hv' : v2 = .tuple #[] := hv; subst hv'; have HZ2 := hid (And.intro hz trivial); have P2 := hid pp; have G2 := hid (grown_bb G1.out g); have X2 := hid (X1.out.kept g (lt_nb hbl _ (by omega))); clear hz pp g hh0)
        | (go_at_call 120; refine (C120.out q2 _ P2.out (by have h := HX.out; unfold skipP at h; rw [bnd_ok HZ2.out.1] at h; exact bnd_ne h)).mono ?_; intro e w3 hh0; rcases PrP.cases hh0 (by have h := HX.out; unfold skipP at h; rw [bnd_ok HZ2.out.1] at h; exact bnd_ne h) with hh | hh; (case inl => obtain ⟨at_, n, hz, rfl, g⟩ := hh; exact ⟨rfl, by unfold skipP; rw [bnd_ok HZ2.out.1, bnd_err hz]; exact ⟨rfl, grown_bb G2.out g⟩⟩); obtain ⟨a3, q3, v3, hz, rfl, hv, pp, g⟩ := hh; have hv' : v3 = .tuple #[] := hv; subst hv'; have HZ3 := hid (And.intro hz trivial); have P3 := hid pp; have G3 := hid (grown_bb G2.out g); have X3 := hid (X2.out.kept g (lt_nb hbl _ (by omega))); clear hz pp g hh0)
        | (go_at_call 42; refine (C42.out q3 (.mk 14 0 ⟨#[]⟩ 0 []) 14 0 ⟨#[]⟩ 0 none 0 0 _ P3.out (by have h := HX.out; unfold skipP at h; rw [bnd_ok HZ2.out.1, bnd_ok HZ3.out.1] at h; exact h)).mono ?_; intro e w4 hh0; rcases PrP.cases hh0 (by have h := HX.out; unfold skipP at h; rw [bnd_ok HZ2.out.1, bnd_ok HZ3.out.1] at h; exact h) with hh | hh; (case inl => obtain ⟨at_, n, hz, rfl, g⟩ := hh; exact ⟨rfl, by unfold skipP; rw [bnd_ok HZ2.out.1, bnd_ok HZ3.out.1, hz]; exact ⟨rfl, grown_bb G3.out g⟩⟩); obtain ⟨a4, q4, v4, hz, rfl, hv, pp, g⟩ := hh; have hv' : v4 = _ := hv; subst hv'; obtain rfl := made_ok hz; have HZ4 := hid (And.intro hz trivial); have P4 := hid pp; have G4 := hid (grown_bb G3.out g); have X4 := hid (X3.out.kept g (lt_nb hbl _ (by omega))); clear hz pp g hh0)
        | (refine store_nd (.tmp 2) (.tmp 30) rfl rfl w.heap.size X4.out rfl rfl ?_; intro w9 b9 g9; have Z9 := hid b9; have G9 := hid (grown_to G4.out g9 (Nat.le_refl _)); have P9 := hid (P4.out.keptG g9 (by omega) (by omega)); clear b9 g9))
      refine bodyPost_ret (results_nd rfl _ _ w.heap.size rfl Z9.out) rfl ?_
      unfold skipP
      rw [bnd_ok HZ2.out.1, bnd_ok HZ3.out.1, HZ4.out.1]
      exact ⟨_, rfl, ⟨_, rfl, KsV.nil _ _⟩, P9.out, G9.out⟩
    replace k5 : (t.s == wSkip) = false := by simpa using k5
    rw [if_neg (by rw [k5]; decide)] at hx ⊢
    have HX := hid hx
    clear hx
    have CX : Hid (∀ q W, PsA W b tg cp all q → namedP R q ≠ .error none → Calls Tryz.prog 200 #[.pointer (some ⟨b, 0, none⟩)] W (PrP (nV W.heap.size) b tg cp all W (namedP R q))) := hid h200
    unfold wIf at k1
    unfold wFor at k2
    unfold wReturn at k3
    unfold wAssert at k4
    unfold wSkip at k5
    go_enter Tryz.func166, Tryz.ntmps166
    go_wp2_with (first
      | (go_at_call 38; refine (C38.out _ (by repeat (first | exact grown_refl _ _ | refine grown_alloc ?_ _))).mono ?_; rintro e w1 ⟨rfl, g⟩; have P1 := hid (P0.out.kept (grown_none (by repeat (first | exact grown_refl _ _ | refine grown_alloc ?_ _)) g)); have G1 : Hid (w.grownBy w1 (some b)) := hid (grown_b (b := b) (grown_none (by repeat (first | exact grown_refl _ _ | refine grown_alloc ?_ _)) g)); have X1 := hid (X0.out.kept g (by simp)); have s1 := g.size; rw [World.size_alloc] at s1; clear g)
      | (go_at_call 200; refine (CX.out p _ P1.out HX.out).mono ?_; intro e w2 hh0; rcases PrP.cases hh0 HX.out with hh | hh; (case inl => obtain ⟨at_, n, hz, rfl, g⟩ := hh; exact ⟨rfl, by rw [hz]; exact ⟨rfl, grown_bb G1.out g⟩⟩); obtain ⟨a2, q2, v2, hz, rfl, hv, pp, g⟩ := hh; obtain ⟨qs2, rfl, hk⟩ := hv; obtain ⟨ps2, cs2, rfl, _, _, _⟩ := hk.form; have HZ2 := hid (And.intro hz trivial); have P2 := hid pp; have G2 := hid (grown_bb G1.out g); have K2 := hid hk; have X2 := hid (X1.out.kept g (lt_nb hbl _ (by omega))); have s12 := g.size; clear hz pp g hh0)
      | (refine store_nd (.tmp 2) (.tmp 32) rfl rfl w.heap.size X2.out rfl rfl ?_; intro w9 b9 g9; have Z9 := hid b9; have G9 := hid (grown_to G2.out g9 (Nat.le_refl _)); have P9 := hid (P2.out.keptG g9 (by omega) (by omega)); have K9 := hid (K2.out.keptB g9 (by omega)); clear b9 g9))
    refine bodyPost_ret (results_nd rfl _ _ w.heap.size rfl Z9.out) rfl ?_
    rw [HZ2.out.1]
    exact ⟨_, rfl, ⟨_, rfl, K9.out.mono (fun g hg _ => by have h5 : w1.heap.size ≤ g := hg; omega)⟩, P9.out, G9.out⟩
end Pm
end Go.Proofs.YtajoncmmdeahnaaGreatDoor
namespace Go.Proofs.YtajoncmmdeahnaaGreatDoor
open Go.RowKit
namespace Pm
set_option maxRecDepth 100000 in
set_option maxHeartbeats 4000000 in
theorem otherwise_any {b tg cp : Nat} {all : List Tk} {p : Ps} (R : Rc) (w : World) (hP : PsA w b tg cp all p) (hx : otherwiseP R p ≠ .error none)
    (h126 : ∀ q W, PsA W b tg cp all q → R.block q ≠ .error none → Calls Tryz.prog 126 #[.pointer (some ⟨b, 0, none⟩)] W (PrP (nV W.heap.size) b tg cp all W (R.block q)))
    (h197 : ∀ q W, PsA W b tg cp all q → R.branches q ≠ .error none → Calls Tryz.prog 197 #[.pointer (some ⟨b, 0, none⟩)] W (PrP (nV W.heap.size) b tg cp all W (R.branches q))) :
    Calls Tryz.prog 232 #[.pointer (some ⟨b, 0, none⟩)] w (PrP (nV w.heap.size) b tg cp all w (otherwiseP R p)) := by
  have hbl := hP.lt
  have htl := hP.tgl
  have X0 := hid (Blk.new w 27 #[.int .i64 0, .int .i64 0, .string ⟨#[]⟩, .int .i64 0, .slice none 0 0])
  have G0 := hid (grown_refl w (some b))
  have P0 := hid hP
  match hw : p.ws with
  | [] => exact absurd (by unfold otherwiseP; rw [bnd_err (sees_nil wIf hw)]) hx
  | t :: r =>
    have C39 : Hid (∀ W, w.grownBy W none → Calls Tryz.prog 39 #[.pointer (some ⟨b, 0, none⟩), .string ⟨#[105, 102]⟩] W fun e w' => e = .returned (.bool (t.s == wIf)) ∧ W.grownBy w' none) := fun W hW => sees_any wIf W (hP.kept hW) hw
    have e0 : otherwiseP R p = if (t.s == wIf) = true then elseIfP R p else R.block p := by
      unfold otherwiseP
      rw [bnd_ok (sees_eq wIf hw)]
      by_cases k : (t.s == wIf) = true
      · rw [if_pos k, if_pos k]
      · rw [if_neg k, if_neg k]
    rw [e0] at hx ⊢
    clear e0 hw hP
    cases k : (t.s == wIf) with
    | false =>
      rw [k] at C39 hx
      rw [if_neg (by decide)] at hx ⊢
      have HX := hid hx
      clear hx k
      have CX : Hid (∀ q W, PsA W b tg cp all q → R.block q ≠ .error none → Calls Tryz.prog 126 #[.pointer (some ⟨b, 0, none⟩)] W (PrP (nV W.heap.size) b tg cp all W (R.block q))) := hid h126
      go_enter Tryz.func232, Tryz.ntmps232
      go_wp2_with (first
        | (go_at_call 39; refine (C39.out _ (by repeat (first | exact grown_refl _ _ | refine grown_alloc ?_ _))).mono ?_; rintro e w1 ⟨rfl, g⟩; have P1 := hid (P0.out.kept (grown_none (by repeat (first | exact grown_refl _ _ | refine grown_alloc ?_ _)) g)); have G1 : Hid (w.grownBy w1 (some b)) := hid (grown_b (b := b) (grown_none (by repeat (first | exact grown_refl _ _ | refine grown_alloc ?_ _)) g)); have X1 := hid (X0.out.kept g (by simp)); have s1 := g.size; rw [World.size_alloc] at s1; clear g)
        | (go_at_call 126; refine (CX.out p _ P1.out HX.out).mono ?_; intro e w2 hh0; rcases PrP.cases hh0 HX.out with hh | hh; (case inl => obtain ⟨at_, n, hz, rfl, g⟩ := hh; exact ⟨rfl, by rw [hz]; exact ⟨rfl, grown_bb G1.out g⟩⟩); obtain ⟨a2, q2, v2, hz, rfl, hv, pp, g⟩ := hh; obtain ⟨qs2, rfl, hk⟩ := hv; obtain ⟨ps2, cs2, rfl, _, _, _⟩ := hk.form; have HZ2 := hid (And.intro hz trivial); have P2 := hid pp; have G2 := hid (grown_bb G1.out g); have K2 := hid hk; have X2 := hid (X1.out.kept g (lt_nb hbl _ (by omega))); have s12 := g.size; clear hz pp g hh0)
        | (refine store_nd (.tmp 2) (.tmp 8) rfl rfl w.heap.size X2.out rfl rfl ?_; intro w9 b9 g9; have Z9 := hid b9; have G9 := hid (grown_to G2.out g9 (Nat.le_refl _)); have P9 := hid (P2.out.keptG g9 (by omega) (by omega)); have K9 := hid (K2.out.keptB g9 (by omega)); clear b9 g9))
      refine bodyPost_ret (results_nd rfl _ _ w.heap.size rfl Z9.out) rfl ?_
      rw [HZ2.out.1]
      exact ⟨_, rfl, ⟨_, rfl, K9.out.mono (fun g hg _ => by have h5 : w1.heap.size ≤ g := hg; omega)⟩, P9.out, G9.out⟩
    | true =>
      rw [k] at C39 hx
      rw [if_pos rfl] at hx ⊢
      have HX := hid hx
      have C197 := hid h197
      have C42 : Hid (∀ q x k t s n ps l c W, PsA W b tg cp all q → madeP x q ≠ .error none → Calls Tryz.prog 42 #[.pointer (some ⟨b, 0, none⟩), .agg #[.int .i64 k, .int .i64 t, .string s, .int .i64 n, .slice ps l c]] W (PrP (fun _ _ v => v = .agg #[.int .i64 k, .int .i64 t, .string s, .int .i64 n, .slice ps l c]) b tg cp all W (madeP x q))) := fun q x k t s n ps l c W hW h => made_any x k t s n ps l c W hW h
      clear hx k h197 h126
      go_enter Tryz.func232, Tryz.ntmps232
      go_wp2_with (first
        | (go_at_call 39; refine (C39.out _ (by repeat (first | exact grown_refl _ _ | refine grown_alloc ?_ _))).mono ?_; rintro e w1 ⟨rfl, g⟩; have P1 := hid (P0.out.kept (grown_none (by repeat (first | exact grown_refl _ _ | refine grown_alloc ?_ _)) g)); have G1 : Hid (w.grownBy w1 (some b)) := hid (grown_b (b := b) (grown_none (by repeat (first | exact grown_refl _ _ | refine grown_alloc ?_ _)) g)); have X1 := hid (X0.out.kept g (by simp)); have s1 := g.size; rw [World.size_alloc] at s1; clear g))
      have Y3 := hid (Blk.new w1 27 #[.int .i64 6, .int .i64 0, .string ⟨#[]⟩, .int .i64 0, .slice none 0 0])
      have P3 := hid (P1.out.kept (grown_alloc (grown_refl w1 none) (.cells #[.int .i64 6, .int .i64 0, .string ⟨#[]⟩, .int .i64 0, .slice none 0 0] 27)))
      have G3 := hid (Loc.grown G1.out ((Loc.refl _ w1).alloc (.cells #[.int .i64 6, .int .i64 0, .string ⟨#[]⟩, .int .i64 0, .slice none 0 0] 27)))
      have X3 := hid (X1.out.alloc (.cells #[.int .i64 6, .int .i64 0, .string ⟨#[]⟩, .int .i64 0, .slice none 0 0] 27))
      generalize w1.alloc (.cells #[.int .i64 6, .int .i64 0, .string ⟨#[]⟩, .int .i64 0, .slice none 0 0] 27) = w3 at *
      have hc2 : w.heap.size ≤ w1.heap.size := G1.out.size
      have hcx := X1.out.lt
      have hc3 := Y3.out.lt
      generalize w1.heap.size = c at *
      have c4 := Y3.out.cell 4
      simp at c4
      have f4 := Y3.out.frozen 4
      have GD : w3.grownBy w3.drew none := grown_drew (grown_refl _ _)
      go_region_law (first
        | (go_simp; go_at_call 197; refine (C197.out p _ (P3.out.kept GD) (by have h := HX.out; unfold elseIfP at h; exact bnd_ne h)).mono ?_; intro e w4 hh0; rcases PrP.cases hh0 (by have h := HX.out; unfold elseIfP at h; exact bnd_ne h) with hh | hh; (case inl => obtain ⟨at_, n, hz, rfl, g⟩ := hh; exact ⟨rfl, by unfold elseIfP; rw [bnd_err hz]; exact ⟨rfl, grown_bb (Loc.grown G3.out ((Loc.refl _ w3).quiet GD)) g⟩⟩); obtain ⟨a4, q4, v4, hz, rfl, hv, pp, g⟩ := hh; obtain ⟨qs4, rfl, hk⟩ := hv; obtain ⟨ps4, cs4, rfl, _, _, _⟩ := hk.form; have HZ4 := hid (And.intro hz trivial); have P4 := hid pp; have G4 := hid (grown_bb (Loc.grown G3.out ((Loc.refl _ w3).quiet GD)) g); have K4 := hid hk; have X4 := hid (X3.out.kept (grown_bb (grown_b GD) g) (lt_nb hbl _ (Nat.le_refl _))); have Y4 := hid (Y3.out.kept (grown_bb (grown_b GD) g) (lt_nb hbl _ hc2)); have hs4 : w3.heap.size ≤ w4.heap.size := (grown_bb (grown_b GD) g).size; have d4 := Y4.out.cell 4; simp at d4; have f5 := Y4.out.frozen 4; have e6 : ∀ o, (w4.alloc o).cell? ⟨c, 4, none⟩ = some (.slice none 0 0) := fun o => (Y4.out.alloc o).cell 4; clear hz pp g hh0)
        | (refine step_nd 25 27 Tryz.underlying25 info27 (.tmp 11) (.tmp 14) rfl rfl (c + 1) (.slice none 0 0) [] a4 (.slice ps4 a4.kids.length cs4) ⟨w4.heap.size, 0, none⟩ 1 (Kb.nil _ _ _) (NdC.new w4 27 a4 _) ((K4.out.mono (fun g hg _ => ⟨by have h9 : w3.drew.heap.size = w3.heap.size := rfl; omega, by simp [Value.ownBlock]⟩)).kept (grown_alloc (grown_refl w4 none) _)) (by simp) (by rw [World.size_alloc]; omega) rfl rfl ?_; intro v5 w5 h5 g5; have KB5 := hid h5; have g5' : w4.grownBy w5 none := grown_none (grown_alloc (grown_refl w4 none) _) g5; have P5 := hid (P4.out.kept g5'); have G5 := hid (Loc.grown G4.out ((Loc.refl _ w4).quiet g5')); have X5 := hid (X4.out.kept g5' (by simp)); have Y5 := hid (Y4.out.kept g5' (by simp)); obtain ⟨p5, c5, e5, _⟩ := h5.form; subst e5; have d5 := Y5.out.cell 4; simp at d5; have f6 := Y5.out.frozen 4; have hs5 := g5'.size; clear h5 g5 g5'))
      all_goals
        have Y6 := hid (Y5.out.set 4 (.slice p5 1 c5))
        have gs := grown_set (grown_refl w5 (some c)) 4 (.slice p5 1 c5)
        have P6 := hid (P5.out.keptG gs (by omega) (by omega))
        have G6 := hid (grown_to G5.out gs hc2)
        have X6 := hid (X5.out.kept gs (fun e => by injection e with e; omega))
        have K6 := hid (KB5.out.ks.keptB gs (by omega))
        simp at Y6
        clear gs
        generalize w5.setCell ⟨c, 4, none⟩ (.slice p5 1 c5) = w6 at *
        have y0 := Y6.out.cell 0
        have y1 := Y6.out.cell 1
        have y2 := Y6.out.cell 2
        have y3 := Y6.out.cell 3
        have y4 := Y6.out.cell 4
        simp at y0 y1 y2 y3 y4
        go_wp2_with (first
          | (go_at_call 42; refine (C42.out q4 (.mk 6 0 ⟨#[]⟩ 0 [a4]) 6 0 ⟨#[]⟩ 0 p5 1 c5 _ P6.out (by have h := HX.out; unfold elseIfP at h; rw [bnd_ok HZ4.out.1] at h; exact h)).mono ?_; intro e w7 hh0; rcases PrP.cases hh0 (by have h := HX.out; unfold elseIfP at h; rw [bnd_ok HZ4.out.1] at h; exact h) with hh | hh; (case inl => obtain ⟨at_, n, hz, rfl, g⟩ := hh; exact ⟨rfl, by unfold elseIfP; rw [bnd_ok HZ4.out.1, hz]; exact ⟨rfl, grown_bb G6.out g⟩⟩); obtain ⟨a7, q7, v7, hz, rfl, hv, pp, g⟩ := hh; have hv' : v7 = _ := hv; subst hv'; obtain rfl := made_ok hz; have HZ7 := hid (And.intro hz trivial); have P7 := hid pp; have G7 := hid (grown_bb G6.out g); have X7 := hid (X6.out.kept g (lt_nb hbl _ (Nat.le_refl _))); have K7 := hid (K6.out.keptB g (by omega)); clear hz pp g hh0)
          | (refine store_nd (.tmp 2) (.tmp 19) rfl rfl w.heap.size X7.out rfl rfl ?_; intro w8 b8 g8; have Z8 := hid b8; have G8 := hid (grown_to G7.out g8 (Nat.le_refl _)); have P8 := hid (P7.out.keptG g8 (by omega) (by omega)); have K8 := hid (K7.out.keptB g8 (by omega)); clear b8 g8))
        refine bodyPost_ret (results_nd rfl _ _ w.heap.size rfl Z8.out) rfl ?_
        unfold elseIfP
        rw [bnd_ok HZ4.out.1, HZ7.out.1]
        exact ⟨_, rfl, ⟨_, rfl, K8.out.mono (fun g hg _ => by omega)⟩, P8.out, G8.out⟩
end Pm
end Go.Proofs.YtajoncmmdeahnaaGreatDoor
