/-
  The parser: operand.
-/
import Derived.Test.YtajoncmmdeahnaaGreatDoorKPq
namespace Go.Proofs.YtajoncmmdeahnaaGreatDoor
open Go.RowKit
namespace Pm
set_option maxRecDepth 100000 in
set_option maxHeartbeats 4000000 in
theorem operand_any {b tg cp : Nat} {all : List Tk} {p : Ps} (R : Rc) (w : World) (hP : PsA w b tg cp all p) (hx : operP R p ≠ .error none)
    (h275 : ∀ (s : List UInt8) q W, PsA W b tg cp all q → signedP R s q ≠ .error none → Calls Tryz.prog 275 #[.pointer (some ⟨b, 0, none⟩), .string ⟨s.toArray⟩] W (PrP (nV W.heap.size) b tg cp all W (signedP R s q)))
    (h276 : ∀ q W, PsA W b tg cp all q → bracketedP R q ≠ .error none → Calls Tryz.prog 276 #[.pointer (some ⟨b, 0, none⟩)] W (PrP (nV W.heap.size) b tg cp all W (bracketedP R q)))
    (h277 : ∀ q W, PsA W b tg cp all q → variableOrCallP R q ≠ .error none → Calls Tryz.prog 277 #[.pointer (some ⟨b, 0, none⟩)] W (PrP (nV W.heap.size) b tg cp all W (variableOrCallP R q)))
    (h164 : ∀ q W, PsA W b tg cp all q → literalP q ≠ .error none → Calls Tryz.prog 164 #[.pointer (some ⟨b, 0, none⟩)] W (PrP (nV W.heap.size) b tg cp all W (literalP q))) :
    Calls Tryz.prog 259 #[.pointer (some ⟨b, 0, none⟩)] w (PrP (nV w.heap.size) b tg cp all w (operP R p)) := by
  have hbl := hP.lt
  have htl := hP.tgl
  have X0 := hid (Blk.new w 27 #[.int .i64 0, .int .i64 0, .string ⟨#[]⟩, .int .i64 0, .slice none 0 0])
  have G0 := hid (grown_refl w (some b))
  have P0 := hid hP
  match hw : p.ws with
  | [] => exact absurd (by unfold operP; rw [bnd_err (nxt_nil hw)]) hx
  | t :: r =>
    have C38 : Hid (∀ W, w.grownBy W none → Calls Tryz.prog 38 #[.pointer (some ⟨b, 0, none⟩)] W fun e w' => e = .returned (.agg #[.int .i64 t.kind, .string ⟨t.s.toArray⟩, .int .i64 t.pl]) ∧ W.grownBy w' none) := fun W hW => next_any W (hP.kept hW) hw
    have e0 : operP R p = if (t.s == [45] || t.s == [33]) = true then signedP R t.s p else if (t.s == [40]) = true then bracketedP R p else if (t.s == wInt || t.s == wFloat) = true then convP R p else if (t.kind == 1) = true then variableOrCallP R p else literalP p := by
      unfold operP
      rw [bnd_ok (nxt_eq hw)]
      by_cases k1 : (t.s == [45] || t.s == [33]) = true
      · rw [if_pos k1, if_pos k1]
      rw [if_neg k1, if_neg k1]
      by_cases k2 : (t.s == [40]) = true
      · rw [if_pos k2, if_pos k2]
      rw [if_neg k2, if_neg k2]
      by_cases k3 : (t.s == wInt || t.s == wFloat) = true
      · rw [if_pos k3, if_pos k3]
      rw [if_neg k3, if_neg k3]
      by_cases k4 : (t.kind == 1) = true
      · rw [if_pos k4, if_pos k4]
      · rw [if_neg k4, if_neg k4]
    rw [e0] at hx ⊢
    clear e0 hw hP
    have f0 : ∀ (w1 : World), True := fun _ => trivial
    clear f0
    unfold wInt wFloat at hx ⊢
    have RW : True := trivial
    clear RW
    rcases Bool.eq_false_or_eq_true (t.s == [45]) with k1 | k1
    · rw [show (if (t.s == [45] || t.s == [33]) = true then signedP R t.s p else if (t.s == [40]) = true then bracketedP R p else if (t.s == [105, 110, 116] || t.s == [102, 108, 111, 97, 116]) = true then convP R p else if (t.kind == 1) = true then variableOrCallP R p else literalP p) = signedP R t.s p by simp [k1]] at hx ⊢
      have HX := hid hx
      clear hx
      have CX : Hid (∀ q W, PsA W b tg cp all q → signedP R t.s q ≠ .error none → Calls Tryz.prog 275 #[.pointer (some ⟨b, 0, none⟩), .string ⟨t.s.toArray⟩] W (PrP (nV W.heap.size) b tg cp all W (signedP R t.s q))) := hid (h275 t.s)
      go_enter Tryz.func259, Tryz.ntmps259
      go_wp2_with (first
        | (go_at_call 38; refine (C38.out _ (by repeat (first | exact grown_refl _ _ | refine grown_alloc ?_ _))).mono ?_; rintro e w1 ⟨rfl, g⟩; have P1 := hid (P0.out.kept (grown_none (by repeat (first | exact grown_refl _ _ | refine grown_alloc ?_ _)) g)); have G1 : Hid (w.grownBy w1 (some b)) := hid (grown_b (b := b) (grown_none (by repeat (first | exact grown_refl _ _ | refine grown_alloc ?_ _)) g)); have X1 := hid (X0.out.kept g (by simp)); have s1 := g.size; rw [World.size_alloc] at s1; clear g)
        | (go_at_call 275; refine (CX.out p _ (P1.out.loc (n := w.heap.size) (by repeat (first | exact Loc.refl _ _ | refine Loc.alloc ?_ _)) hbl htl) HX.out).mono ?_; intro e w2 hh0; rcases PrP.cases hh0 HX.out with hh | hh; (case inl => obtain ⟨at_, n, hz, rfl, g⟩ := hh; exact ⟨rfl, by rw [hz]; exact ⟨rfl, grown_bb (Loc.grown G1.out (by repeat (first | exact Loc.refl _ _ | refine Loc.alloc ?_ _))) g⟩⟩); obtain ⟨a2, q2, v2, hz, rfl, hv, pp, g⟩ := hh; obtain ⟨qs2, rfl, hk⟩ := hv; obtain ⟨ps2, cs2, rfl, _, _, _⟩ := hk.form; have HZ2 := hid (And.intro hz trivial); have P2 := hid pp; have G2 := hid (grown_bb (Loc.grown G1.out (by repeat (first | exact Loc.refl _ _ | refine Loc.alloc ?_ _))) g); rw [World.size_alloc] at hk; have K2 := hid hk; have X2 := hid ((X1.out.alloc _).kept g (lt_nb hbl _ (by omega))); have s12 := g.size; clear hz pp g hh0)
        | (refine store_nd (.tmp 2) (.tmp 19) rfl rfl w.heap.size X2.out rfl rfl ?_; intro w9 b9 g9; have Z9 := hid b9; have G9 := hid (grown_to G2.out g9 (Nat.le_refl _)); have P9 := hid (P2.out.keptG g9 (by omega) (by omega)); have K9 := hid (K2.out.keptB g9 (by omega)); clear b9 g9))
      refine bodyPost_ret (results_nd rfl _ _ w.heap.size rfl Z9.out) rfl ?_
      rw [HZ2.out.1]
      exact ⟨_, rfl, ⟨_, rfl, K9.out.mono (fun g hg _ => by have h5 : w1.heap.size + 1 ≤ g := hg; omega)⟩, P9.out, G9.out⟩
    rcases Bool.eq_false_or_eq_true (t.s == [33]) with k2 | k2
    · rw [show (if (t.s == [45] || t.s == [33]) = true then signedP R t.s p else if (t.s == [40]) = true then bracketedP R p else if (t.s == [105, 110, 116] || t.s == [102, 108, 111, 97, 116]) = true then convP R p else if (t.kind == 1) = true then variableOrCallP R p else literalP p) = signedP R t.s p by simp [k1, k2]] at hx ⊢
      have HX := hid hx
      clear hx
      have CX : Hid (∀ q W, PsA W b tg cp all q → signedP R t.s q ≠ .error none → Calls Tryz.prog 275 #[.pointer (some ⟨b, 0, none⟩), .string ⟨t.s.toArray⟩] W (PrP (nV W.heap.size) b tg cp all W (signedP R t.s q))) := hid (h275 t.s)
      go_enter Tryz.func259, Tryz.ntmps259
      go_wp2_with (first
        | (go_at_call 38; refine (C38.out _ (by repeat (first | exact grown_refl _ _ | refine grown_alloc ?_ _))).mono ?_; rintro e w1 ⟨rfl, g⟩; have P1 := hid (P0.out.kept (grown_none (by repeat (first | exact grown_refl _ _ | refine grown_alloc ?_ _)) g)); have G1 : Hid (w.grownBy w1 (some b)) := hid (grown_b (b := b) (grown_none (by repeat (first | exact grown_refl _ _ | refine grown_alloc ?_ _)) g)); have X1 := hid (X0.out.kept g (by simp)); have s1 := g.size; rw [World.size_alloc] at s1; clear g)
        | (go_at_call 275; refine (CX.out p _ (P1.out.loc (n := w.heap.size) (by repeat (first | exact Loc.refl _ _ | refine Loc.alloc ?_ _)) hbl htl) HX.out).mono ?_; intro e w2 hh0; rcases PrP.cases hh0 HX.out with hh | hh; (case inl => obtain ⟨at_, n, hz, rfl, g⟩ := hh; exact ⟨rfl, by rw [hz]; exact ⟨rfl, grown_bb (Loc.grown G1.out (by repeat (first | exact Loc.refl _ _ | refine Loc.alloc ?_ _))) g⟩⟩); obtain ⟨a2, q2, v2, hz, rfl, hv, pp, g⟩ := hh; obtain ⟨qs2, rfl, hk⟩ := hv; obtain ⟨ps2, cs2, rfl, _, _, _⟩ := hk.form; have HZ2 := hid (And.intro hz trivial); have P2 := hid pp; have G2 := hid (grown_bb (Loc.grown G1.out (by repeat (first | exact Loc.refl _ _ | refine Loc.alloc ?_ _))) g); rw [World.size_alloc] at hk; have K2 := hid hk; have X2 := hid ((X1.out.alloc _).kept g (lt_nb hbl _ (by omega))); have s12 := g.size; clear hz pp g hh0)
        | (refine store_nd (.tmp 2) (.tmp 19) rfl rfl w.heap.size X2.out rfl rfl ?_; intro w9 b9 g9; have Z9 := hid b9; have G9 := hid (grown_to G2.out g9 (Nat.le_refl _)); have P9 := hid (P2.out.keptG g9 (by omega) (by omega)); have K9 := hid (K2.out.keptB g9 (by omega)); clear b9 g9))
      refine bodyPost_ret (results_nd rfl _ _ w.heap.size rfl Z9.out) rfl ?_
      rw [HZ2.out.1]
      exact ⟨_, rfl, ⟨_, rfl, K9.out.mono (fun g hg _ => by have h5 : w1.heap.size + 1 ≤ g := hg; omega)⟩, P9.out, G9.out⟩
    rcases Bool.eq_false_or_eq_true (t.s == [40]) with k3 | k3
    · rw [show (if (t.s == [45] || t.s == [33]) = true then signedP R t.s p else if (t.s == [40]) = true then bracketedP R p else if (t.s == [105, 110, 116] || t.s == [102, 108, 111, 97, 116]) = true then convP R p else if (t.kind == 1) = true then variableOrCallP R p else literalP p) = bracketedP R p by simp [k1, k2, k3]] at hx ⊢
      have HX := hid hx
      clear hx
      have CX : Hid (∀ q W, PsA W b tg cp all q → bracketedP R q ≠ .error none → Calls Tryz.prog 276 #[.pointer (some ⟨b, 0, none⟩)] W (PrP (nV W.heap.size) b tg cp all W (bracketedP R q))) := hid h276
      go_enter Tryz.func259, Tryz.ntmps259
      go_wp2_with (first
        | (go_at_call 38; refine (C38.out _ (by repeat (first | exact grown_refl _ _ | refine grown_alloc ?_ _))).mono ?_; rintro e w1 ⟨rfl, g⟩; have P1 := hid (P0.out.kept (grown_none (by repeat (first | exact grown_refl _ _ | refine grown_alloc ?_ _)) g)); have G1 : Hid (w.grownBy w1 (some b)) := hid (grown_b (b := b) (grown_none (by repeat (first | exact grown_refl _ _ | refine grown_alloc ?_ _)) g)); have X1 := hid (X0.out.kept g (by simp)); have s1 := g.size; rw [World.size_alloc] at s1; clear g)
        | (go_at_call 276; refine (CX.out p _ (P1.out.loc (n := w.heap.size) (by repeat (first | exact Loc.refl _ _ | refine Loc.alloc ?_ _)) hbl htl) HX.out).mono ?_; intro e w2 hh0; rcases PrP.cases hh0 HX.out with hh | hh; (case inl => obtain ⟨at_, n, hz, rfl, g⟩ := hh; exact ⟨rfl, by rw [hz]; exact ⟨rfl, grown_bb (Loc.grown G1.out (by repeat (first | exact Loc.refl _ _ | refine Loc.alloc ?_ _))) g⟩⟩); obtain ⟨a2, q2, v2, hz, rfl, hv, pp, g⟩ := hh; obtain ⟨qs2, rfl, hk⟩ := hv; obtain ⟨ps2, cs2, rfl, _, _, _⟩ := hk.form; have HZ2 := hid (And.intro hz trivial); have P2 := hid pp; have G2 := hid (grown_bb (Loc.grown G1.out (by repeat (first | exact Loc.refl _ _ | refine Loc.alloc ?_ _))) g); rw [World.size_alloc] at hk; have K2 := hid hk; have X2 := hid ((X1.out.alloc _).kept g (lt_nb hbl _ (by omega))); have s12 := g.size; clear hz pp g hh0)
        | (refine store_nd (.tmp 2) (.tmp 25) rfl rfl w.heap.size X2.out rfl rfl ?_; intro w9 b9 g9; have Z9 := hid b9; have G9 := hid (grown_to G2.out g9 (Nat.le_refl _)); have P9 := hid (P2.out.keptG g9 (by omega) (by omega)); have K9 := hid (K2.out.keptB g9 (by omega)); clear b9 g9))
      refine bodyPost_ret (results_nd rfl _ _ w.heap.size rfl Z9.out) rfl ?_
      rw [HZ2.out.1]
      exact ⟨_, rfl, ⟨_, rfl, K9.out.mono (fun g hg _ => by have h5 : w1.heap.size + 1 ≤ g := hg; omega)⟩, P9.out, G9.out⟩
    have k45 : (t.s == [105, 110, 116]) = true ∨ (t.s == [105, 110, 116]) = false ∧ (t.s == [102, 108, 111, 97, 116]) = true ∨ (t.s == [105, 110, 116]) = false ∧ (t.s == [102, 108, 111, 97, 116]) = false := by
      cases (t.s == [105, 110, 116]) <;> cases (t.s == [102, 108, 111, 97, 116]) <;> simp
    rcases k45 with k4 | k45
    · rw [show (if (t.s == [45] || t.s == [33]) = true then signedP R t.s p else if (t.s == [40]) = true then bracketedP R p else if (t.s == [105, 110, 116] || t.s == [102, 108, 111, 97, 116]) = true then convP R p else if (t.kind == 1) = true then variableOrCallP R p else literalP p) = convP R p by simp [k1, k2, k3, k4]] at hx ⊢
      have HX := hid hx
      have C276 := hid h276
      have C122 : Hid (∀ q W, PsA W b tg cp all q → typedP q ≠ .error none → Calls Tryz.prog 122 #[.pointer (some ⟨b, 0, none⟩)] W (PrP iV b tg cp all W (typedP q))) := fun q W hW h => typed_any W hW h
      have C42 : Hid (∀ q x k t s n ps l c W, PsA W b tg cp all q → madeP x q ≠ .error none → Calls Tryz.prog 42 #[.pointer (some ⟨b, 0, none⟩), .agg #[.int .i64 k, .int .i64 t, .string s, .int .i64 n, .slice ps l c]] W (PrP (fun _ _ v => v = .agg #[.int .i64 k, .int .i64 t, .string s, .int .i64 n, .slice ps l c]) b tg cp all W (madeP x q))) := fun q x k t s n ps l c W hW h => made_any x k t s n ps l c W hW h
      clear hx
      go_enter Tryz.func259, Tryz.ntmps259
      go_wp2_with (first
        | (go_at_call 38; refine (C38.out _ (by repeat (first | exact grown_refl _ _ | refine grown_alloc ?_ _))).mono ?_; rintro e w1 ⟨rfl, g⟩; have P1 := hid (P0.out.kept (grown_none (by repeat (first | exact grown_refl _ _ | refine grown_alloc ?_ _)) g)); have G1 : Hid (w.grownBy w1 (some b)) := hid (grown_b (b := b) (grown_none (by repeat (first | exact grown_refl _ _ | refine grown_alloc ?_ _)) g)); have X1 := hid (X0.out.kept g (by simp)); have s1 := g.size; rw [World.size_alloc] at s1; clear g)
        | (go_at_call 122; refine (C122.out p _ (P1.out.loc (n := w.heap.size) (by repeat (first | exact Loc.refl _ _ | refine Loc.alloc ?_ _)) hbl htl) (by have h := HX.out; unfold convP at h; exact bnd_ne h)).mono ?_; intro e w2 hh0; rcases PrP.cases hh0 (by have h := HX.out; unfold convP at h; exact bnd_ne h) with hh | hh; (case inl => obtain ⟨at_, n, hz, rfl, g⟩ := hh; exact ⟨rfl, by unfold convP; rw [bnd_err hz]; exact ⟨rfl, grown_bb (Loc.grown G1.out (by repeat (first | exact Loc.refl _ _ | refine Loc.alloc ?_ _))) g⟩⟩); obtain ⟨a2, q2, v2, hz, rfl, hv, pp, g⟩ := hh; have hv' : v2 = .int .i64 a2 := hv; subst hv'; have HZ2 := hid (And.intro hz trivial); have P2 := hid pp; have G2 := hid (grown_bb (Loc.grown G1.out (by repeat (first | exact Loc.refl _ _ | refine Loc.alloc ?_ _))) g); have X2 := hid ((X1.out.alloc (.cells #[.int .i64 t.kind, .string ⟨t.s.toArray⟩, .int .i64 t.pl] 88)).kept g (lt_nb hbl _ (by omega))); clear hz pp g hh0))
      have Y3 := hid (Blk.new w2 27 #[.int .i64 27, .int .i64 a2, .string ⟨#[]⟩, .int .i64 0, .slice none 0 0])
      have P3 := hid (P2.out.kept (grown_alloc (grown_refl w2 none) (.cells #[.int .i64 27, .int .i64 a2, .string ⟨#[]⟩, .int .i64 0, .slice none 0 0] 27)))
      have G3 := hid (Loc.grown G2.out ((Loc.refl _ w2).alloc (.cells #[.int .i64 27, .int .i64 a2, .string ⟨#[]⟩, .int .i64 0, .slice none 0 0] 27)))
      have X3 := hid (X2.out.alloc (.cells #[.int .i64 27, .int .i64 a2, .string ⟨#[]⟩, .int .i64 0, .slice none 0 0] 27))
      generalize w2.alloc (.cells #[.int .i64 27, .int .i64 a2, .string ⟨#[]⟩, .int .i64 0, .slice none 0 0] 27) = w3 at *
      have hc2 : w.heap.size ≤ w2.heap.size := G2.out.size
      have hcx := X2.out.lt
      have hc3 := Y3.out.lt
      generalize w2.heap.size = c at *
      have c4 := Y3.out.cell 4
      simp at c4
      have f4 := Y3.out.frozen 4
      have GD : w3.grownBy w3.drew none := grown_drew (grown_refl _ _)
      go_region_law (first
        | (go_simp; go_at_call 276; refine (C276.out q2 _ (P3.out.kept GD) (by have h := HX.out; unfold convP at h; rw [bnd_ok HZ2.out.1] at h; exact bnd_ne h)).mono ?_; intro e w4 hh0; rcases PrP.cases hh0 (by have h := HX.out; unfold convP at h; rw [bnd_ok HZ2.out.1] at h; exact bnd_ne h) with hh | hh; (case inl => obtain ⟨at_, n, hz, rfl, g⟩ := hh; exact ⟨rfl, by unfold convP; rw [bnd_ok HZ2.out.1, bnd_err hz]; exact ⟨rfl, grown_bb (Loc.grown G3.out ((Loc.refl _ w3).quiet GD)) g⟩⟩); obtain ⟨a4, q4, v4, hz, rfl, hv, pp, g⟩ := hh; obtain ⟨qs4, rfl, hk⟩ := hv; obtain ⟨ps4, cs4, rfl, _, _, _⟩ := hk.form; have HZ4 := hid (And.intro hz trivial); have P4 := hid pp; have G4 := hid (grown_bb (Loc.grown G3.out ((Loc.refl _ w3).quiet GD)) g); have K4 := hid hk; have X4 := hid (X3.out.kept (grown_bb (grown_b GD) g) (lt_nb hbl _ (Nat.le_refl _))); have Y4 := hid (Y3.out.kept (grown_bb (grown_b GD) g) (lt_nb hbl _ hc2)); have hs4 : w3.heap.size ≤ w4.heap.size := (grown_bb (grown_b GD) g).size; have d4 := Y4.out.cell 4; simp at d4; have f5 := Y4.out.frozen 4; have e6 : ∀ o, (w4.alloc o).cell? ⟨c, 4, none⟩ = some (.slice none 0 0) := fun o => (Y4.out.alloc o).cell 4; clear hz pp g hh0)
        | (refine step_nd 25 27 Tryz.underlying25 info27 (.tmp 39) (.tmp 42) rfl rfl (c + 1) (.slice none 0 0) [] a4 (.slice ps4 a4.kids.length cs4) ⟨w4.heap.size, 0, none⟩ 1 (Kb.nil _ _ _) (NdC.new w4 27 a4 _) ((K4.out.mono (fun g hg _ => ⟨by have h9 : w3.drew.heap.size = w3.heap.size := rfl; omega, by simp [Value.ownBlock]⟩)).kept (grown_alloc (grown_refl w4 none) _)) (by simp) (by rw [World.size_alloc]; omega) rfl rfl ?_; intro v5 w5 h5 g5; have KB5 := hid h5; have g5' : w4.grownBy w5 none := grown_none (grown_alloc (grown_refl w4 none) _) g5; have P5 := hid (P4.out.kept g5'); have G5 := hid (Loc.grown G4.out ((Loc.refl _ w4).quiet g5')); have X5 := hid (X4.out.kept g5' (by simp)); have Y5 := hid (Y4.out.kept g5' (by simp)); obtain ⟨p5, c5, e5, _⟩ := h5.form; subst e5; have d5 := Y5.out.cell 4; simp at d5; have f6 := Y5.out.frozen 4; have hs5 := g5'.size; clear h5 g5 g5'))
      all_goals
        have Y6 := hid (Y5.out.set 4 (.slice p5 1 c5))
        have gs := grown_set (grown_refl w5 (some c)) 4 (.slice p5 1 c5)
        have P6 := hid (P5.out.keptG gs (by omega) (by omega))
        have G6 := hid (grown_to G5.out gs hc2)
        have X6 := hid (X5.out.kept gs (fun e => by injection e with e; omega))
        have K6 := hid (KB5.out.ks.keptB gs (by omega))
        simp at Y6
        clear gs
        generalize w5.setCell ⟨c, 4, none⟩ (.slice p5 1 c5) = w6 at *
        have y0 := Y6.out.cell 0
        have y1 := Y6.out.cell 1
        have y2 := Y6.out.cell 2
        have y3 := Y6.out.cell 3
        have y4 := Y6.out.cell 4
        simp at y0 y1 y2 y3 y4
        go_wp2_with (first
          | (go_at_call 42; refine (C42.out q4 (.mk 27 a2 ⟨#[]⟩ 0 [a4]) 27 a2 ⟨#[]⟩ 0 p5 1 c5 _ P6.out (by have h := HX.out; unfold convP at h; rw [bnd_ok HZ2.out.1, bnd_ok HZ4.out.1] at h; exact h)).mono ?_; intro e w7 hh0; rcases PrP.cases hh0 (by have h := HX.out; unfold convP at h; rw [bnd_ok HZ2.out.1, bnd_ok HZ4.out.1] at h; exact h) with hh | hh; (case inl => obtain ⟨at_, n, hz, rfl, g⟩ := hh; exact ⟨rfl, by unfold convP; rw [bnd_ok HZ2.out.1, bnd_ok HZ4.out.1, hz]; exact ⟨rfl, grown_bb G6.out g⟩⟩); obtain ⟨a7, q7, v7, hz, rfl, hv, pp, g⟩ := hh; have hv' : v7 = _ := hv; subst hv'; obtain rfl := made_ok hz; have HZ7 := hid (And.intro hz trivial); have P7 := hid pp; have G7 := hid (grown_bb G6.out g); have X7 := hid (X6.out.kept g (lt_nb hbl _ (Nat.le_refl _))); have K7 := hid (K6.out.keptB g (by omega)); clear hz pp g hh0)
          | (refine store_nd (.tmp 2) (.tmp 47) rfl rfl w.heap.size X7.out rfl rfl ?_; intro w8 b8 g8; have Z8 := hid b8; have G8 := hid (grown_to G7.out g8 (Nat.le_refl _)); have P8 := hid (P7.out.keptG g8 (by omega) (by omega)); have K8 := hid (K7.out.keptB g8 (by omega)); clear b8 g8))
        refine bodyPost_ret (results_nd rfl _ _ w.heap.size rfl Z8.out) rfl ?_
        unfold convP
        rw [bnd_ok HZ2.out.1, bnd_ok HZ4.out.1, HZ7.out.1]
        exact ⟨_, rfl, ⟨_, rfl, K8.out.mono (fun g hg _ => by omega)⟩, P8.out, G8.out⟩
    rcases k45 with ⟨k4, k5⟩ | ⟨k4, k5⟩
    · rw [show (if (t.s == [45] || t.s == [33]) = true then signedP R t.s p else if (t.s == [40]) = true then bracketedP R p else if (t.s == [105, 110, 116] || t.s == [102, 108, 111, 97, 116]) = true then convP R p else if (t.kind == 1) = true then variableOrCallP R p else literalP p) = convP R p by simp [k1, k2, k3, k4, k5]] at hx ⊢
      have HX := hid hx
      have C276 := hid h276
      have C122 : Hid (∀ q W, PsA W b tg cp all q → typedP q ≠ .error none → Calls Tryz.prog 122 #[.pointer (some ⟨b, 0, none⟩)] W (PrP iV b tg cp all W (typedP q))) := fun q W hW h => typed_any W hW h
      have C42 : Hid (∀ q x k t s n ps l c W, PsA W b tg cp all q → madeP x q ≠ .error none → Calls Tryz.prog 42 #[.pointer (some ⟨b, 0, none⟩), .agg #[.int .i64 k, .int .i64 t, .string s, .int .i64 n, .slice ps l c]] W (PrP (fun _ _ v => v = .agg #[.int .i64 k, .int .i64 t, .string s, .int .i64 n, .slice ps l c]) b tg cp all W (madeP x q))) := fun q x k t s n ps l c W hW h => made_any x k t s n ps l c W hW h
      clear hx
      go_enter Tryz.func259, Tryz.ntmps259
      go_wp2_with (first
        | (go_at_call 38; refine (C38.out _ (by repeat (first | exact grown_refl _ _ | refine grown_alloc ?_ _))).mono ?_; rintro e w1 ⟨rfl, g⟩; have P1 := hid (P0.out.kept (grown_none (by repeat (first | exact grown_refl _ _ | refine grown_alloc ?_ _)) g)); have G1 : Hid (w.grownBy w1 (some b)) := hid (grown_b (b := b) (grown_none (by repeat (first | exact grown_refl _ _ | refine grown_alloc ?_ _)) g)); have X1 := hid (X0.out.kept g (by simp)); have s1 := g.size; rw [World.size_alloc] at s1; clear g)
        | (go_at_call 122; refine (C122.out p _ (P1.out.loc (n := w.heap.size) (by repeat (first | exact Loc.refl _ _ | refine Loc.alloc ?_ _)) hbl htl) (by have h := HX.out; unfold convP at h; exact bnd_ne h)).mono ?_; intro e w2 hh0; rcases PrP.cases hh0 (by have h := HX.out; unfold convP at h; exact bnd_ne h) with hh | hh; (case inl => obtain ⟨at_, n, hz, rfl, g⟩ := hh; exact ⟨rfl, by unfold convP; rw [bnd_err hz]; exact ⟨rfl, grown_bb (Loc.grown G1.out (by repeat (first | exact Loc.refl _ _ | refine Loc.alloc ?_ _))) g⟩⟩); obtain ⟨a2, q2, v2, hz, rfl, hv, pp, g⟩ := hh; have hv' : v2 = .int .i64 a2 := hv; subst hv'; have HZ2 := hid (And.intro hz trivial); have P2 := hid pp; have G2 := hid (grown_bb (Loc.grown G1.out (by repeat (first | exact Loc.refl _ _ | refine Loc.alloc ?_ _))) g); have X2 := hid ((X1.out.alloc (.cells #[.int .i64 t.kind, .string ⟨t.s.toArray⟩, .int .i64 t.pl] 88)).kept g (lt_nb hbl _ (by omega))); clear hz pp g hh0))
      have Y3 := hid (Blk.new w2 27 #[.int .i64 27, .int .i64 a2, .string ⟨#[]⟩, .int .i64 0, .slice none 0 0])
      have P3 := hid (P2.out.kept (grown_alloc (grown_refl w2 none) (.cells #[.int .i64 27, .int .i64 a2, .string ⟨#[]⟩, .int .i64 0, .slice none 0 0] 27)))
      have G3 := hid (Loc.grown G2.out ((Loc.refl _ w2).alloc (.cells #[.int .i64 27, .int .i64 a2, .string ⟨#[]⟩, .int .i64 0, .slice none 0 0] 27)))
      have X3 := hid (X2.out.alloc (.cells #[.int .i64 27, .int .i64 a2, .string ⟨#[]⟩, .int .i64 0, .slice none 0 0] 27))
      generalize w2.alloc (.cells #[.int .i64 27, .int .i64 a2, .string ⟨#[]⟩, .int .i64 0, .slice none 0 0] 27) = w3 at *
      have hc2 : w.heap.size ≤ w2.heap.size := G2.out.size
      have hcx := X2.out.lt
      have hc3 := Y3.out.lt
      generalize w2.heap.size = c at *
      have c4 := Y3.out.cell 4
      simp at c4
      have f4 := Y3.out.frozen 4
      have GD : w3.grownBy w3.drew none := grown_drew (grown_refl _ _)
      go_region_law (first
        | (go_simp; go_at_call 276; refine (C276.out q2 _ (P3.out.kept GD) (by have h := HX.out; unfold convP at h; rw [bnd_ok HZ2.out.1] at h; exact bnd_ne h)).mono ?_; intro e w4 hh0; rcases PrP.cases hh0 (by have h := HX.out; unfold convP at h; rw [bnd_ok HZ2.out.1] at h; exact bnd_ne h) with hh | hh; (case inl => obtain ⟨at_, n, hz, rfl, g⟩ := hh; exact ⟨rfl, by unfold convP; rw [bnd_ok HZ2.out.1, bnd_err hz]; exact ⟨rfl, grown_bb (Loc.grown G3.out ((Loc.refl _ w3).quiet GD)) g⟩⟩); obtain ⟨a4, q4, v4, hz, rfl, hv, pp, g⟩ := hh; obtain ⟨qs4, rfl, hk⟩ := hv; obtain ⟨ps4, cs4, rfl, _, _, _⟩ := hk.form; have HZ4 := hid (And.intro hz trivial); have P4 := hid pp; have G4 := hid (grown_bb (Loc.grown G3.out ((Loc.refl _ w3).quiet GD)) g); have K4 := hid hk; have X4 := hid (X3.out.kept (grown_bb (grown_b GD) g) (lt_nb hbl _ (Nat.le_refl _))); have Y4 := hid (Y3.out.kept (grown_bb (grown_b GD) g) (lt_nb hbl _ hc2)); have hs4 : w3.heap.size ≤ w4.heap.size := (grown_bb (grown_b GD) g).size; have d4 := Y4.out.cell 4; simp at d4; have f5 := Y4.out.frozen 4; have e6 : ∀ o, (w4.alloc o).cell? ⟨c, 4, none⟩ = some (.slice none 0 0) := fun o => (Y4.out.alloc o).cell 4; clear hz pp g hh0)
        | (refine step_nd 25 27 Tryz.underlying25 info27 (.tmp 39) (.tmp 42) rfl rfl (c + 1) (.slice none 0 0) [] a4 (.slice ps4 a4.kids.length cs4) ⟨w4.heap.size, 0, none⟩ 1 (Kb.nil _ _ _) (NdC.new w4 27 a4 _) ((K4.out.mono (fun g hg _ => ⟨by have h9 : w3.drew.heap.size = w3.heap.size := rfl; omega, by simp [Value.ownBlock]⟩)).kept (grown_alloc (grown_refl w4 none) _)) (by simp) (by rw [World.size_alloc]; omega) rfl rfl ?_; intro v5 w5 h5 g5; have KB5 := hid h5; have g5' : w4.grownBy w5 none := grown_none (grown_alloc (grown_refl w4 none) _) g5; have P5 := hid (P4.out.kept g5'); have G5 := hid (Loc.grown G4.out ((Loc.refl _ w4).quiet g5')); have X5 := hid (X4.out.kept g5' (by simp)); have Y5 := hid (Y4.out.kept g5' (by simp)); obtain ⟨p5, c5, e5, _⟩ := h5.form; subst e5; have d5 := Y5.out.cell 4; simp at d5; have f6 := Y5.out.frozen 4; have hs5 := g5'.size; clear h5 g5 g5'))
      all_goals
        have Y6 := hid (Y5.out.set 4 (.slice p5 1 c5))
        have gs := grown_set (grown_refl w5 (some c)) 4 (.slice p5 1 c5)
        have P6 := hid (P5.out.keptG gs (by omega) (by omega))
        have G6 := hid (grown_to G5.out gs hc2)
        have X6 := hid (X5.out.kept gs (fun e => by injection e with e; omega))
        have K6 := hid (KB5.out.ks.keptB gs (by omega))
        simp at Y6
        clear gs
        generalize w5.setCell ⟨c, 4, none⟩ (.slice p5 1 c5) = w6 at *
        have y0 := Y6.out.cell 0
        have y1 := Y6.out.cell 1
        have y2 := Y6.out.cell 2
        have y3 := Y6.out.cell 3
        have y4 := Y6.out.cell 4
        simp at y0 y1 y2 y3 y4
        go_wp2_with (first
          | (go_at_call 42; refine (C42.out q4 (.mk 27 a2 ⟨#[]⟩ 0 [a4]) 27 a2 ⟨#[]⟩ 0 p5 1 c5 _ P6.out (by have h := HX.out; unfold convP at h; rw [bnd_ok HZ2.out.1, bnd_ok HZ4.out.1] at h; exact h)).mono ?_; intro e w7 hh0; rcases PrP.cases hh0 (by have h := HX.out; unfold convP at h; rw [bnd_ok HZ2.out.1, bnd_ok HZ4.out.1] at h; exact h) with hh | hh; (case inl => obtain ⟨at_, n, hz, rfl, g⟩ := hh; exact ⟨rfl, by unfold convP; rw [bnd_ok HZ2.out.1, bnd_ok HZ4.out.1, hz]; exact ⟨rfl, grown_bb G6.out g⟩⟩); obtain ⟨a7, q7, v7, hz, rfl, hv, pp, g⟩ := hh; have hv' : v7 = _ := hv; subst hv'; obtain rfl := made_ok hz; have HZ7 := hid (And.intro hz trivial); have P7 := hid pp; have G7 := hid (grown_bb G6.out g); have X7 := hid (X6.out.kept g (lt_nb hbl _ (Nat.le_refl _))); have K7 := hid (K6.out.keptB g (by omega)); clear hz pp g hh0)
          | (refine store_nd (.tmp 2) (.tmp 47) rfl rfl w.heap.size X7.out rfl rfl ?_; intro w8 b8 g8; have Z8 := hid b8; have G8 := hid (grown_to G7.out g8 (Nat.le_refl _)); have P8 := hid (P7.out.keptG g8 (by omega) (by omega)); have K8 := hid (K7.out.keptB g8 (by omega)); clear b8 g8))
        refine bodyPost_ret (results_nd rfl _ _ w.heap.size rfl Z8.out) rfl ?_
        unfold convP
        rw [bnd_ok HZ2.out.1, bnd_ok HZ4.out.1, HZ7.out.1]
        exact ⟨_, rfl, ⟨_, rfl, K8.out.mono (fun g hg _ => by omega)⟩, P8.out, G8.out⟩
    rcases Bool.eq_false_or_eq_true (t.kind == 1) with k6 | k6
    · rw [show (if (t.s == [45] || t.s == [33]) = true then signedP R t.s p else if (t.s == [40]) = true then bracketedP R p else if (t.s == [105, 110, 116] || t.s == [102, 108, 111, 97, 116]) = true then convP R p else if (t.kind == 1) = true then variableOrCallP R p else literalP p) = variableOrCallP R p by simp [k1, k2, k3, k4, k5, k6]] at hx ⊢
      have hk6 : (t.kind : Int) = 1 := by have : t.kind = 1 := by simpa using k6
                                          omega
      clear k6
      have HX := hid hx
      clear hx
      have CX : Hid (∀ q W, PsA W b tg cp all q → variableOrCallP R q ≠ .error none → Calls Tryz.prog 277 #[.pointer (some ⟨b, 0, none⟩)] W (PrP (nV W.heap.size) b tg cp all W (variableOrCallP R q))) := hid h277
      go_enter Tryz.func259, Tryz.ntmps259
      go_wp2_with (first
        | (go_at_call 38; refine (C38.out _ (by repeat (first | exact grown_refl _ _ | refine grown_alloc ?_ _))).mono ?_; rintro e w1 ⟨rfl, g⟩; have P1 := hid (P0.out.kept (grown_none (by repeat (first | exact grown_refl _ _ | refine grown_alloc ?_ _)) g)); have G1 : Hid (w.grownBy w1 (some b)) := hid (grown_b (b := b) (grown_none (by repeat (first | exact grown_refl _ _ | refine grown_alloc ?_ _)) g)); have X1 := hid (X0.out.kept g (by simp)); have s1 := g.size; rw [World.size_alloc] at s1; clear g)
        | (go_at_call 277; refine (CX.out p _ (P1.out.loc (n := w.heap.size) (by repeat (first | exact Loc.refl _ _ | refine Loc.alloc ?_ _)) hbl htl) HX.out).mono ?_; intro e w2 hh0; rcases PrP.cases hh0 HX.out with hh | hh; (case inl => obtain ⟨at_, n, hz, rfl, g⟩ := hh; exact ⟨rfl, by rw [hz]; exact ⟨rfl, grown_bb (Loc.grown G1.out (by repeat (first | exact Loc.refl _ _ | refine Loc.alloc ?_ _))) g⟩⟩); obtain ⟨a2, q2, v2, hz, rfl, hv, pp, g⟩ := hh; obtain ⟨qs2, rfl, hk⟩ := hv; obtain ⟨ps2, cs2, rfl, _, _, _⟩ := hk.form; have HZ2 := hid (And.intro hz trivial); have P2 := hid pp; have G2 := hid (grown_bb (Loc.grown G1.out (by repeat (first | exact Loc.refl _ _ | refine Loc.alloc ?_ _))) g); rw [World.size_alloc] at hk; have K2 := hid hk; have X2 := hid ((X1.out.alloc _).kept g (lt_nb hbl _ (by omega))); have s12 := g.size; clear hz pp g hh0)
        | (refine store_nd (.tmp 2) (.tmp 53) rfl rfl w.heap.size X2.out rfl rfl ?_; intro w9 b9 g9; have Z9 := hid b9; have G9 := hid (grown_to G2.out g9 (Nat.le_refl _)); have P9 := hid (P2.out.keptG g9 (by omega) (by omega)); have K9 := hid (K2.out.keptB g9 (by omega)); clear b9 g9))
      refine bodyPost_ret (results_nd rfl _ _ w.heap.size rfl Z9.out) rfl ?_
      rw [HZ2.out.1]
      exact ⟨_, rfl, ⟨_, rfl, K9.out.mono (fun g hg _ => by have h5 : w1.heap.size + 1 ≤ g := hg; omega)⟩, P9.out, G9.out⟩
    rw [show (if (t.s == [45] || t.s == [33]) = true then signedP R t.s p else if (t.s == [40]) = true then bracketedP R p else if (t.s == [105, 110, 116] || t.s == [102, 108, 111, 97, 116]) = true then convP R p else if (t.kind == 1) = true then variableOrCallP R p else literalP p) = literalP p by simp [k1, k2, k3, k4, k5, k6]] at hx ⊢
    have hk6 : ¬ (t.kind : Int) = 1 := by
      intro h
      have h1 : t.kind = 1 := by omega
      rw [h1] at k6
      cases k6
    clear k6
    have HX := hid hx
    clear hx
    have CX : Hid (∀ q W, PsA W b tg cp all q → literalP q ≠ .error none → Calls Tryz.prog 164 #[.pointer (some ⟨b, 0, none⟩)] W (PrP (nV W.heap.size) b tg cp all W (literalP q))) := hid h164
    go_enter Tryz.func259, Tryz.ntmps259
    go_wp2_with (first
      | (go_at_call 38; refine (C38.out _ (by repeat (first | exact grown_refl _ _ | refine grown_alloc ?_ _))).mono ?_; rintro e w1 ⟨rfl, g⟩; have P1 := hid (P0.out.kept (grown_none (by repeat (first | exact grown_refl _ _ | refine grown_alloc ?_ _)) g)); have G1 : Hid (w.grownBy w1 (some b)) := hid (grown_b (b := b) (grown_none (by repeat (first | exact grown_refl _ _ | refine grown_alloc ?_ _)) g)); have X1 := hid (X0.out.kept g (by simp)); have s1 := g.size; rw [World.size_alloc] at s1; clear g)
      | (go_at_call 164; refine (CX.out p _ (P1.out.loc (n := w.heap.size) (by repeat (first | exact Loc.refl _ _ | refine Loc.alloc ?_ _)) hbl htl) HX.out).mono ?_; intro e w2 hh0; rcases PrP.cases hh0 HX.out with hh | hh; (case inl => obtain ⟨at_, n, hz, rfl, g⟩ := hh; exact ⟨rfl, by rw [hz]; exact ⟨rfl, grown_bb (Loc.grown G1.out (by repeat (first | exact Loc.refl _ _ | refine Loc.alloc ?_ _))) g⟩⟩); obtain ⟨a2, q2, v2, hz, rfl, hv, pp, g⟩ := hh; obtain ⟨qs2, rfl, hk⟩ := hv; obtain ⟨ps2, cs2, rfl, _, _, _⟩ := hk.form; have HZ2 := hid (And.intro hz trivial); have P2 := hid pp; have G2 := hid (grown_bb (Loc.grown G1.out (by repeat (first | exact Loc.refl _ _ | refine Loc.alloc ?_ _))) g); rw [World.size_alloc] at hk; have K2 := hid hk; have X2 := hid ((X1.out.alloc _).kept g (lt_nb hbl _ (by omega))); have s12 := g.size; clear hz pp g hh0)
      | (refine store_nd (.tmp 2) (.tmp 55) rfl rfl w.heap.size X2.out rfl rfl ?_; intro w9 b9 g9; have Z9 := hid b9; have G9 := hid (grown_to G2.out g9 (Nat.le_refl _)); have P9 := hid (P2.out.keptG g9 (by omega) (by omega)); have K9 := hid (K2.out.keptB g9 (by omega)); clear b9 g9))
    refine bodyPost_ret (results_nd rfl _ _ w.heap.size rfl Z9.out) rfl ?_
    rw [HZ2.out.1]
    exact ⟨_, rfl, ⟨_, rfl, K9.out.mono (fun g hg _ => by have h5 : w1.heap.size + 1 ≤ g := hg; omega)⟩, P9.out, G9.out⟩
end Pm
end Go.Proofs.YtajoncmmdeahnaaGreatDoor
