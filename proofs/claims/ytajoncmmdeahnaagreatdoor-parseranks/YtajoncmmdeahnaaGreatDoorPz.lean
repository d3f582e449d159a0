/-
  The parser: branches.
-/
import Derived.Test.YtajoncmmdeahnaaGreatDoorKPo
namespace Go.Proofs.YtajoncmmdeahnaaGreatDoor
open Go.RowKit
namespace Pm
theorem bnd_assoc3 {α β γ δ : Type} (x : Pr α) (y : Pr β) (g : β → γ) (f : γ → Pr δ) (q : Ps) : ((x >>= fun _ => y >>= fun o => pure (g o)) >>= f) q = (x >>= fun _ => y >>= fun o => f (g o)) q := by
  show Pr.bnd (Pr.bnd x fun _ => Pr.bnd y fun o => Pr.ret (g o)) f q = Pr.bnd x (fun _ => Pr.bnd y fun o => f (g o)) q
  unfold Pr.bnd Pr.ret
  cases x q with
  | error e => rfl
  | ok a =>
    obtain ⟨a1, a2⟩ := a
    show (match (match y a2 with | .ok (o, q') => Except.ok (g o, q') | .error e => .error e) with | .ok (a, q) => f a q | .error e => .error e) = (match y a2 with | .ok (a, q) => f (g a) q | .error e => .error e)
    cases y a2 with
    | error e => rfl
    | ok c => rfl
set_option maxRecDepth 100000 in
set_option maxHeartbeats 16000000 in
theorem branches_any {b tg cp : Nat} {all : List Tk} {p : Ps} (R : Rc) (w : World) (hP : PsA w b tg cp all p) (hx : branchesP R p ≠ .error none)
    (h231 : ∀ l q W, PsA W b tg cp all q → R.expr l q ≠ .error none → Calls Tryz.prog 231 #[.pointer (some ⟨b, 0, none⟩), .int .i64 l] W (PrP (nV W.heap.size) b tg cp all W (R.expr l q)))
    (h126 : ∀ q W, PsA W b tg cp all q → R.block q ≠ .error none → Calls Tryz.prog 126 #[.pointer (some ⟨b, 0, none⟩)] W (PrP (nV W.heap.size) b tg cp all W (R.block q)))
    (h232 : ∀ q W, PsA W b tg cp all q → otherwiseP R q ≠ .error none → Calls Tryz.prog 232 #[.pointer (some ⟨b, 0, none⟩)] W (PrP (nV W.heap.size) b tg cp all W (otherwiseP R q))) :
    Calls Tryz.prog 197 #[.pointer (some ⟨b, 0, none⟩)] w (PrP (nV w.heap.size) b tg cp all w (branchesP R p)) := by
  have hbl := hP.lt
  have htl := hP.tgl
  have X0 := hid (Blk.new w 27 #[.int .i64 0, .int .i64 0, .string ⟨#[]⟩, .int .i64 0, .slice none 0 0])
  have HX := hid hx
  have G0 := hid (grown_refl w (some b))
  have P0 := hid hP
  have C165 : Hid (∀ q W, PsA W b tg cp all q → openP wIf q ≠ .error none → Calls Tryz.prog 165 #[.pointer (some ⟨b, 0, none⟩), .string ⟨#[105, 102]⟩] W (PrP uV b tg cp all W (openP wIf q))) := fun q W hW h => open_any wIf W hW h
  have C231 : Hid (∀ q W, PsA W b tg cp all q → R.expr 1 q ≠ .error none → Calls Tryz.prog 231 #[.pointer (some ⟨b, 0, none⟩), .int .i64 1] W (PrP (nV W.heap.size) b tg cp all W (R.expr 1 q))) := fun q W hW h => h231 1 q W hW h
  have C126 := hid h126
  have C232 := hid h232
  clear h126 h231 h232
  have C43 : Hid (∀ q W, PsA W b tg cp all q → passP q ≠ .error none → Calls Tryz.prog 43 #[.pointer (some ⟨b, 0, none⟩)] W (PrP uV b tg cp all W (passP q))) := fun q W hW h => pass_any W hW h
  have C42 : Hid (∀ q x k t s n ps l c W, PsA W b tg cp all q → madeP x q ≠ .error none → Calls Tryz.prog 42 #[.pointer (some ⟨b, 0, none⟩), .agg #[.int .i64 k, .int .i64 t, .string s, .int .i64 n, .slice ps l c]] W (PrP (fun _ _ v => v = .agg #[.int .i64 k, .int .i64 t, .string s, .int .i64 n, .slice ps l c]) b tg cp all W (madeP x q))) := fun q x k t s n ps l c W hW h => made_any x k t s n ps l c W hW h
  have X00 : Hid (Blk ((w.alloc (.cells #[.int .i64 0, .int .i64 0, .string ⟨#[]⟩, .int .i64 0, .slice none 0 0] 27)).alloc (.cells #[.int .i64 9, .int .i64 0, .string ⟨#[]⟩, .int .i64 0, .slice none 0 0] 27)) w.heap.size 27 #[.int .i64 0, .int .i64 0, .string ⟨#[]⟩, .int .i64 0, .slice none 0 0]) := hid (X0.out.alloc _)
  have Y00 : Hid (Blk ((w.alloc (.cells #[.int .i64 0, .int .i64 0, .string ⟨#[]⟩, .int .i64 0, .slice none 0 0] 27)).alloc (.cells #[.int .i64 9, .int .i64 0, .string ⟨#[]⟩, .int .i64 0, .slice none 0 0] 27)) (w.heap.size + 1) 27 #[.int .i64 9, .int .i64 0, .string ⟨#[]⟩, .int .i64 0, .slice none 0 0]) := hid (by have h := Blk.new (w.alloc (.cells #[.int .i64 0, .int .i64 0, .string ⟨#[]⟩, .int .i64 0, .slice none 0 0] 27)) 27 #[.int .i64 9, .int .i64 0, .string ⟨#[]⟩, .int .i64 0, .slice none 0 0]; rw [World.size_alloc] at h; exact h)
  clear hx hP
  go_enter Tryz.func197, Tryz.ntmps197
  go_wp2_with (first
    | (go_at_call 165; refine (C165.out p _ (P0.out.loc (n := w.heap.size) (by repeat (first | exact Loc.refl _ _ | refine Loc.alloc ?_ _ | refine Loc.quiet ?_ (by assumption))) hbl htl) (by have h := HX.out; unfold branchesP at h; exact bnd_ne h)).mono ?_; intro e w1 hh0; rcases PrP.cases hh0 (by have h := HX.out; unfold branchesP at h; exact bnd_ne h) with hh | hh; (case inl => obtain ⟨at_, n, hz, rfl, g⟩ := hh; exact ⟨rfl, by unfold branchesP; rw [bnd_err hz]; exact ⟨rfl, grown_bb (Loc.grown G0.out (by repeat (first | exact Loc.refl _ _ | refine Loc.alloc ?_ _ | refine Loc.quiet ?_ (by assumption)))) g⟩⟩); obtain ⟨a1, q1, v1, hz, rfl, hv, pp, g⟩ := hh; have hv' : v1 = .tuple #[] := hv; subst hv'; have HZ1 := hid (And.intro hz trivial); have P1 := hid pp; have G1 := hid (grown_bb (Loc.grown G0.out (by repeat (first | exact Loc.refl _ _ | refine Loc.alloc ?_ _ | refine Loc.quiet ?_ (by assumption)))) g); have hs1 := g.size; rw [World.size_alloc, World.size_alloc] at hs1; have X1 := hid (X00.out.kept g (lt_nb hbl _ (by omega))); have Y1 := hid (Y00.out.kept g (lt_nb hbl _ (by omega))); clear hz pp g hh0))
  have c4 := Y1.out.cell 4
  simp at c4
  have f4 := Y1.out.frozen 4
  have GD : w1.grownBy w1.drew none := grown_drew (grown_refl _ _)
  clear C165
  go_region_law (first
    | (go_simp; go_at_call 231; refine (C231.out q1 _ (P1.out.kept GD) (by have h := HX.out; unfold branchesP at h; rw [bnd_ok HZ1.out.1] at h; exact bnd_ne h)).mono ?_; intro e w2 hh0; rcases PrP.cases hh0 (by have h := HX.out; unfold branchesP at h; rw [bnd_ok HZ1.out.1] at h; exact bnd_ne h) with hh | hh; (case inl => obtain ⟨at_, n, hz, rfl, g⟩ := hh; exact ⟨rfl, by unfold branchesP; rw [bnd_ok HZ1.out.1, bnd_err hz]; exact ⟨rfl, grown_bb (Loc.grown G1.out ((Loc.refl _ w1).quiet GD)) g⟩⟩); obtain ⟨a2, q2, v2, hz, rfl, hv, pp, g⟩ := hh; obtain ⟨qs2, rfl, hk⟩ := hv; obtain ⟨ps2, cs2, rfl, _, _, _⟩ := hk.form; have HZ2 := hid (And.intro hz trivial); have P2 := hid pp; have G2 := hid (grown_bb (Loc.grown G1.out ((Loc.refl _ w1).quiet GD)) g); have gg : w1.grownBy w2 (some b) := grown_bb (grown_b GD) g; have K2 := hid (hk.mono (Q := fun g => w.heap.size + 2 ≤ g) (fun g h1 _ => by have h9 : w1.drew.heap.size = w1.heap.size := rfl; have h10 : w1.drew.heap.size ≤ g := h1; omega)); have X2 := hid (X1.out.kept gg (lt_nb hbl _ (by omega))); have Y2 := hid (Y1.out.kept gg (lt_nb hbl _ (by omega))); have hs2 : w1.heap.size ≤ w2.heap.size := gg.size; have d42 := Y2.out.cell 4; simp at d42; clear gg; clear hz pp g hh0)
    | (go_simp; go_at_call 126; refine (C126.out q2 _ P2.out (by have h := HX.out; unfold branchesP at h; rw [bnd_ok HZ1.out.1, bnd_ok HZ2.out.1] at h; exact bnd_ne h)).mono ?_; intro e w3 hh0; rcases PrP.cases hh0 (by have h := HX.out; unfold branchesP at h; rw [bnd_ok HZ1.out.1, bnd_ok HZ2.out.1] at h; exact bnd_ne h) with hh | hh; (case inl => obtain ⟨at_, n, hz, rfl, g⟩ := hh; exact ⟨rfl, by unfold branchesP; rw [bnd_ok HZ1.out.1, bnd_ok HZ2.out.1, bnd_err hz]; exact ⟨rfl, grown_bb G2.out g⟩⟩); obtain ⟨a3, q3, v3, hz, rfl, hv, pp, g⟩ := hh; obtain ⟨qs3, rfl, hk⟩ := hv; obtain ⟨ps3, cs3, rfl, _, _, _⟩ := hk.form; have HZ3 := hid (And.intro hz trivial); have P3 := hid pp; have G3 := hid (grown_bb G2.out g); have K3 := hid (hk.mono (Q := fun g => w.heap.size + 2 ≤ g) (fun g h1 _ => by have h10 : w2.heap.size ≤ g := h1; omega)); have J3 := hid (K2.out.keptB g (by omega)); have X3 := hid (X2.out.kept g (lt_nb hbl _ (by omega))); have Y3 := hid (Y2.out.kept g (lt_nb hbl _ (by omega))); have hs3 : w2.heap.size ≤ w3.heap.size := g.size; have d4 := Y3.out.cell 4; simp at d4; have f5 := Y3.out.frozen 4; have e6 : ∀ o, (w3.alloc o).cell? ⟨w.heap.size + 1, 4, none⟩ = some (.slice none 0 0) := fun o => (Y3.out.alloc o).cell 4; clear hz pp g hh0)
    | (refine step_ndX2 (X := fun g => w.heap.size + 2 ≤ g) 25 27 Tryz.underlying25 info27 (.tmp 8) (.tmp 13) rfl rfl (w.heap.size + 2) (.slice none 0 0) [] a2 a3 (.slice ps2 a2.kids.length cs2) (.slice ps3 a3.kids.length cs3) ⟨w3.heap.size, 0, none⟩ 2 (Kx.nil _ _ _) (NdC2.new w3 27 a2 a3 _ _) ((J3.out.mono (fun g hg _ => ⟨hg, by simp [Value.ownBlock]⟩)).kept (grown_alloc (grown_refl w3 none) _)) ((K3.out.mono (fun g hg _ => ⟨hg, by simp [Value.ownBlock]⟩)).kept (grown_alloc (grown_refl w3 none) _)) (by simp) (by rw [World.size_alloc]; omega) rfl rfl ?_; intro v5 w5 h5 g5; have KB5 := hid h5; have g5' : w3.grownBy w5 none := grown_none (grown_alloc (grown_refl w3 none) _) g5; have P5 := hid (P3.out.kept g5'); have G5 := hid (Loc.grown G3.out ((Loc.refl _ w3).quiet g5')); have X5 := hid (X3.out.kept g5' (by simp)); have Y5 := hid (Y3.out.kept g5' (by simp)); obtain ⟨p5, c5, e5, _⟩ := h5.form; subst e5; have d5 := Y5.out.cell 4; simp at d5; have f6 := Y5.out.frozen 4; have hs5 := g5'.size; clear h5 g5 g5'))
  all_goals
    have Y6 := hid (Y5.out.set 4 (.slice p5 2 c5))
    have gs := grown_set (grown_refl w5 (some (w.heap.size + 1))) 4 (.slice p5 2 c5)
    have P6 := hid (P5.out.keptG gs (by omega) (by omega))
    have G6 := hid (grown_to G5.out gs (by omega))
    have X6 := hid (X5.out.kept gs (fun e => by injection e with e; omega))
    have KB6 : Hid (Kx (fun g => w.heap.size + 2 ≤ g) (w5.setCell ⟨w.heap.size + 1, 4, none⟩ (.slice p5 2 c5)) (w.heap.size + 2) 27 (.slice p5 2 c5) [a2, a3]) := hid (KB5.out.kept gs (fun r e => by cases e; omega))
    have s6 := gs.size
    have s61 := Y5.out.lt
    simp at Y6
    clear gs
    generalize w5.setCell ⟨w.heap.size + 1, 4, none⟩ (.slice p5 2 c5) = w6 at *
    have EQ1 : branchesP R p = ((do if ← seesP wElse then (do passP; let o ← otherwiseP R; return [a2, a3, o]) else return [a2, a3] : Pr (List Nd)) >>= (fun ks => higher >>= fun _ => madeP (.mk 9 0 ⟨#[]⟩ 0 ks))) q3 := by unfold branchesP; rw [bnd_ok HZ1.out.1, bnd_ok HZ2.out.1, bnd_ok HZ3.out.1]
    clear C231 C126 d4 d42 d5 f5 f6 c4 f4 GD e6 X2 Y2 X3 Y3 X5 Y5 KB5 K2 K3 J3 P5 G5 P2 P3 G2 G3
    match hw : q3.ws with
    | [] => exact absurd (EQ1.trans (bnd_err (bnd_err (sees_nil wElse hw)))) HX.out
    | t :: r =>
      have C39 : Hid (∀ W, w6.grownBy W none → Calls Tryz.prog 39 #[.pointer (some ⟨b, 0, none⟩), .string ⟨#[101, 108, 115, 101]⟩] W fun e w' => e = .returned (.bool (t.s == wElse)) ∧ W.grownBy w' none) := fun W hW => sees_any wElse W (P6.out.kept hW) hw
      have e0 : (do if ← seesP wElse then (do passP; let o ← otherwiseP R; return [a2, a3, o]) else return [a2, a3] : Pr (List Nd)) q3 = if (t.s == wElse) = true then (passP >>= fun _ => otherwiseP R >>= fun o => pure [a2, a3, o]) q3 else .ok ([a2, a3], q3) := by
        rw [bnd_ok (sees_eq wElse hw)]
        by_cases k : (t.s == wElse) = true
        · rw [if_pos k, if_pos k]
        · rw [if_neg k, if_neg k]
          rfl
      rcases Bool.eq_false_or_eq_true (t.s == wElse) with kb | kb
      · rw [kb] at C39
        rw [if_pos kb] at e0
        have EQ : Hid (branchesP R p = (passP >>= fun _ => otherwiseP R >>= fun o => higher >>= fun _ => madeP (.mk 9 0 ⟨#[]⟩ 0 [a2, a3, o])) q3 ∧ True) := hid ⟨by
          rw [EQ1, ← bnd_assoc3 passP (otherwiseP R) (fun o => [a2, a3, o]) (fun ks => higher >>= fun _ => madeP (.mk 9 0 ⟨#[]⟩ 0 ks)) q3]
          show Pr.bnd _ _ q3 = Pr.bnd _ _ q3
          unfold Pr.bnd
          rw [e0], trivial⟩
        have HXC : Hid ((passP >>= fun _ => otherwiseP R >>= fun o => higher >>= fun _ => madeP (.mk 9 0 ⟨#[]⟩ 0 [a2, a3, o])) q3 ≠ .error none) := hid (by rw [← EQ.out.1]; exact HX.out)
        clear hw kb e0 EQ1
        go_wp2_with (first
          | (go_at_call 39; refine (C39.out _ (grown_refl _ _)).mono ?_; rintro e w7 ⟨rfl, g⟩; have P7 := hid (P6.out.kept g); have G7 := hid (Loc.grown G6.out ((Loc.refl _ w6).quiet g)); have X7 := hid (X6.out.kept g (by simp)); have Y7 := hid (Y6.out.kept g (by simp)); have KB7 := hid (KB6.out.kept g (by simp)); have s7 := g.size; clear g C39)
          | (go_at_call 43; refine (C43.out q3 _ P7.out (by have h := HXC.out; exact bnd_ne h)).mono ?_; intro e w8 hh0; rcases PrP.cases hh0 (by have h := HXC.out; exact bnd_ne h) with hh | hh; (case inl => obtain ⟨at_, n, hz, rfl, g⟩ := hh; exact ⟨rfl, by rw [EQ.out.1, bnd_err hz]; exact ⟨rfl, grown_bb G7.out g⟩⟩); obtain ⟨a8, q8, v8, hz, rfl, hv, pp, g⟩ := hh; have hv' : v8 = .tuple #[] := hv; subst hv'; have HZ8 := hid (And.intro hz trivial); have P8 := hid pp; have G8 := hid (grown_bb G7.out g); have X8 := hid (X7.out.kept g (lt_nb hbl _ (by omega))); have Y8 := hid (Y7.out.kept g (lt_nb hbl _ (by omega))); have KB8 := hid (KB7.out.kept g (fun r e => by cases e; omega)); have s8 := g.size; clear hz pp g hh0))
        have c84 := Y8.out.cell 4
        simp at c84
        have f84 := Y8.out.frozen 4
        have GD8 : w8.grownBy w8.drew none := grown_drew (grown_refl _ _)
        go_region_law (first
          | (go_simp; go_at_call 232; refine (C232.out q8 _ (P8.out.kept GD8) (by have h := HXC.out; rw [bnd_ok HZ8.out.1] at h; exact bnd_ne h)).mono ?_; intro e w9 hh0; rcases PrP.cases hh0 (by have h := HXC.out; rw [bnd_ok HZ8.out.1] at h; exact bnd_ne h) with hh | hh; (case inl => obtain ⟨at_, n, hz, rfl, g⟩ := hh; exact ⟨rfl, by rw [EQ.out.1, bnd_ok HZ8.out.1, bnd_err hz]; exact ⟨rfl, grown_bb (Loc.grown G8.out ((Loc.refl _ w8).quiet GD8)) g⟩⟩); obtain ⟨a9, q9, v9, hz, rfl, hv, pp, g⟩ := hh; obtain ⟨qs9, rfl, hk⟩ := hv; obtain ⟨ps9, cs9, rfl, _, _, _⟩ := hk.form; have HZ9 := hid (And.intro hz trivial); have P9 := hid pp; have G9 := hid (grown_bb (Loc.grown G8.out ((Loc.refl _ w8).quiet GD8)) g); have gg : w8.grownBy w9 (some b) := grown_bb (grown_b GD8) g; have K9 := hid hk; have X9 := hid (X8.out.kept gg (lt_nb hbl _ (by omega))); have Y9 := hid (Y8.out.kept gg (lt_nb hbl _ (by omega))); have KB9 := hid (KB8.out.kept gg (fun r e => by cases e; omega)); have s9 : w8.heap.size ≤ w9.heap.size := gg.size; have d94 := Y9.out.cell 4; simp at d94; have f95 := Y9.out.frozen 4; have e96 : ∀ o, (w9.alloc o).cell? ⟨w.heap.size + 1, 4, none⟩ = some (.slice p5 2 c5) := fun o => (Y9.out.alloc o).cell 4; clear gg; clear hz pp g hh0)
          | (refine step_ndX (X := fun g => w.heap.size + 2 ≤ g) 25 27 Tryz.underlying25 info27 (.tmp 21) (.tmp 24) rfl rfl (w.heap.size + 2) (.slice p5 2 c5) [a2, a3] a9 (.slice ps9 a9.kids.length cs9) ⟨w9.heap.size, 0, none⟩ 1 (KB9.out.kept (grown_alloc (grown_refl w9 none) _) (by simp)) (NdC.new w9 27 a9 _) ((K9.out.mono (fun g hg _ => ⟨by have h9 : w8.drew.heap.size = w8.heap.size := rfl; have h5 : w8.drew.heap.size ≤ g := hg; omega, fun e => by have h6 := (KB8.out.lt g e.symm).2; have h9 : w8.drew.heap.size = w8.heap.size := rfl; have h5 : w8.drew.heap.size ≤ g := hg; omega⟩)).kept (grown_alloc (grown_refl w9 none) _)) (by simp) (by rw [World.size_alloc]; omega) rfl rfl ?_; intro v10 w10 h10 g10; have KB10 := hid h10; have RU := row_underX KB9.out; have L10 : Hid (Loc w.heap.size w9 w10) := hid (((Loc.refl _ w9).alloc _).by g10 (fun k e => by have := RU k e; omega)); have P10 := hid (P9.out.loc L10.out hbl htl); have G10 := hid (Loc.grown G9.out L10.out); have X10 := hid ((X9.out.alloc (.cells #[.int .i64 a9.kind, .int .i64 a9.ty, .string a9.txt, .int .i64 a9.num, .slice ps9 a9.kids.length cs9] 27)).kept g10 (fun e => by have := RU _ e.symm; omega)); have Y10 := hid ((Y9.out.alloc (.cells #[.int .i64 a9.kind, .int .i64 a9.ty, .string a9.txt, .int .i64 a9.num, .slice ps9 a9.kids.length cs9] 27)).kept g10 (fun e => by have := RU _ e.symm; omega)); obtain ⟨p10, c10, e10, _⟩ := h10.form; subst e10; have d10 := Y10.out.cell 4; simp at d10; have f10 := Y10.out.frozen 4; clear h10 g10))
        all_goals
          have Y11 := hid (Y10.out.set 4 (.slice p10 3 c10))
          have gs := grown_set (grown_refl w10 (some (w.heap.size + 1))) 4 (.slice p10 3 c10)
          have P11 := hid (P10.out.keptG gs (by omega) (by omega))
          have G11 := hid (grown_to G10.out gs (by omega))
          have X11 := hid (X10.out.kept gs (fun e => by injection e with e; omega))
          have K11 := hid (KB10.out.ks.keptB gs (by omega))
          simp at Y11
          clear gs
          generalize w10.setCell ⟨w.heap.size + 1, 4, none⟩ (.slice p10 3 c10) = w11 at *
          have hhi : higher q9 ≠ .error none := (by have h := HXC.out; rw [bnd_ok HZ8.out.1, bnd_ok HZ9.out.1] at h; exact bnd_ne h)
          obtain ⟨hd, hz⟩ := higher_ok hhi
          have HZ12 := hid (And.intro hz trivial)
          obtain ⟨l1, l2, l3, l4, l5⟩ := P11.out.lower hd
          have PL := hid l4
          have GL := hid (grown_bb G11.out l5)
          have XL := hid (X11.out.kept l5 (lt_nb hbl _ (by omega)))
          have YL := hid (Y11.out.kept l5 (lt_nb hbl _ (by omega)))
          have KL := hid (K11.out.keptB l5 (by omega))
          have y0 := YL.out.cell 0
          have y1 := YL.out.cell 1
          have y2 := YL.out.cell 2
          have y3 := YL.out.cell 3
          have y4 := YL.out.cell 4
          simp at y0 y1 y2 y3 y4
          clear l4 l5 hz hhi hd
          go_wp2_with (first
            | (go_at_call 42; refine (C42.out { q9 with depth := q9.depth - 1 } (.mk 9 0 ⟨#[]⟩ 0 [a2, a3, a9]) 9 0 ⟨#[]⟩ 0 p10 3 c10 _ PL.out (by have h := HXC.out; rw [bnd_ok HZ8.out.1, bnd_ok HZ9.out.1, bnd_ok HZ12.out.1] at h; exact h)).mono ?_; intro e w20 hh0; rcases PrP.cases hh0 (by have h := HXC.out; rw [bnd_ok HZ8.out.1, bnd_ok HZ9.out.1, bnd_ok HZ12.out.1] at h; exact h) with hh | hh; (case inl => obtain ⟨at_, n, hz, rfl, g⟩ := hh; exact ⟨rfl, by rw [EQ.out.1, bnd_ok HZ8.out.1, bnd_ok HZ9.out.1, bnd_ok HZ12.out.1, hz]; exact ⟨rfl, grown_bb GL.out g⟩⟩); obtain ⟨a20, q20, v20, hz, rfl, hv, pp, g⟩ := hh; have hv' : v20 = _ := hv; subst hv'; obtain rfl := made_ok hz; have HZ20 := hid (And.intro hz trivial); have P20 := hid pp; have G20 := hid (grown_bb GL.out g); have XM := hid (XL.out.kept g (lt_nb hbl _ (by omega))); have KM := hid (KL.out.keptB g (by omega)); clear hz pp g hh0)
            | (refine store_nd (.tmp 2) (.tmp 36) rfl rfl w.heap.size XM.out rfl rfl ?_; intro w30 b9 g9; have Z9 := hid b9; have G30 := hid (grown_to G20.out g9 (Nat.le_refl _)); have P30 := hid (P20.out.keptG g9 (by omega) (by omega)); have K30 := hid (KM.out.keptB g9 (by omega)); clear b9 g9))
          refine bodyPost_ret (results_nd rfl _ _ w.heap.size rfl Z9.out) rfl ?_
          rw [EQ.out.1, bnd_ok HZ8.out.1, bnd_ok HZ9.out.1, bnd_ok HZ12.out.1, HZ20.out.1]
          exact ⟨_, rfl, ⟨_, rfl, K30.out.mono (fun g hg _ => by omega)⟩, P30.out, G30.out⟩
      · rw [kb] at C39
        rw [if_neg (by rw [kb]; decide)] at e0
        have EQ : Hid (branchesP R p = (higher >>= fun _ => madeP (.mk 9 0 ⟨#[]⟩ 0 [a2, a3])) q3 ∧ True) := hid ⟨EQ1.trans (bnd_ok e0), trivial⟩
        have HXC : Hid ((higher >>= fun _ => madeP (.mk 9 0 ⟨#[]⟩ 0 [a2, a3])) q3 ≠ .error none) := hid (by rw [← EQ.out.1]; exact HX.out)
        clear hw kb e0 EQ1
        go_upto_region 7 with (first
          | (go_at_call 39; refine (C39.out _ (grown_refl _ _)).mono ?_; rintro e w7 ⟨rfl, g⟩; have P7 := hid (P6.out.kept g); have G7 := hid (Loc.grown G6.out ((Loc.refl _ w6).quiet g)); have X7 := hid (X6.out.kept g (by simp)); have Y7 := hid (Y6.out.kept g (by simp)); have KB7 := hid (KB6.out.kept g (by simp)); have s7 := g.size; clear g C39))
        have K7 := hid KB7.out.ks
        have hhi : higher q3 ≠ .error none := (by have h := HXC.out; exact bnd_ne h)
        obtain ⟨hd, hz⟩ := higher_ok hhi
        have HZ8 := hid (And.intro hz trivial)
        obtain ⟨l1, l2, l3, l4, l5⟩ := P7.out.lower hd
        have PL := hid l4
        have GL := hid (grown_bb G7.out l5)
        have XL := hid (X7.out.kept l5 (lt_nb hbl _ (by omega)))
        have YL := hid (Y7.out.kept l5 (lt_nb hbl _ (by omega)))
        have KL := hid (K7.out.keptB l5 (by omega))
        have y0 := YL.out.cell 0
        have y1 := YL.out.cell 1
        have y2 := YL.out.cell 2
        have y3 := YL.out.cell 3
        have y4 := YL.out.cell 4
        simp at y0 y1 y2 y3 y4
        clear l4 l5 hz hhi hd
        go_wp2_with (first
          | (go_at_call 42; refine (C42.out { q3 with depth := q3.depth - 1 } (.mk 9 0 ⟨#[]⟩ 0 [a2, a3]) 9 0 ⟨#[]⟩ 0 p5 2 c5 _ PL.out (by have h := HXC.out; rw [bnd_ok HZ8.out.1] at h; exact h)).mono ?_; intro e w20 hh0; rcases PrP.cases hh0 (by have h := HXC.out; rw [bnd_ok HZ8.out.1] at h; exact h) with hh | hh; (case inl => obtain ⟨at_, n, hz, rfl, g⟩ := hh; exact ⟨rfl, by rw [EQ.out.1, bnd_ok HZ8.out.1, hz]; exact ⟨rfl, grown_bb GL.out g⟩⟩); obtain ⟨a20, q20, v20, hz, rfl, hv, pp, g⟩ := hh; have hv' : v20 = _ := hv; subst hv'; obtain rfl := made_ok hz; have HZ20 := hid (And.intro hz trivial); have P20 := hid pp; have G20 := hid (grown_bb GL.out g); have XM := hid (XL.out.kept g (lt_nb hbl _ (by omega))); have KM := hid (KL.out.keptB g (by omega)); clear hz pp g hh0)
          | (refine store_nd (.tmp 2) (.tmp 36) rfl rfl w.heap.size XM.out rfl rfl ?_; intro w30 b9 g9; have Z9 := hid b9; have G30 := hid (grown_to G20.out g9 (Nat.le_refl _)); have P30 := hid (P20.out.keptG g9 (by omega) (by omega)); have K30 := hid (KM.out.keptB g9 (by omega)); clear b9 g9))
        refine bodyPost_ret (results_nd rfl _ _ w.heap.size rfl Z9.out) rfl ?_
        rw [EQ.out.1, bnd_ok HZ8.out.1, HZ20.out.1]
        exact ⟨_, rfl, ⟨_, rfl, K30.out.mono (fun g hg _ => by omega)⟩, P30.out, G30.out⟩
end Pm
end Go.Proofs.YtajoncmmdeahnaaGreatDoor
