/-
  The parser: loop. The parser: declaration.
-/
import Derived.Test.YtajoncmmdeahnaaGreatDoorKPk
namespace Go.Proofs.YtajoncmmdeahnaaGreatDoor
open Go.RowKit
namespace Pm
set_option maxRecDepth 100000 in
set_option maxHeartbeats 4000000 in
theorem loop_any {b tg cp : Nat} {all : List Tk} {p : Ps} (R : Rc) (w : World) (hP : PsA w b tg cp all p) (hx : loopP R p ≠ .error none)
    (h231 : ∀ l q W, PsA W b tg cp all q → R.expr l q ≠ .error none → Calls Tryz.prog 231 #[.pointer (some ⟨b, 0, none⟩), .int .i64 l] W (PrP (nV W.heap.size) b tg cp all W (R.expr l q)))
    (h126 : ∀ q W, PsA W b tg cp all q → R.block q ≠ .error none → Calls Tryz.prog 126 #[.pointer (some ⟨b, 0, none⟩)] W (PrP (nV W.heap.size) b tg cp all W (R.block q))) :
    Calls Tryz.prog 198 #[.pointer (some ⟨b, 0, none⟩)] w (PrP (nV w.heap.size) b tg cp all w (loopP R p)) := by
  have hbl := hP.lt
  have htl := hP.tgl
  have X0 := hid (Blk.new w 27 #[.int .i64 0, .int .i64 0, .string ⟨#[]⟩, .int .i64 0, .slice none 0 0])
  have HX := hid hx
  have G0 := hid (grown_refl w (some b))
  have P0 := hid hP
  have C120 : Hid (∀ q W, PsA W b tg cp all q → wantP wFor q ≠ .error none → Calls Tryz.prog 120 #[.pointer (some ⟨b, 0, none⟩), .string ⟨#[102, 111, 114]⟩] W (PrP uV b tg cp all W (wantP wFor q))) := fun q W hW h => want_any wFor W hW h
  have C231 : Hid (∀ q W, PsA W b tg cp all q → R.expr 1 q ≠ .error none → Calls Tryz.prog 231 #[.pointer (some ⟨b, 0, none⟩), .int .i64 1] W (PrP (nV W.heap.size) b tg cp all W (R.expr 1 q))) := fun q W hW h => h231 1 q W hW h
  have C126 := hid h126
  have C42 : Hid (∀ q x k t s n ps l c W, PsA W b tg cp all q → madeP x q ≠ .error none → Calls Tryz.prog 42 #[.pointer (some ⟨b, 0, none⟩), .agg #[.int .i64 k, .int .i64 t, .string s, .int .i64 n, .slice ps l c]] W (PrP (fun _ _ v => v = .agg #[.int .i64 k, .int .i64 t, .string s, .int .i64 n, .slice ps l c]) b tg cp all W (madeP x q))) := fun q x k t s n ps l c W hW h => made_any x k t s n ps l c W hW h
  have X00 : Hid (Blk ((w.alloc (.cells #[.int .i64 0, .int .i64 0, .string ⟨#[]⟩, .int .i64 0, .slice none 0 0] 27)).alloc (.cells #[.int .i64 10, .int .i64 0, .string ⟨#[]⟩, .int .i64 0, .slice none 0 0] 27)) w.heap.size 27 #[.int .i64 0, .int .i64 0, .string ⟨#[]⟩, .int .i64 0, .slice none 0 0]) := hid (X0.out.alloc _)
  have Y00 : Hid (Blk ((w.alloc (.cells #[.int .i64 0, .int .i64 0, .string ⟨#[]⟩, .int .i64 0, .slice none 0 0] 27)).alloc (.cells #[.int .i64 10, .int .i64 0, .string ⟨#[]⟩, .int .i64 0, .slice none 0 0] 27)) (w.heap.size + 1) 27 #[.int .i64 10, .int .i64 0, .string ⟨#[]⟩, .int .i64 0, .slice none 0 0]) := hid (by have h := Blk.new (w.alloc (.cells #[.int .i64 0, .int .i64 0, .string ⟨#[]⟩, .int .i64 0, .slice none 0 0] 27)) 27 #[.int .i64 10, .int .i64 0, .string ⟨#[]⟩, .int .i64 0, .slice none 0 0]; rw [World.size_alloc] at h; exact h)
  clear hx hP
  go_enter Tryz.func198, Tryz.ntmps198
  go_wp2_with (first
    | (go_at_call 120; refine (C120.out p _ (P0.out.loc (n := w.heap.size) (by repeat (first | exact Loc.refl _ _ | refine Loc.alloc ?_ _ | refine Loc.quiet ?_ (by assumption))) hbl htl) (by have h := HX.out; unfold loopP at h; exact bnd_ne h)).mono ?_; intro e w1 hh0; rcases PrP.cases hh0 (by have h := HX.out; unfold loopP at h; exact bnd_ne h) with hh | hh; (case inl => obtain ⟨at_, n, hz, rfl, g⟩ := hh; exact ⟨rfl, by unfold loopP; rw [bnd_err hz]; exact ⟨rfl, grown_bb (Loc.grown G0.out (by repeat (first | exact Loc.refl _ _ | refine Loc.alloc ?_ _ | refine Loc.quiet ?_ (by assumption)))) g⟩⟩); obtain ⟨a1, q1, v1, hz, rfl, hv, pp, g⟩ := hh; have hv' : v1 = .tuple #[] := hv; subst hv'; have HZ1 := hid (And.intro hz trivial); have P1 := hid pp; have G1 := hid (grown_bb (Loc.grown G0.out (by repeat (first | exact Loc.refl _ _ | refine Loc.alloc ?_ _ | refine Loc.quiet ?_ (by assumption)))) g); have hs1 := g.size; rw [World.size_alloc, World.size_alloc] at hs1; have X1 := hid (X00.out.kept g (lt_nb hbl _ (by omega))); have Y1 := hid (Y00.out.kept g (lt_nb hbl _ (by omega))); clear hz pp g hh0))
  have c4 := Y1.out.cell 4
  simp at c4
  have f4 := Y1.out.frozen 4
  have GD : w1.grownBy w1.drew none := grown_drew (grown_refl _ _)
  clear C120 h126 h231
  go_region_law (first
    | (go_simp; go_at_call 231; refine (C231.out q1 _ (P1.out.kept GD) (by have h := HX.out; unfold loopP at h; rw [bnd_ok HZ1.out.1] at h; exact bnd_ne h)).mono ?_; intro e w2 hh0; rcases PrP.cases hh0 (by have h := HX.out; unfold loopP at h; rw [bnd_ok HZ1.out.1] at h; exact bnd_ne h) with hh | hh; (case inl => obtain ⟨at_, n, hz, rfl, g⟩ := hh; exact ⟨rfl, by unfold loopP; rw [bnd_ok HZ1.out.1, bnd_err hz]; exact ⟨rfl, grown_bb (Loc.grown G1.out ((Loc.refl _ w1).quiet GD)) g⟩⟩); obtain ⟨a2, q2, v2, hz, rfl, hv, pp, g⟩ := hh; obtain ⟨qs2, rfl, hk⟩ := hv; obtain ⟨ps2, cs2, rfl, _, _, _⟩ := hk.form; have HZ2 := hid (And.intro hz trivial); have P2 := hid pp; have G2 := hid (grown_bb (Loc.grown G1.out ((Loc.refl _ w1).quiet GD)) g); have gg : w1.grownBy w2 (some b) := grown_bb (grown_b GD) g; have K2 := hid (hk.mono (Q := fun g => w.heap.size + 2 ≤ g) (fun g h1 _ => by have h9 : w1.drew.heap.size = w1.heap.size := rfl; have h10 : w1.drew.heap.size ≤ g := h1; omega)); have X2 := hid (X1.out.kept gg (lt_nb hbl _ (by omega))); have Y2 := hid (Y1.out.kept gg (lt_nb hbl _ (by omega))); have hs2 : w1.heap.size ≤ w2.heap.size := gg.size; have d42 := Y2.out.cell 4; simp at d42; clear gg; clear hz pp g hh0)
    | (go_simp; go_at_call 126; refine (C126.out q2 _ P2.out (by have h := HX.out; unfold loopP at h; rw [bnd_ok HZ1.out.1, bnd_ok HZ2.out.1] at h; exact bnd_ne h)).mono ?_; intro e w3 hh0; rcases PrP.cases hh0 (by have h := HX.out; unfold loopP at h; rw [bnd_ok HZ1.out.1, bnd_ok HZ2.out.1] at h; exact bnd_ne h) with hh | hh; (case inl => obtain ⟨at_, n, hz, rfl, g⟩ := hh; exact ⟨rfl, by unfold loopP; rw [bnd_ok HZ1.out.1, bnd_ok HZ2.out.1, bnd_err hz]; exact ⟨rfl, grown_bb G2.out g⟩⟩); obtain ⟨a3, q3, v3, hz, rfl, hv, pp, g⟩ := hh; obtain ⟨qs3, rfl, hk⟩ := hv; obtain ⟨ps3, cs3, rfl, _, _, _⟩ := hk.form; have HZ3 := hid (And.intro hz trivial); have P3 := hid pp; have G3 := hid (grown_bb G2.out g); have K3 := hid (hk.mono (Q := fun g => w.heap.size + 2 ≤ g) (fun g h1 _ => by have h10 : w2.heap.size ≤ g := h1; omega)); have J3 := hid (K2.out.keptB g (by omega)); have X3 := hid (X2.out.kept g (lt_nb hbl _ (by omega))); have Y3 := hid (Y2.out.kept g (lt_nb hbl _ (by omega))); have hs3 : w2.heap.size ≤ w3.heap.size := g.size; have d4 := Y3.out.cell 4; simp at d4; have f5 := Y3.out.frozen 4; have e6 : ∀ o, (w3.alloc o).cell? ⟨w.heap.size + 1, 4, none⟩ = some (.slice none 0 0) := fun o => (Y3.out.alloc o).cell 4; clear hz pp g hh0)
    | (refine step_ndX2 (X := fun g => w.heap.size + 2 ≤ g) 25 27 Tryz.underlying25 info27 (.tmp 8) (.tmp 13) rfl rfl (w.heap.size + 2) (.slice none 0 0) [] a2 a3 (.slice ps2 a2.kids.length cs2) (.slice ps3 a3.kids.length cs3) ⟨w3.heap.size, 0, none⟩ 2 (Kx.nil _ _ _) (NdC2.new w3 27 a2 a3 _ _) ((J3.out.mono (fun g hg _ => ⟨hg, by simp [Value.ownBlock]⟩)).kept (grown_alloc (grown_refl w3 none) _)) ((K3.out.mono (fun g hg _ => ⟨hg, by simp [Value.ownBlock]⟩)).kept (grown_alloc (grown_refl w3 none) _)) (by simp) (by rw [World.size_alloc]; omega) rfl rfl ?_; intro v5 w5 h5 g5; have KB5 := hid h5; have g5' : w3.grownBy w5 none := grown_none (grown_alloc (grown_refl w3 none) _) g5; have P5 := hid (P3.out.kept g5'); have G5 := hid (Loc.grown G3.out ((Loc.refl _ w3).quiet g5')); have X5 := hid (X3.out.kept g5' (by simp)); have Y5 := hid (Y3.out.kept g5' (by simp)); obtain ⟨p5, c5, e5, _⟩ := h5.form; subst e5; have d5 := Y5.out.cell 4; simp at d5; have f6 := Y5.out.frozen 4; have hs5 := g5'.size; clear h5 g5 g5'))
  all_goals
    have Y6 := hid (Y5.out.set 4 (.slice p5 2 c5))
    have gs := grown_set (grown_refl w5 (some (w.heap.size + 1))) 4 (.slice p5 2 c5)
    have P6 := hid (P5.out.keptG gs (by omega) (by omega))
    have G6 := hid (grown_to G5.out gs (by omega))
    have X6 := hid (X5.out.kept gs (fun e => by injection e with e; omega))
    have K6 := hid (KB5.out.ks.keptB gs (by omega))
    simp at Y6
    clear gs
    generalize w5.setCell ⟨w.heap.size + 1, 4, none⟩ (.slice p5 2 c5) = w6 at *
    have y0 := Y6.out.cell 0
    have y1 := Y6.out.cell 1
    have y2 := Y6.out.cell 2
    have y3 := Y6.out.cell 3
    have y4 := Y6.out.cell 4
    simp at y0 y1 y2 y3 y4
    go_wp2_with (first
      | (go_at_call 42; refine (C42.out q3 (.mk 10 0 ⟨#[]⟩ 0 [a2, a3]) 10 0 ⟨#[]⟩ 0 p5 2 c5 _ P6.out (by have h := HX.out; unfold loopP at h; rw [bnd_ok HZ1.out.1, bnd_ok HZ2.out.1, bnd_ok HZ3.out.1] at h; exact h)).mono ?_; intro e w8 hh0; rcases PrP.cases hh0 (by have h := HX.out; unfold loopP at h; rw [bnd_ok HZ1.out.1, bnd_ok HZ2.out.1, bnd_ok HZ3.out.1] at h; exact h) with hh | hh; (case inl => obtain ⟨at_, n, hz, rfl, g⟩ := hh; exact ⟨rfl, by unfold loopP; rw [bnd_ok HZ1.out.1, bnd_ok HZ2.out.1, bnd_ok HZ3.out.1, hz]; exact ⟨rfl, grown_bb G6.out g⟩⟩); obtain ⟨a8, q8, v8, hz, rfl, hv, pp, g⟩ := hh; have hv' : v8 = _ := hv; subst hv'; obtain rfl := made_ok hz; have HZ8 := hid (And.intro hz trivial); have P8 := hid pp; have G8 := hid (grown_bb G6.out g); have X8 := hid (X6.out.kept g (lt_nb hbl _ (by omega))); have K8 := hid (K6.out.keptB g (by omega)); clear hz pp g hh0)
      | (refine store_nd (.tmp 2) (.tmp 18) rfl rfl w.heap.size X8.out rfl rfl ?_; intro w9 b9 g9; have Z9 := hid b9; have G9 := hid (grown_to G8.out g9 (Nat.le_refl _)); have P9 := hid (P8.out.keptG g9 (by omega) (by omega)); have K9 := hid (K8.out.keptB g9 (by omega)); clear b9 g9))
    refine bodyPost_ret (results_nd rfl _ _ w.heap.size rfl Z9.out) rfl ?_
    unfold loopP
    rw [bnd_ok HZ1.out.1, bnd_ok HZ2.out.1, bnd_ok HZ3.out.1, HZ8.out.1]
    exact ⟨_, rfl, ⟨_, rfl, K9.out.mono (fun g hg _ => by omega)⟩, P9.out, G9.out⟩
end Pm
end Go.Proofs.YtajoncmmdeahnaaGreatDoor
namespace Go.Proofs.YtajoncmmdeahnaaGreatDoor
open Go.RowKit
namespace Pm
set_option maxRecDepth 100000 in
set_option maxHeartbeats 4000000 in
theorem declaration_any {b tg cp : Nat} {all : List Tk} {p : Ps} (R : Rc) (w : World) (hP : PsA w b tg cp all p) (hx : declarationP R p ≠ .error none)
    (h79 : ∀ q W, PsA W b tg cp all q → globalP q ≠ .error none → Calls Tryz.prog 79 #[.pointer (some ⟨b, 0, none⟩)] W (PrP (nV W.heap.size) b tg cp all W (globalP q)))
    (h80 : ∀ q W, PsA W b tg cp all q → functionP R q ≠ .error none → Calls Tryz.prog 80 #[.pointer (some ⟨b, 0, none⟩)] W (PrP (nV W.heap.size) b tg cp all W (functionP R q)))
    (h81 : ∀ q W, PsA W b tg cp all q → testP R q ≠ .error none → Calls Tryz.prog 81 #[.pointer (some ⟨b, 0, none⟩)] W (PrP (nV W.heap.size) b tg cp all W (testP R q))) :
    Calls Tryz.prog 41 #[.pointer (some ⟨b, 0, none⟩)] w (PrP (nV w.heap.size) b tg cp all w (declarationP R p)) := by
  have hbl := hP.lt
  have htl := hP.tgl
  have X0 := hid (Blk.new w 27 #[.int .i64 0, .int .i64 0, .string ⟨#[]⟩, .int .i64 0, .slice none 0 0])
  have G0 := hid (grown_refl w (some b))
  have P0 := hid hP
  match hw : p.ws with
  | [] => exact absurd (by unfold declarationP; rw [bnd_err (nxt_nil hw)]) hx
  | t :: r =>
    have C38 : Hid (∀ W, w.grownBy W none → Calls Tryz.prog 38 #[.pointer (some ⟨b, 0, none⟩)] W fun e w' => e = .returned (.agg #[.int .i64 t.kind, .string ⟨t.s.toArray⟩, .int .i64 t.pl]) ∧ W.grownBy w' none) := fun W hW => next_any W (hP.kept hW) hw
    have f1 := fld1
    have e0 : declarationP R p = (if (t.s == wVar) = true then globalP p else (if (t.s == wFunc) = true then functionP R p else testP R p)) := by
      unfold declarationP
      rw [bnd_ok (nxt_eq hw)]
      by_cases k1 : (t.s == wVar) = true
      · rw [if_pos k1, if_pos k1]
      rw [if_neg k1, if_neg k1]
      by_cases k2 : (t.s == wFunc) = true
      · rw [if_pos k2, if_pos k2]
      rw [if_neg k2, if_neg k2]
    rw [e0] at hx ⊢
    clear e0 hw hP
    by_cases k1 : (t.s == wVar) = true
    · rw [if_pos k1] at hx ⊢
      have HX := hid hx
      clear hx
      have CX : Hid (∀ q W, PsA W b tg cp all q → globalP q ≠ .error none → Calls Tryz.prog 79 #[.pointer (some ⟨b, 0, none⟩)] W (PrP (nV W.heap.size) b tg cp all W (globalP q))) := hid h79
      unfold wVar at k1
      go_enter Tryz.func41, Tryz.ntmps41
      go_wp2_with (first
        | (go_at_call 38; refine (C38.out _ (by repeat (first | exact grown_refl _ _ | refine grown_alloc ?_ _))).mono ?_; rintro e w1 ⟨rfl, g⟩; have P1 := hid (P0.out.kept (grown_none (by repeat (first | exact grown_refl _ _ | refine grown_alloc ?_ _)) g)); have G1 : Hid (w.grownBy w1 (some b)) := hid (grown_b (b := b) (grown_none (by repeat (first | exact grown_refl _ _ | refine grown_alloc ?_ _)) g)); have X1 := hid (X0.out.kept g (by simp)); have s1 := g.size; rw [World.size_alloc] at s1; clear g)
        | (go_at_call 79; refine (CX.out p _ P1.out HX.out).mono ?_; intro e w2 hh0; rcases PrP.cases hh0 HX.out with hh | hh; (case inl => obtain ⟨at_, n, hz, rfl, g⟩ := hh; exact ⟨rfl, by rw [hz]; exact ⟨rfl, grown_bb G1.out g⟩⟩); obtain ⟨a2, q2, v2, hz, rfl, hv, pp, g⟩ := hh; obtain ⟨qs2, rfl, hk⟩ := hv; obtain ⟨ps2, cs2, rfl, _, _, _⟩ := hk.form; have HZ2 := hid (And.intro hz trivial); have P2 := hid pp; have G2 := hid (grown_bb G1.out g); have K2 := hid hk; have X2 := hid (X1.out.kept g (lt_nb hbl _ (by omega))); have s12 := g.size; clear hz pp g hh0)
        | (refine store_nd (.tmp 2) (.tmp 9) rfl rfl w.heap.size X2.out rfl rfl ?_; intro w9 b9 g9; have Z9 := hid b9; have G9 := hid (grown_to G2.out g9 (Nat.le_refl _)); have P9 := hid (P2.out.keptG g9 (by omega) (by omega)); have K9 := hid (K2.out.keptB g9 (by omega)); clear b9 g9))
      refine bodyPost_ret (results_nd rfl _ _ w.heap.size rfl Z9.out) rfl ?_
      rw [HZ2.out.1]
      exact ⟨_, rfl, ⟨_, rfl, K9.out.mono (fun g hg _ => by have h5 : w1.heap.size ≤ g := hg; omega)⟩, P9.out, G9.out⟩
    replace k1 : (t.s == wVar) = false := by simpa using k1
    rw [if_neg (by rw [k1]; decide)] at hx ⊢
    by_cases k2 : (t.s == wFunc) = true
    · rw [if_pos k2] at hx ⊢
      have HX := hid hx
      clear hx
      have CX : Hid (∀ q W, PsA W b tg cp all q → functionP R q ≠ .error none → Calls Tryz.prog 80 #[.pointer (some ⟨b, 0, none⟩)] W (PrP (nV W.heap.size) b tg cp all W (functionP R q))) := hid h80
      unfold wVar at k1
      unfold wFunc at k2
      go_enter Tryz.func41, Tryz.ntmps41
      go_wp2_with (first
        | (go_at_call 38; refine (C38.out _ (by repeat (first | exact grown_refl _ _ | refine grown_alloc ?_ _))).mono ?_; rintro e w1 ⟨rfl, g⟩; have P1 := hid (P0.out.kept (grown_none (by repeat (first | exact grown_refl _ _ | refine grown_alloc ?_ _)) g)); have G1 : Hid (w.grownBy w1 (some b)) := hid (grown_b (b := b) (grown_none (by repeat (first | exact grown_refl _ _ | refine grown_alloc ?_ _)) g)); have X1 := hid (X0.out.kept g (by simp)); have s1 := g.size; rw [World.size_alloc] at s1; clear g)
        | (go_at_call 80; refine (CX.out p _ P1.out HX.out).mono ?_; intro e w2 hh0; rcases PrP.cases hh0 HX.out with hh | hh; (case inl => obtain ⟨at_, n, hz, rfl, g⟩ := hh; exact ⟨rfl, by rw [hz]; exact ⟨rfl, grown_bb G1.out g⟩⟩); obtain ⟨a2, q2, v2, hz, rfl, hv, pp, g⟩ := hh; obtain ⟨qs2, rfl, hk⟩ := hv; obtain ⟨ps2, cs2, rfl, _, _, _⟩ := hk.form; have HZ2 := hid (And.intro hz trivial); have P2 := hid pp; have G2 := hid (grown_bb G1.out g); have K2 := hid hk; have X2 := hid (X1.out.kept g (lt_nb hbl _ (by omega))); have s12 := g.size; clear hz pp g hh0)
        | (refine store_nd (.tmp 2) (.tmp 13) rfl rfl w.heap.size X2.out rfl rfl ?_; intro w9 b9 g9; have Z9 := hid b9; have G9 := hid (grown_to G2.out g9 (Nat.le_refl _)); have P9 := hid (P2.out.keptG g9 (by omega) (by omega)); have K9 := hid (K2.out.keptB g9 (by omega)); clear b9 g9))
      refine bodyPost_ret (results_nd rfl _ _ w.heap.size rfl Z9.out) rfl ?_
      rw [HZ2.out.1]
      exact ⟨_, rfl, ⟨_, rfl, K9.out.mono (fun g hg _ => by have h5 : w1.heap.size ≤ g := hg; omega)⟩, P9.out, G9.out⟩
    replace k2 : (t.s == wFunc) = false := by simpa using k2
    rw [if_neg (by rw [k2]; decide)] at hx ⊢
    have HX := hid hx
    clear hx
    have CX : Hid (∀ q W, PsA W b tg cp all q → testP R q ≠ .error none → Calls Tryz.prog 81 #[.pointer (some ⟨b, 0, none⟩)] W (PrP (nV W.heap.size) b tg cp all W (testP R q))) := hid h81
    unfold wVar at k1
    unfold wFunc at k2
    go_enter Tryz.func41, Tryz.ntmps41
    go_wp2_with (first
      | (go_at_call 38; refine (C38.out _ (by repeat (first | exact grown_refl _ _ | refine grown_alloc ?_ _))).mono ?_; rintro e w1 ⟨rfl, g⟩; have P1 := hid (P0.out.kept (grown_none (by repeat (first | exact grown_refl _ _ | refine grown_alloc ?_ _)) g)); have G1 : Hid (w.grownBy w1 (some b)) := hid (grown_b (b := b) (grown_none (by repeat (first | exact grown_refl _ _ | refine grown_alloc ?_ _)) g)); have X1 := hid (X0.out.kept g (by simp)); have s1 := g.size; rw [World.size_alloc] at s1; clear g)
      | (go_at_call 81; refine (CX.out p _ P1.out HX.out).mono ?_; intro e w2 hh0; rcases PrP.cases hh0 HX.out with hh | hh; (case inl => obtain ⟨at_, n, hz, rfl, g⟩ := hh; exact ⟨rfl, by rw [hz]; exact ⟨rfl, grown_bb G1.out g⟩⟩); obtain ⟨a2, q2, v2, hz, rfl, hv, pp, g⟩ := hh; obtain ⟨qs2, rfl, hk⟩ := hv; obtain ⟨ps2, cs2, rfl, _, _, _⟩ := hk.form; have HZ2 := hid (And.intro hz trivial); have P2 := hid pp; have G2 := hid (grown_bb G1.out g); have K2 := hid hk; have X2 := hid (X1.out.kept g (lt_nb hbl _ (by omega))); have s12 := g.size; clear hz pp g hh0)
      | (refine store_nd (.tmp 2) (.tmp 15) rfl rfl w.heap.size X2.out rfl rfl ?_; intro w9 b9 g9; have Z9 := hid b9; have G9 := hid (grown_to G2.out g9 (Nat.le_refl _)); have P9 := hid (P2.out.keptG g9 (by omega) (by omega)); have K9 := hid (K2.out.keptB g9 (by omega)); clear b9 g9))
    refine bodyPost_ret (results_nd rfl _ _ w.heap.size rfl Z9.out) rfl ?_
    rw [HZ2.out.1]
    exact ⟨_, rfl, ⟨_, rfl, K9.out.mono (fun g hg _ => by have h5 : w1.heap.size ≤ g := hg; omega)⟩, P9.out, G9.out⟩
end Pm
end Go.Proofs.YtajoncmmdeahnaaGreatDoor
