/-
  The parser: named.
-/
import Derived.Test.YtajoncmmdeahnaaGreatDoorKQa
namespace Go.Proofs.YtajoncmmdeahnaaGreatDoor
open Go.RowKit
namespace Pm
set_option maxRecDepth 100000 in
set_option maxHeartbeats 8000000 in
theorem named_any {b tg cp : Nat} {all : List Tk} {p : Ps} (R : Rc) (w : World) (hP : PsA w b tg cp all p) (hx : namedP R p ≠ .error none)
    (h231 : ∀ l q W, PsA W b tg cp all q → R.expr l q ≠ .error none → Calls Tryz.prog 231 #[.pointer (some ⟨b, 0, none⟩), .int .i64 l] W (PrP (nV W.heap.size) b tg cp all W (R.expr l q)))
    (h234 : ∀ (s : ByteArray) q W, PsA W b tg cp all q → callP R s q ≠ .error none → Calls Tryz.prog 234 #[.pointer (some ⟨b, 0, none⟩), .string s] W (PrP (nV W.heap.size) b tg cp all W (callP R s q))) :
    Calls Tryz.prog 200 #[.pointer (some ⟨b, 0, none⟩)] w (PrP (nV w.heap.size) b tg cp all w (namedP R p)) := by
  have hbl := hP.lt
  have htl := hP.tgl
  have X0 := hid (Blk.new w 27 #[.int .i64 0, .int .i64 0, .string ⟨#[]⟩, .int .i64 0, .slice none 0 0])
  have HX := hid hx
  have G0 := hid (grown_refl w (some b))
  have P0 := hid hP
  have C121 : Hid (∀ q W, PsA W b tg cp all q → nameP q ≠ .error none → Calls Tryz.prog 121 #[.pointer (some ⟨b, 0, none⟩)] W (PrP sV b tg cp all W (nameP q))) := fun q W hW h => name_any W hW h
  have C43 : Hid (∀ q W, PsA W b tg cp all q → passP q ≠ .error none → Calls Tryz.prog 43 #[.pointer (some ⟨b, 0, none⟩)] W (PrP uV b tg cp all W (passP q))) := fun q W hW h => pass_any W hW h
  have C231 : Hid (∀ q W, PsA W b tg cp all q → R.expr 1 q ≠ .error none → Calls Tryz.prog 231 #[.pointer (some ⟨b, 0, none⟩), .int .i64 1] W (PrP (nV W.heap.size) b tg cp all W (R.expr 1 q))) := fun q W hW h => h231 1 q W hW h
  have C234 : Hid (∀ q (s : ByteArray) W, PsA W b tg cp all q → callP R s q ≠ .error none → Calls Tryz.prog 234 #[.pointer (some ⟨b, 0, none⟩), .string s] W (PrP (nV W.heap.size) b tg cp all W (callP R s q))) := fun q s W hW h => h234 s q W hW h
  clear h234
  have C233 : Hid (∀ q base0 k s kid ps cs W, PsA W b tg cp all q → endedP (fun n => .mk k 0 s 0 [n]) kid q ≠ .error none → KsV W (fun g => base0 ≤ g ∧ g < W.heap.size) (.slice ps kid.kids.length cs) kid.kids → b < base0 → base0 ≤ W.heap.size → Calls Tryz.prog 233 #[.pointer (some ⟨b, 0, none⟩), .agg #[.int .i64 k, .int .i64 0, .string s, .int .i64 0, .slice none 0 0], .agg #[.int .i64 kid.kind, .int .i64 kid.ty, .string kid.txt, .int .i64 kid.num, .slice ps kid.kids.length cs]] W (PrP (nV base0) b tg cp all W (endedP (fun n => .mk k 0 s 0 [n]) kid q))) := fun q base0 k s kid ps cs W hW h hk hb h1 => ended_any base0 hb k s kid ps cs W hW h hk h1
  clear h231
  clear hx hP
  go_enter Tryz.func200, Tryz.ntmps200
  go_upto_region 2 with (first
    | (go_at_call 121; refine (C121.out p _ (P0.out.loc (n := w.heap.size) (by repeat (first | exact Loc.refl _ _ | refine Loc.alloc ?_ _ | refine Loc.quiet ?_ (by assumption))) hbl htl) (by have h := HX.out; unfold namedP at h; exact bnd_ne h)).mono ?_; intro e w1 hh0; rcases PrP.cases hh0 (by have h := HX.out; unfold namedP at h; exact bnd_ne h) with hh | hh; (case inl => obtain ⟨at_, n, hz, rfl, g⟩ := hh; exact ⟨rfl, by unfold namedP; rw [bnd_err hz]; exact ⟨rfl, grown_bb (Loc.grown G0.out (by repeat (first | exact Loc.refl _ _ | refine Loc.alloc ?_ _ | refine Loc.quiet ?_ (by assumption)))) g⟩⟩); obtain ⟨a1, q1, v1, hz, rfl, hv, pp, g⟩ := hh; have hv' : v1 = .string a1 := hv; subst hv'; have HZ1 := hid (And.intro hz trivial); have P1 := hid pp; have G1 := hid (grown_bb (Loc.grown G0.out (by repeat (first | exact Loc.refl _ _ | refine Loc.alloc ?_ _ | refine Loc.quiet ?_ (by assumption)))) g); have hs1 := g.size; rw [World.size_alloc] at hs1; have X1 := hid (X0.out.kept g (lt_nb hbl _ (by omega))); clear hz pp g hh0))
  have EQ1 : namedP R p = (nxt >>= fun t => if (t.s == [58, 61]) = true then storedP R 7 a1 else if (t.s == [61]) = true then storedP R 8 a1 else doneP R a1) q1 := by unfold namedP; rw [bnd_ok HZ1.out.1]
  have Yx := hid (Blk.new w1 27 #[.int .i64 7, .int .i64 0, .string a1, .int .i64 0, .slice none 0 0])
  have Px := hid (P1.out.kept (grown_alloc (grown_refl w1 none) (.cells #[.int .i64 7, .int .i64 0, .string a1, .int .i64 0, .slice none 0 0] 27)))
  have Gx := hid (Loc.grown G1.out ((Loc.refl _ w1).alloc (.cells #[.int .i64 7, .int .i64 0, .string a1, .int .i64 0, .slice none 0 0] 27)))
  have Xx := hid (X1.out.alloc (.cells #[.int .i64 7, .int .i64 0, .string a1, .int .i64 0, .slice none 0 0] 27))
  generalize w1.alloc (.cells #[.int .i64 7, .int .i64 0, .string a1, .int .i64 0, .slice none 0 0] 27) = wx at *
  have hcx := Yx.out.lt
  have hc1 : w.heap.size + 1 ≤ w1.heap.size := hs1
  generalize w1.heap.size = c at *
  match hw : q1.ws with
  | [] => exact absurd (EQ1.trans (bnd_err (nxt_nil hw))) HX.out
  | t :: r =>
    have C38 : Hid (∀ W, wx.grownBy W none → Calls Tryz.prog 38 #[.pointer (some ⟨b, 0, none⟩)] W fun e w' => e = .returned (.agg #[.int .i64 t.kind, .string ⟨t.s.toArray⟩, .int .i64 t.pl]) ∧ W.grownBy w' none) := fun W hW => next_any W (Px.out.kept hW) hw
    rw [bnd_ok (nxt_eq hw)] at EQ1
    have f1 := fld1
    clear C121 hs1
    rcases Bool.eq_false_or_eq_true (t.s == [58, 61]) with k1 | k1
    · rw [if_pos k1] at EQ1
      have EQ : Hid (namedP R p = (passP >>= fun _ => R.expr 1 >>= fun n => endedP (fun n => .mk 7 0 a1 0 [n]) n) q1 ∧ True) := hid ⟨EQ1, trivial⟩
      have HXC : Hid ((passP >>= fun _ => R.expr 1 >>= fun n => endedP (fun n => .mk 7 0 a1 0 [n]) n) q1 ≠ .error none) := hid (by rw [← EQ.out.1]; exact HX.out)
      clear hw EQ1
      go_wp2_with (first
        | ((go_at_call 38; refine (C38.out _ (grown_refl _ _)).mono ?_; rintro e w2 ⟨rfl, g⟩; have P2 := hid (Px.out.kept g); have G2 := hid (Loc.grown Gx.out ((Loc.refl _ wx).quiet g)); have X2 := hid (Xx.out.kept g (by simp)); have Y2 := hid (Yx.out.kept g (by simp)); have s2 := g.size; have z0 := Y2.out.cell 0; have z2 := Y2.out.cell 2; simp at z0 z2; have fz := Y2.out.frozen 0; clear g C38); have P2b := P2; have G2b := G2; have X2b := X2; have Y2b := Y2)
        | (go_at_call 43; refine (C43.out q1 _ P2b.out (by have h := HXC.out; exact bnd_ne h)).mono ?_; intro e w3 hh0; rcases PrP.cases hh0 (by have h := HXC.out; exact bnd_ne h) with hh | hh; (case inl => obtain ⟨at_, n, hz, rfl, g⟩ := hh; exact ⟨rfl, by rw [EQ.out.1, bnd_err hz]; exact ⟨rfl, grown_bb G2b.out g⟩⟩); obtain ⟨a3, q3, v3, hz, rfl, hv, pp, g⟩ := hh; have hv' : v3 = .tuple #[] := hv; subst hv'; have HZ3 := hid (And.intro hz trivial); have P3 := hid pp; have G3 := hid (grown_bb G2b.out g); have X3 := hid (X2b.out.kept g (lt_nb hbl _ (by omega))); have Y3 := hid (Y2b.out.kept g (lt_nb hbl _ (by omega))); have s3 := g.size; clear hz pp g hh0))
      have y0 := Y3.out.cell 0
      have y1 := Y3.out.cell 1
      have y2 := Y3.out.cell 2
      have y3 := Y3.out.cell 3
      have y4 := Y3.out.cell 4
      simp at y0 y1 y2 y3 y4
      have GD : w3.grownBy w3.drew none := grown_drew (grown_refl _ _)
      go_region_law (first
        | (go_simp; go_at_call 231; refine (C231.out q3 _ (P3.out.kept GD) (by have h := HXC.out; rw [bnd_ok HZ3.out.1] at h; exact bnd_ne h)).mono ?_; intro e w4 hh0; rcases PrP.cases hh0 (by have h := HXC.out; rw [bnd_ok HZ3.out.1] at h; exact bnd_ne h) with hh | hh; (case inl => obtain ⟨at_, n, hz, rfl, g⟩ := hh; exact ⟨rfl, by rw [EQ.out.1, bnd_ok HZ3.out.1, bnd_err hz]; exact ⟨rfl, grown_bb (Loc.grown G3.out ((Loc.refl _ w3).quiet GD)) g⟩⟩); obtain ⟨a4, q4, v4, hz, rfl, hv, pp, g⟩ := hh; obtain ⟨qs4, rfl, hk⟩ := hv; obtain ⟨ps4, cs4, rfl, _, _, _⟩ := hk.form; have HZ4 := hid (And.intro hz trivial); have P4 := hid pp; have G4 := hid (grown_bb (Loc.grown G3.out ((Loc.refl _ w3).quiet GD)) g); have gg : w3.grownBy w4 (some b) := grown_bb (grown_b GD) g; have K4 := hid (hk.mono (Q := fun g => w3.heap.size ≤ g ∧ g < w4.heap.size) (fun g h1 h2 => ⟨h1, h2⟩)); have X4 := hid (X3.out.kept gg (lt_nb hbl _ (by omega))); have Y4 := hid (Y3.out.kept gg (lt_nb hbl _ (by omega))); have s4 : w3.heap.size ≤ w4.heap.size := gg.size; have m0 := Y4.out.cell 0; have m1 := Y4.out.cell 1; have m2 := Y4.out.cell 2; have m3 := Y4.out.cell 3; have m4 := Y4.out.cell 4; simp at m0 m1 m2 m3 m4; clear gg; clear hz pp g hh0)
        | (go_simp; go_at_call 233; refine (C233.out q4 w3.heap.size 7 a1 a4 ps4 cs4 _ P4.out (by have h := HXC.out; rw [bnd_ok HZ3.out.1, bnd_ok HZ4.out.1] at h; exact h) K4.out (by omega) s4).mono ?_; intro e w5 hh0; rcases PrP.cases hh0 (by have h := HXC.out; rw [bnd_ok HZ3.out.1, bnd_ok HZ4.out.1] at h; exact h) with hh | hh; (case inl => obtain ⟨at_, n, hz, rfl, g⟩ := hh; exact ⟨rfl, by rw [EQ.out.1, bnd_ok HZ3.out.1, bnd_ok HZ4.out.1, hz]; exact ⟨rfl, grown_bb G4.out g⟩⟩); obtain ⟨a5, q5, v5, hz, rfl, hv, pp, g⟩ := hh; obtain ⟨qs5, rfl, hk⟩ := hv; obtain ⟨ps5, cs5, rfl, _, _, _⟩ := hk.form; have HZ5 := hid (And.intro hz trivial); have P5 := hid pp; have G5 := hid (grown_bb G4.out g); have K5 := hid hk; have X5 := hid (X4.out.kept g (lt_nb hbl _ (by omega))); have x0 := X5.out.cell 0; have x1 := X5.out.cell 1; have x2 := X5.out.cell 2; have x3 := X5.out.cell 3; have x4 := X5.out.cell 4; simp at x0 x1 x2 x3 x4; have xf : ∀ i, w5.frozen? ⟨w.heap.size, i, none⟩ = false := fun i => X5.out.frozen i; clear hz pp g hh0))
      all_goals
        have gs := grown_set5 (grown_refl w5 (some w.heap.size)) 0 (.int .i64 a5.kind) (.int .i64 a5.ty) (.string a5.txt) (.int .i64 a5.num) (.slice ps5 a5.kids.length cs5)
        have hb5 := X5.out.set5 0 (.int .i64 a5.kind) (.int .i64 a5.ty) (.string a5.txt) (.int .i64 a5.num) (.slice ps5 a5.kids.length cs5)
        obtain ⟨w6, hw6⟩ : ∃ w6, set5 w5 w.heap.size 0 (.int .i64 a5.kind) (.int .i64 a5.ty) (.string a5.txt) (.int .i64 a5.num) (.slice ps5 a5.kids.length cs5) = w6 := ⟨_, rfl⟩
        have e6 : (((((w5.setCell ⟨w.heap.size, 0, none⟩ (.int .i64 a5.kind)).setCell ⟨w.heap.size, 1, none⟩ (.int .i64 a5.ty)).setCell ⟨w.heap.size, 2, none⟩ (.string a5.txt)).setCell ⟨w.heap.size, 3, none⟩ (.int .i64 a5.num)).setCell ⟨w.heap.size, 4, none⟩ (.slice ps5 a5.kids.length cs5)) = w6 := hw6
        rw [hw6] at gs hb5
        rw [e6]
        have Z9 : Hid (Blk w6 w.heap.size 27 #[.int .i64 a5.kind, .int .i64 a5.ty, .string a5.txt, .int .i64 a5.num, .slice ps5 a5.kids.length cs5]) := hid hb5
        have P9 := hid (P5.out.keptG gs (by omega) (by omega))
        have G9 := hid (grown_to G5.out gs (Nat.le_refl _))
        have K9 := hid (K5.out.keptB gs (by omega))
        clear gs hb5 hw6 e6
        go_wp2_with fail
        refine bodyPost_ret (results_nd rfl _ _ w.heap.size rfl Z9.out) rfl ?_
        rw [EQ.out.1, bnd_ok HZ3.out.1, bnd_ok HZ4.out.1, HZ5.out.1]
        exact ⟨_, rfl, ⟨_, rfl, K9.out.mono (fun g hg _ => by omega)⟩, P9.out, G9.out⟩
    rw [if_neg (by rw [k1]; decide)] at EQ1
    rcases Bool.eq_false_or_eq_true (t.s == [61]) with k2 | k2
    · rw [if_pos k2] at EQ1
      have EQ : Hid (namedP R p = (passP >>= fun _ => R.expr 1 >>= fun n => endedP (fun n => .mk 8 0 a1 0 [n]) n) q1 ∧ True) := hid ⟨EQ1, trivial⟩
      have HXC : Hid ((passP >>= fun _ => R.expr 1 >>= fun n => endedP (fun n => .mk 8 0 a1 0 [n]) n) q1 ≠ .error none) := hid (by rw [← EQ.out.1]; exact HX.out)
      clear hw EQ1
      go_wp2_with (first
        | (go_at_call 38; refine (C38.out _ (grown_refl _ _)).mono ?_; rintro e w2 ⟨rfl, g⟩; have P2 := hid (Px.out.kept g); have G2 := hid (Loc.grown Gx.out ((Loc.refl _ wx).quiet g)); have X2 := hid (Xx.out.kept g (by simp)); have Y2 := hid (Yx.out.kept g (by simp)); have s2 := g.size; have z0 := Y2.out.cell 0; have z2 := Y2.out.cell 2; simp at z0 z2; have fz := Y2.out.frozen 0; clear g C38))
      have gs := grown_set (grown_refl w2 (some c)) 0 (.int .i64 8)
      have Y2b := hid (Y2.out.set 0 (.int .i64 8))
      simp at Y2b
      have P2b := hid (P2.out.keptG gs (by omega) (by omega))
      have G2b := hid (grown_to G2.out gs (by omega))
      have X2b := hid (X2.out.kept gs (fun e => by injection e with e; omega))
      have s2b := gs.size
      clear gs
      generalize w2.setCell ⟨c, 0, none⟩ (.int .i64 8) = w2b at *
      go_wp2_with (first
        | (go_at_call 43; refine (C43.out q1 _ P2b.out (by have h := HXC.out; exact bnd_ne h)).mono ?_; intro e w3 hh0; rcases PrP.cases hh0 (by have h := HXC.out; exact bnd_ne h) with hh | hh; (case inl => obtain ⟨at_, n, hz, rfl, g⟩ := hh; exact ⟨rfl, by rw [EQ.out.1, bnd_err hz]; exact ⟨rfl, grown_bb G2b.out g⟩⟩); obtain ⟨a3, q3, v3, hz, rfl, hv, pp, g⟩ := hh; have hv' : v3 = .tuple #[] := hv; subst hv'; have HZ3 := hid (And.intro hz trivial); have P3 := hid pp; have G3 := hid (grown_bb G2b.out g); have X3 := hid (X2b.out.kept g (lt_nb hbl _ (by omega))); have Y3 := hid (Y2b.out.kept g (lt_nb hbl _ (by omega))); have s3 := g.size; clear hz pp g hh0))
      have y0 := Y3.out.cell 0
      have y1 := Y3.out.cell 1
      have y2 := Y3.out.cell 2
      have y3 := Y3.out.cell 3
      have y4 := Y3.out.cell 4
      simp at y0 y1 y2 y3 y4
      have GD : w3.grownBy w3.drew none := grown_drew (grown_refl _ _)
      go_region_law (first
        | (go_simp; go_at_call 231; refine (C231.out q3 _ (P3.out.kept GD) (by have h := HXC.out; rw [bnd_ok HZ3.out.1] at h; exact bnd_ne h)).mono ?_; intro e w4 hh0; rcases PrP.cases hh0 (by have h := HXC.out; rw [bnd_ok HZ3.out.1] at h; exact bnd_ne h) with hh | hh; (case inl => obtain ⟨at_, n, hz, rfl, g⟩ := hh; exact ⟨rfl, by rw [EQ.out.1, bnd_ok HZ3.out.1, bnd_err hz]; exact ⟨rfl, grown_bb (Loc.grown G3.out ((Loc.refl _ w3).quiet GD)) g⟩⟩); obtain ⟨a4, q4, v4, hz, rfl, hv, pp, g⟩ := hh; obtain ⟨qs4, rfl, hk⟩ := hv; obtain ⟨ps4, cs4, rfl, _, _, _⟩ := hk.form; have HZ4 := hid (And.intro hz trivial); have P4 := hid pp; have G4 := hid (grown_bb (Loc.grown G3.out ((Loc.refl _ w3).quiet GD)) g); have gg : w3.grownBy w4 (some b) := grown_bb (grown_b GD) g; have K4 := hid (hk.mono (Q := fun g => w3.heap.size ≤ g ∧ g < w4.heap.size) (fun g h1 h2 => ⟨h1, h2⟩)); have X4 := hid (X3.out.kept gg (lt_nb hbl _ (by omega))); have Y4 := hid (Y3.out.kept gg (lt_nb hbl _ (by omega))); have s4 : w3.heap.size ≤ w4.heap.size := gg.size; have m0 := Y4.out.cell 0; have m1 := Y4.out.cell 1; have m2 := Y4.out.cell 2; have m3 := Y4.out.cell 3; have m4 := Y4.out.cell 4; simp at m0 m1 m2 m3 m4; clear gg; clear hz pp g hh0)
        | (go_simp; go_at_call 233; refine (C233.out q4 w3.heap.size 8 a1 a4 ps4 cs4 _ P4.out (by have h := HXC.out; rw [bnd_ok HZ3.out.1, bnd_ok HZ4.out.1] at h; exact h) K4.out (by omega) s4).mono ?_; intro e w5 hh0; rcases PrP.cases hh0 (by have h := HXC.out; rw [bnd_ok HZ3.out.1, bnd_ok HZ4.out.1] at h; exact h) with hh | hh; (case inl => obtain ⟨at_, n, hz, rfl, g⟩ := hh; exact ⟨rfl, by rw [EQ.out.1, bnd_ok HZ3.out.1, bnd_ok HZ4.out.1, hz]; exact ⟨rfl, grown_bb G4.out g⟩⟩); obtain ⟨a5, q5, v5, hz, rfl, hv, pp, g⟩ := hh; obtain ⟨qs5, rfl, hk⟩ := hv; obtain ⟨ps5, cs5, rfl, _, _, _⟩ := hk.form; have HZ5 := hid (And.intro hz trivial); have P5 := hid pp; have G5 := hid (grown_bb G4.out g); have K5 := hid hk; have X5 := hid (X4.out.kept g (lt_nb hbl _ (by omega))); have x0 := X5.out.cell 0; have x1 := X5.out.cell 1; have x2 := X5.out.cell 2; have x3 := X5.out.cell 3; have x4 := X5.out.cell 4; simp at x0 x1 x2 x3 x4; have xf : ∀ i, w5.frozen? ⟨w.heap.size, i, none⟩ = false := fun i => X5.out.frozen i; clear hz pp g hh0))
      all_goals
        have gs := grown_set5 (grown_refl w5 (some w.heap.size)) 0 (.int .i64 a5.kind) (.int .i64 a5.ty) (.string a5.txt) (.int .i64 a5.num) (.slice ps5 a5.kids.length cs5)
        have hb5 := X5.out.set5 0 (.int .i64 a5.kind) (.int .i64 a5.ty) (.string a5.txt) (.int .i64 a5.num) (.slice ps5 a5.kids.length cs5)
        obtain ⟨w6, hw6⟩ : ∃ w6, set5 w5 w.heap.size 0 (.int .i64 a5.kind) (.int .i64 a5.ty) (.string a5.txt) (.int .i64 a5.num) (.slice ps5 a5.kids.length cs5) = w6 := ⟨_, rfl⟩
        have e6 : (((((w5.setCell ⟨w.heap.size, 0, none⟩ (.int .i64 a5.kind)).setCell ⟨w.heap.size, 1, none⟩ (.int .i64 a5.ty)).setCell ⟨w.heap.size, 2, none⟩ (.string a5.txt)).setCell ⟨w.heap.size, 3, none⟩ (.int .i64 a5.num)).setCell ⟨w.heap.size, 4, none⟩ (.slice ps5 a5.kids.length cs5)) = w6 := hw6
        rw [hw6] at gs hb5
        rw [e6]
        have Z9 : Hid (Blk w6 w.heap.size 27 #[.int .i64 a5.kind, .int .i64 a5.ty, .string a5.txt, .int .i64 a5.num, .slice ps5 a5.kids.length cs5]) := hid hb5
        have P9 := hid (P5.out.keptG gs (by omega) (by omega))
        have G9 := hid (grown_to G5.out gs (Nat.le_refl _))
        have K9 := hid (K5.out.keptB gs (by omega))
        clear gs hb5 hw6 e6
        go_wp2_with fail
        refine bodyPost_ret (results_nd rfl _ _ w.heap.size rfl Z9.out) rfl ?_
        rw [EQ.out.1, bnd_ok HZ3.out.1, bnd_ok HZ4.out.1, HZ5.out.1]
        exact ⟨_, rfl, ⟨_, rfl, K9.out.mono (fun g hg _ => by omega)⟩, P9.out, G9.out⟩
    rw [if_neg (by rw [k2]; decide)] at EQ1
    have EQ : Hid (namedP R p = (callP R a1 >>= fun n => endedP (fun n => .mk 13 0 ⟨#[]⟩ 0 [n]) n) q1 ∧ True) := hid ⟨EQ1, trivial⟩
    have HXC : Hid ((callP R a1 >>= fun n => endedP (fun n => .mk 13 0 ⟨#[]⟩ 0 [n]) n) q1 ≠ .error none) := hid (by rw [← EQ.out.1]; exact HX.out)
    clear hw EQ1
    go_wp2_with (first
      | (go_at_call 38; refine (C38.out _ (grown_refl _ _)).mono ?_; rintro e w2 ⟨rfl, g⟩; have P2 := hid (Px.out.kept g); have G2 := hid (Loc.grown Gx.out ((Loc.refl _ wx).quiet g)); have X2 := hid (Xx.out.kept g (by simp)); have Y2 := hid (Yx.out.kept g (by simp)); have s2 := g.size; have z0 := Y2.out.cell 0; have z2 := Y2.out.cell 2; simp at z0 z2; have fz := Y2.out.frozen 0; clear g C38)
      | (go_at_call 234; refine (C234.out q1 a1 _ P2.out (by have h := HXC.out; exact bnd_ne h)).mono ?_; intro e w3 hh0; rcases PrP.cases hh0 (by have h := HXC.out; exact bnd_ne h) with hh | hh; (case inl => obtain ⟨at_, n, hz, rfl, g⟩ := hh; exact ⟨rfl, by rw [EQ.out.1, bnd_err hz]; exact ⟨rfl, grown_bb G2.out g⟩⟩); obtain ⟨a3, q3, v3, hz, rfl, hv, pp, g⟩ := hh; obtain ⟨qs3, rfl, hk⟩ := hv; obtain ⟨ps3, cs3, rfl, _, _, _⟩ := hk.form; have HZ3 := hid (And.intro hz trivial); have P3 := hid pp; have G3 := hid (grown_bb G2.out g); have K3 := hid (hk.mono (Q := fun g => w2.heap.size ≤ g ∧ g < w3.heap.size) (fun g h1 h2 => ⟨h1, h2⟩)); have X3 := hid (X2.out.kept g (lt_nb hbl _ (by omega))); have s3 := g.size; clear hz pp g hh0)
      | (go_at_call 233; refine (C233.out q3 w2.heap.size 13 ⟨#[]⟩ a3 ps3 cs3 _ P3.out (by have h := HXC.out; rw [bnd_ok HZ3.out.1] at h; exact h) K3.out (by omega) s3).mono ?_; intro e w4 hh0; rcases PrP.cases hh0 (by have h := HXC.out; rw [bnd_ok HZ3.out.1] at h; exact h) with hh | hh; (case inl => obtain ⟨at_, n, hz, rfl, g⟩ := hh; exact ⟨rfl, by rw [EQ.out.1, bnd_ok HZ3.out.1, hz]; exact ⟨rfl, grown_bb G3.out g⟩⟩); obtain ⟨a4, q4, v4, hz, rfl, hv, pp, g⟩ := hh; obtain ⟨qs4, rfl, hk⟩ := hv; obtain ⟨ps4, cs4, rfl, _, _, _⟩ := hk.form; have HZ4 := hid (And.intro hz trivial); have P4 := hid pp; have G4 := hid (grown_bb G3.out g); have K4 := hid hk; have X4 := hid (X3.out.kept g (lt_nb hbl _ (by omega))); clear hz pp g hh0)
      | (refine store_nd (.tmp 2) (.tmp 16) rfl rfl w.heap.size X4.out rfl rfl ?_; intro w9 b9 g9; have Z9 := hid b9; have G9 := hid (grown_to G4.out g9 (Nat.le_refl _)); have P9 := hid (P4.out.keptG g9 (by omega) (by omega)); have K9 := hid (K4.out.keptB g9 (by omega)); clear b9 g9))
    refine bodyPost_ret (results_nd rfl _ _ w.heap.size rfl Z9.out) rfl ?_
    rw [EQ.out.1, bnd_ok HZ3.out.1, HZ4.out.1]
    exact ⟨_, rfl, ⟨_, rfl, K9.out.mono (fun g hg _ => by omega)⟩, P9.out, G9.out⟩
end Pm
end Go.Proofs.YtajoncmmdeahnaaGreatDoor
