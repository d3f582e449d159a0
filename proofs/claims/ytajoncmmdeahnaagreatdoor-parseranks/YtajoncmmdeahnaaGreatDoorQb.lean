/-
  The parser: function.
-/
import Derived.Test.YtajoncmmdeahnaaGreatDoorKPw
import Derived.Test.YtajoncmmdeahnaaGreatDoorKQa
namespace Go.Proofs.YtajoncmmdeahnaaGreatDoor
open Go.RowKit
namespace Pm
set_option maxRecDepth 100000 in
set_option maxHeartbeats 8000000 in
theorem function_any {b tg cp : Nat} {all : List Tk} {p : Ps} (R : Rc) (w : World) (hP : PsA w b tg cp all p) (hx : functionP R p ≠ .error none)
    (h126 : ∀ q W, PsA W b tg cp all q → R.block q ≠ .error none → Calls Tryz.prog 126 #[.pointer (some ⟨b, 0, none⟩)] W (PrP (nV W.heap.size) b tg cp all W (R.block q)))
    (hlen : all.length ≤ 50000) :
    Calls Tryz.prog 80 #[.pointer (some ⟨b, 0, none⟩)] w (PrP (nV w.heap.size) b tg cp all w (functionP R p)) := by
  have hbl := hP.lt
  have htl := hP.tgl
  have X0 := hid (Blk.new w 27 #[.int .i64 0, .int .i64 0, .string ⟨#[]⟩, .int .i64 0, .slice none 0 0])
  have HX := hid hx
  have G0 := hid (grown_refl w (some b))
  have P0 := hid hP
  have C120a : Hid (∀ q W, PsA W b tg cp all q → wantP wFunc q ≠ .error none → Calls Tryz.prog 120 #[.pointer (some ⟨b, 0, none⟩), .string ⟨#[102, 117, 110, 99]⟩] W (PrP uV b tg cp all W (wantP wFunc q))) := fun q W hW h => want_any wFunc W hW h
  have C120b : Hid (∀ q W, PsA W b tg cp all q → wantP [40] q ≠ .error none → Calls Tryz.prog 120 #[.pointer (some ⟨b, 0, none⟩), .string ⟨#[40]⟩] W (PrP uV b tg cp all W (wantP [40] q))) := fun q W hW h => want_any [40] W hW h
  have C120c : Hid (∀ q W, PsA W b tg cp all q → wantP [41] q ≠ .error none → Calls Tryz.prog 120 #[.pointer (some ⟨b, 0, none⟩), .string ⟨#[41]⟩] W (PrP uV b tg cp all W (wantP [41] q))) := fun q W hW h => want_any [41] W hW h
  have C121 : Hid (∀ q W, PsA W b tg cp all q → nameP q ≠ .error none → Calls Tryz.prog 121 #[.pointer (some ⟨b, 0, none⟩)] W (PrP sV b tg cp all W (nameP q))) := fun q W hW h => name_any W hW h
  have C122 : Hid (∀ q W, PsA W b tg cp all q → typedP q ≠ .error none → Calls Tryz.prog 122 #[.pointer (some ⟨b, 0, none⟩)] W (PrP iV b tg cp all W (typedP q))) := fun q W hW h => typed_any W hW h
  have C124 : Hid (∀ q W, PsA W b tg cp all q → listP parameterP q ≠ .error none → Calls Tryz.prog 124 #[.pointer (some ⟨b, 0, none⟩), .func (.func 125) #[.pointer (some ⟨b, 0, none⟩)] #[]] W (PrP (lV W.heap.size) b tg cp all W (listP parameterP q))) := fun q W hW h => list_par parameterP W hW h hlen (fun q W hW h => parameter_any W hW h)
  have C126 := hid h126
  clear h126
  have C42 : Hid (∀ q x k t s n ps l c W, PsA W b tg cp all q → madeP x q ≠ .error none → Calls Tryz.prog 42 #[.pointer (some ⟨b, 0, none⟩), .agg #[.int .i64 k, .int .i64 t, .string s, .int .i64 n, .slice ps l c]] W (PrP (fun _ _ v => v = .agg #[.int .i64 k, .int .i64 t, .string s, .int .i64 n, .slice ps l c]) b tg cp all W (madeP x q))) := fun q x k t s n ps l c W hW h => made_any x k t s n ps l c W hW h
  clear hx hP
  go_enter Tryz.func80, Tryz.ntmps80
  have hmf : ∀ (fn : Fn) (first cap : Array Value) (w : World), (Instr.makeFunc fn first cap).run Tryz.prog w = .ok (.func fn first cap) w := fun _ _ _ _ => rfl
  go_wp2_with (first
    | (go_at_call 120; refine calls_at (args := #[.pointer (some ⟨b, 0, none⟩), .string ⟨#[102, 117, 110, 99]⟩]) rfl ?_; refine (C120a.out p _ (P0.out.loc (n := w.heap.size) (by repeat (first | exact Loc.refl _ _ | refine Loc.alloc ?_ _ | refine Loc.quiet ?_ (by assumption))) hbl htl) (by have h := HX.out; unfold functionP at h; exact bnd_ne h)).mono ?_; intro e w1 hh0; rcases PrP.cases hh0 (by have h := HX.out; unfold functionP at h; exact bnd_ne h) with hh | hh; (case inl => obtain ⟨at_, n, hz, rfl, g⟩ := hh; exact ⟨rfl, by unfold functionP; rw [bnd_err hz]; exact ⟨rfl, grown_bb (Loc.grown G0.out (by repeat (first | exact Loc.refl _ _ | refine Loc.alloc ?_ _ | refine Loc.quiet ?_ (by assumption)))) g⟩⟩); obtain ⟨a1, q1, v1, hz, rfl, hv, pp, g⟩ := hh; have hv' : v1 = .tuple #[] := hv; subst hv'; have HZ1 := hid (And.intro hz trivial); have P1 := hid pp; have G1 := hid (grown_bb (Loc.grown G0.out (by repeat (first | exact Loc.refl _ _ | refine Loc.alloc ?_ _ | refine Loc.quiet ?_ (by assumption)))) g); have hs1 := g.size; rw [World.size_alloc] at hs1; have X1 := hid (X0.out.kept g (lt_nb hbl _ (by omega))); clear hz pp g hh0)
    | (go_at_call 121; refine (C121.out q1 _ P1.out (by have h := HX.out; unfold functionP at h; rw [bnd_ok HZ1.out.1] at h; exact bnd_ne h)).mono ?_; intro e w2 hh0; rcases PrP.cases hh0 (by have h := HX.out; unfold functionP at h; rw [bnd_ok HZ1.out.1] at h; exact bnd_ne h) with hh | hh; (case inl => obtain ⟨at_, n, hz, rfl, g⟩ := hh; exact ⟨rfl, by unfold functionP; rw [bnd_ok HZ1.out.1, bnd_err hz]; exact ⟨rfl, grown_bb G1.out g⟩⟩); obtain ⟨a2, q2, v2, hz, rfl, hv, pp, g⟩ := hh; have hv' : v2 = .string a2 := hv; subst hv'; have HZ2 := hid (And.intro hz trivial); have P2 := hid pp; have G2 := hid (grown_bb G1.out g); have X2 := hid (X1.out.kept g (lt_nb hbl _ (by omega))); have s2 := g.size; clear hz pp g hh0)
    | (go_at_call 120; refine calls_at (args := #[.pointer (some ⟨b, 0, none⟩), .string ⟨#[40]⟩]) rfl ?_; refine (C120b.out q2 _ (P2.out.kept (grown_alloc (grown_refl w2 none) _)) (by have h := HX.out; unfold functionP at h; rw [bnd_ok HZ1.out.1, bnd_ok HZ2.out.1] at h; exact bnd_ne h)).mono ?_; intro e w3 hh0; rcases PrP.cases hh0 (by have h := HX.out; unfold functionP at h; rw [bnd_ok HZ1.out.1, bnd_ok HZ2.out.1] at h; exact bnd_ne h) with hh | hh; (case inl => obtain ⟨at_, n, hz, rfl, g⟩ := hh; exact ⟨rfl, by unfold functionP; rw [bnd_ok HZ1.out.1, bnd_ok HZ2.out.1, bnd_err hz]; exact ⟨rfl, grown_bb (Loc.grown G2.out ((Loc.refl _ w2).alloc _)) g⟩⟩); obtain ⟨a3, q3, v3, hz, rfl, hv, pp, g⟩ := hh; have hv' : v3 = .tuple #[] := hv; subst hv'; have HZ3 := hid (And.intro hz trivial); have P3 := hid pp; have G3 := hid (grown_bb (Loc.grown G2.out ((Loc.refl _ w2).alloc _)) g); have X3 := hid ((X2.out.alloc (.cells #[.int .i64 3, .int .i64 0, .string a2, .int .i64 0, .slice none 0 0] 27)).kept g (lt_nb hbl _ (by omega))); have Y3 := hid ((Blk.new w2 27 #[.int .i64 3, .int .i64 0, .string a2, .int .i64 0, .slice none 0 0]).kept g (lt_nb hbl _ (by omega))); have s3 := g.size; rw [World.size_alloc] at s3; clear hz pp g hh0))
  have EQ1 : functionP R p = ((do if ← seesP [41] then return [] else listP parameterP : Pr (List Nd)) >>= (fun ks => wantP [41] >>= fun _ => typedP >>= fun t => R.block >>= fun bl => madeP (.mk 3 t a2 0 (ks ++ [bl])))) q3 := by unfold functionP; rw [bnd_ok HZ1.out.1, bnd_ok HZ2.out.1, bnd_ok HZ3.out.1]
  match hw : q3.ws with
  | [] => exact absurd (EQ1.trans (bnd_err (bnd_err (sees_nil [41] hw)))) HX.out
  | t :: r =>
    have C39 : Hid (∀ W, w3.grownBy W none → Calls Tryz.prog 39 #[.pointer (some ⟨b, 0, none⟩), .string ⟨#[41]⟩] W fun e w' => e = .returned (.bool (t.s == [41])) ∧ W.grownBy w' none) := fun W hW => sees_any [41] W (P3.out.kept hW) hw
    have e0 : (do if ← seesP [41] then return [] else listP parameterP : Pr (List Nd)) q3 = if (t.s == [41]) = true then .ok ([], q3) else listP parameterP q3 := by
      rw [bnd_ok (sees_eq [41] hw)]
      by_cases k : (t.s == [41]) = true
      · rw [if_pos k, if_pos k]
        rfl
      · rw [if_neg k, if_neg k]
    clear C121 C120a C120b
    rcases Bool.eq_false_or_eq_true (t.s == [41]) with kb | kb
    · rw [kb] at C39
      rw [if_pos kb] at e0
      have EQ : Hid (functionP R p = (wantP [41] >>= fun _ => typedP >>= fun t => R.block >>= fun bl => madeP (.mk 3 t a2 0 ([] ++ [bl]))) q3 ∧ True) := hid ⟨EQ1.trans (bnd_ok e0), trivial⟩
      have HXC : Hid ((wantP [41] >>= fun _ => typedP >>= fun t => R.block >>= fun bl => madeP (.mk 3 t a2 0 ([] ++ [bl]))) q3 ≠ .error none) := hid (by rw [← EQ.out.1]; exact HX.out)
      have HLN : Hid (([] : List Nd).length < 100000) := hid (by simp)
      clear hw kb e0 EQ1 C124
      go_upto_region 6 with (first
        | (go_at_call 39; refine (C39.out _ (grown_refl _ _)).mono ?_; rintro e w5 ⟨rfl, g⟩; have P5 := hid (P3.out.kept g); have G5 := hid (Loc.grown G3.out ((Loc.refl _ w3).quiet g)); have X5 := hid (X3.out.kept g (by simp)); have Y5 := hid (Y3.out.kept g (by simp)); have s5 := g.size; have f4 := Y5.out.frozen 4; have c4 := Y5.out.cell 4; simp at c4; clear g C39))
      have KB5 : Hid (Kb w5 (w2.heap.size + 1) 27 (.slice none 0 0) []) := hid (Kb.nil _ _ _)
      go_upto_region 8 with (first
        | (go_at_call 120; refine calls_at (args := #[.pointer (some ⟨b, 0, none⟩), .string ⟨#[41]⟩]) rfl ?_; refine (C120c.out q3 _ P5.out (by have h := HXC.out; exact bnd_ne h)).mono ?_; intro e w8 hh0; rcases PrP.cases hh0 (by have h := HXC.out; exact bnd_ne h) with hh | hh; (case inl => obtain ⟨at_, n, hz, rfl, g⟩ := hh; exact ⟨rfl, by rw [EQ.out.1, bnd_err hz]; exact ⟨rfl, grown_bb G5.out g⟩⟩); obtain ⟨a8, q8, v8, hz, rfl, hv, pp, g⟩ := hh; have hv' : v8 = .tuple #[] := hv; subst hv'; have HZ8 := hid (And.intro hz trivial); have P8 := hid pp; have G8 := hid (grown_bb G5.out g); have X8 := hid (X5.out.kept g (lt_nb hbl _ (by omega))); have Y8 := hid (Y5.out.kept g (lt_nb hbl _ (by omega))); have KB8 := hid (KB5.out.kept g (fun r e => by cases e; omega)); have s8 := g.size; clear hz pp g hh0)
        | (go_at_call 122; refine (C122.out q8 _ P8.out (by have h := HXC.out; rw [bnd_ok HZ8.out.1] at h; exact bnd_ne h)).mono ?_; intro e w9 hh0; rcases PrP.cases hh0 (by have h := HXC.out; rw [bnd_ok HZ8.out.1] at h; exact bnd_ne h) with hh | hh; (case inl => obtain ⟨at_, n, hz, rfl, g⟩ := hh; exact ⟨rfl, by rw [EQ.out.1, bnd_ok HZ8.out.1, bnd_err hz]; exact ⟨rfl, grown_bb G8.out g⟩⟩); obtain ⟨a9, q9, v9, hz, rfl, hv, pp, g⟩ := hh; have hv' : v9 = .int .i64 a9 := hv; subst hv'; have HZ9 := hid (And.intro hz trivial); have P9 := hid pp; have G9 := hid (grown_bb G8.out g); have X9 := hid (X8.out.kept g (lt_nb hbl _ (by omega))); have Y9 := hid (Y8.out.kept g (lt_nb hbl _ (by omega))); have KB9 := hid (KB8.out.kept g (fun r e => by cases e; omega)); have s9 := g.size; have f91 := Y9.out.frozen 1; have d91 := Y9.out.cell 1; simp at d91; clear hz pp g hh0))
      have Y10 := hid (Y9.out.set 1 (.int .i64 a9))
      have gs := grown_set (grown_refl w9 (some w2.heap.size)) 1 (.int .i64 a9)
      have P10 := hid (P9.out.keptG gs (by omega) (by omega))
      have G10 := hid (grown_to G9.out gs (by omega))
      have X10 := hid (X9.out.kept gs (fun e => by injection e with e; omega))
      have KB10 := hid (KB9.out.kept gs (fun r e => by cases e; omega))
      have s10 := gs.size
      simp at Y10
      clear gs
      generalize w9.setCell ⟨w2.heap.size, 1, none⟩ (.int .i64 a9) = w10 at *
      have c104 := Y10.out.cell 4
      simp at c104
      have f104 := Y10.out.frozen 4
      have GD : w10.grownBy w10.drew none := grown_drew (grown_refl _ _)
      go_region_law (first
        | (go_simp; go_at_call 126; refine (C126.out q9 _ (P10.out.kept GD) (by have h := HXC.out; rw [bnd_ok HZ8.out.1, bnd_ok HZ9.out.1] at h; exact bnd_ne h)).mono ?_; intro e w11 hh0; rcases PrP.cases hh0 (by have h := HXC.out; rw [bnd_ok HZ8.out.1, bnd_ok HZ9.out.1] at h; exact bnd_ne h) with hh | hh; (case inl => obtain ⟨at_, n, hz, rfl, g⟩ := hh; exact ⟨rfl, by rw [EQ.out.1, bnd_ok HZ8.out.1, bnd_ok HZ9.out.1, bnd_err hz]; exact ⟨rfl, grown_bb (Loc.grown G10.out ((Loc.refl _ w10).quiet GD)) g⟩⟩); obtain ⟨a11, q11, v11, hz, rfl, hv, pp, g⟩ := hh; obtain ⟨qs11, rfl, hk⟩ := hv; obtain ⟨ps11, cs11, rfl, _, _, _⟩ := hk.form; have HZ11 := hid (And.intro hz trivial); have P11 := hid pp; have G11 := hid (grown_bb (Loc.grown G10.out ((Loc.refl _ w10).quiet GD)) g); have gg : w10.grownBy w11 (some b) := grown_bb (grown_b GD) g; have K11 := hid hk; have X11 := hid (X10.out.kept gg (lt_nb hbl _ (by omega))); have Y11 := hid (Y10.out.kept gg (lt_nb hbl _ (by omega))); have KB11 := hid (KB10.out.kept gg (fun r e => by cases e; omega)); have s11 : w10.heap.size ≤ w11.heap.size := gg.size; have d11 := Y11.out.cell 4; simp at d11; have f11 := Y11.out.frozen 4; have e11 : ∀ o, (w11.alloc o).cell? ⟨w2.heap.size, 4, none⟩ = some (.slice none 0 0) := fun o => (Y11.out.alloc o).cell 4; clear gg; clear hz pp g hh0)
        | (refine step_nd 25 27 Tryz.underlying25 info27 (.tmp 25) (.tmp 28) rfl rfl (w2.heap.size + 1) (.slice none 0 0) [] a11 (.slice ps11 a11.kids.length cs11) ⟨w11.heap.size, 0, none⟩ 1 (KB11.out.kept (grown_alloc (grown_refl w11 none) _) (by simp)) (NdC.new w11 27 a11 _) ((K11.out.mono (fun g hg _ => ⟨by have h9 : w10.drew.heap.size = w10.heap.size := rfl; have h5 : w10.drew.heap.size ≤ g := hg; omega, fun e => by have h6 := (KB10.out.lt g e.symm).2; have h9 : w10.drew.heap.size = w10.heap.size := rfl; have h5 : w10.drew.heap.size ≤ g := hg; omega⟩)).kept (grown_alloc (grown_refl w11 none) _)) HLN.out (by rw [World.size_alloc]; omega) rfl rfl ?_; intro v12 w12 h12 g12; have KB12 := hid h12; have RU := row_under KB11.out; have L12 : Hid (Loc w.heap.size w11 w12) := hid (((Loc.refl _ w11).alloc _).by g12 (fun k e => by have := RU k e; omega)); have P12 := hid (P11.out.loc L12.out hbl htl); have G12 := hid (Loc.grown G11.out L12.out); have X12 := hid ((X11.out.alloc (.cells #[.int .i64 a11.kind, .int .i64 a11.ty, .string a11.txt, .int .i64 a11.num, .slice ps11 a11.kids.length cs11] 27)).kept g12 (fun e => by have := RU _ e.symm; omega)); have Y12 := hid ((Y11.out.alloc (.cells #[.int .i64 a11.kind, .int .i64 a11.ty, .string a11.txt, .int .i64 a11.num, .slice ps11 a11.kids.length cs11] 27)).kept g12 (fun e => by have := RU _ e.symm; omega)); obtain ⟨p12, c12, e12, _⟩ := h12.form; subst e12; have d12 := Y12.out.cell 4; simp at d12; have f12 := Y12.out.frozen 4; clear h12 g12))
      all_goals
        have hL12 : ([] ++ [a11]).length = 1 := by simp
        rw [hL12] at KB12
        have Y13 := hid (Y12.out.set 4 (.slice p12 1 c12))
        have gs := grown_set (grown_refl w12 (some w2.heap.size)) 4 (.slice p12 1 c12)
        have P13 := hid (P12.out.keptG gs (by omega) (by omega))
        have G13 := hid (grown_to G12.out gs (by omega))
        have X13 := hid (X12.out.kept gs (fun e => by injection e with e; omega))
        have K13 := hid (KB12.out.ks.keptB gs (by omega))
        simp at Y13
        clear gs hL12
        generalize w12.setCell ⟨w2.heap.size, 4, none⟩ (.slice p12 1 c12) = w13 at *
        have y0 := Y13.out.cell 0
        have y1 := Y13.out.cell 1
        have y2 := Y13.out.cell 2
        have y3 := Y13.out.cell 3
        have y4 := Y13.out.cell 4
        simp at y0 y1 y2 y3 y4
        go_wp2_with (first
          | (go_at_call 42; refine (C42.out q11 (.mk 3 a9 a2 0 ([] ++ [a11])) 3 a9 a2 0 p12 1 c12 _ P13.out (by have h := HXC.out; rw [bnd_ok HZ8.out.1, bnd_ok HZ9.out.1, bnd_ok HZ11.out.1] at h; exact h)).mono ?_; intro e w20 hh0; rcases PrP.cases hh0 (by have h := HXC.out; rw [bnd_ok HZ8.out.1, bnd_ok HZ9.out.1, bnd_ok HZ11.out.1] at h; exact h) with hh | hh; (case inl => obtain ⟨at_, n, hz, rfl, g⟩ := hh; exact ⟨rfl, by rw [EQ.out.1, bnd_ok HZ8.out.1, bnd_ok HZ9.out.1, bnd_ok HZ11.out.1, hz]; exact ⟨rfl, grown_bb G13.out g⟩⟩); obtain ⟨a20, q20, v20, hz, rfl, hv, pp, g⟩ := hh; have hv' : v20 = _ := hv; subst hv'; obtain rfl := made_ok hz; have HZ20 := hid (And.intro hz trivial); have P20 := hid pp; have G20 := hid (grown_bb G13.out g); have XM := hid (X13.out.kept g (lt_nb hbl _ (by omega))); have KM := hid (K13.out.keptB g (by omega)); clear hz pp g hh0)
          | (refine store_nd (.tmp 2) (.tmp 33) rfl rfl w.heap.size XM.out rfl rfl ?_; intro w30 b9 g9; have Z9 := hid b9; have G30 := hid (grown_to G20.out g9 (Nat.le_refl _)); have P30 := hid (P20.out.keptG g9 (by omega) (by omega)); have K30 := hid (KM.out.keptB g9 (by omega)); clear b9 g9))
        refine bodyPost_ret (results_nd rfl _ _ w.heap.size rfl Z9.out) rfl ?_
        rw [EQ.out.1, bnd_ok HZ8.out.1, bnd_ok HZ9.out.1, bnd_ok HZ11.out.1, HZ20.out.1]
        exact ⟨_, rfl, ⟨_, rfl, K30.out.mono (fun g hg _ => by omega)⟩, P30.out, G30.out⟩
    · rw [kb] at C39
      rw [if_neg (by rw [kb]; decide)] at e0
      have EQ : Hid (functionP R p = (listP parameterP >>= fun ks => wantP [41] >>= fun _ => typedP >>= fun t => R.block >>= fun bl => madeP (.mk 3 t a2 0 (ks ++ [bl]))) q3 ∧ True) := hid ⟨by
        rw [EQ1]
        show Pr.bnd _ _ q3 = Pr.bnd _ _ q3
        unfold Pr.bnd
        rw [e0], trivial⟩
      have HXC : Hid ((listP parameterP >>= fun ks => wantP [41] >>= fun _ => typedP >>= fun t => R.block >>= fun bl => madeP (.mk 3 t a2 0 (ks ++ [bl]))) q3 ≠ .error none) := hid (by rw [← EQ.out.1]; exact HX.out)
      clear hw kb e0 EQ1
      go_upto_region 6 with (first
        | (go_at_call 39; refine (C39.out _ (grown_refl _ _)).mono ?_; rintro e w5 ⟨rfl, g⟩; have P5 := hid (P3.out.kept g); have G5 := hid (Loc.grown G3.out ((Loc.refl _ w3).quiet g)); have X5 := hid (X3.out.kept g (by simp)); have Y5 := hid (Y3.out.kept g (by simp)); have s5 := g.size; have f4 := Y5.out.frozen 4; have c4 := Y5.out.cell 4; simp at c4; clear g C39)
        | (go_at_call 124; refine (C124.out q3 _ P5.out (by have h := HXC.out; exact bnd_ne h)).mono ?_; intro e w6 hh0; rcases PrP.cases hh0 (by have h := HXC.out; exact bnd_ne h) with hh | hh; (case inl => obtain ⟨at_, n, hz, rfl, g⟩ := hh; exact ⟨rfl, by rw [EQ.out.1, bnd_err hz]; exact ⟨rfl, grown_bb G5.out g⟩⟩); obtain ⟨a6, q6, v6, hz, rfl, hv, pp, g⟩ := hh; have hkb : Kb w6 w5.heap.size 27 v6 a6 := hv.1; have hl6 : a6.length ≤ 60000 := hv.2; obtain ⟨ps6, cs6, ev6, _⟩ := hkb.form; subst ev6; have HZ6 := hid (And.intro hz trivial); have P6 := hid pp; have G6 := hid (grown_bb G5.out g); have KB6 := hid hkb; have X6 := hid (X5.out.kept g (lt_nb hbl _ (by omega))); have Y6 := hid (Y5.out.kept g (lt_nb hbl _ (by omega))); have s6 := g.size; have f6 := Y6.out.frozen 4; have d6 := Y6.out.cell 4; simp at d6; clear hz pp g hh0))
      have Y7 := hid (Y6.out.set 4 (.slice ps6 a6.length cs6))
      have gs := grown_set (grown_refl w6 (some w2.heap.size)) 4 (.slice ps6 a6.length cs6)
      have P7 := hid (P6.out.keptG gs (by omega) (by omega))
      have G7 := hid (grown_to G6.out gs (by omega))
      have X7 := hid (X6.out.kept gs (fun e => by injection e with e; omega))
      have KB7 := hid (KB6.out.kept gs (fun r e => by cases e; omega))
      have s7 := gs.size
      simp at Y7
      clear gs
      generalize w6.setCell ⟨w2.heap.size, 4, none⟩ (.slice ps6 a6.length cs6) = w7 at *
      have HLN : Hid (a6.length < 100000) := hid (by omega)
      go_upto_region 8 with (first
        | (go_at_call 120; refine calls_at (args := #[.pointer (some ⟨b, 0, none⟩), .string ⟨#[41]⟩]) rfl ?_; refine (C120c.out q6 _ P7.out (by have h := HXC.out; rw [bnd_ok HZ6.out.1] at h; exact bnd_ne h)).mono ?_; intro e w8 hh0; rcases PrP.cases hh0 (by have h := HXC.out; rw [bnd_ok HZ6.out.1] at h; exact bnd_ne h) with hh | hh; (case inl => obtain ⟨at_, n, hz, rfl, g⟩ := hh; exact ⟨rfl, by rw [EQ.out.1, bnd_ok HZ6.out.1, bnd_err hz]; exact ⟨rfl, grown_bb G7.out g⟩⟩); obtain ⟨a8, q8, v8, hz, rfl, hv, pp, g⟩ := hh; have hv' : v8 = .tuple #[] := hv; subst hv'; have HZ8 := hid (And.intro hz trivial); have P8 := hid pp; have G8 := hid (grown_bb G7.out g); have X8 := hid (X7.out.kept g (lt_nb hbl _ (by omega))); have Y8 := hid (Y7.out.kept g (lt_nb hbl _ (by omega))); have KB8 := hid (KB7.out.kept g (fun r e => by cases e; omega)); have s8 := g.size; clear hz pp g hh0)
        | (go_at_call 122; refine (C122.out q8 _ P8.out (by have h := HXC.out; rw [bnd_ok HZ6.out.1, bnd_ok HZ8.out.1] at h; exact bnd_ne h)).mono ?_; intro e w9 hh0; rcases PrP.cases hh0 (by have h := HXC.out; rw [bnd_ok HZ6.out.1, bnd_ok HZ8.out.1] at h; exact bnd_ne h) with hh | hh; (case inl => obtain ⟨at_, n, hz, rfl, g⟩ := hh; exact ⟨rfl, by rw [EQ.out.1, bnd_ok HZ6.out.1, bnd_ok HZ8.out.1, bnd_err hz]; exact ⟨rfl, grown_bb G8.out g⟩⟩); obtain ⟨a9, q9, v9, hz, rfl, hv, pp, g⟩ := hh; have hv' : v9 = .int .i64 a9 := hv; subst hv'; have HZ9 := hid (And.intro hz trivial); have P9 := hid pp; have G9 := hid (grown_bb G8.out g); have X9 := hid (X8.out.kept g (lt_nb hbl _ (by omega))); have Y9 := hid (Y8.out.kept g (lt_nb hbl _ (by omega))); have KB9 := hid (KB8.out.kept g (fun r e => by cases e; omega)); have s9 := g.size; have f91 := Y9.out.frozen 1; have d91 := Y9.out.cell 1; simp at d91; clear hz pp g hh0))
      have Y10 := hid (Y9.out.set 1 (.int .i64 a9))
      have gs := grown_set (grown_refl w9 (some w2.heap.size)) 1 (.int .i64 a9)
      have P10 := hid (P9.out.keptG gs (by omega) (by omega))
      have G10 := hid (grown_to G9.out gs (by omega))
      have X10 := hid (X9.out.kept gs (fun e => by injection e with e; omega))
      have KB10 := hid (KB9.out.kept gs (fun r e => by cases e; omega))
      have s10 := gs.size
      simp at Y10
      clear gs
      generalize w9.setCell ⟨w2.heap.size, 1, none⟩ (.int .i64 a9) = w10 at *
      have c104 := Y10.out.cell 4
      simp at c104
      have f104 := Y10.out.frozen 4
      have GD : w10.grownBy w10.drew none := grown_drew (grown_refl _ _)
      go_region_law (first
        | (go_simp; go_at_call 126; refine (C126.out q9 _ (P10.out.kept GD) (by have h := HXC.out; rw [bnd_ok HZ6.out.1, bnd_ok HZ8.out.1, bnd_ok HZ9.out.1] at h; exact bnd_ne h)).mono ?_; intro e w11 hh0; rcases PrP.cases hh0 (by have h := HXC.out; rw [bnd_ok HZ6.out.1, bnd_ok HZ8.out.1, bnd_ok HZ9.out.1] at h; exact bnd_ne h) with hh | hh; (case inl => obtain ⟨at_, n, hz, rfl, g⟩ := hh; exact ⟨rfl, by rw [EQ.out.1, bnd_ok HZ6.out.1, bnd_ok HZ8.out.1, bnd_ok HZ9.out.1, bnd_err hz]; exact ⟨rfl, grown_bb (Loc.grown G10.out ((Loc.refl _ w10).quiet GD)) g⟩⟩); obtain ⟨a11, q11, v11, hz, rfl, hv, pp, g⟩ := hh; obtain ⟨qs11, rfl, hk⟩ := hv; obtain ⟨ps11, cs11, rfl, _, _, _⟩ := hk.form; have HZ11 := hid (And.intro hz trivial); have P11 := hid pp; have G11 := hid (grown_bb (Loc.grown G10.out ((Loc.refl _ w10).quiet GD)) g); have gg : w10.grownBy w11 (some b) := grown_bb (grown_b GD) g; have K11 := hid hk; have X11 := hid (X10.out.kept gg (lt_nb hbl _ (by omega))); have Y11 := hid (Y10.out.kept gg (lt_nb hbl _ (by omega))); have KB11 := hid (KB10.out.kept gg (fun r e => by cases e; omega)); have s11 : w10.heap.size ≤ w11.heap.size := gg.size; have d11 := Y11.out.cell 4; simp at d11; have f11 := Y11.out.frozen 4; have e11 : ∀ o, (w11.alloc o).cell? ⟨w2.heap.size, 4, none⟩ = some (.slice ps6 a6.length cs6) := fun o => (Y11.out.alloc o).cell 4; clear gg; clear hz pp g hh0)
        | (refine step_nd 25 27 Tryz.underlying25 info27 (.tmp 25) (.tmp 28) rfl rfl (w5.heap.size) (.slice ps6 a6.length cs6) a6 a11 (.slice ps11 a11.kids.length cs11) ⟨w11.heap.size, 0, none⟩ 1 (KB11.out.kept (grown_alloc (grown_refl w11 none) _) (by simp)) (NdC.new w11 27 a11 _) ((K11.out.mono (fun g hg _ => ⟨by have h9 : w10.drew.heap.size = w10.heap.size := rfl; have h5 : w10.drew.heap.size ≤ g := hg; omega, fun e => by have h6 := (KB10.out.lt g e.symm).2; have h9 : w10.drew.heap.size = w10.heap.size := rfl; have h5 : w10.drew.heap.size ≤ g := hg; omega⟩)).kept (grown_alloc (grown_refl w11 none) _)) HLN.out (by rw [World.size_alloc]; omega) rfl rfl ?_; intro v12 w12 h12 g12; have KB12 := hid h12; have RU := row_under KB11.out; have L12 : Hid (Loc w.heap.size w11 w12) := hid (((Loc.refl _ w11).alloc _).by g12 (fun k e => by have := RU k e; omega)); have P12 := hid (P11.out.loc L12.out hbl htl); have G12 := hid (Loc.grown G11.out L12.out); have X12 := hid ((X11.out.alloc (.cells #[.int .i64 a11.kind, .int .i64 a11.ty, .string a11.txt, .int .i64 a11.num, .slice ps11 a11.kids.length cs11] 27)).kept g12 (fun e => by have := RU _ e.symm; omega)); have Y12 := hid ((Y11.out.alloc (.cells #[.int .i64 a11.kind, .int .i64 a11.ty, .string a11.txt, .int .i64 a11.num, .slice ps11 a11.kids.length cs11] 27)).kept g12 (fun e => by have := RU _ e.symm; omega)); obtain ⟨p12, c12, e12, _⟩ := h12.form; subst e12; have d12 := Y12.out.cell 4; simp at d12; have f12 := Y12.out.frozen 4; clear h12 g12))
      all_goals
        have hL12 : (a6 ++ [a11]).length = (a6.length + 1) := by simp
        rw [hL12] at KB12
        have Y13 := hid (Y12.out.set 4 (.slice p12 (a6.length + 1) c12))
        have gs := grown_set (grown_refl w12 (some w2.heap.size)) 4 (.slice p12 (a6.length + 1) c12)
        have P13 := hid (P12.out.keptG gs (by omega) (by omega))
        have G13 := hid (grown_to G12.out gs (by omega))
        have X13 := hid (X12.out.kept gs (fun e => by injection e with e; omega))
        have K13 := hid (KB12.out.ks.keptB gs (by omega))
        simp at Y13
        clear gs hL12
        generalize w12.setCell ⟨w2.heap.size, 4, none⟩ (.slice p12 (a6.length + 1) c12) = w13 at *
        have y0 := Y13.out.cell 0
        have y1 := Y13.out.cell 1
        have y2 := Y13.out.cell 2
        have y3 := Y13.out.cell 3
        have y4 := Y13.out.cell 4
        simp at y0 y1 y2 y3 y4
        go_wp2_with (first
          | (go_at_call 42; refine (C42.out q11 (.mk 3 a9 a2 0 (a6 ++ [a11])) 3 a9 a2 0 p12 (a6.length + 1) c12 _ P13.out (by have h := HXC.out; rw [bnd_ok HZ6.out.1, bnd_ok HZ8.out.1, bnd_ok HZ9.out.1, bnd_ok HZ11.out.1] at h; exact h)).mono ?_; intro e w20 hh0; rcases PrP.cases hh0 (by have h := HXC.out; rw [bnd_ok HZ6.out.1, bnd_ok HZ8.out.1, bnd_ok HZ9.out.1, bnd_ok HZ11.out.1] at h; exact h) with hh | hh; (case inl => obtain ⟨at_, n, hz, rfl, g⟩ := hh; exact ⟨rfl, by rw [EQ.out.1, bnd_ok HZ6.out.1, bnd_ok HZ8.out.1, bnd_ok HZ9.out.1, bnd_ok HZ11.out.1, hz]; exact ⟨rfl, grown_bb G13.out g⟩⟩); obtain ⟨a20, q20, v20, hz, rfl, hv, pp, g⟩ := hh; have hv' : v20 = _ := hv; subst hv'; obtain rfl := made_ok hz; have HZ20 := hid (And.intro hz trivial); have P20 := hid pp; have G20 := hid (grown_bb G13.out g); have XM := hid (X13.out.kept g (lt_nb hbl _ (by omega))); have KM := hid (K13.out.keptB g (by omega)); clear hz pp g hh0)
          | (refine store_nd (.tmp 2) (.tmp 33) rfl rfl w.heap.size XM.out rfl rfl ?_; intro w30 b9 g9; have Z9 := hid b9; have G30 := hid (grown_to G20.out g9 (Nat.le_refl _)); have P30 := hid (P20.out.keptG g9 (by omega) (by omega)); have K30 := hid (KM.out.keptB g9 (by omega)); clear b9 g9))
        refine bodyPost_ret (results_nd rfl _ _ w.heap.size rfl Z9.out) rfl ?_
        rw [EQ.out.1, bnd_ok HZ6.out.1, bnd_ok HZ8.out.1, bnd_ok HZ9.out.1, bnd_ok HZ11.out.1, HZ20.out.1]
        exact ⟨_, rfl, ⟨_, rfl, K30.out.mono (fun g hg _ => by omega)⟩, P30.out, G30.out⟩
end Pm
end Go.Proofs.YtajoncmmdeahnaaGreatDoor
