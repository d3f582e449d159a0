/-
  The parser: argument, variableOrCall. The parser: global.
-/
import Derived.Test.YtajoncmmdeahnaaGreatDoorPr
import Derived.Test.YtajoncmmdeahnaaGreatDoorKPo
namespace Go.Proofs.YtajoncmmdeahnaaGreatDoor
open Go.RowKit
namespace Pm
set_option maxRecDepth 100000 in
set_option maxHeartbeats 4000000 in
theorem argument_any {b tg cp : Nat} {all : List Tk} {p : Ps} (R : Rc) (w : World) (hP : PsA w b tg cp all p) (hx : R.expr 1 p ≠ .error none)
    (h231 : ∀ l q W, PsA W b tg cp all q → R.expr l q ≠ .error none → Calls Tryz.prog 231 #[.pointer (some ⟨b, 0, none⟩), .int .i64 l] W (PrP (nV W.heap.size) b tg cp all W (R.expr l q))) :
    Calls Tryz.prog 261 #[.pointer (some ⟨b, 0, none⟩)] w (PrP (nV w.heap.size) b tg cp all w (R.expr 1 p)) := by
  have hbl := hP.lt
  have htl := hP.tgl
  have X0 := hid (Blk.new w 27 #[.int .i64 0, .int .i64 0, .string ⟨#[]⟩, .int .i64 0, .slice none 0 0])
  have HX := hid hx
  have G0 := hid (grown_refl w (some b))
  have P0 := hid hP
  have C231 : Hid (∀ q W, PsA W b tg cp all q → R.expr 1 q ≠ .error none → Calls Tryz.prog 231 #[.pointer (some ⟨b, 0, none⟩), .int .i64 1] W (PrP (nV W.heap.size) b tg cp all W (R.expr 1 q))) := fun q W hW h => h231 1 q W hW h
  clear h231
  clear hx hP
  go_enter Tryz.func261, Tryz.ntmps261
  go_wp2_with (first
    | (go_at_call 231; refine (C231.out p _ (P0.out.loc (n := w.heap.size) (by repeat (first | exact Loc.refl _ _ | refine Loc.alloc ?_ _ | refine Loc.quiet ?_ (by assumption))) hbl htl) HX.out).mono ?_; intro e w2 hh0; rcases PrP.cases hh0 HX.out with hh | hh; (case inl => obtain ⟨at_, n, hz, rfl, g⟩ := hh; exact ⟨rfl, by rw [hz]; exact ⟨rfl, grown_bb (Loc.grown G0.out (by repeat (first | exact Loc.refl _ _ | refine Loc.alloc ?_ _ | refine Loc.quiet ?_ (by assumption)))) g⟩⟩); obtain ⟨a2, q2, v2, hz, rfl, hv, pp, g⟩ := hh; obtain ⟨qs2, rfl, hk⟩ := hv; obtain ⟨ps2, cs2, rfl, _, _, _⟩ := hk.form; have HZ2 := hid (And.intro hz trivial); have P2 := hid pp; have G2 := hid (grown_bb (Loc.grown G0.out (by repeat (first | exact Loc.refl _ _ | refine Loc.alloc ?_ _ | refine Loc.quiet ?_ (by assumption)))) g); rw [World.size_alloc] at hk; have K2 := hid hk; have X2 := hid (X0.out.kept g (lt_nb hbl _ (by omega))); have s2 := g.size; clear hz pp g hh0)
    | (refine store_nd (.tmp 2) (.tmp 4) rfl rfl w.heap.size X2.out rfl rfl ?_; intro w9 b9 g9; have Z9 := hid b9; have G9 := hid (grown_to G2.out g9 (Nat.le_refl _)); have P9 := hid (P2.out.keptG g9 (by omega) (by omega)); have K9 := hid (K2.out.keptB g9 (by omega)); clear b9 g9))
  refine bodyPost_ret (results_nd rfl _ _ w.heap.size rfl Z9.out) rfl ?_
  rw [HZ2.out.1]
  exact ⟨_, rfl, ⟨_, rfl, K9.out.mono (fun g hg _ => by omega)⟩, P9.out, G9.out⟩
set_option maxRecDepth 100000 in
set_option maxHeartbeats 4000000 in
theorem variableOrCall_any {b tg cp : Nat} {all : List Tk} {p : Ps} (R : Rc) (w : World) (hP : PsA w b tg cp all p) (hx : variableOrCallP R p ≠ .error none)
    (h234 : ∀ (s : ByteArray) q W, PsA W b tg cp all q → callP R s q ≠ .error none → Calls Tryz.prog 234 #[.pointer (some ⟨b, 0, none⟩), .string s] W (PrP (nV W.heap.size) b tg cp all W (callP R s q))) :
    Calls Tryz.prog 277 #[.pointer (some ⟨b, 0, none⟩)] w (PrP (nV w.heap.size) b tg cp all w (variableOrCallP R p)) := by
  have hbl := hP.lt
  have htl := hP.tgl
  have X0 := hid (Blk.new w 27 #[.int .i64 0, .int .i64 0, .string ⟨#[]⟩, .int .i64 0, .slice none 0 0])
  have HX := hid hx
  have G0 := hid (grown_refl w (some b))
  have P0 := hid hP
  have C121 : Hid (∀ q W, PsA W b tg cp all q → nameP q ≠ .error none → Calls Tryz.prog 121 #[.pointer (some ⟨b, 0, none⟩)] W (PrP sV b tg cp all W (nameP q))) := fun q W hW h => name_any W hW h
  have C234 : Hid (∀ q (s : ByteArray) W, PsA W b tg cp all q → callP R s q ≠ .error none → Calls Tryz.prog 234 #[.pointer (some ⟨b, 0, none⟩), .string s] W (PrP (nV W.heap.size) b tg cp all W (callP R s q))) := fun q s W hW h => h234 s q W hW h
  clear h234
  have C42 : Hid (∀ q x k t s n ps l c W, PsA W b tg cp all q → madeP x q ≠ .error none → Calls Tryz.prog 42 #[.pointer (some ⟨b, 0, none⟩), .agg #[.int .i64 k, .int .i64 t, .string s, .int .i64 n, .slice ps l c]] W (PrP (fun _ _ v => v = .agg #[.int .i64 k, .int .i64 t, .string s, .int .i64 n, .slice ps l c]) b tg cp all W (madeP x q))) := fun q x k t s n ps l c W hW h => made_any x k t s n ps l c W hW h
  clear hx hP
  go_enter Tryz.func277, Tryz.ntmps277
  go_wp2_with (first
    | (go_at_call 121; refine (C121.out p _ (P0.out.loc (n := w.heap.size) (by repeat (first | exact Loc.refl _ _ | refine Loc.alloc ?_ _ | refine Loc.quiet ?_ (by assumption))) hbl htl) (by have h := HX.out; unfold variableOrCallP at h; exact bnd_ne h)).mono ?_; intro e w1 hh0; rcases PrP.cases hh0 (by have h := HX.out; unfold variableOrCallP at h; exact bnd_ne h) with hh | hh; (case inl => obtain ⟨at_, n, hz, rfl, g⟩ := hh; exact ⟨rfl, by unfold variableOrCallP; rw [bnd_err hz]; exact ⟨rfl, grown_bb (Loc.grown G0.out (by repeat (first | exact Loc.refl _ _ | refine Loc.alloc ?_ _ | refine Loc.quiet ?_ (by assumption)))) g⟩⟩); obtain ⟨a1, q1, v1, hz, rfl, hv, pp, g⟩ := hh; have hv' : v1 = .string a1 := hv; subst hv'; have HZ1 := hid (And.intro hz trivial); have P1 := hid pp; have G1 := hid (grown_bb (Loc.grown G0.out (by repeat (first | exact Loc.refl _ _ | refine Loc.alloc ?_ _ | refine Loc.quiet ?_ (by assumption)))) g); have hs1 := g.size; rw [World.size_alloc] at hs1; have X1 := hid (X0.out.kept g (lt_nb hbl _ (by omega))); clear hz pp g hh0))
  have EQ1 : variableOrCallP R p = (do if ← seesP [40] then callP R a1 else madeP (.mk 23 0 a1 0 []) : Pr Nd) q1 := by unfold variableOrCallP; rw [bnd_ok HZ1.out.1]
  match hw : q1.ws with
  | [] => exact absurd (EQ1.trans (bnd_err (sees_nil [40] hw))) HX.out
  | t :: r =>
    have C39 : Hid (∀ W, w1.grownBy W none → Calls Tryz.prog 39 #[.pointer (some ⟨b, 0, none⟩), .string ⟨#[40]⟩] W fun e w' => e = .returned (.bool (t.s == [40])) ∧ W.grownBy w' none) := fun W hW => sees_any [40] W (P1.out.kept hW) hw
    rw [bnd_ok (sees_eq [40] hw)] at EQ1
    clear C121
    rcases Bool.eq_false_or_eq_true (t.s == [40]) with kb | kb
    · rw [kb] at C39
      rw [if_pos kb] at EQ1
      have EQ : Hid (variableOrCallP R p = callP R a1 q1 ∧ True) := hid ⟨EQ1, trivial⟩
      have HXC : Hid (callP R a1 q1 ≠ .error none) := hid (by rw [← EQ.out.1]; exact HX.out)
      clear hw kb EQ1
      go_wp2_with (first
        | (go_at_call 39; refine (C39.out _ (grown_refl _ _)).mono ?_; rintro e w2 ⟨rfl, g⟩; have P2 := hid (P1.out.kept g); have G2 := hid (Loc.grown G1.out ((Loc.refl _ w1).quiet g)); have X2 := hid (X1.out.kept g (by simp)); have s2 := g.size; clear g C39)
        | (go_at_call 234; refine (C234.out q1 a1 _ P2.out (by have h := HXC.out; exact h)).mono ?_; intro e w3 hh0; rcases PrP.cases hh0 (by have h := HXC.out; exact h) with hh | hh; (case inl => obtain ⟨at_, n, hz, rfl, g⟩ := hh; exact ⟨rfl, by rw [EQ.out.1, hz]; exact ⟨rfl, grown_bb G2.out g⟩⟩); obtain ⟨a3, q3, v3, hz, rfl, hv, pp, g⟩ := hh; obtain ⟨qs3, rfl, hk⟩ := hv; obtain ⟨ps3, cs3, rfl, _, _, _⟩ := hk.form; have HZ3 := hid (And.intro hz trivial); have P3 := hid pp; have G3 := hid (grown_bb G2.out g); have K3 := hid hk; have X3 := hid (X2.out.kept g (lt_nb hbl _ (by omega))); clear hz pp g hh0)
        | (refine store_nd (.tmp 2) (.tmp 10) rfl rfl w.heap.size X3.out rfl rfl ?_; intro w9 b9 g9; have Z9 := hid b9; have G9 := hid (grown_to G3.out g9 (Nat.le_refl _)); have P9 := hid (P3.out.keptG g9 (by omega) (by omega)); have K9 := hid (K3.out.keptB g9 (by omega)); clear b9 g9))
      refine bodyPost_ret (results_nd rfl _ _ w.heap.size rfl Z9.out) rfl ?_
      rw [EQ.out.1, HZ3.out.1]
      exact ⟨_, rfl, ⟨_, rfl, K9.out.mono (fun g hg _ => by have h5 : w2.heap.size ≤ g := hg; omega)⟩, P9.out, G9.out⟩
    · rw [kb] at C39
      rw [if_neg (by rw [kb]; decide)] at EQ1
      have EQ : Hid (variableOrCallP R p = madeP (.mk 23 0 a1 0 []) q1 ∧ True) := hid ⟨EQ1, trivial⟩
      have HXC : Hid (madeP (.mk 23 0 a1 0 []) q1 ≠ .error none) := hid (by rw [← EQ.out.1]; exact HX.out)
      clear hw kb EQ1
      go_wp2_with (first
        | (go_at_call 39; refine (C39.out _ (grown_refl _ _)).mono ?_; rintro e w2 ⟨rfl, g⟩; have P2 := hid (P1.out.kept g); have G2 := hid (Loc.grown G1.out ((Loc.refl _ w1).quiet g)); have X2 := hid (X1.out.kept g (by simp)); have s2 := g.size; clear g C39)
        | (go_at_call 42; refine (C42.out q1 (.mk 23 0 a1 0 []) 23 0 a1 0 none 0 0 _ P2.out (by have h := HXC.out; exact h)).mono ?_; intro e w3 hh0; rcases PrP.cases hh0 (by have h := HXC.out; exact h) with hh | hh; (case inl => obtain ⟨at_, n, hz, rfl, g⟩ := hh; exact ⟨rfl, by rw [EQ.out.1, hz]; exact ⟨rfl, grown_bb G2.out g⟩⟩); obtain ⟨a3, q3, v3, hz, rfl, hv, pp, g⟩ := hh; have hv' : v3 = _ := hv; subst hv'; obtain rfl := made_ok hz; have HZ3 := hid (And.intro hz trivial); have P3 := hid pp; have G3 := hid (grown_bb G2.out g); have X3 := hid (X2.out.kept g (lt_nb hbl _ (by omega))); clear hz pp g hh0)
        | (refine store_nd (.tmp 2) (.tmp 14) rfl rfl w.heap.size X3.out rfl rfl ?_; intro w9 b9 g9; have Z9 := hid b9; have G9 := hid (grown_to G3.out g9 (Nat.le_refl _)); have P9 := hid (P3.out.keptG g9 (by omega) (by omega)); clear b9 g9))
      refine bodyPost_ret (results_nd rfl _ _ w.heap.size rfl Z9.out) rfl ?_
      rw [EQ.out.1, HZ3.out.1]
      exact ⟨_, rfl, ⟨_, rfl, KsV.nil _ _⟩, P9.out, G9.out⟩
end Pm
end Go.Proofs.YtajoncmmdeahnaaGreatDoor
namespace Go.Proofs.YtajoncmmdeahnaaGreatDoor
open Go.RowKit
namespace Pm
theorem calls_at {P : Program} {f : Nat} {args args' : Array Value} {w : World} {Q : Ending → World → Prop} (h : args' = args) (c : Calls P f args w Q) : Calls P f args' w Q := h ▸ c
set_option maxRecDepth 100000 in
set_option maxHeartbeats 8000000 in
theorem global_any {b tg cp : Nat} {all : List Tk} {p : Ps}  (w : World) (hP : PsA w b tg cp all p) (hx : globalP p ≠ .error none)
    (h123 : ∀ q W, PsA W b tg cp all q → constantP q ≠ .error none → Calls Tryz.prog 123 #[.pointer (some ⟨b, 0, none⟩)] W (PrP (nV W.heap.size) b tg cp all W (constantP q))) :
    Calls Tryz.prog 79 #[.pointer (some ⟨b, 0, none⟩)] w (PrP (nV w.heap.size) b tg cp all w (globalP p)) := by
  have hbl := hP.lt
  have htl := hP.tgl
  have X0 := hid (Blk.new w 27 #[.int .i64 0, .int .i64 0, .string ⟨#[]⟩, .int .i64 0, .slice none 0 0])
  have HX := hid hx
  have G0 := hid (grown_refl w (some b))
  have P0 := hid hP
  have C120a : Hid (∀ q W, PsA W b tg cp all q → wantP wVar q ≠ .error none → Calls Tryz.prog 120 #[.pointer (some ⟨b, 0, none⟩), .string ⟨#[118, 97, 114]⟩] W (PrP uV b tg cp all W (wantP wVar q))) := fun q W hW h => want_any wVar W hW h
  have C120b : Hid (∀ q W, PsA W b tg cp all q → wantP [61] q ≠ .error none → Calls Tryz.prog 120 #[.pointer (some ⟨b, 0, none⟩), .string ⟨#[61]⟩] W (PrP uV b tg cp all W (wantP [61] q))) := fun q W hW h => want_any [61] W hW h
  have C120c : Hid (∀ q W, PsA W b tg cp all q → wantP [59] q ≠ .error none → Calls Tryz.prog 120 #[.pointer (some ⟨b, 0, none⟩), .string ⟨#[59]⟩] W (PrP uV b tg cp all W (wantP [59] q))) := fun q W hW h => want_any [59] W hW h
  have C121 : Hid (∀ q W, PsA W b tg cp all q → nameP q ≠ .error none → Calls Tryz.prog 121 #[.pointer (some ⟨b, 0, none⟩)] W (PrP sV b tg cp all W (nameP q))) := fun q W hW h => name_any W hW h
  have C122 : Hid (∀ q W, PsA W b tg cp all q → typedP q ≠ .error none → Calls Tryz.prog 122 #[.pointer (some ⟨b, 0, none⟩)] W (PrP iV b tg cp all W (typedP q))) := fun q W hW h => typed_any W hW h
  have C123 := hid h123
  clear h123
  have C42 : Hid (∀ q x k t s n ps l c W, PsA W b tg cp all q → madeP x q ≠ .error none → Calls Tryz.prog 42 #[.pointer (some ⟨b, 0, none⟩), .agg #[.int .i64 k, .int .i64 t, .string s, .int .i64 n, .slice ps l c]] W (PrP (fun _ _ v => v = .agg #[.int .i64 k, .int .i64 t, .string s, .int .i64 n, .slice ps l c]) b tg cp all W (madeP x q))) := fun q x k t s n ps l c W hW h => made_any x k t s n ps l c W hW h
  clear hx hP
  go_enter Tryz.func79, Tryz.ntmps79
  go_wp2_with (first
    | (go_at_call 120; refine calls_at (args := #[.pointer (some ⟨b, 0, none⟩), .string ⟨#[118, 97, 114]⟩]) rfl ?_; refine (C120a.out p _ (P0.out.loc (n := w.heap.size) (by repeat (first | exact Loc.refl _ _ | refine Loc.alloc ?_ _ | refine Loc.quiet ?_ (by assumption))) hbl htl) (by have h := HX.out; unfold globalP at h; exact bnd_ne h)).mono ?_; intro e w1 hh0; rcases PrP.cases hh0 (by have h := HX.out; unfold globalP at h; exact bnd_ne h) with hh | hh; (case inl => obtain ⟨at_, n, hz, rfl, g⟩ := hh; exact ⟨rfl, by unfold globalP; rw [bnd_err hz]; exact ⟨rfl, grown_bb (Loc.grown G0.out (by repeat (first | exact Loc.refl _ _ | refine Loc.alloc ?_ _ | refine Loc.quiet ?_ (by assumption)))) g⟩⟩); obtain ⟨a1, q1, v1, hz, rfl, hv, pp, g⟩ := hh; have hv' : v1 = .tuple #[] := hv; subst hv'; have HZ1 := hid (And.intro hz trivial); have P1 := hid pp; have G1 := hid (grown_bb (Loc.grown G0.out (by repeat (first | exact Loc.refl _ _ | refine Loc.alloc ?_ _ | refine Loc.quiet ?_ (by assumption)))) g); have hs1 := g.size; rw [World.size_alloc] at hs1; have X1 := hid (X0.out.kept g (lt_nb hbl _ (by omega))); clear hz pp g hh0)
    | (go_at_call 121; refine (C121.out q1 _ P1.out (by have h := HX.out; unfold globalP at h; rw [bnd_ok HZ1.out.1] at h; exact bnd_ne h)).mono ?_; intro e w2 hh0; rcases PrP.cases hh0 (by have h := HX.out; unfold globalP at h; rw [bnd_ok HZ1.out.1] at h; exact bnd_ne h) with hh | hh; (case inl => obtain ⟨at_, n, hz, rfl, g⟩ := hh; exact ⟨rfl, by unfold globalP; rw [bnd_ok HZ1.out.1, bnd_err hz]; exact ⟨rfl, grown_bb G1.out g⟩⟩); obtain ⟨a2, q2, v2, hz, rfl, hv, pp, g⟩ := hh; have hv' : v2 = .string a2 := hv; subst hv'; have HZ2 := hid (And.intro hz trivial); have P2 := hid pp; have G2 := hid (grown_bb G1.out g); have X2 := hid (X1.out.kept g (lt_nb hbl _ (by omega))); have s2 := g.size; clear hz pp g hh0)
    | (go_at_call 122; refine (C122.out q2 _ P2.out (by have h := HX.out; unfold globalP at h; rw [bnd_ok HZ1.out.1, bnd_ok HZ2.out.1] at h; exact bnd_ne h)).mono ?_; intro e w3 hh0; rcases PrP.cases hh0 (by have h := HX.out; unfold globalP at h; rw [bnd_ok HZ1.out.1, bnd_ok HZ2.out.1] at h; exact bnd_ne h) with hh | hh; (case inl => obtain ⟨at_, n, hz, rfl, g⟩ := hh; exact ⟨rfl, by unfold globalP; rw [bnd_ok HZ1.out.1, bnd_ok HZ2.out.1, bnd_err hz]; exact ⟨rfl, grown_bb G2.out g⟩⟩); obtain ⟨a3, q3, v3, hz, rfl, hv, pp, g⟩ := hh; have hv' : v3 = .int .i64 a3 := hv; subst hv'; have HZ3 := hid (And.intro hz trivial); have P3 := hid pp; have G3 := hid (grown_bb G2.out g); have X3 := hid (X2.out.kept g (lt_nb hbl _ (by omega))); have s3 := g.size; clear hz pp g hh0)
    | (go_at_call 120; refine calls_at (args := #[.pointer (some ⟨b, 0, none⟩), .string ⟨#[61]⟩]) rfl ?_; refine (C120b.out q3 _ (P3.out.kept (grown_alloc (grown_refl w3 none) _)) (by have h := HX.out; unfold globalP at h; rw [bnd_ok HZ1.out.1, bnd_ok HZ2.out.1, bnd_ok HZ3.out.1] at h; exact bnd_ne h)).mono ?_; intro e w4 hh0; rcases PrP.cases hh0 (by have h := HX.out; unfold globalP at h; rw [bnd_ok HZ1.out.1, bnd_ok HZ2.out.1, bnd_ok HZ3.out.1] at h; exact bnd_ne h) with hh | hh; (case inl => obtain ⟨at_, n, hz, rfl, g⟩ := hh; exact ⟨rfl, by unfold globalP; rw [bnd_ok HZ1.out.1, bnd_ok HZ2.out.1, bnd_ok HZ3.out.1, bnd_err hz]; exact ⟨rfl, grown_bb (Loc.grown G3.out ((Loc.refl _ w3).alloc _)) g⟩⟩); obtain ⟨a4, q4, v4, hz, rfl, hv, pp, g⟩ := hh; have hv' : v4 = .tuple #[] := hv; subst hv'; have HZ4 := hid (And.intro hz trivial); have P4 := hid pp; have G4 := hid (grown_bb (Loc.grown G3.out ((Loc.refl _ w3).alloc _)) g); have X4 := hid ((X3.out.alloc (.cells #[.int .i64 2, .int .i64 a3, .string a2, .int .i64 0, .slice none 0 0] 27)).kept g (lt_nb hbl _ (by omega))); have Y4 := hid ((Blk.new w3 27 #[.int .i64 2, .int .i64 a3, .string a2, .int .i64 0, .slice none 0 0]).kept g (lt_nb hbl _ (by omega))); have s4 := g.size; rw [World.size_alloc] at s4; clear hz pp g hh0))
  have c4 := Y4.out.cell 4
  simp at c4
  have f4 := Y4.out.frozen 4
  have GD : w4.grownBy w4.drew none := grown_drew (grown_refl _ _)
  clear C121 C122
  go_region_law (first
    | (go_simp; go_at_call 123; refine (C123.out q4 _ (P4.out.kept GD) (by have h := HX.out; unfold globalP at h; rw [bnd_ok HZ1.out.1, bnd_ok HZ2.out.1, bnd_ok HZ3.out.1, bnd_ok HZ4.out.1] at h; exact bnd_ne h)).mono ?_; intro e w5 hh0; rcases PrP.cases hh0 (by have h := HX.out; unfold globalP at h; rw [bnd_ok HZ1.out.1, bnd_ok HZ2.out.1, bnd_ok HZ3.out.1, bnd_ok HZ4.out.1] at h; exact bnd_ne h) with hh | hh; (case inl => obtain ⟨at_, n, hz, rfl, g⟩ := hh; exact ⟨rfl, by unfold globalP; rw [bnd_ok HZ1.out.1, bnd_ok HZ2.out.1, bnd_ok HZ3.out.1, bnd_ok HZ4.out.1, bnd_err hz]; exact ⟨rfl, grown_bb (Loc.grown G4.out ((Loc.refl _ w4).quiet GD)) g⟩⟩); obtain ⟨a5, q5, v5, hz, rfl, hv, pp, g⟩ := hh; obtain ⟨qs5, rfl, hk⟩ := hv; obtain ⟨ps5, cs5, rfl, _, _, _⟩ := hk.form; have HZ5 := hid (And.intro hz trivial); have P5 := hid pp; have G5 := hid (grown_bb (Loc.grown G4.out ((Loc.refl _ w4).quiet GD)) g); have gg : w4.grownBy w5 (some b) := grown_bb (grown_b GD) g; have K5 := hid hk; have X5 := hid (X4.out.kept gg (lt_nb hbl _ (by omega))); have Y5 := hid (Y4.out.kept gg (lt_nb hbl _ (by omega))); have s5 : w4.heap.size ≤ w5.heap.size := gg.size; have d4 := Y5.out.cell 4; simp at d4; have f5 := Y5.out.frozen 4; have e6 : ∀ o, (w5.alloc o).cell? ⟨w3.heap.size, 4, none⟩ = some (.slice none 0 0) := fun o => (Y5.out.alloc o).cell 4; clear gg; clear hz pp g hh0)
    | (refine step_nd 25 27 Tryz.underlying25 info27 (.tmp 14) (.tmp 17) rfl rfl (w3.heap.size + 1) (.slice none 0 0) [] a5 (.slice ps5 a5.kids.length cs5) ⟨w5.heap.size, 0, none⟩ 1 (Kb.nil _ _ _) (NdC.new w5 27 a5 _) ((K5.out.mono (fun g hg _ => ⟨by have h9 : w4.drew.heap.size = w4.heap.size := rfl; have h5 : w4.drew.heap.size ≤ g := hg; omega, by simp [Value.ownBlock]⟩)).kept (grown_alloc (grown_refl w5 none) _)) (by simp) (by rw [World.size_alloc]; omega) rfl rfl ?_; intro v6 w6 h6 g6; have KB6 := hid h6; have g6' : w5.grownBy w6 none := grown_none (grown_alloc (grown_refl w5 none) _) g6; have P6 := hid (P5.out.kept g6'); have G6 := hid (Loc.grown G5.out ((Loc.refl _ w5).quiet g6')); have X6 := hid (X5.out.kept g6' (by simp)); have Y6 := hid (Y5.out.kept g6' (by simp)); obtain ⟨p6, c6, e6', _⟩ := h6.form; subst e6'; have d6 := Y6.out.cell 4; simp at d6; have f6 := Y6.out.frozen 4; clear h6 g6 g6'))
  all_goals
    have Y7 := hid (Y6.out.set 4 (.slice p6 1 c6))
    have gs := grown_set (grown_refl w6 (some w3.heap.size)) 4 (.slice p6 1 c6)
    have P7 := hid (P6.out.keptG gs (by omega) (by omega))
    have G7 := hid (grown_to G6.out gs (by omega))
    have X7 := hid (X6.out.kept gs (fun e => by injection e with e; omega))
    have K7 := hid (KB6.out.ks.keptB gs (by omega))
    simp at Y7
    clear gs
    generalize w6.setCell ⟨w3.heap.size, 4, none⟩ (.slice p6 1 c6) = w7 at *
    go_wp2_with (first
      | (go_at_call 120; refine calls_at (args := #[.pointer (some ⟨b, 0, none⟩), .string ⟨#[59]⟩]) rfl ?_; refine (C120c.out q5 _ P7.out (by have h := HX.out; unfold globalP at h; rw [bnd_ok HZ1.out.1, bnd_ok HZ2.out.1, bnd_ok HZ3.out.1, bnd_ok HZ4.out.1, bnd_ok HZ5.out.1] at h; exact bnd_ne h)).mono ?_; intro e w8 hh0; rcases PrP.cases hh0 (by have h := HX.out; unfold globalP at h; rw [bnd_ok HZ1.out.1, bnd_ok HZ2.out.1, bnd_ok HZ3.out.1, bnd_ok HZ4.out.1, bnd_ok HZ5.out.1] at h; exact bnd_ne h) with hh | hh; (case inl => obtain ⟨at_, n, hz, rfl, g⟩ := hh; exact ⟨rfl, by unfold globalP; rw [bnd_ok HZ1.out.1, bnd_ok HZ2.out.1, bnd_ok HZ3.out.1, bnd_ok HZ4.out.1, bnd_ok HZ5.out.1, bnd_err hz]; exact ⟨rfl, grown_bb G7.out g⟩⟩); obtain ⟨a8, q8, v8, hz, rfl, hv, pp, g⟩ := hh; have hv' : v8 = .tuple #[] := hv; subst hv'; have HZ8 := hid (And.intro hz trivial); have P8 := hid pp; have G8 := hid (grown_bb G7.out g); have X8 := hid (X7.out.kept g (lt_nb hbl _ (by omega))); have Y8 := hid (Y7.out.kept g (lt_nb hbl _ (by omega))); have K8 := hid (K7.out.keptB g (by omega)); have y0 := Y8.out.cell 0; have y1 := Y8.out.cell 1; have y2 := Y8.out.cell 2; have y3 := Y8.out.cell 3; have y4 := Y8.out.cell 4; simp at y0 y1 y2 y3 y4; clear hz pp g hh0)
      | (go_at_call 42; refine (C42.out q8 (.mk 2 a3 a2 0 [a5]) 2 a3 a2 0 p6 1 c6 _ P8.out (by have h := HX.out; unfold globalP at h; rw [bnd_ok HZ1.out.1, bnd_ok HZ2.out.1, bnd_ok HZ3.out.1, bnd_ok HZ4.out.1, bnd_ok HZ5.out.1, bnd_ok HZ8.out.1] at h; exact h)).mono ?_; intro e w9 hh0; rcases PrP.cases hh0 (by have h := HX.out; unfold globalP at h; rw [bnd_ok HZ1.out.1, bnd_ok HZ2.out.1, bnd_ok HZ3.out.1, bnd_ok HZ4.out.1, bnd_ok HZ5.out.1, bnd_ok HZ8.out.1] at h; exact h) with hh | hh; (case inl => obtain ⟨at_, n, hz, rfl, g⟩ := hh; exact ⟨rfl, by unfold globalP; rw [bnd_ok HZ1.out.1, bnd_ok HZ2.out.1, bnd_ok HZ3.out.1, bnd_ok HZ4.out.1, bnd_ok HZ5.out.1, bnd_ok HZ8.out.1, hz]; exact ⟨rfl, grown_bb G8.out g⟩⟩); obtain ⟨a9, q9, v9, hz, rfl, hv, pp, g⟩ := hh; have hv' : v9 = _ := hv; subst hv'; obtain rfl := made_ok hz; have HZ9 := hid (And.intro hz trivial); have P9 := hid pp; have G9 := hid (grown_bb G8.out g); have X9 := hid (X8.out.kept g (lt_nb hbl _ (by omega))); have K9 := hid (K8.out.keptB g (by omega)); clear hz pp g hh0)
      | (refine store_nd (.tmp 2) (.tmp 24) rfl rfl w.heap.size X9.out rfl rfl ?_; intro w10 b9 g9; have Z9 := hid b9; have G10 := hid (grown_to G9.out g9 (Nat.le_refl _)); have P10 := hid (P9.out.keptG g9 (by omega) (by omega)); have K10 := hid (K9.out.keptB g9 (by omega)); clear b9 g9))
    refine bodyPost_ret (results_nd rfl _ _ w.heap.size rfl Z9.out) rfl ?_
    unfold globalP
    rw [bnd_ok HZ1.out.1, bnd_ok HZ2.out.1, bnd_ok HZ3.out.1, bnd_ok HZ4.out.1, bnd_ok HZ5.out.1, bnd_ok HZ8.out.1, HZ9.out.1]
    exact ⟨_, rfl, ⟨_, rfl, K10.out.mono (fun g hg _ => by omega)⟩, P10.out, G10.out⟩
end Pm
end Go.Proofs.YtajoncmmdeahnaaGreatDoor
