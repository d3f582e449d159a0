/-
  The parser: expression. The parser: what calls itself, through others; a literal's and a constant's contracts are handed in.
-/
import Derived.Test.YtajoncmmdeahnaaGreatDoorPt
import Derived.Test.YtajoncmmdeahnaaGreatDoorKPw
import Derived.Test.YtajoncmmdeahnaaGreatDoorPy
import Derived.Test.YtajoncmmdeahnaaGreatDoorPz
import Derived.Test.YtajoncmmdeahnaaGreatDoorQb
import Derived.Test.YtajoncmmdeahnaaGreatDoorQc
namespace Go.Proofs.YtajoncmmdeahnaaGreatDoor
open Go.RowKit
namespace Pm
theorem expr_nil (R : Rc) (low k : Nat) (n : Nd) {q : Ps} (hw : q.ws = []) : exprL R low (k + 1) n q = .error none := by
  unfold exprL
  rw [bnd_err (nxt_nil hw)]
theorem expr_end (R : Rc) (low k : Nat) (n : Nd) {q : Ps} {t : Tk} {r : List Tk} (hw : q.ws = t :: r) (h : ¬ low ≤ rankN t.s) : exprL R low (k + 1) n q = .ok (n, q) := by
  unfold exprL
  rw [bnd_ok (nxt_eq hw), if_neg h]
  rfl
theorem expr_more (R : Rc) (low k : Nat) (n : Nd) {q : Ps} {t : Tk} {r : List Tk} (hw : q.ws = t :: r) (h : low ≤ rankN t.s) : exprL R low (k + 1) n q = (passP >>= fun _ => R.expr (rankN t.s + 1) >>= fun m => madeP (.mk 26 0 (tkS t) 0 [n, m]) >>= fun n' => exprL R low k n') q := by
  conv => lhs; unfold exprL
  rw [bnd_ok (nxt_eq hw), if_pos h]
theorem rank_le (s : List UInt8) : rankN s ≤ 5 := by
  unfold rankN
  repeat' split
  all_goals omega
set_option maxRecDepth 100000 in
set_option maxHeartbeats 8000000 in
theorem expression_any {b tg cp : Nat} {all : List Tk} {p : Ps} (R : Rc) (low : Nat) (w : World) (hP : PsA w b tg cp all p) (hx : exprP R low p ≠ .error none)
    (h259 : ∀ q W, PsA W b tg cp all q → R.oper q ≠ .error none → Calls Tryz.prog 259 #[.pointer (some ⟨b, 0, none⟩)] W (PrP (nV W.heap.size) b tg cp all W (R.oper q)))
    (h231 : ∀ l q W, PsA W b tg cp all q → R.expr l q ≠ .error none → Calls Tryz.prog 231 #[.pointer (some ⟨b, 0, none⟩), .int .i64 l] W (PrP (nV W.heap.size) b tg cp all W (R.expr l q))) :
    Calls Tryz.prog 231 #[.pointer (some ⟨b, 0, none⟩), .int .i64 low] w (PrP (nV w.heap.size) b tg cp all w (exprP R low p)) := by
  have hbl := hP.lt
  have htl := hP.tgl
  have X0 := hid (Blk.new w 27 #[.int .i64 0, .int .i64 0, .string ⟨#[]⟩, .int .i64 0, .slice none 0 0])
  have HX := hid hx
  have G0 := hid (grown_refl w (some b))
  have P0 := hid hP
  have C259 := hid h259
  have H231 := hid h231
  clear h259 h231
  have C43 : Hid (∀ q W, PsA W b tg cp all q → passP q ≠ .error none → Calls Tryz.prog 43 #[.pointer (some ⟨b, 0, none⟩)] W (PrP uV b tg cp all W (passP q))) := fun q W hW h => pass_any W hW h
  have C42 : Hid (∀ q x k t s n ps l c W, PsA W b tg cp all q → madeP x q ≠ .error none → Calls Tryz.prog 42 #[.pointer (some ⟨b, 0, none⟩), .agg #[.int .i64 k, .int .i64 t, .string s, .int .i64 n, .slice ps l c]] W (PrP (fun _ _ v => v = .agg #[.int .i64 k, .int .i64 t, .string s, .int .i64 n, .slice ps l c]) b tg cp all W (madeP x q))) := fun q x k t s n ps l c W hW h => made_any x k t s n ps l c W hW h
  clear hx hP
  go_enter Tryz.func231, Tryz.ntmps231
  go_wp2_with (first
    | (go_at_call 259; refine (C259.out p _ (P0.out.loc (n := w.heap.size) (by repeat (first | exact Loc.refl _ _ | refine Loc.alloc ?_ _ | refine Loc.quiet ?_ (by assumption))) hbl htl) (by have h := HX.out; unfold exprP at h; exact bnd_ne h)).mono ?_; intro e w1 hh0; rcases PrP.cases hh0 (by have h := HX.out; unfold exprP at h; exact bnd_ne h) with hh | hh; (case inl => obtain ⟨at_, n, hz, rfl, g⟩ := hh; exact ⟨rfl, by unfold exprP; rw [bnd_err hz]; exact ⟨rfl, grown_bb (Loc.grown G0.out (by repeat (first | exact Loc.refl _ _ | refine Loc.alloc ?_ _ | refine Loc.quiet ?_ (by assumption)))) g⟩⟩); obtain ⟨a1, q1, v1, hz, rfl, hv, pp, g⟩ := hh; obtain ⟨qs1, rfl, hk⟩ := hv; obtain ⟨ps1, cs1, rfl, _, _, _⟩ := hk.form; have HZ1 := hid (And.intro hz trivial); have P1 := hid pp; have G1 := hid (grown_bb (Loc.grown G0.out (by repeat (first | exact Loc.refl _ _ | refine Loc.alloc ?_ _ | refine Loc.quiet ?_ (by assumption)))) g); have hs1 := g.size; rw [World.size_alloc] at hs1 hk; have K1 := hid hk; have X1 := hid (X0.out.kept g (lt_nb hbl _ (by omega))); clear hz pp g hh0))
  have hwl := P1.out.wsl
  obtain ⟨M, hM⟩ : ∃ M, q1.ws.length + 1 = M := ⟨_, rfl⟩
  have FIN0 : Hid (exprP R low p = exprL R low M a1 q1 ∧ True) := hid ⟨by unfold exprP; rw [bnd_ok HZ1.out.1, ← hM], trivial⟩
  have Y1 := hid (Blk.new w1 27 #[.int .i64 a1.kind, .int .i64 a1.ty, .string a1.txt, .int .i64 a1.num, .slice ps1 a1.kids.length cs1])
  have Px := hid (P1.out.kept (grown_alloc (grown_refl w1 none) (.cells #[.int .i64 a1.kind, .int .i64 a1.ty, .string a1.txt, .int .i64 a1.num, .slice ps1 a1.kids.length cs1] 27)))
  have Gx := hid (Loc.grown G1.out ((Loc.refl _ w1).alloc (.cells #[.int .i64 a1.kind, .int .i64 a1.ty, .string a1.txt, .int .i64 a1.num, .slice ps1 a1.kids.length cs1] 27)))
  have Xx := hid (X1.out.alloc (.cells #[.int .i64 a1.kind, .int .i64 a1.ty, .string a1.txt, .int .i64 a1.num, .slice ps1 a1.kids.length cs1] 27))
  have Kx := hid ((K1.out.mono (Q := fun g => w.heap.size + 1 ≤ g ∧ g ≠ w1.heap.size) (fun g h1 h2 => ⟨h1, by omega⟩)).kept (grown_alloc (grown_refl w1 none) (.cells #[.int .i64 a1.kind, .int .i64 a1.ty, .string a1.txt, .int .i64 a1.num, .slice ps1 a1.kids.length cs1] 27)))
  generalize w1.alloc (.cells #[.int .i64 a1.kind, .int .i64 a1.ty, .string a1.txt, .int .i64 a1.num, .slice ps1 a1.kids.length cs1] 27) = wx at *
  have hc1 : w.heap.size + 1 ≤ w1.heap.size := hs1
  have htc : tg < w1.heap.size := by omega
  generalize w1.heap.size = c at *
  clear C259 K1 X1
  go_loopg [6] M (fun gk s6 wr => ∃ (a : Nd) (q : Ps) (pv : Option Addr) (cv : Nat), (exprP R low p = exprL R low gk a q ∧ True) ∧ PsA wr b tg cp all q ∧ KsV wr (fun g => w.heap.size + 1 ≤ g ∧ g ≠ c) (.slice pv a.kids.length cv) a.kids ∧ Blk wr w.heap.size 27 #[.int .i64 0, .int .i64 0, .string ⟨#[]⟩, .int .i64 0, .slice none 0 0] ∧ Blk wr c 27 #[.int .i64 a.kind, .int .i64 a.ty, .string a.txt, .int .i64 a.num, .slice pv a.kids.length cv] ∧ w.grownBy wr (some b))
  case atStart => exact ⟨a1, q1, ps1, cs1, FIN0.out, Px.out, Kx.out, Xx.out, Y1.out, Gx.out⟩
  case round =>
    obtain ⟨a, q, pv, cv, hE, hp9, hk9, hx9, hy9, hg9⟩ := hrel
    have P9 := hid hp9
    have G9 := hid hg9
    have K9 := hid hk9
    have X9 := hid hx9
    have Y9 := hid hy9
    have HE := hid hE
    clear hE hk9 hg9 hx9 hy9 FIN0 Px Gx Xx Kx Y1 hM hwl HZ1 P1 G1
    cases gk with
    | zero => exact absurd HE.out.1 (fun e => HX.out e)
    | succ gk =>
      match hw : q.ws with
      | [] => exact absurd (HE.out.1.trans (expr_nil R low gk a hw)) HX.out
      | t :: r =>
        have C38 : Hid (∀ W, wr.grownBy W none → Calls Tryz.prog 38 #[.pointer (some ⟨b, 0, none⟩)] W fun e w' => e = .returned (.agg #[.int .i64 t.kind, .string ⟨t.s.toArray⟩, .int .i64 t.pl]) ∧ W.grownBy w' none) := fun W hW => next_any W (hp9.kept hW) hw
        have C260 : Hid (∀ W, Calls Tryz.prog 260 #[.string ⟨t.s.toArray⟩] W fun e w' => e = .returned (.int .i64 (rankN t.s)) ∧ w' = W) := fun W => rank_any t.s W
        have HQwr := hid (grown_refl wr none)
        have hrk := rank_le t.s
        clear hp9
        by_cases kb : low ≤ rankN t.s
        · have EQ : Hid (exprP R low p = (passP >>= fun _ => R.expr (rankN t.s + 1) >>= fun m => madeP (.mk 26 0 (tkS t) 0 [a, m]) >>= fun n' => exprL R low gk n') q ∧ True) := hid ⟨HE.out.1.trans (expr_more R low gk a hw kb), trivial⟩
          have HXC : Hid ((passP >>= fun _ => R.expr (rankN t.s + 1) >>= fun m => madeP (.mk 26 0 (tkS t) 0 [a, m]) >>= fun n' => exprL R low gk n') q ≠ .error none) := hid (by rw [← EQ.out.1]; exact HX.out)
          have C231 : Hid (∀ q W, PsA W b tg cp all q → R.expr (rankN t.s + 1) q ≠ .error none → Calls Tryz.prog 231 #[.pointer (some ⟨b, 0, none⟩), .int .i64 ((rankN t.s : Int) + 1)] W (PrP (nV W.heap.size) b tg cp all W (R.expr (rankN t.s + 1) q))) := fun q W hW h => by
            have h1 := H231.out (rankN t.s + 1) q W hW h
            rw [show ((rankN t.s + 1 : Nat) : Int) = (rankN t.s : Int) + 1 by omega] at h1
            exact h1
          generalize rankN t.s = rk at *
          have wi : IntKind.i64.wrap ((rk : Int) + 1) = (rk : Int) + 1 := by rw [IntKind.wrap_i64]; omega
          have kbi : (low : Int) ≤ (rk : Int) := by omega
          have f1 := fld1
          clear hw kb hrk H231
          go_wp2_with (first
            | (go_at_call 38; refine (C38.out wr HQwr.out).mono ?_; rintro e u1 ⟨rfl, g⟩; have HQu1 := hid (grown_none HQwr.out g); clear g)
            | (go_at_call 260; refine (C260.out _).mono ?_; rintro e wz ⟨rfl, hwz⟩; replace hwz := hwz.symm; subst hwz)
            | (go_at_call 38; refine (C38.out u1 HQu1.out).mono ?_; rintro e u2 ⟨rfl, g⟩; have HQu2 := hid (grown_none HQu1.out g); clear g)
            | (go_at_call 43; refine (C43.out q _ (P9.out.kept HQu2.out) (by have h := HXC.out; exact bnd_ne h)).mono ?_; intro e w2 hh0; rcases PrP.cases hh0 (by have h := HXC.out; exact bnd_ne h) with hh | hh; (case inl => obtain ⟨at_, n, hz, rfl, g⟩ := hh; exact ⟨rfl, by rw [EQ.out.1, bnd_err hz]; exact ⟨rfl, grown_bb (Loc.grown G9.out ((Loc.refl _ wr).quiet HQu2.out)) g⟩⟩); obtain ⟨a2, q2, v2, hz, rfl, hv, pp, g⟩ := hh; have hv' : v2 = .tuple #[] := hv; subst hv'; have HZ2 := hid (And.intro hz trivial); have P2 := hid pp; have G2 := hid (grown_bb (Loc.grown G9.out ((Loc.refl _ wr).quiet HQu2.out)) g); have K2 := hid ((K9.out.kept HQu2.out).keptB g (by omega)); have X2 := hid ((X9.out.kept HQu2.out (by simp)).kept g (lt_nb hbl _ (by omega))); have Y2 := hid ((Y9.out.kept HQu2.out (by simp)).kept g (lt_nb hbl _ (by omega))); have s2 : c < w2.heap.size := Y2.out.lt; clear hz pp g hh0))
          have y0 := Y2.out.cell 0
          have y1 := Y2.out.cell 1
          have y2 := Y2.out.cell 2
          have y3 := Y2.out.cell 3
          have y4 := Y2.out.cell 4
          simp at y0 y1 y2 y3 y4
          have GD : w2.grownBy w2.drew none := grown_drew (grown_refl _ _)
          go_region_law (first
            | (go_simp; go_at_call 260; refine (C260.out _).mono ?_; rintro e wz ⟨rfl, hwz⟩; replace hwz := hwz.symm; subst hwz)
            | (go_simp; go_at_call 231; refine (C231.out q2 _ (P2.out.kept GD) (by have h := HXC.out; rw [bnd_ok HZ2.out.1] at h; exact bnd_ne h)).mono ?_; intro e w3 hh0; rcases PrP.cases hh0 (by have h := HXC.out; rw [bnd_ok HZ2.out.1] at h; exact bnd_ne h) with hh | hh; (case inl => obtain ⟨at_, n, hz, rfl, g⟩ := hh; exact ⟨rfl, by rw [EQ.out.1, bnd_ok HZ2.out.1, bnd_err hz]; exact ⟨rfl, grown_bb (Loc.grown G2.out ((Loc.refl _ w2).quiet GD)) g⟩⟩); obtain ⟨a3, q3, v3, hz, rfl, hv, pp, g⟩ := hh; obtain ⟨qs3, rfl, hk⟩ := hv; obtain ⟨ps3, cs3, rfl, _, _, _⟩ := hk.form; have HZ3 := hid (And.intro hz trivial); have P3 := hid pp; have G3 := hid (grown_bb (Loc.grown G2.out ((Loc.refl _ w2).quiet GD)) g); have gg : w2.grownBy w3 (some b) := grown_bb (grown_b GD) g; have K3 := hid (hk.mono (Q := (fun g => w.heap.size + 1 ≤ g ∧ g ≠ c)) (fun g h1 _ => by have h9 : w2.drew.heap.size = w2.heap.size := rfl; have h10 : w2.drew.heap.size ≤ g := h1; omega)); have J3 := hid (K2.out.keptB gg (by omega)); have X3 := hid (X2.out.kept gg (lt_nb hbl _ (by omega))); have Y3 := hid (Y2.out.kept gg (lt_nb hbl _ (by omega))); have s3 : w2.heap.size ≤ w3.heap.size := gg.size; have m0 := Y3.out.cell 0; have m1 := Y3.out.cell 1; have m2 := Y3.out.cell 2; have m3 := Y3.out.cell 3; have m4 := Y3.out.cell 4; simp at m0 m1 m2 m3 m4; have n0 : ∀ o, (w3.alloc o).cell? ⟨c, 0, none⟩ = some (.int .i64 a.kind) := fun o => (Y3.out.alloc o).cell 0; have n1 : ∀ o, (w3.alloc o).cell? ⟨c, 1, none⟩ = some (.int .i64 a.ty) := fun o => (Y3.out.alloc o).cell 1; have n2 : ∀ o, (w3.alloc o).cell? ⟨c, 2, none⟩ = some (.string a.txt) := fun o => (Y3.out.alloc o).cell 2; have n3 : ∀ o, (w3.alloc o).cell? ⟨c, 3, none⟩ = some (.int .i64 a.num) := fun o => (Y3.out.alloc o).cell 3; have n4 : ∀ o, (w3.alloc o).cell? ⟨c, 4, none⟩ = some (.slice pv a.kids.length cv) := fun o => (Y3.out.alloc o).cell 4; have nf : ∀ i o, (w3.alloc o).frozen? ⟨c, i, none⟩ = false := fun i o => (Y3.out.alloc o).frozen i; clear gg; clear hz pp g hh0))
          all_goals
            have gs := grown_set5 (grown_refl (w3.alloc (.cells #[.int .i64 a.kind, .int .i64 a.ty, .string a.txt, .int .i64 a.num, .slice pv a.kids.length cv, .int .i64 a3.kind, .int .i64 a3.ty, .string a3.txt, .int .i64 a3.num, .slice ps3 a3.kids.length cs3] 27)) (some c)) 0 (.int .i64 26) (.int .i64 0) (.string ⟨t.s.toArray⟩) (.int .i64 0) (.slice (some ⟨w3.heap.size, 0, none⟩) 2 2)
            have hb5 := (Y3.out.alloc (.cells #[.int .i64 a.kind, .int .i64 a.ty, .string a.txt, .int .i64 a.num, .slice pv a.kids.length cv, .int .i64 a3.kind, .int .i64 a3.ty, .string a3.txt, .int .i64 a3.num, .slice ps3 a3.kids.length cs3] 27)).set5 0 (.int .i64 26) (.int .i64 0) (.string ⟨t.s.toArray⟩) (.int .i64 0) (.slice (some ⟨w3.heap.size, 0, none⟩) 2 2)
            obtain ⟨w6, hw6⟩ : ∃ w6, set5 (w3.alloc (.cells #[.int .i64 a.kind, .int .i64 a.ty, .string a.txt, .int .i64 a.num, .slice pv a.kids.length cv, .int .i64 a3.kind, .int .i64 a3.ty, .string a3.txt, .int .i64 a3.num, .slice ps3 a3.kids.length cs3] 27)) c 0 (.int .i64 26) (.int .i64 0) (.string ⟨t.s.toArray⟩) (.int .i64 0) (.slice (some ⟨w3.heap.size, 0, none⟩) 2 2) = w6 := ⟨_, rfl⟩
            have e6 : ((((((w3.alloc (.cells #[.int .i64 a.kind, .int .i64 a.ty, .string a.txt, .int .i64 a.num, .slice pv a.kids.length cv, .int .i64 a3.kind, .int .i64 a3.ty, .string a3.txt, .int .i64 a3.num, .slice ps3 a3.kids.length cs3] 27)).setCell ⟨c, 0, none⟩ (.int .i64 26)).setCell ⟨c, 1, none⟩ (.int .i64 0)).setCell ⟨c, 2, none⟩ (.string ⟨t.s.toArray⟩)).setCell ⟨c, 3, none⟩ (.int .i64 0)).setCell ⟨c, 4, none⟩ (.slice (some ⟨w3.heap.size, 0, none⟩) 2 2)) = w6 := hw6
            rw [hw6] at gs hb5
            rw [e6]
            have Y6 : Hid (Blk w6 c 27 #[.int .i64 26, .int .i64 0, .string ⟨t.s.toArray⟩, .int .i64 0, .slice (some ⟨w3.heap.size, 0, none⟩) 2 2]) := hid hb5
            have P6 := hid ((P3.out.kept (grown_alloc (grown_refl w3 none) (.cells #[.int .i64 a.kind, .int .i64 a.ty, .string a.txt, .int .i64 a.num, .slice pv a.kids.length cv, .int .i64 a3.kind, .int .i64 a3.ty, .string a3.txt, .int .i64 a3.num, .slice ps3 a3.kids.length cs3] 27))).keptG gs (by omega) (by omega))
            have G6 := hid (grown_to (Loc.grown G3.out ((Loc.refl _ w3).alloc (.cells #[.int .i64 a.kind, .int .i64 a.ty, .string a.txt, .int .i64 a.num, .slice pv a.kids.length cv, .int .i64 a3.kind, .int .i64 a3.ty, .string a3.txt, .int .i64 a3.num, .slice ps3 a3.kids.length cs3] 27))) gs (by omega))
            have X6 := hid ((X3.out.alloc (.cells #[.int .i64 a.kind, .int .i64 a.ty, .string a.txt, .int .i64 a.num, .slice pv a.kids.length cv, .int .i64 a3.kind, .int .i64 a3.ty, .string a3.txt, .int .i64 a3.num, .slice ps3 a3.kids.length cs3] 27)).kept gs (fun e => by injection e with e; omega))
            have K6 := hid ((ks_two (P := (fun g => w.heap.size + 1 ≤ g ∧ g ≠ c)) w3 a a3 _ _ J3.out K3.out ⟨by omega, by omega⟩).keptB gs (fun h => h.2 rfl))
            have y0 := Y6.out.cell 0
            have y1 := Y6.out.cell 1
            have y2 := Y6.out.cell 2
            have y3 := Y6.out.cell 3
            have y4 := Y6.out.cell 4
            simp at y0 y1 y2 y3 y4
            clear gs hb5 hw6 e6 m0 m1 m2 m3 m4 n0 n1 n2 n3 n4 nf
            go_wp2_with (first
              | (go_at_call 42; refine (C42.out q3 (.mk 26 0 (tkS t) 0 [a, a3]) 26 0 ⟨t.s.toArray⟩ 0 (some ⟨w3.heap.size, 0, none⟩) 2 2 _ P6.out (by have h := HXC.out; rw [bnd_ok HZ2.out.1, bnd_ok HZ3.out.1] at h; exact bnd_ne h)).mono ?_; intro e w7 hh0; rcases PrP.cases hh0 (by have h := HXC.out; rw [bnd_ok HZ2.out.1, bnd_ok HZ3.out.1] at h; exact bnd_ne h) with hh | hh; (case inl => obtain ⟨at_, n, hz, rfl, g⟩ := hh; exact ⟨rfl, by rw [EQ.out.1, bnd_ok HZ2.out.1, bnd_ok HZ3.out.1, bnd_err hz]; exact ⟨rfl, grown_bb G6.out g⟩⟩); obtain ⟨a7, q7, v7, hz, rfl, hv, pp, g⟩ := hh; have hv' : v7 = _ := hv; subst hv'; obtain rfl := made_ok hz; have HZ7 := hid (And.intro hz trivial); have P7 := hid pp; have G7 := hid (grown_bb G6.out g); have X7 := hid (X6.out.kept g (lt_nb hbl _ (by omega))); have Y7 := hid (Y6.out.kept g (lt_nb hbl _ (by omega))); have K7 := hid (K6.out.keptB g (by omega)); clear hz pp g hh0)
              | (refine store_nd (.tmp 5) (.tmp 31) rfl rfl c Y7.out rfl rfl ?_; intro w8 b8 g8; have Y8 := hid b8; have G8 := hid (grown_to G7.out g8 (by omega)); have P8 := hid (P7.out.keptG g8 (by omega) (by omega)); have K8 := hid (K7.out.keptB g8 (fun h => h.2 rfl)); have X8 := hid (X7.out.kept g8 (fun e => by injection e with e; omega)); clear b8 g8))
            go_roundg gk
            case measure => omega
            case rel => exact ⟨.mk 26 0 (tkS t) 0 [a, a3], q7, _, _, ⟨by rw [EQ.out.1, bnd_ok HZ2.out.1, bnd_ok HZ3.out.1, bnd_ok HZ7.out.1], trivial⟩, P8.out, K8.out, X8.out, Y8.out, G8.out⟩
        · have EQ : Hid (exprP R low p = .ok (a, q) ∧ True) := hid ⟨HE.out.1.trans (expr_end R low gk a hw kb), trivial⟩
          generalize rankN t.s = rk at *
          have kbi : ¬ (low : Int) ≤ (rk : Int) := by omega
          have f1 := fld1
          clear hw kb hrk
          go_wp2_with (first
            | (go_at_call 38; refine (C38.out wr HQwr.out).mono ?_; rintro e u1 ⟨rfl, g⟩; have XE := hid (X9.out.kept g (by simp)); have YE := hid (Y9.out.kept g (by simp)); have PE := hid (P9.out.kept g); have GE := hid (Loc.grown G9.out ((Loc.refl _ wr).quiet g)); have KE := hid (K9.out.kept g); have y0 := YE.out.cell 0; have y1 := YE.out.cell 1; have y2 := YE.out.cell 2; have y3 := YE.out.cell 3; have y4 := YE.out.cell 4; simp at y0 y1 y2 y3 y4; clear g)
            | (go_at_call 260; refine (C260.out _).mono ?_; rintro e wz ⟨rfl, hwz⟩; replace hwz := hwz.symm; subst hwz)
            | (refine store_nd (.tmp 4) (.tmp 32) rfl rfl w.heap.size XE.out rfl rfl ?_; intro w9 b9 g9; have Z9 := hid b9; have G10 := hid (grown_to GE.out g9 (Nat.le_refl _)); have P10 := hid (PE.out.keptG g9 (by omega) (by omega)); have K10 := hid (KE.out.keptB g9 (by omega)); clear b9 g9))
          refine bodyPost_ret (results_nd rfl _ _ w.heap.size rfl Z9.out) rfl ?_
          rw [EQ.out.1]
          exact ⟨_, rfl, ⟨_, rfl, K10.out.mono (fun g hg _ => by omega)⟩, P10.out, G10.out⟩
end Pm
end Go.Proofs.YtajoncmmdeahnaaGreatDoor
namespace Go.Proofs.YtajoncmmdeahnaaGreatDoor
open Go.RowKit
namespace Pm
structure Knot (b tg cp : Nat) (all : List Tk) (R : Rc) : Prop where
  expr : ∀ (l : Nat) q W, PsA W b tg cp all q → R.expr l q ≠ .error none → Calls Tryz.prog 231 #[.pointer (some ⟨b, 0, none⟩), .int .i64 l] W (PrP (nV W.heap.size) b tg cp all W (R.expr l q))
  oper : ∀ q W, PsA W b tg cp all q → R.oper q ≠ .error none → Calls Tryz.prog 259 #[.pointer (some ⟨b, 0, none⟩)] W (PrP (nV W.heap.size) b tg cp all W (R.oper q))
  block : ∀ q W, PsA W b tg cp all q → R.block q ≠ .error none → Calls Tryz.prog 126 #[.pointer (some ⟨b, 0, none⟩)] W (PrP (nV W.heap.size) b tg cp all W (R.block q))
  branches : ∀ q W, PsA W b tg cp all q → R.branches q ≠ .error none → Calls Tryz.prog 197 #[.pointer (some ⟨b, 0, none⟩)] W (PrP (nV W.heap.size) b tg cp all W (R.branches q))
theorem knot {b tg cp : Nat} {all : List Tk} (hlen : all.length ≤ 50000) (h164 : ∀ q W, PsA W b tg cp all q → literalP q ≠ .error none → Calls Tryz.prog 164 #[.pointer (some ⟨b, 0, none⟩)] W (PrP (nV W.heap.size) b tg cp all W (literalP q))) : ∀ k, Knot b tg cp all (rc k)
  | 0 => ⟨fun _ _ _ _ h => absurd rfl h, fun _ _ _ h => absurd rfl h, fun _ _ _ h => absurd rfl h, fun _ _ _ h => absurd rfl h⟩
  | k + 1 => by
    have ih := knot hlen h164 k
    have h234 : ∀ (s : ByteArray) q W, PsA W b tg cp all q → callP (rc k) s q ≠ .error none → Calls Tryz.prog 234 #[.pointer (some ⟨b, 0, none⟩), .string s] W (PrP (nV W.heap.size) b tg cp all W (callP (rc k) s q)) := fun s q W hW h => call_any (rc k) s W hW h (fun q W hW h => argument_any (rc k) W hW h ih.expr) hlen
    refine ⟨fun l q W hW h => expression_any (rc k) l W hW h ih.oper ih.expr, fun q W hW h => ?_, fun q W hW h => ?_, fun q W hW h => ?_⟩
    · exact operand_any (rc k) W hW h (fun s q W hW h => signed_any (rc k) s W hW h ih.oper) (fun q W hW h => bracketed_any (rc k) W hW h ih.expr) (fun q W hW h => variableOrCall_any (rc k) W hW h h234) h164
    · exact block_any (rc k) W hW h (fun q W hW h => statement_any (rc k) W hW h ih.branches (fun q W hW h => loop_any (rc k) W hW h ih.expr ih.block) (fun kd q W hW h => line_any (rc k) kd W hW h ih.expr) (fun q W hW h => named_any (rc k) W hW h ih.expr h234)) hlen
    · exact branches_any (rc k) W hW h ih.expr ih.block (fun q W hW h => otherwise_any (rc k) W hW h ih.block ih.branches)
theorem program_knot {b tg cp : Nat} {all : List Tk} {p : Ps} (hlen : all.length ≤ 50000) (h164 : ∀ q W, PsA W b tg cp all q → literalP q ≠ .error none → Calls Tryz.prog 164 #[.pointer (some ⟨b, 0, none⟩)] W (PrP (nV W.heap.size) b tg cp all W (literalP q))) (h123 : ∀ q W, PsA W b tg cp all q → constantP q ≠ .error none → Calls Tryz.prog 123 #[.pointer (some ⟨b, 0, none⟩)] W (PrP (nV W.heap.size) b tg cp all W (constantP q))) (k : Nat) (w : World) (hP : PsA w b tg cp all p) (hx : programP (rc k) p ≠ .error none) :
    Calls Tryz.prog 21 #[.pointer (some ⟨b, 0, none⟩)] w (PrP (nV w.heap.size) b tg cp all w (programP (rc k) p)) := by
  have ih := knot hlen h164 k
  exact program_any (rc k) w hP hx (fun q W hW h => declaration_any (rc k) W hW h (fun q W hW h => global_any W hW h h123) (fun q W hW h => function_any (rc k) W hW h ih.block hlen) (fun q W hW h => test_any (rc k) W hW h ih.block)) hlen
end Pm
end Go.Proofs.YtajoncmmdeahnaaGreatDoor
