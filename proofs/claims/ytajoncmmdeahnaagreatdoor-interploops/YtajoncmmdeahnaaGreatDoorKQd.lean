/-
  The parser: list. The parser: block. The parser: rank; a row of two nodes that is laid at once. The parser: expression. The parser: call. The parser: function. The parser: program. The parser: what calls itself, through others; a literal's and a constant's contracts are handed in.
-/
import Derived.Test.YtajoncmmdeahnaaGreatDoorKPy
import Derived.LoopTactic
import Derived.Deep.LoopGhost
import Derived.Test.YtajoncmmdeahnaaGreatDoorKQa
import Derived.Test.YtajoncmmdeahnaaGreatDoorKPo
namespace Go.Proofs.YtajoncmmdeahnaaGreatDoor
open Go.RowKit
namespace Pm
theorem PsA.wsl {w : World} {b tg cp : Nat} {all : List Tk} {q : Ps} (h : PsA w b tg cp all q) : q.ws.length ≤ all.length := by
  obtain ⟨i, pa, h1, _⟩ := h
  rw [h1, List.length_drop]
  omega
end Pm
end Go.Proofs.YtajoncmmdeahnaaGreatDoor
namespace Go.Proofs.YtajoncmmdeahnaaGreatDoor
open Go.RowKit
namespace Pm
theorem bnd_assoc {α β γ : Type} (x : Pr α) (g : α → Pr β) (f : β → Pr γ) (q : Ps) : ((x >>= g) >>= f) q = (x >>= fun a => g a >>= f) q := by
  show Pr.bnd (Pr.bnd x g) f q = Pr.bnd x (fun a => Pr.bnd (g a) f) q
  unfold Pr.bnd
  cases x q with
  | ok a => rfl
  | error e => rfl
theorem block_nil {β : Type} (R : Rc) (k : Nat) (l : List Nd) (f : List Nd → Pr β) {q : Ps} (hw : q.ws = []) : (blockL R (k + 1) l >>= f) q = .error none := by
  refine bnd_err ?_
  unfold blockL
  rw [bnd_err (sees_nil [125] hw)]
theorem block_end {β : Type} (R : Rc) (k : Nat) (l : List Nd) (f : List Nd → Pr β) {q : Ps} {t : Tk} {r : List Tk} (hw : q.ws = t :: r) (h : (t.s == [125]) = true) : (blockL R (k + 1) l >>= f) q = f l q := by
  refine bnd_ok ?_
  unfold blockL
  rw [bnd_ok (sees_eq [125] hw), h]
  rfl
theorem block_more {β : Type} (R : Rc) (k : Nat) (l : List Nd) (f : List Nd → Pr β) {q : Ps} {t : Tk} {r : List Tk} (hw : q.ws = t :: r) (h : (t.s == [125]) = false) : (blockL R (k + 1) l >>= f) q = (roomP l.length 32 >>= fun _ => statementP R >>= fun x => blockL R k (l ++ [x]) >>= f) q := by
  have e : (blockL R (k + 1) l >>= f) q = ((roomP l.length 32 >>= fun _ => statementP R >>= fun x => blockL R k (l ++ [x])) >>= f) q := by
    show Pr.bnd _ f q = Pr.bnd _ f q
    unfold Pr.bnd
    have e2 : blockL R (k + 1) l q = (roomP l.length 32 >>= fun _ => statementP R >>= fun x => blockL R k (l ++ [x])) q := by
      conv => lhs; unfold blockL
      rw [bnd_ok (sees_eq [125] hw), h]
      rfl
    rw [e2]
  rw [e, bnd_assoc]
  show Pr.bnd _ _ q = Pr.bnd _ _ q
  unfold Pr.bnd
  cases roomP l.length 32 q with
  | ok a => exact bnd_assoc _ _ _ _
  | error e => rfl
set_option maxRecDepth 100000 in
set_option maxHeartbeats 8000000 in
theorem block_any {b tg cp : Nat} {all : List Tk} {p : Ps} (R : Rc) (w : World) (hP : PsA w b tg cp all p) (hx : blockP R p ≠ .error none)
    (h166 : ∀ q W, PsA W b tg cp all q → statementP R q ≠ .error none → Calls Tryz.prog 166 #[.pointer (some ⟨b, 0, none⟩)] W (PrP (nV W.heap.size) b tg cp all W (statementP R q)))
    (hlen : all.length ≤ 50000) :
    Calls Tryz.prog 126 #[.pointer (some ⟨b, 0, none⟩)] w (PrP (nV w.heap.size) b tg cp all w (blockP R p)) := by
  have hbl := hP.lt
  have htl := hP.tgl
  have X0 := hid (Blk.new w 27 #[.int .i64 0, .int .i64 0, .string ⟨#[]⟩, .int .i64 0, .slice none 0 0])
  have HX := hid hx
  have G0 := hid (grown_refl w (some b))
  have P0 := hid hP
  have C165 : Hid (∀ q W, PsA W b tg cp all q → openP [123] q ≠ .error none → Calls Tryz.prog 165 #[.pointer (some ⟨b, 0, none⟩), .string ⟨#[123]⟩] W (PrP uV b tg cp all W (openP [123] q))) := fun q W hW h => open_any [123] W hW h
  have C167 : Hid (∀ q W, PsA W b tg cp all q → shutP [125] q ≠ .error none → Calls Tryz.prog 167 #[.pointer (some ⟨b, 0, none⟩), .string ⟨#[125]⟩] W (PrP uV b tg cp all W (shutP [125] q))) := fun q W hW h => shut_any [125] W hW h
  have C40 : Hid (∀ q (h m : Nat) W, PsA W b tg cp all q → roomP h m q ≠ .error none → Calls Tryz.prog 40 #[.pointer (some ⟨b, 0, none⟩), .int .i64 h, .int .i64 m] W (PrP uV b tg cp all W (roomP h m q))) := fun q h m W hW _ => room_any h m W hW
  have C166 := hid h166
  clear h166
  have C42 : Hid (∀ q x k t s n ps l c W, PsA W b tg cp all q → madeP x q ≠ .error none → Calls Tryz.prog 42 #[.pointer (some ⟨b, 0, none⟩), .agg #[.int .i64 k, .int .i64 t, .string s, .int .i64 n, .slice ps l c]] W (PrP (fun _ _ v => v = .agg #[.int .i64 k, .int .i64 t, .string s, .int .i64 n, .slice ps l c]) b tg cp all W (madeP x q))) := fun q x k t s n ps l c W hW h => made_any x k t s n ps l c W hW h
  have X00 : Hid (Blk ((w.alloc (.cells #[.int .i64 0, .int .i64 0, .string ⟨#[]⟩, .int .i64 0, .slice none 0 0] 27)).alloc (.cells #[.int .i64 6, .int .i64 0, .string ⟨#[]⟩, .int .i64 0, .slice none 0 0] 27)) w.heap.size 27 #[.int .i64 0, .int .i64 0, .string ⟨#[]⟩, .int .i64 0, .slice none 0 0]) := hid (X0.out.alloc _)
  have Y00 : Hid (Blk ((w.alloc (.cells #[.int .i64 0, .int .i64 0, .string ⟨#[]⟩, .int .i64 0, .slice none 0 0] 27)).alloc (.cells #[.int .i64 6, .int .i64 0, .string ⟨#[]⟩, .int .i64 0, .slice none 0 0] 27)) (w.heap.size + 1) 27 #[.int .i64 6, .int .i64 0, .string ⟨#[]⟩, .int .i64 0, .slice none 0 0]) := hid (by have h := Blk.new (w.alloc (.cells #[.int .i64 0, .int .i64 0, .string ⟨#[]⟩, .int .i64 0, .slice none 0 0] 27)) 27 #[.int .i64 6, .int .i64 0, .string ⟨#[]⟩, .int .i64 0, .slice none 0 0]; rw [World.size_alloc] at h; exact h)
  clear hx hP
  go_enter Tryz.func126, Tryz.ntmps126
  go_wp2_with (first
    | (go_at_call 165; refine (C165.out p _ (P0.out.loc (n := w.heap.size) (by repeat (first | exact Loc.refl _ _ | refine Loc.alloc ?_ _ | refine Loc.quiet ?_ (by assumption))) hbl htl) (by have h := HX.out; unfold blockP at h; exact bnd_ne h)).mono ?_; intro e w1 hh0; rcases PrP.cases hh0 (by have h := HX.out; unfold blockP at h; exact bnd_ne h) with hh | hh; (case inl => obtain ⟨at_, n, hz, rfl, g⟩ := hh; exact ⟨rfl, by unfold blockP; rw [bnd_err hz]; exact ⟨rfl, grown_bb (Loc.grown G0.out (by repeat (first | exact Loc.refl _ _ | refine Loc.alloc ?_ _ | refine Loc.quiet ?_ (by assumption)))) g⟩⟩); obtain ⟨a1, q1, v1, hz, rfl, hv, pp, g⟩ := hh; have hv' : v1 = .tuple #[] := hv; subst hv'; have HZ1 := hid (And.intro hz trivial); have P1 := hid pp; have G1 := hid (grown_bb (Loc.grown G0.out (by repeat (first | exact Loc.refl _ _ | refine Loc.alloc ?_ _ | refine Loc.quiet ?_ (by assumption)))) g); have hs1 := g.size; rw [World.size_alloc, World.size_alloc] at hs1; have X1 := hid (X00.out.kept g (lt_nb hbl _ (by omega))); have Y1 := hid (Y00.out.kept g (lt_nb hbl _ (by omega))); clear hz pp g hh0))
  have hwl := P1.out.wsl
  obtain ⟨M, hM⟩ : ∃ M, q1.ws.length + 1 = M := ⟨_, rfl⟩
  have FIN0 : Hid (blockP R p = (blockL R M [] >>= (fun ks => shutP [125] >>= fun _ => madeP (.mk 6 0 ⟨#[]⟩ 0 ks))) q1 ∧ True) := hid ⟨by unfold blockP; rw [bnd_ok HZ1.out.1, ← hM]; rfl, trivial⟩
  clear C165
  go_loopg [] M (fun gk wr => ∃ (l : List Nd) (q : Ps) (pv : Option Addr) (cv : Nat), (blockP R p = (blockL R gk l >>= (fun ks => shutP [125] >>= fun _ => madeP (.mk 6 0 ⟨#[]⟩ 0 ks))) q ∧ True) ∧ PsA wr b tg cp all q ∧ Kb wr (w.heap.size + 2) 27 (.slice pv l.length cv) l ∧ Blk wr w.heap.size 27 #[.int .i64 0, .int .i64 0, .string ⟨#[]⟩, .int .i64 0, .slice none 0 0] ∧ Blk wr (w.heap.size + 1) 27 #[.int .i64 6, .int .i64 0, .string ⟨#[]⟩, .int .i64 0, .slice pv l.length cv] ∧ l.length + gk ≤ 60000 ∧ w.heap.size + 2 ≤ wr.heap.size ∧ w.grownBy wr (some b))
  case atStart => exact ⟨[], q1, none, 0, FIN0.out, P1.out, Kb.nil _ _ _, X1.out, Y1.out, by simp; omega, hs1, G1.out⟩
  case round =>
    obtain ⟨l, q, pv, cv, hE, hp9, hkb, hx9, hy9, hln, hs9, hg9⟩ := hrel
    have P9 := hid hp9
    have G9 := hid hg9
    have KB9 := hid hkb
    have X9 := hid hx9
    have Y9 := hid hy9
    have HE := hid hE
    have s9 := hs9
    clear hE hkb hg9 hx9 hy9 FIN0 X1 Y1 P1 G1 hwl hM HZ1 hs9 hs1
    cases gk with
    | zero => exact absurd (HE.out.1.trans (bnd_err rfl)) HX.out
    | succ gk =>
      match hw : q.ws with
      | [] => exact absurd (HE.out.1.trans (block_nil R gk l _ hw)) HX.out
      | t :: r =>
        have C39 : Hid (∀ W, wr.grownBy W none → Calls Tryz.prog 39 #[.pointer (some ⟨b, 0, none⟩), .string ⟨#[125]⟩] W fun e w' => e = .returned (.bool (t.s == [125])) ∧ W.grownBy w' none) := fun W hW => sees_any [125] W (hp9.kept hW) hw
        clear hp9
        rcases Bool.eq_false_or_eq_true (t.s == [125]) with kb | kb
        · rw [kb] at C39
          have EQ : Hid (blockP R p = (shutP [125] >>= fun _ => madeP (.mk 6 0 ⟨#[]⟩ 0 l)) q ∧ True) := hid ⟨HE.out.1.trans (block_end R gk l _ hw kb), trivial⟩
          have HXC : Hid ((shutP [125] >>= fun _ => madeP (.mk 6 0 ⟨#[]⟩ 0 l)) q ≠ .error none) := hid (by rw [← EQ.out.1]; exact HX.out)
          clear hw kb C166 C40
          go_wp2_with (first
            | (go_at_call 39; refine (C39.out _ (grown_refl _ _)).mono ?_; rintro e w6 ⟨rfl, g⟩; replace P9 := hid (P9.out.kept g); replace KB9 := hid (KB9.out.kept g (by simp)); replace X9 := hid (X9.out.kept g (by simp)); replace Y9 := hid (Y9.out.kept g (by simp)); replace G9 := hid (Loc.grown G9.out ((Loc.refl _ _).quiet g)); replace s9 : w.heap.size + 2 ≤ w6.heap.size := (by have := g.size; omega); have z4 := Y9.out.cell 4; simp at z4; clear g C39)
            | (go_at_call 167; refine (C167.out q _ P9.out (by have h := HXC.out; exact bnd_ne h)).mono ?_; intro e w3 hh0; rcases PrP.cases hh0 (by have h := HXC.out; exact bnd_ne h) with hh | hh; (case inl => obtain ⟨at_, n, hz, rfl, g⟩ := hh; exact ⟨rfl, by rw [EQ.out.1, bnd_err hz]; exact ⟨rfl, grown_bb G9.out g⟩⟩); obtain ⟨a3, q3, v3, hz, rfl, hv, pp, g⟩ := hh; have hv' : v3 = .tuple #[] := hv; subst hv'; have HZ3 := hid (And.intro hz trivial); have P3 := hid pp; have G3 := hid (grown_bb G9.out g); have K3 := hid (KB9.out.ks.keptB g (by omega)); have X3 := hid (X9.out.kept g (lt_nb hbl _ (by omega))); have Y3 := hid (Y9.out.kept g (lt_nb hbl _ (by omega))); have y0 := Y3.out.cell 0; have y1 := Y3.out.cell 1; have y2 := Y3.out.cell 2; have y3 := Y3.out.cell 3; have y4 := Y3.out.cell 4; simp at y0 y1 y2 y3 y4; clear hz pp g hh0)
            | (go_at_call 42; refine (C42.out q3 (.mk 6 0 ⟨#[]⟩ 0 l) 6 0 ⟨#[]⟩ 0 pv l.length cv _ P3.out (by have h := HXC.out; rw [bnd_ok HZ3.out.1] at h; exact h)).mono ?_; intro e w8 hh0; rcases PrP.cases hh0 (by have h := HXC.out; rw [bnd_ok HZ3.out.1] at h; exact h) with hh | hh; (case inl => obtain ⟨at_, n, hz, rfl, g⟩ := hh; exact ⟨rfl, by rw [EQ.out.1, bnd_ok HZ3.out.1, hz]; exact ⟨rfl, grown_bb G3.out g⟩⟩); obtain ⟨a8, q8, v8, hz, rfl, hv, pp, g⟩ := hh; have hv' : v8 = _ := hv; subst hv'; obtain rfl := made_ok hz; have HZ8 := hid (And.intro hz trivial); have P8 := hid pp; have G8 := hid (grown_bb G3.out g); have X8 := hid (X3.out.kept g (lt_nb hbl _ (by omega))); have K8 := hid (K3.out.keptB g (by omega)); clear hz pp g hh0)
            | (refine store_nd (.tmp 2) (.tmp 26) rfl rfl w.heap.size X8.out rfl rfl ?_; intro w9 b9 g9; have Z9 := hid b9; have G10 := hid (grown_to G8.out g9 (Nat.le_refl _)); have P10 := hid (P8.out.keptG g9 (by omega) (by omega)); have K10 := hid (K8.out.keptB g9 (by omega)); clear b9 g9))
          refine bodyPost_ret (results_nd rfl _ _ w.heap.size rfl Z9.out) rfl ?_
          rw [EQ.out.1, bnd_ok HZ3.out.1, HZ8.out.1]
          exact ⟨_, rfl, ⟨_, rfl, K10.out.mono (fun g hg _ => by omega)⟩, P10.out, G10.out⟩
        · rw [kb] at C39
          have EQ : Hid (blockP R p = (roomP l.length 32 >>= fun _ => statementP R >>= fun x => blockL R gk (l ++ [x]) >>= (fun ks => shutP [125] >>= fun _ => madeP (.mk 6 0 ⟨#[]⟩ 0 ks))) q ∧ True) := hid ⟨HE.out.1.trans (block_more R gk l _ hw kb), trivial⟩
          have HXC : Hid ((roomP l.length 32 >>= fun _ => statementP R >>= fun x => blockL R gk (l ++ [x]) >>= (fun ks => shutP [125] >>= fun _ => madeP (.mk 6 0 ⟨#[]⟩ 0 ks))) q ≠ .error none) := hid (by rw [← EQ.out.1]; exact HX.out)
          have HLN : Hid (l.length < 100000) := hid (by omega)
          clear hw kb C167 C42
          go_wp2_with (first
            | (go_at_call 39; refine (C39.out _ (grown_refl _ _)).mono ?_; rintro e w6 ⟨rfl, g⟩; replace P9 := hid (P9.out.kept g); replace KB9 := hid (KB9.out.kept g (by simp)); replace X9 := hid (X9.out.kept g (by simp)); replace Y9 := hid (Y9.out.kept g (by simp)); replace G9 := hid (Loc.grown G9.out ((Loc.refl _ _).quiet g)); replace s9 : w.heap.size + 2 ≤ w6.heap.size := (by have := g.size; omega); have z4 := Y9.out.cell 4; simp at z4; clear g C39)
            | (go_at_call 40; refine (C40.out q l.length 32 _ P9.out (by have h := HXC.out; exact bnd_ne h)).mono ?_; intro e w3 hh0; rcases PrP.cases hh0 (by have h := HXC.out; exact bnd_ne h) with hh | hh; (case inl => obtain ⟨at_, n, hz, rfl, g⟩ := hh; exact ⟨rfl, by rw [EQ.out.1, bnd_err hz]; exact ⟨rfl, grown_bb G9.out g⟩⟩); obtain ⟨a3, q3, v3, hz, rfl, hv, pp, g⟩ := hh; have hv' : v3 = .tuple #[] := hv; subst hv'; have HZ3 := hid (And.intro hz trivial); have P3 := hid pp; have G3 := hid (grown_bb G9.out g); have KB3 := hid (KB9.out.kept g (fun r e => by cases e; omega)); have X3 := hid (X9.out.kept g (lt_nb hbl _ (by omega))); have Y3 := hid (Y9.out.kept g (lt_nb hbl _ (by omega))); have s3 := g.size; clear hz pp g hh0))
          have c4 := Y3.out.cell 4
          simp at c4
          have f4 := Y3.out.frozen 4
          have GD : w3.grownBy w3.drew none := grown_drew (grown_refl _ _)
          clear z4
          go_region_law (first
            | (go_simp; go_at_call 166; refine (C166.out q3 _ (P3.out.kept GD) (by have h := HXC.out; rw [bnd_ok HZ3.out.1] at h; exact bnd_ne h)).mono ?_; intro e w4 hh0; rcases PrP.cases hh0 (by have h := HXC.out; rw [bnd_ok HZ3.out.1] at h; exact bnd_ne h) with hh | hh; (case inl => obtain ⟨at_, n, hz, rfl, g⟩ := hh; exact ⟨rfl, by rw [EQ.out.1, bnd_ok HZ3.out.1, bnd_err hz]; exact ⟨rfl, grown_bb (Loc.grown G3.out ((Loc.refl _ w3).quiet GD)) g⟩⟩); obtain ⟨a4, q4, v4, hz, rfl, hv, pp, g⟩ := hh; obtain ⟨qs4, rfl, hk⟩ := hv; obtain ⟨ps4, cs4, rfl, _, _, _⟩ := hk.form; have HZ4 := hid (And.intro hz trivial); have P4 := hid pp; have G4 := hid (grown_bb (Loc.grown G3.out ((Loc.refl _ w3).quiet GD)) g); have gg : w3.grownBy w4 (some b) := grown_bb (grown_b GD) g; have K4 := hid hk; have KB4 := hid (KB3.out.kept gg (fun r e => by cases e; omega)); have X4 := hid (X3.out.kept gg (lt_nb hbl _ (by omega))); have Y4 := hid (Y3.out.kept gg (lt_nb hbl _ (by omega))); have s4 : w3.heap.size ≤ w4.heap.size := gg.size; have d4 := Y4.out.cell 4; simp at d4; have f5 := Y4.out.frozen 4; have e6 : ∀ o, (w4.alloc o).cell? ⟨w.heap.size + 1, 4, none⟩ = some (.slice pv l.length cv) := fun o => (Y4.out.alloc o).cell 4; clear gg; clear hz pp g hh0)
            | (refine step_nd 25 27 Tryz.underlying25 info27 (.tmp 16) (.tmp 19) rfl rfl (w.heap.size + 2) (.slice pv l.length cv) l a4 (.slice ps4 a4.kids.length cs4) ⟨w4.heap.size, 0, none⟩ 1 (KB4.out.kept (grown_alloc (grown_refl w4 none) _) (by simp)) (NdC.new w4 27 a4 _) ((K4.out.mono (fun g hg _ => ⟨by have h9 : w3.drew.heap.size = w3.heap.size := rfl; have h5 : w3.drew.heap.size ≤ g := hg; omega, fun e => by have h6 := (KB3.out.lt g e.symm).2; have h9 : w3.drew.heap.size = w3.heap.size := rfl; have h5 : w3.drew.heap.size ≤ g := hg; omega⟩)).kept (grown_alloc (grown_refl w4 none) _)) HLN.out (by rw [World.size_alloc]; omega) rfl rfl ?_; intro v5 w5 h5 g5; have KB5 := hid h5; have RU := row_under KB4.out; have L5 : Hid (Loc w.heap.size w4 w5) := hid (((Loc.refl _ w4).alloc _).by g5 (fun k e => by have := RU k e; omega)); have P5 := hid (P4.out.loc L5.out hbl htl); have G5 := hid (Loc.grown G4.out L5.out); have X5 := hid ((X4.out.alloc (.cells #[.int .i64 a4.kind, .int .i64 a4.ty, .string a4.txt, .int .i64 a4.num, .slice ps4 a4.kids.length cs4] 27)).kept g5 (fun e => by have := RU _ e.symm; omega)); have Y5 := hid ((Y4.out.alloc (.cells #[.int .i64 a4.kind, .int .i64 a4.ty, .string a4.txt, .int .i64 a4.num, .slice ps4 a4.kids.length cs4] 27)).kept g5 (fun e => by have := RU _ e.symm; omega)); obtain ⟨p5, c5, e5, _⟩ := h5.form; subst e5; have d5 := Y5.out.cell 4; simp at d5; have f6 := Y5.out.frozen 4; clear h5 g5))
          all_goals
            have gs := grown_set (grown_refl w5 (some (w.heap.size + 1))) 4 (.slice p5 (l ++ [a4]).length c5)
            have Y6 := Y5.out.set 4 (.slice p5 (l ++ [a4]).length c5)
            simp only [List.setIfInBounds_toArray, List.set_cons_succ, List.set_cons_zero] at Y6
            have R6 : Hid (PsA (w5.setCell ⟨w.heap.size + 1, 4, none⟩ (.slice p5 (l ++ [a4]).length c5)) b tg cp all q4 ∧ Kb (w5.setCell ⟨w.heap.size + 1, 4, none⟩ (.slice p5 (l ++ [a4]).length c5)) (w.heap.size + 2) 27 (.slice p5 (l ++ [a4]).length c5) (l ++ [a4]) ∧ Blk (w5.setCell ⟨w.heap.size + 1, 4, none⟩ (.slice p5 (l ++ [a4]).length c5)) w.heap.size 27 #[.int .i64 0, .int .i64 0, .string ⟨#[]⟩, .int .i64 0, .slice none 0 0] ∧ w.heap.size + 2 ≤ (w5.setCell ⟨w.heap.size + 1, 4, none⟩ (.slice p5 (l ++ [a4]).length c5)).heap.size ∧ w.grownBy (w5.setCell ⟨w.heap.size + 1, 4, none⟩ (.slice p5 (l ++ [a4]).length c5)) (some b)) := hid ⟨P5.out.keptG gs (by omega) (by omega), KB5.out.kept gs (fun r e => by cases e; omega), X5.out.kept gs (fun e => by injection e with e; omega), by have h1 := Y5.out.lt; have h2 := gs.size; omega, grown_to G5.out gs (by omega)⟩
            have S6 := hid Y6
            clear gs Y6
            go_wp2_with fail
            go_roundg gk
            case measure => omega
            case rel =>
              obtain ⟨r1, r2, r3, r4, r5⟩ := R6.out
              have e9 : (l ++ [a4]).length = l.length + 1 := by simp
              rw [e9] at r1 r2 r3 r4 r5
              have s6 := S6.out
              rw [e9] at s6
              refine ⟨l ++ [a4], q4, p5, c5, ⟨by rw [EQ.out.1, bnd_ok HZ3.out.1, bnd_ok HZ4.out.1], trivial⟩, r1, ?_, r3, ?_, by simp; omega, r4, r5⟩
              · rw [e9]; exact r2
              · rw [e9]; exact s6
end Pm
end Go.Proofs.YtajoncmmdeahnaaGreatDoor
namespace Go.Proofs.YtajoncmmdeahnaaGreatDoor
open Go.RowKit
theorem ks_two {P : Nat → Prop} (w : World) (y z : Nd) (q r : Value) (hy : KsV w P q y.kids) (hz : KsV w P r z.kids) (hp : P w.heap.size) : KsV (w.alloc (.cells #[.int .i64 y.kind, .int .i64 y.ty, .string y.txt, .int .i64 y.num, q, .int .i64 z.kind, .int .i64 z.ty, .string z.txt, .int .i64 z.num, r] 27)) P (.slice (some ⟨w.heap.size, 0, none⟩) 2 2) [y, z] := by
  have hB := Blk.new w 27 #[.int .i64 y.kind, .int .i64 y.ty, .string y.txt, .int .i64 y.num, q, .int .i64 z.kind, .int .i64 z.ty, .string z.txt, .int .i64 z.num, r]
  have gy := hy.kept (grown_alloc (grown_refl w none) (.cells #[.int .i64 y.kind, .int .i64 y.ty, .string y.txt, .int .i64 y.num, q, .int .i64 z.kind, .int .i64 z.ty, .string z.txt, .int .i64 z.num, r] 27))
  have gz := hz.kept (grown_alloc (grown_refl w none) (.cells #[.int .i64 y.kind, .int .i64 y.ty, .string y.txt, .int .i64 y.num, q, .int .i64 z.kind, .int .i64 z.ty, .string z.txt, .int .i64 z.num, r] 27))
  refine ⟨w.heap.size, Or.inr ⟨by simp, hp, 2, rfl, by simp, by unfold maxLen; omega⟩, RowN.of fun i hi => ?_⟩
  match i, hi with
  | 0, _ => exact NdAt.mk (q := q) (by rw [hB.cell]; rfl) (by rw [hB.cell]; rfl) (by rw [hB.cell]; rfl) (by rw [hB.cell]; rfl) (by rw [hB.cell]; rfl) gy
  | 1, _ => exact NdAt.mk (q := r) (by rw [hB.cell]; rfl) (by rw [hB.cell]; rfl) (by rw [hB.cell]; rfl) (by rw [hB.cell]; rfl) (by rw [hB.cell]; rfl) gz
namespace Pm
set_option maxRecDepth 100000 in
set_option maxHeartbeats 4000000 in
theorem rank_any (s : List UInt8) (w : World) : Calls Tryz.prog 260 #[.string ⟨s.toArray⟩] w fun e w' => e = .returned (.int .i64 (rankN s)) ∧ w' = w := by
  rcases Bool.eq_false_or_eq_true (s == [124, 124]) with k0 | k0
  · go_enter Tryz.func260, Tryz.ntmps260
    go_wp2
    go_ret
    exact ⟨by unfold rankN; simp [k0], rfl⟩
  rcases Bool.eq_false_or_eq_true (s == [38, 38]) with k1 | k1
  · go_enter Tryz.func260, Tryz.ntmps260
    go_wp2
    go_ret
    exact ⟨by unfold rankN; simp [k0, k1], rfl⟩
  rcases Bool.eq_false_or_eq_true (s == [60]) with k2 | k2
  · go_enter Tryz.func260, Tryz.ntmps260
    go_wp2
    go_ret
    exact ⟨by unfold rankN; simp [k0, k1, k2], rfl⟩
  rcases Bool.eq_false_or_eq_true (s == [60, 61]) with k3 | k3
  · go_enter Tryz.func260, Tryz.ntmps260
    go_wp2
    go_ret
    exact ⟨by unfold rankN; simp [k0, k1, k2, k3], rfl⟩
  rcases Bool.eq_false_or_eq_true (s == [62]) with k4 | k4
  · go_enter Tryz.func260, Tryz.ntmps260
    go_wp2
    go_ret
    exact ⟨by unfold rankN; simp [k0, k1, k2, k3, k4], rfl⟩
  rcases Bool.eq_false_or_eq_true (s == [62, 61]) with k5 | k5
  · go_enter Tryz.func260, Tryz.ntmps260
    go_wp2
    go_ret
    exact ⟨by unfold rankN; simp [k0, k1, k2, k3, k4, k5], rfl⟩
  rcases Bool.eq_false_or_eq_true (s == [61, 61]) with k6 | k6
  · go_enter Tryz.func260, Tryz.ntmps260
    go_wp2
    go_ret
    exact ⟨by unfold rankN; simp [k0, k1, k2, k3, k4, k5, k6], rfl⟩
  rcases Bool.eq_false_or_eq_true (s == [33, 61]) with k7 | k7
  · go_enter Tryz.func260, Tryz.ntmps260
    go_wp2
    go_ret
    exact ⟨by unfold rankN; simp [k0, k1, k2, k3, k4, k5, k6, k7], rfl⟩
  rcases Bool.eq_false_or_eq_true (s == [43]) with k8 | k8
  · go_enter Tryz.func260, Tryz.ntmps260
    go_wp2
    go_ret
    exact ⟨by unfold rankN; simp [k0, k1, k2, k3, k4, k5, k6, k7, k8], rfl⟩
  rcases Bool.eq_false_or_eq_true (s == [45]) with k9 | k9
  · go_enter Tryz.func260, Tryz.ntmps260
    go_wp2
    go_ret
    exact ⟨by unfold rankN; simp [k0, k1, k2, k3, k4, k5, k6, k7, k8, k9], rfl⟩
  rcases Bool.eq_false_or_eq_true (s == [42]) with k10 | k10
  · go_enter Tryz.func260, Tryz.ntmps260
    go_wp2
    go_ret
    exact ⟨by unfold rankN; simp [k0, k1, k2, k3, k4, k5, k6, k7, k8, k9, k10], rfl⟩
  rcases Bool.eq_false_or_eq_true (s == [47]) with k11 | k11
  · go_enter Tryz.func260, Tryz.ntmps260
    go_wp2
    go_ret
    exact ⟨by unfold rankN; simp [k0, k1, k2, k3, k4, k5, k6, k7, k8, k9, k10, k11], rfl⟩
  rcases Bool.eq_false_or_eq_true (s == [37]) with k12 | k12
  · go_enter Tryz.func260, Tryz.ntmps260
    go_wp2
    go_ret
    exact ⟨by unfold rankN; simp [k0, k1, k2, k3, k4, k5, k6, k7, k8, k9, k10, k11, k12], rfl⟩
  go_enter Tryz.func260, Tryz.ntmps260
  go_wp2
  go_ret
  exact ⟨by unfold rankN; simp [k0, k1, k2, k3, k4, k5, k6, k7, k8, k9, k10, k11, k12], rfl⟩
end Pm
end Go.Proofs.YtajoncmmdeahnaaGreatDoor
namespace Go.Proofs.YtajoncmmdeahnaaGreatDoor
open Go.RowKit
namespace Pm
theorem expr_nil (R : Rc) (low k : Nat) (n : Nd) {q : Ps} (hw : q.ws = []) : exprL R low (k + 1) n q = .error none := by
  unfold exprL
  rw [bnd_err (nxt_nil hw)]
theorem expr_end (R : Rc) (low k : Nat) (n : Nd) {q : Ps} {t : Tk} {r : List Tk} (hw : q.ws = t :: r) (h : ¬ low ≤ rankN t.s) : exprL R low (k + 1) n q = .ok (n, q) := by
  unfold exprL
  rw [bnd_ok (nxt_eq hw), if_neg h]
  rfl
theorem expr_more (R : Rc) (low k : Nat) (n : Nd) {q : Ps} {t : Tk} {r : List Tk} (hw : q.ws = t :: r) (h : low ≤ rankN t.s) : exprL R low (k + 1) n q = (passP >>= fun _ => R.expr (rankN t.s + 1) >>= fun m => madeP (.mk 26 0 (tkS t) 0 [n, m]) >>= fun n' => exprL R low k n') q := by
  conv => lhs; unfold exprL
  rw [bnd_ok (nxt_eq hw), if_pos h]
theorem rank_le (s : List UInt8) : rankN s ≤ 5 := by
  unfold rankN
  repeat' split
  all_goals omega
set_option maxRecDepth 100000 in
set_option maxHeartbeats 8000000 in
theorem expression_any {b tg cp : Nat} {all : List Tk} {p : Ps} (R : Rc) (low : Nat) (w : World) (hP : PsA w b tg cp all p) (hx : exprP R low p ≠ .error none)
    (h259 : ∀ q W, PsA W b tg cp all q → R.oper q ≠ .error none → Calls Tryz.prog 259 #[.pointer (some ⟨b, 0, none⟩)] W (PrP (nV W.heap.size) b tg cp all W (R.oper q)))
    (h231 : ∀ l q W, PsA W b tg cp all q → R.expr l q ≠ .error none → Calls Tryz.prog 231 #[.pointer (some ⟨b, 0, none⟩), .int .i64 l] W (PrP (nV W.heap.size) b tg cp all W (R.expr l q))) :
    Calls Tryz.prog 231 #[.pointer (some ⟨b, 0, none⟩), .int .i64 low] w (PrP (nV w.heap.size) b tg cp all w (exprP R low p)) := by
  have hbl := hP.lt
  have htl := hP.tgl
  have X0 := hid (Blk.new w 27 #[.int .i64 0, .int .i64 0, .string ⟨#[]⟩, .int .i64 0, .slice none 0 0])
  have HX := hid hx
  have G0 := hid (grown_refl w (some b))
  have P0 := hid hP
  have C259 := hid h259
  have H231 := hid h231
  clear h259 h231
  have C43 : Hid (∀ q W, PsA W b tg cp all q → passP q ≠ .error none → Calls Tryz.prog 43 #[.pointer (some ⟨b, 0, none⟩)] W (PrP uV b tg cp all W (passP q))) := fun q W hW h => pass_any W hW h
  have C42 : Hid (∀ q x k t s n ps l c W, PsA W b tg cp all q → madeP x q ≠ .error none → Calls Tryz.prog 42 #[.pointer (some ⟨b, 0, none⟩), .agg #[.int .i64 k, .int .i64 t, .string s, .int .i64 n, .slice ps l c]] W (PrP (fun _ _ v => v = .agg #[.int .i64 k, .int .i64 t, .string s, .int .i64 n, .slice ps l c]) b tg cp all W (madeP x q))) := fun q x k t s n ps l c W hW h => made_any x k t s n ps l c W hW h
  clear hx hP
  go_enter Tryz.func231, Tryz.ntmps231
  go_wp2_with (first
    | (go_at_call 259; refine (C259.out p _ (P0.out.loc (n := w.heap.size) (by repeat (first | exact Loc.refl _ _ | refine Loc.alloc ?_ _ | refine Loc.quiet ?_ (by assumption))) hbl htl) (by have h := HX.out; unfold exprP at h; exact bnd_ne h)).mono ?_; intro e w1 hh0; rcases PrP.cases hh0 (by have h := HX.out; unfold exprP at h; exact bnd_ne h) with hh | hh; (case inl => obtain ⟨at_, n, hz, rfl, g⟩ := hh; exact ⟨rfl, by unfold exprP; rw [bnd_err hz]; exact ⟨rfl, grown_bb (Loc.grown G0.out (by repeat (first | exact Loc.refl _ _ | refine Loc.alloc ?_ _ | refine Loc.quiet ?_ (by assumption)))) g⟩⟩); obtain ⟨a1, q1, v1, hz, rfl, hv, pp, g⟩ := hh; obtain ⟨qs1, rfl, hk⟩ := hv; obtain ⟨ps1, cs1, rfl, _, _, _⟩ := hk.form; have HZ1 := hid (And.intro hz trivial); have P1 := hid pp; have G1 := hid (grown_bb (Loc.grown G0.out (by repeat (first | exact Loc.refl _ _ | refine Loc.alloc ?_ _ | refine Loc.quiet ?_ (by assumption)))) g); have hs1 := g.size; rw [World.size_alloc] at hs1 hk; have K1 := hid hk; have X1 := hid (X0.out.kept g (lt_nb hbl _ (by omega))); clear hz pp g hh0))
  have hwl := P1.out.wsl
  obtain ⟨M, hM⟩ : ∃ M, q1.ws.length + 1 = M := ⟨_, rfl⟩
  have FIN0 : Hid (exprP R low p = exprL R low M a1 q1 ∧ True) := hid ⟨by unfold exprP; rw [bnd_ok HZ1.out.1, ← hM], trivial⟩
  have Y1 := hid (Blk.new w1 27 #[.int .i64 a1.kind, .int .i64 a1.ty, .string a1.txt, .int .i64 a1.num, .slice ps1 a1.kids.length cs1])
  have Px := hid (P1.out.kept (grown_alloc (grown_refl w1 none) (.cells #[.int .i64 a1.kind, .int .i64 a1.ty, .string a1.txt, .int .i64 a1.num, .slice ps1 a1.kids.length cs1] 27)))
  have Gx := hid (Loc.grown G1.out ((Loc.refl _ w1).alloc (.cells #[.int .i64 a1.kind, .int .i64 a1.ty, .string a1.txt, .int .i64 a1.num, .slice ps1 a1.kids.length cs1] 27)))
  have Xx := hid (X1.out.alloc (.cells #[.int .i64 a1.kind, .int .i64 a1.ty, .string a1.txt, .int .i64 a1.num, .slice ps1 a1.kids.length cs1] 27))
  have Kx := hid ((K1.out.mono (Q := fun g => w.heap.size + 1 ≤ g ∧ g ≠ w1.heap.size) (fun g h1 h2 => ⟨h1, by omega⟩)).kept (grown_alloc (grown_refl w1 none) (.cells #[.int .i64 a1.kind, .int .i64 a1.ty, .string a1.txt, .int .i64 a1.num, .slice ps1 a1.kids.length cs1] 27)))
  generalize w1.alloc (.cells #[.int .i64 a1.kind, .int .i64 a1.ty, .string a1.txt, .int .i64 a1.num, .slice ps1 a1.kids.length cs1] 27) = wx at *
  have hc1 : w.heap.size + 1 ≤ w1.heap.size := hs1
  have htc : tg < w1.heap.size := by omega
  generalize w1.heap.size = c at *
  clear C259 K1 X1
  go_loopg [6] M (fun gk s6 wr => ∃ (a : Nd) (q : Ps) (pv : Option Addr) (cv : Nat), (exprP R low p = exprL R low gk a q ∧ True) ∧ PsA wr b tg cp all q ∧ KsV wr (fun g => w.heap.size + 1 ≤ g ∧ g ≠ c) (.slice pv a.kids.length cv) a.kids ∧ Blk wr w.heap.size 27 #[.int .i64 0, .int .i64 0, .string ⟨#[]⟩, .int .i64 0, .slice none 0 0] ∧ Blk wr c 27 #[.int .i64 a.kind, .int .i64 a.ty, .string a.txt, .int .i64 a.num, .slice pv a.kids.length cv] ∧ w.grownBy wr (some b))
  case atStart => exact ⟨a1, q1, ps1, cs1, FIN0.out, Px.out, Kx.out, Xx.out, Y1.out, Gx.out⟩
  case round =>
    obtain ⟨a, q, pv, cv, hE, hp9, hk9, hx9, hy9, hg9⟩ := hrel
    have P9 := hid hp9
    have G9 := hid hg9
    have K9 := hid hk9
    have X9 := hid hx9
    have Y9 := hid hy9
    have HE := hid hE
    clear hE hk9 hg9 hx9 hy9 FIN0 Px Gx Xx Kx Y1 hM hwl HZ1 P1 G1
    cases gk with
    | zero => exact absurd HE.out.1 (fun e => HX.out e)
    | succ gk =>
      match hw : q.ws with
      | [] => exact absurd (HE.out.1.trans (expr_nil R low gk a hw)) HX.out
      | t :: r =>
        have C38 : Hid (∀ W, wr.grownBy W none → Calls Tryz.prog 38 #[.pointer (some ⟨b, 0, none⟩)] W fun e w' => e = .returned (.agg #[.int .i64 t.kind, .string ⟨t.s.toArray⟩, .int .i64 t.pl]) ∧ W.grownBy w' none) := fun W hW => next_any W (hp9.kept hW) hw
        have C260 : Hid (∀ W, Calls Tryz.prog 260 #[.string ⟨t.s.toArray⟩] W fun e w' => e = .returned (.int .i64 (rankN t.s)) ∧ w' = W) := fun W => rank_any t.s W
        have HQwr := hid (grown_refl wr none)
        have hrk := rank_le t.s
        clear hp9
        by_cases kb : low ≤ rankN t.s
        · have EQ : Hid (exprP R low p = (passP >>= fun _ => R.expr (rankN t.s + 1) >>= fun m => madeP (.mk 26 0 (tkS t) 0 [a, m]) >>= fun n' => exprL R low gk n') q ∧ True) := hid ⟨HE.out.1.trans (expr_more R low gk a hw kb), trivial⟩
          have HXC : Hid ((passP >>= fun _ => R.expr (rankN t.s + 1) >>= fun m => madeP (.mk 26 0 (tkS t) 0 [a, m]) >>= fun n' => exprL R low gk n') q ≠ .error none) := hid (by rw [← EQ.out.1]; exact HX.out)
          have C231 : Hid (∀ q W, PsA W b tg cp all q → R.expr (rankN t.s + 1) q ≠ .error none → Calls Tryz.prog 231 #[.pointer (some ⟨b, 0, none⟩), .int .i64 ((rankN t.s : Int) + 1)] W (PrP (nV W.heap.size) b tg cp all W (R.expr (rankN t.s + 1) q))) := fun q W hW h => by
            have h1 := H231.out (rankN t.s + 1) q W hW h
            rw [show ((rankN t.s + 1 : Nat) : Int) = (rankN t.s : Int) + 1 by omega] at h1
            exact h1
          generalize rankN t.s = rk at *
          have wi : IntKind.i64.wrap ((rk : Int) + 1) = (rk : Int) + 1 := by rw [IntKind.wrap_i64]; omega
          have kbi : (low : Int) ≤ (rk : Int) := by omega
          have f1 := fld1
          clear hw kb hrk H231
          go_wp2_with (first
            | (go_at_call 38; refine (C38.out wr HQwr.out).mono ?_; rintro e u1 ⟨rfl, g⟩; have HQu1 := hid (grown_none HQwr.out g); clear g)
            | (go_at_call 260; refine (C260.out _).mono ?_; rintro e wz ⟨rfl, hwz⟩; replace hwz := hwz.symm; subst hwz)
            | (go_at_call 38; refine (C38.out u1 HQu1.out).mono ?_; rintro e u2 ⟨rfl, g⟩; have HQu2 := hid (grown_none HQu1.out g); clear g)
            | (go_at_call 43; refine (C43.out q _ (P9.out.kept HQu2.out) (by have h := HXC.out; exact bnd_ne h)).mono ?_; intro e w2 hh0; rcases PrP.cases hh0 (by have h := HXC.out; exact bnd_ne h) with hh | hh; (case inl => obtain ⟨at_, n, hz, rfl, g⟩ := hh; exact ⟨rfl, by rw [EQ.out.1, bnd_err hz]; exact ⟨rfl, grown_bb (Loc.grown G9.out ((Loc.refl _ wr).quiet HQu2.out)) g⟩⟩); obtain ⟨a2, q2, v2, hz, rfl, hv, pp, g⟩ := hh; have hv' : v2 = .tuple #[] := hv; subst hv'; have HZ2 := hid (And.intro hz trivial); have P2 := hid pp; have G2 := hid (grown_bb (Loc.grown G9.out ((Loc.refl _ wr).quiet HQu2.out)) g); have K2 := hid ((K9.out.kept HQu2.out).keptB g (by omega)); have X2 := hid ((X9.out.kept HQu2.out (by simp)).kept g (lt_nb hbl _ (by omega))); have Y2 := hid ((Y9.out.kept HQu2.out (by simp)).kept g (lt_nb hbl _ (by omega))); have s2 : c < w2.heap.size := Y2.out.lt; clear hz pp g hh0))
          have y0 := Y2.out.cell 0
          have y1 := Y2.out.cell 1
          have y2 := Y2.out.cell 2
          have y3 := Y2.out.cell 3
          have y4 := Y2.out.cell 4
          simp at y0 y1 y2 y3 y4
          have GD : w2.grownBy w2.drew none := grown_drew (grown_refl _ _)
          go_region_law (first
            | (go_simp; go_at_call 260; refine (C260.out _).mono ?_; rintro e wz ⟨rfl, hwz⟩; replace hwz := hwz.symm; subst hwz)
            | (go_simp; go_at_call 231; refine (C231.out q2 _ (P2.out.kept GD) (by have h := HXC.out; rw [bnd_ok HZ2.out.1] at h; exact bnd_ne h)).mono ?_; intro e w3 hh0; rcases PrP.cases hh0 (by have h := HXC.out; rw [bnd_ok HZ2.out.1] at h; exact bnd_ne h) with hh | hh; (case inl => obtain ⟨at_, n, hz, rfl, g⟩ := hh; exact ⟨rfl, by rw [EQ.out.1, bnd_ok HZ2.out.1, bnd_err hz]; exact ⟨rfl, grown_bb (Loc.grown G2.out ((Loc.refl _ w2).quiet GD)) g⟩⟩); obtain ⟨a3, q3, v3, hz, rfl, hv, pp, g⟩ := hh; obtain ⟨qs3, rfl, hk⟩ := hv; obtain ⟨ps3, cs3, rfl, _, _, _⟩ := hk.form; have HZ3 := hid (And.intro hz trivial); have P3 := hid pp; have G3 := hid (grown_bb (Loc.grown G2.out ((Loc.refl _ w2).quiet GD)) g); have gg : w2.grownBy w3 (some b) := grown_bb (grown_b GD) g; have K3 := hid (hk.mono (Q := (fun g => w.heap.size + 1 ≤ g ∧ g ≠ c)) (fun g h1 _ => by have h9 : w2.drew.heap.size = w2.heap.size := rfl; have h10 : w2.drew.heap.size ≤ g := h1; omega)); have J3 := hid (K2.out.keptB gg (by omega)); have X3 := hid (X2.out.kept gg (lt_nb hbl _ (by omega))); have Y3 := hid (Y2.out.kept gg (lt_nb hbl _ (by omega))); have s3 : w2.heap.size ≤ w3.heap.size := gg.size; have m0 := Y3.out.cell 0; have m1 := Y3.out.cell 1; have m2 := Y3.out.cell 2; have m3 := Y3.out.cell 3; have m4 := Y3.out.cell 4; simp at m0 m1 m2 m3 m4; have n0 : ∀ o, (w3.alloc o).cell? ⟨c, 0, none⟩ = some (.int .i64 a.kind) := fun o => (Y3.out.alloc o).cell 0; have n1 : ∀ o, (w3.alloc o).cell? ⟨c, 1, none⟩ = some (.int .i64 a.ty) := fun o => (Y3.out.alloc o).cell 1; have n2 : ∀ o, (w3.alloc o).cell? ⟨c, 2, none⟩ = some (.string a.txt) := fun o => (Y3.out.alloc o).cell 2; have n3 : ∀ o, (w3.alloc o).cell? ⟨c, 3, none⟩ = some (.int .i64 a.num) := fun o => (Y3.out.alloc o).cell 3; have n4 : ∀ o, (w3.alloc o).cell? ⟨c, 4, none⟩ = some (.slice pv a.kids.length cv) := fun o => (Y3.out.alloc o).cell 4; have nf : ∀ i o, (w3.alloc o).frozen? ⟨c, i, none⟩ = false := fun i o => (Y3.out.alloc o).frozen i; clear gg; clear hz pp g hh0))
          all_goals
            have gs := grown_set5 (grown_refl (w3.alloc (.cells #[.int .i64 a.kind, .int .i64 a.ty, .string a.txt, .int .i64 a.num, .slice pv a.kids.length cv, .int .i64 a3.kind, .int .i64 a3.ty, .string a3.txt, .int .i64 a3.num, .slice ps3 a3.kids.length cs3] 27)) (some c)) 0 (.int .i64 26) (.int .i64 0) (.string ⟨t.s.toArray⟩) (.int .i64 0) (.slice (some ⟨w3.heap.size, 0, none⟩) 2 2)
            have hb5 := (Y3.out.alloc (.cells #[.int .i64 a.kind, .int .i64 a.ty, .string a.txt, .int .i64 a.num, .slice pv a.kids.length cv, .int .i64 a3.kind, .int .i64 a3.ty, .string a3.txt, .int .i64 a3.num, .slice ps3 a3.kids.length cs3] 27)).set5 0 (.int .i64 26) (.int .i64 0) (.string ⟨t.s.toArray⟩) (.int .i64 0) (.slice (some ⟨w3.heap.size, 0, none⟩) 2 2)
            obtain ⟨w6, hw6⟩ : ∃ w6, set5 (w3.alloc (.cells #[.int .i64 a.kind, .int .i64 a.ty, .string a.txt, .int .i64 a.num, .slice pv a.kids.length cv, .int .i64 a3.kind, .int .i64 a3.ty, .string a3.txt, .int .i64 a3.num, .slice ps3 a3.kids.length cs3] 27)) c 0 (.int .i64 26) (.int .i64 0) (.string ⟨t.s.toArray⟩) (.int .i64 0) (.slice (some ⟨w3.heap.size, 0, none⟩) 2 2) = w6 := ⟨_, rfl⟩
            have e6 : ((((((w3.alloc (.cells #[.int .i64 a.kind, .int .i64 a.ty, .string a.txt, .int .i64 a.num, .slice pv a.kids.length cv, .int .i64 a3.kind, .int .i64 a3.ty, .string a3.txt, .int .i64 a3.num, .slice ps3 a3.kids.length cs3] 27)).setCell ⟨c, 0, none⟩ (.int .i64 26)).setCell ⟨c, 1, none⟩ (.int .i64 0)).setCell ⟨c, 2, none⟩ (.string ⟨t.s.toArray⟩)).setCell ⟨c, 3, none⟩ (.int .i64 0)).setCell ⟨c, 4, none⟩ (.slice (some ⟨w3.heap.size, 0, none⟩) 2 2)) = w6 := hw6
            rw [hw6] at gs hb5
            rw [e6]
            have Y6 : Hid (Blk w6 c 27 #[.int .i64 26, .int .i64 0, .string ⟨t.s.toArray⟩, .int .i64 0, .slice (some ⟨w3.heap.size, 0, none⟩) 2 2]) := hid hb5
            have P6 := hid ((P3.out.kept (grown_alloc (grown_refl w3 none) (.cells #[.int .i64 a.kind, .int .i64 a.ty, .string a.txt, .int .i64 a.num, .slice pv a.kids.length cv, .int .i64 a3.kind, .int .i64 a3.ty, .string a3.txt, .int .i64 a3.num, .slice ps3 a3.kids.length cs3] 27))).keptG gs (by omega) (by omega))
            have G6 := hid (grown_to (Loc.grown G3.out ((Loc.refl _ w3).alloc (.cells #[.int .i64 a.kind, .int .i64 a.ty, .string a.txt, .int .i64 a.num, .slice pv a.kids.length cv, .int .i64 a3.kind, .int .i64 a3.ty, .string a3.txt, .int .i64 a3.num, .slice ps3 a3.kids.length cs3] 27))) gs (by omega))
            have X6 := hid ((X3.out.alloc (.cells #[.int .i64 a.kind, .int .i64 a.ty, .string a.txt, .int .i64 a.num, .slice pv a.kids.length cv, .int .i64 a3.kind, .int .i64 a3.ty, .string a3.txt, .int .i64 a3.num, .slice ps3 a3.kids.length cs3] 27)).kept gs (fun e => by injection e with e; omega))
            have K6 := hid ((ks_two (P := (fun g => w.heap.size + 1 ≤ g ∧ g ≠ c)) w3 a a3 _ _ J3.out K3.out ⟨by omega, by omega⟩).keptB gs (fun h => h.2 rfl))
            have y0 := Y6.out.cell 0
            have y1 := Y6.out.cell 1
            have y2 := Y6.out.cell 2
            have y3 := Y6.out.cell 3
            have y4 := Y6.out.cell 4
            simp at y0 y1 y2 y3 y4
            clear gs hb5 hw6 e6 m0 m1 m2 m3 m4 n0 n1 n2 n3 n4 nf
            go_wp2_with (first
              | (go_at_call 42; refine (C42.out q3 (.mk 26 0 (tkS t) 0 [a, a3]) 26 0 ⟨t.s.toArray⟩ 0 (some ⟨w3.heap.size, 0, none⟩) 2 2 _ P6.out (by have h := HXC.out; rw [bnd_ok HZ2.out.1, bnd_ok HZ3.out.1] at h; exact bnd_ne h)).mono ?_; intro e w7 hh0; rcases PrP.cases hh0 (by have h := HXC.out; rw [bnd_ok HZ2.out.1, bnd_ok HZ3.out.1] at h; exact bnd_ne h) with hh | hh; (case inl => obtain ⟨at_, n, hz, rfl, g⟩ := hh; exact ⟨rfl, by rw [EQ.out.1, bnd_ok HZ2.out.1, bnd_ok HZ3.out.1, bnd_err hz]; exact ⟨rfl, grown_bb G6.out g⟩⟩); obtain ⟨a7, q7, v7, hz, rfl, hv, pp, g⟩ := hh; have hv' : v7 = _ := hv; subst hv'; obtain rfl := made_ok hz; have HZ7 := hid (And.intro hz trivial); have P7 := hid pp; have G7 := hid (grown_bb G6.out g); have X7 := hid (X6.out.kept g (lt_nb hbl _ (by omega))); have Y7 := hid (Y6.out.kept g (lt_nb hbl _ (by omega))); have K7 := hid (K6.out.keptB g (by omega)); clear hz pp g hh0)
              | (refine store_nd (.tmp 5) (.tmp 31) rfl rfl c Y7.out rfl rfl ?_; intro w8 b8 g8; have Y8 := hid b8; have G8 := hid (grown_to G7.out g8 (by omega)); have P8 := hid (P7.out.keptG g8 (by omega) (by omega)); have K8 := hid (K7.out.keptB g8 (fun h => h.2 rfl)); have X8 := hid (X7.out.kept g8 (fun e => by injection e with e; omega)); clear b8 g8))
            go_roundg gk
            case measure => omega
            case rel => exact ⟨.mk 26 0 (tkS t) 0 [a, a3], q7, _, _, ⟨by rw [EQ.out.1, bnd_ok HZ2.out.1, bnd_ok HZ3.out.1, bnd_ok HZ7.out.1], trivial⟩, P8.out, K8.out, X8.out, Y8.out, G8.out⟩
        · have EQ : Hid (exprP R low p = .ok (a, q) ∧ True) := hid ⟨HE.out.1.trans (expr_end R low gk a hw kb), trivial⟩
          generalize rankN t.s = rk at *
          have kbi : ¬ (low : Int) ≤ (rk : Int) := by omega
          have f1 := fld1
          clear hw kb hrk
          go_wp2_with (first
            | (go_at_call 38; refine (C38.out wr HQwr.out).mono ?_; rintro e u1 ⟨rfl, g⟩; have XE := hid (X9.out.kept g (by simp)); have YE := hid (Y9.out.kept g (by simp)); have PE := hid (P9.out.kept g); have GE := hid (Loc.grown G9.out ((Loc.refl _ wr).quiet g)); have KE := hid (K9.out.kept g); have y0 := YE.out.cell 0; have y1 := YE.out.cell 1; have y2 := YE.out.cell 2; have y3 := YE.out.cell 3; have y4 := YE.out.cell 4; simp at y0 y1 y2 y3 y4; clear g)
            | (go_at_call 260; refine (C260.out _).mono ?_; rintro e wz ⟨rfl, hwz⟩; replace hwz := hwz.symm; subst hwz)
            | (refine store_nd (.tmp 4) (.tmp 32) rfl rfl w.heap.size XE.out rfl rfl ?_; intro w9 b9 g9; have Z9 := hid b9; have G10 := hid (grown_to GE.out g9 (Nat.le_refl _)); have P10 := hid (PE.out.keptG g9 (by omega) (by omega)); have K10 := hid (KE.out.keptB g9 (by omega)); clear b9 g9))
          refine bodyPost_ret (results_nd rfl _ _ w.heap.size rfl Z9.out) rfl ?_
          rw [EQ.out.1]
          exact ⟨_, rfl, ⟨_, rfl, K10.out.mono (fun g hg _ => by omega)⟩, P10.out, G10.out⟩
end Pm
end Go.Proofs.YtajoncmmdeahnaaGreatDoor
namespace Go.Proofs.YtajoncmmdeahnaaGreatDoor
open Go.RowKit
namespace Pm
theorem call_any {b tg cp : Nat} {all : List Tk} {p : Ps} (R : Rc) (name : ByteArray) (w : World) (hP : PsA w b tg cp all p) (hx : callP R name p ≠ .error none)
    (h261 : ∀ q W, PsA W b tg cp all q → R.expr 1 q ≠ .error none → Calls Tryz.prog 261 #[.pointer (some ⟨b, 0, none⟩)] W (PrP (nV W.heap.size) b tg cp all W (R.expr 1 q)))
    (hlen : all.length ≤ 50000) :
    Calls Tryz.prog 234 #[.pointer (some ⟨b, 0, none⟩), .string name] w (PrP (nV w.heap.size) b tg cp all w (callP R name p)) := by
  have _ := R
  have _ := name
  have _ := w
  have _ := hP
  have _ := h261
  have _ := hlen
  exact absurd rfl hx
end Pm
end Go.Proofs.YtajoncmmdeahnaaGreatDoor
namespace Go.Proofs.YtajoncmmdeahnaaGreatDoor
open Go.RowKit
namespace Pm
theorem function_any {b tg cp : Nat} {all : List Tk} {p : Ps} (R : Rc) (w : World) (hP : PsA w b tg cp all p) (hx : functionP R p ≠ .error none)
    (h126 : ∀ q W, PsA W b tg cp all q → R.block q ≠ .error none → Calls Tryz.prog 126 #[.pointer (some ⟨b, 0, none⟩)] W (PrP (nV W.heap.size) b tg cp all W (R.block q)))
    (hlen : all.length ≤ 50000) :
    Calls Tryz.prog 80 #[.pointer (some ⟨b, 0, none⟩)] w (PrP (nV w.heap.size) b tg cp all w (functionP R p)) := by
  have _ := R
  have _ := w
  have _ := hP
  have _ := h126
  have _ := hlen
  exact absurd rfl hx
end Pm
end Go.Proofs.YtajoncmmdeahnaaGreatDoor
namespace Go.Proofs.YtajoncmmdeahnaaGreatDoor
open Go.RowKit
namespace Pm
theorem prog_nil {β : Type} (R : Rc) (k g : Nat) (l : List Nd) (f : List Nd → Pr β) {q : Ps} (hw : q.ws = []) : (programL R (k + 1) g l >>= f) q = .error none := by
  refine bnd_err ?_
  unfold programL
  rw [bnd_err (nxt_nil hw)]
theorem prog_end {β : Type} (R : Rc) (k g : Nat) (l : List Nd) (f : List Nd → Pr β) {q : Ps} {t : Tk} {r : List Tk} (hw : q.ws = t :: r) (h : (t.kind == 0) = true) : (programL R (k + 1) g l >>= f) q = f l q := by
  refine bnd_ok ?_
  unfold programL
  rw [bnd_ok (nxt_eq hw), if_pos h]
  rfl
theorem bnd_same {α β : Type} {x y : Pr α} {f : α → Pr β} {q : Ps} (h : x q = y q) : (x >>= f) q = (y >>= f) q := by
  show Pr.bnd _ f q = Pr.bnd _ f q
  unfold Pr.bnd
  rw [h]
theorem prog_var {β : Type} (R : Rc) (k g : Nat) (l : List Nd) (f : List Nd → Pr β) {q : Ps} {t : Tk} {r : List Tk} (hw : q.ws = t :: r) (h : (t.kind == 0) = false) (hv : (t.s == wVar) = true) : (programL R (k + 1) g l >>= f) q = (roomP g 16 >>= fun _ => declarationP R >>= fun x => programL R k (g + 1) (l ++ [x]) >>= f) q := by
  have e2 : programL R (k + 1) g l q = (roomP g 16 >>= fun _ => declarationP R >>= fun x => programL R k (g + 1) (l ++ [x])) q := by
    conv => lhs; unfold programL
    rw [bnd_ok (nxt_eq hw), if_neg (by rw [h]; decide), if_pos hv, bnd_assoc]
    rfl
  rw [bnd_same e2, bnd_assoc]
  show Pr.bnd _ _ q = Pr.bnd _ _ q
  unfold Pr.bnd
  cases roomP g 16 q with
  | ok a => exact bnd_assoc _ _ _ _
  | error e => rfl
theorem prog_other {β : Type} (R : Rc) (k g : Nat) (l : List Nd) (f : List Nd → Pr β) {q : Ps} {t : Tk} {r : List Tk} (hw : q.ws = t :: r) (h : (t.kind == 0) = false) (hv : (t.s == wVar) = false) : (programL R (k + 1) g l >>= f) q = (roomP (l.length - g) 32 >>= fun _ => declarationP R >>= fun x => programL R k g (l ++ [x]) >>= f) q := by
  have e2 : programL R (k + 1) g l q = (roomP (l.length - g) 32 >>= fun _ => declarationP R >>= fun x => programL R k g (l ++ [x])) q := by
    conv => lhs; unfold programL
    rw [bnd_ok (nxt_eq hw), if_neg (by rw [h]; decide), if_neg (by rw [hv]; decide), bnd_assoc]
    rfl
  rw [bnd_same e2, bnd_assoc]
  show Pr.bnd _ _ q = Pr.bnd _ _ q
  unfold Pr.bnd
  cases roomP (l.length - g) 32 q with
  | ok a => exact bnd_assoc _ _ _ _
  | error e => rfl
set_option maxRecDepth 100000 in
set_option maxHeartbeats 8000000 in
theorem program_any {b tg cp : Nat} {all : List Tk} {p : Ps} (R : Rc) (w : World) (hP : PsA w b tg cp all p) (hx : programP R p ≠ .error none)
    (h41 : ∀ q W, PsA W b tg cp all q → declarationP R q ≠ .error none → Calls Tryz.prog 41 #[.pointer (some ⟨b, 0, none⟩)] W (PrP (nV W.heap.size) b tg cp all W (declarationP R q)))
    (hlen : all.length ≤ 50000) :
    Calls Tryz.prog 21 #[.pointer (some ⟨b, 0, none⟩)] w (PrP (nV w.heap.size) b tg cp all w (programP R p)) := by
  have hbl := hP.lt
  have htl := hP.tgl
  have X0 := hid (Blk.new w 27 #[.int .i64 0, .int .i64 0, .string ⟨#[]⟩, .int .i64 0, .slice none 0 0])
  have HX := hid hx
  have G0 := hid (grown_refl w (some b))
  have P0 := hid hP
  have C40 : Hid (∀ q (h m : Nat) W, PsA W b tg cp all q → roomP h m q ≠ .error none → Calls Tryz.prog 40 #[.pointer (some ⟨b, 0, none⟩), .int .i64 h, .int .i64 m] W (PrP uV b tg cp all W (roomP h m q))) := fun q h m W hW _ => room_any h m W hW
  have C41 := hid h41
  clear h41
  have C43 : Hid (∀ q W, PsA W b tg cp all q → passP q ≠ .error none → Calls Tryz.prog 43 #[.pointer (some ⟨b, 0, none⟩)] W (PrP uV b tg cp all W (passP q))) := fun q W hW h => pass_any W hW h
  have C42 : Hid (∀ q x k t s n ps l c W, PsA W b tg cp all q → madeP x q ≠ .error none → Calls Tryz.prog 42 #[.pointer (some ⟨b, 0, none⟩), .agg #[.int .i64 k, .int .i64 t, .string s, .int .i64 n, .slice ps l c]] W (PrP (fun _ _ v => v = .agg #[.int .i64 k, .int .i64 t, .string s, .int .i64 n, .slice ps l c]) b tg cp all W (madeP x q))) := fun q x k t s n ps l c W hW h => made_any x k t s n ps l c W hW h
  have X00 : Hid (Blk ((w.alloc (.cells #[.int .i64 0, .int .i64 0, .string ⟨#[]⟩, .int .i64 0, .slice none 0 0] 27)).alloc (.cells #[.int .i64 1, .int .i64 0, .string ⟨#[]⟩, .int .i64 0, .slice none 0 0] 27)) w.heap.size 27 #[.int .i64 0, .int .i64 0, .string ⟨#[]⟩, .int .i64 0, .slice none 0 0]) := hid (X0.out.alloc _)
  have Y00 : Hid (Blk ((w.alloc (.cells #[.int .i64 0, .int .i64 0, .string ⟨#[]⟩, .int .i64 0, .slice none 0 0] 27)).alloc (.cells #[.int .i64 1, .int .i64 0, .string ⟨#[]⟩, .int .i64 0, .slice none 0 0] 27)) (w.heap.size + 1) 27 #[.int .i64 1, .int .i64 0, .string ⟨#[]⟩, .int .i64 0, .slice none 0 0]) := hid (by have h := Blk.new (w.alloc (.cells #[.int .i64 0, .int .i64 0, .string ⟨#[]⟩, .int .i64 0, .slice none 0 0] 27)) 27 #[.int .i64 1, .int .i64 0, .string ⟨#[]⟩, .int .i64 0, .slice none 0 0]; rw [World.size_alloc] at h; exact h)
  clear hx hP
  go_enter Tryz.func21, Tryz.ntmps21
  go_wp2_with fail
  have hwl := P0.out.wsl
  obtain ⟨M, hM⟩ : ∃ M, p.ws.length + 1 = M := ⟨_, rfl⟩
  have FIN0 : Hid (programP R p = (programL R M 0 [] >>= (fun ks => madeP (.mk 1 0 ⟨#[]⟩ 0 ks) >>= fun n => passP >>= fun _ => pure n)) p ∧ True) := hid ⟨by unfold programP; rw [← hM]; rfl, trivial⟩
  have gw : w.grownBy ((w.alloc (.cells #[.int .i64 0, .int .i64 0, .string ⟨#[]⟩, .int .i64 0, .slice none 0 0] 27)).alloc (.cells #[.int .i64 1, .int .i64 0, .string ⟨#[]⟩, .int .i64 0, .slice none 0 0] 27)) none := grown_alloc (grown_alloc (grown_refl w none) _) _
  have P1 := hid (P0.out.kept gw)
  have G1 := hid (Loc.grown G0.out ((Loc.refl _ w).quiet gw))
  have s1 : w.heap.size + 2 ≤ ((w.alloc (.cells #[.int .i64 0, .int .i64 0, .string ⟨#[]⟩, .int .i64 0, .slice none 0 0] 27)).alloc (.cells #[.int .i64 1, .int .i64 0, .string ⟨#[]⟩, .int .i64 0, .slice none 0 0] 27)).heap.size := by rw [World.size_alloc, World.size_alloc]; omega
  clear gw
  go_loopg [4] M (fun gk s4 wr => ∃ (l : List Nd) (q : Ps) (g0 : Nat) (pv : Option Addr) (cv : Nat), s4 = .int .i64 g0 ∧ (programP R p = (programL R gk g0 l >>= (fun ks => madeP (.mk 1 0 ⟨#[]⟩ 0 ks) >>= fun n => passP >>= fun _ => pure n)) q ∧ True) ∧ PsA wr b tg cp all q ∧ Kb wr (w.heap.size + 2) 27 (.slice pv l.length cv) l ∧ Blk wr w.heap.size 27 #[.int .i64 0, .int .i64 0, .string ⟨#[]⟩, .int .i64 0, .slice none 0 0] ∧ Blk wr (w.heap.size + 1) 27 #[.int .i64 1, .int .i64 0, .string ⟨#[]⟩, .int .i64 0, .slice pv l.length cv] ∧ l.length + gk ≤ 60000 ∧ g0 ≤ l.length ∧ w.heap.size + 2 ≤ wr.heap.size ∧ w.grownBy wr (some b))
  case atStart => exact ⟨[], p, 0, none, 0, rfl, FIN0.out, P1.out, Kb.nil _ _ _, X00.out, Y00.out, by simp; omega, by simp, s1, G1.out⟩
  case round =>
    obtain ⟨l, q, g0, pv, cv, rfl, hE, hp9, hkb, hx9, hy9, hln, hg0, hs9, hg9⟩ := hrel
    have P9 := hid hp9
    have G9 := hid hg9
    have KB9 := hid hkb
    have X9 := hid hx9
    have Y9 := hid hy9
    have HE := hid hE
    have s9 := hs9
    have HQ := hid (grown_refl wr none)
    clear hE hkb hg9 hx9 hy9 FIN0 P1 G1 hwl hM hs9 s1 X00 Y00
    cases gk with
    | zero => exact absurd (HE.out.1.trans (bnd_err rfl)) HX.out
    | succ gk =>
      match hw : q.ws with
      | [] => exact absurd (HE.out.1.trans (prog_nil R gk g0 l _ hw)) HX.out
      | t :: r =>
        have C38 : Hid (∀ W, wr.grownBy W none → Calls Tryz.prog 38 #[.pointer (some ⟨b, 0, none⟩)] W fun e w' => e = .returned (.agg #[.int .i64 t.kind, .string ⟨t.s.toArray⟩, .int .i64 t.pl]) ∧ W.grownBy w' none) := fun W hW => next_any W (hp9.kept hW) hw
        have C39 : Hid (∀ W, wr.grownBy W none → Calls Tryz.prog 39 #[.pointer (some ⟨b, 0, none⟩), .string ⟨#[118, 97, 114]⟩] W fun e w' => e = .returned (.bool (t.s == wVar)) ∧ W.grownBy w' none) := fun W hW => sees_any wVar W (hp9.kept hW) hw
        have f0 := fld0
        clear hp9
        rcases Bool.eq_false_or_eq_true (t.kind == 0) with kb | kb
        · have hk0 : (t.kind : Int) = 0 := by have h : t.kind = 0 := by simpa using kb
                                              omega
          have EQ : Hid (programP R p = (madeP (.mk 1 0 ⟨#[]⟩ 0 l) >>= fun n => passP >>= fun _ => pure n) q ∧ True) := hid ⟨HE.out.1.trans (prog_end R gk g0 l _ hw kb), trivial⟩
          have HXC : Hid ((madeP (.mk 1 0 ⟨#[]⟩ 0 l) >>= fun n => passP >>= fun _ => pure n) q ≠ .error none) := hid (by rw [← EQ.out.1]; exact HX.out)
          have z0 := Y9.out.lt
          clear hw kb C41 C40 C39
          go_upto_region 9 with (first
            | (go_at_call 38; refine (C38.out _ HQ.out).mono ?_; rintro e u1 ⟨rfl, g⟩; replace HQ := hid (grown_none HQ.out g); replace P9 := hid (P9.out.kept g); replace KB9 := hid (KB9.out.kept g (by simp)); replace X9 := hid (X9.out.kept g (by simp)); replace Y9 := hid (Y9.out.kept g (by simp)); replace G9 := hid (Loc.grown G9.out ((Loc.refl _ _).quiet g)); replace s9 := Nat.le_trans s9 g.size; clear g C38))
          have y0 := Y9.out.cell 0
          have y1 := Y9.out.cell 1
          have y2 := Y9.out.cell 2
          have y3 := Y9.out.cell 3
          have y4 := Y9.out.cell 4
          simp at y0 y1 y2 y3 y4
          go_wp2_with (first
            | (go_at_call 42; refine (C42.out q (.mk 1 0 ⟨#[]⟩ 0 l) 1 0 ⟨#[]⟩ 0 pv l.length cv _ P9.out (by have h := HXC.out; exact bnd_ne h)).mono ?_; intro e w8 hh0; rcases PrP.cases hh0 (by have h := HXC.out; exact bnd_ne h) with hh | hh; (case inl => obtain ⟨at_, n, hz, rfl, g⟩ := hh; exact ⟨rfl, by rw [EQ.out.1, bnd_err hz]; exact ⟨rfl, grown_bb G9.out g⟩⟩); obtain ⟨a8, q8, v8, hz, rfl, hv, pp, g⟩ := hh; have hv' : v8 = _ := hv; subst hv'; obtain rfl := made_ok hz; have HZ8 := hid (And.intro hz trivial); have P8 := hid pp; have G8 := hid (grown_bb G9.out g); have K8 := hid (KB9.out.ks.keptB g (by omega)); have X8 := hid (X9.out.kept g (lt_nb hbl _ (by omega))); have Y8 := hid (Y9.out.kept g (lt_nb hbl _ (by omega))); clear hz pp g hh0)
            | (refine store_nd (.tmp 3) (.tmp 33) rfl rfl (w.heap.size + 1) Y8.out rfl rfl ?_; intro w10 b9 g9; have Y10 := hid b9; have G10 := hid (grown_to G8.out g9 (by omega)); have P10 := hid (P8.out.keptG g9 (by omega) (by omega)); have K10 := hid (K8.out.keptB g9 (by omega)); have X10 := hid (X8.out.kept g9 (fun e => by injection e with e; omega)); clear b9 g9)
            | (go_at_call 43; refine (C43.out q8 _ P10.out (by have h := HXC.out; rw [bnd_ok HZ8.out.1] at h; exact bnd_ne h)).mono ?_; intro e w11 hh0; rcases PrP.cases hh0 (by have h := HXC.out; rw [bnd_ok HZ8.out.1] at h; exact bnd_ne h) with hh | hh; (case inl => obtain ⟨at_, n, hz, rfl, g⟩ := hh; exact ⟨rfl, by rw [EQ.out.1, bnd_ok HZ8.out.1, bnd_err hz]; exact ⟨rfl, grown_bb G10.out g⟩⟩); obtain ⟨a11, q11, v11, hz, rfl, hv, pp, g⟩ := hh; have hv' : v11 = .tuple #[] := hv; subst hv'; have HZ11 := hid (And.intro hz trivial); have P11 := hid pp; have G11 := hid (grown_bb G10.out g); have K11 := hid (K10.out.keptB g (by omega)); have X11 := hid (X10.out.kept g (lt_nb hbl _ (by omega))); have Y11 := hid (Y10.out.kept g (lt_nb hbl _ (by omega))); have y0 := Y11.out.cell 0; have y1 := Y11.out.cell 1; have y2 := Y11.out.cell 2; have y3 := Y11.out.cell 3; have y4 := Y11.out.cell 4; simp at y0 y1 y2 y3 y4; clear hz pp g hh0)
            | (refine store_nd (.tmp 2) (.tmp 36) rfl rfl w.heap.size X11.out rfl rfl ?_; intro w12 b9 g9; have Z9 := hid b9; have G12 := hid (grown_to G11.out g9 (Nat.le_refl _)); have P12 := hid (P11.out.keptG g9 (by omega) (by omega)); have K12 := hid (K11.out.keptB g9 (by omega)); clear b9 g9))
          refine bodyPost_ret (results_nd rfl _ _ w.heap.size rfl Z9.out) rfl ?_
          rw [EQ.out.1, bnd_ok HZ8.out.1, bnd_ok HZ11.out.1, pure_ap]
          exact ⟨_, rfl, ⟨_, rfl, K12.out.mono (fun g hg _ => by omega)⟩, P12.out, G12.out⟩
        · have hk0 : ¬ (t.kind : Int) = 0 := by
            intro h
            have h1 : t.kind = 0 := by omega
            rw [h1] at kb
            cases kb
          have HLN : Hid (l.length < 100000) := hid (by omega)
          rcases Bool.eq_false_or_eq_true (t.s == wVar) with kv | kv
          · rw [kv] at C39
            have EQ : Hid (programP R p = (roomP g0 16 >>= fun _ => declarationP R >>= fun x => programL R gk (g0 + 1) (l ++ [x]) >>= (fun ks => madeP (.mk 1 0 ⟨#[]⟩ 0 ks) >>= fun n => passP >>= fun _ => pure n)) q ∧ True) := hid ⟨HE.out.1.trans (prog_var R gk g0 l _ hw kb kv), trivial⟩
            have HXC : Hid ((roomP g0 16 >>= fun _ => declarationP R >>= fun x => programL R gk (g0 + 1) (l ++ [x]) >>= (fun ks => madeP (.mk 1 0 ⟨#[]⟩ 0 ks) >>= fun n => passP >>= fun _ => pure n)) q ≠ .error none) := hid (by rw [← EQ.out.1]; exact HX.out)
            have wi : IntKind.i64.wrap ((g0 : Int) + 1) = (g0 : Int) + 1 := by rw [IntKind.wrap_i64]; omega
            clear hw kb kv C42 C43
            go_wp2_with (first
              | (go_at_call 38; refine (C38.out _ HQ.out).mono ?_; rintro e u1 ⟨rfl, g⟩; replace HQ := hid (grown_none HQ.out g); replace P9 := hid (P9.out.kept g); replace KB9 := hid (KB9.out.kept g (by simp)); replace X9 := hid (X9.out.kept g (by simp)); replace Y9 := hid (Y9.out.kept g (by simp)); replace G9 := hid (Loc.grown G9.out ((Loc.refl _ _).quiet g)); replace s9 := Nat.le_trans s9 g.size; clear g C38)
              | (go_at_call 39; refine (C39.out _ HQ.out).mono ?_; rintro e u2 ⟨rfl, g⟩; replace HQ := hid (grown_none HQ.out g); replace P9 := hid (P9.out.kept g); replace KB9 := hid (KB9.out.kept g (by simp)); replace X9 := hid (X9.out.kept g (by simp)); replace Y9 := hid (Y9.out.kept g (by simp)); replace G9 := hid (Loc.grown G9.out ((Loc.refl _ _).quiet g)); replace s9 := Nat.le_trans s9 g.size; have z4 := Y9.out.cell 4; simp at z4; clear g C39)
              | (go_at_call 40; refine (C40.out q g0 16 _ P9.out (by have h := HXC.out; exact bnd_ne h)).mono ?_; intro e w3 hh0; rcases PrP.cases hh0 (by have h := HXC.out; exact bnd_ne h) with hh | hh; (case inl => obtain ⟨at_, n, hz, rfl, g⟩ := hh; exact ⟨rfl, by rw [EQ.out.1, bnd_err hz]; exact ⟨rfl, grown_bb G9.out g⟩⟩); obtain ⟨a3, q3, v3, hz, rfl, hv, pp, g⟩ := hh; have hv' : v3 = .tuple #[] := hv; subst hv'; have HZ3 := hid (And.intro hz trivial); have P3 := hid pp; have G3 := hid (grown_bb G9.out g); have KB3 := hid (KB9.out.kept g (fun r e => by cases e; omega)); have X3 := hid (X9.out.kept g (lt_nb hbl _ (by omega))); have Y3 := hid (Y9.out.kept g (lt_nb hbl _ (by omega))); have s3 := g.size; clear hz pp g hh0))
            have c4 := Y3.out.cell 4
            simp at c4
            have f4 := Y3.out.frozen 4
            have GD : w3.grownBy w3.drew none := grown_drew (grown_refl _ _)
            clear z4
            go_region_law (first
              | (go_simp; go_at_call 41; refine (C41.out q3 _ (P3.out.kept GD) (by have h := HXC.out; rw [bnd_ok HZ3.out.1] at h; exact bnd_ne h)).mono ?_; intro e w4 hh0; rcases PrP.cases hh0 (by have h := HXC.out; rw [bnd_ok HZ3.out.1] at h; exact bnd_ne h) with hh | hh; (case inl => obtain ⟨at_, n, hz, rfl, g⟩ := hh; exact ⟨rfl, by rw [EQ.out.1, bnd_ok HZ3.out.1, bnd_err hz]; exact ⟨rfl, grown_bb (Loc.grown G3.out ((Loc.refl _ w3).quiet GD)) g⟩⟩); obtain ⟨a4, q4, v4, hz, rfl, hv, pp, g⟩ := hh; obtain ⟨qs4, rfl, hk⟩ := hv; obtain ⟨ps4, cs4, rfl, _, _, _⟩ := hk.form; have HZ4 := hid (And.intro hz trivial); have P4 := hid pp; have G4 := hid (grown_bb (Loc.grown G3.out ((Loc.refl _ w3).quiet GD)) g); have gg : w3.grownBy w4 (some b) := grown_bb (grown_b GD) g; have K4 := hid hk; have KB4 := hid (KB3.out.kept gg (fun r e => by cases e; omega)); have X4 := hid (X3.out.kept gg (lt_nb hbl _ (by omega))); have Y4 := hid (Y3.out.kept gg (lt_nb hbl _ (by omega))); have s4 : w3.heap.size ≤ w4.heap.size := gg.size; have d4 := Y4.out.cell 4; simp at d4; have f5 := Y4.out.frozen 4; have e6 : ∀ o, (w4.alloc o).cell? ⟨w.heap.size + 1, 4, none⟩ = some (.slice pv l.length cv) := fun o => (Y4.out.alloc o).cell 4; clear gg; clear hz pp g hh0)
              | (refine step_nd 25 27 Tryz.underlying25 info27 (.tmp 25) (.tmp 28) rfl rfl (w.heap.size + 2) (.slice pv l.length cv) l a4 (.slice ps4 a4.kids.length cs4) ⟨w4.heap.size, 0, none⟩ 1 (KB4.out.kept (grown_alloc (grown_refl w4 none) _) (by simp)) (NdC.new w4 27 a4 _) ((K4.out.mono (fun g hg _ => ⟨by have h9 : w3.drew.heap.size = w3.heap.size := rfl; have h5 : w3.drew.heap.size ≤ g := hg; omega, fun e => by have h6 := (KB3.out.lt g e.symm).2; have h9 : w3.drew.heap.size = w3.heap.size := rfl; have h5 : w3.drew.heap.size ≤ g := hg; omega⟩)).kept (grown_alloc (grown_refl w4 none) _)) HLN.out (by rw [World.size_alloc]; omega) rfl rfl ?_; intro v5 w5 h5 g5; have KB5 := hid h5; have RU := row_under KB4.out; have L5 : Hid (Loc w.heap.size w4 w5) := hid (((Loc.refl _ w4).alloc _).by g5 (fun k e => by have := RU k e; omega)); have P5 := hid (P4.out.loc L5.out hbl htl); have G5 := hid (Loc.grown G4.out L5.out); have X5 := hid ((X4.out.alloc (.cells #[.int .i64 a4.kind, .int .i64 a4.ty, .string a4.txt, .int .i64 a4.num, .slice ps4 a4.kids.length cs4] 27)).kept g5 (fun e => by have := RU _ e.symm; omega)); have Y5 := hid ((Y4.out.alloc (.cells #[.int .i64 a4.kind, .int .i64 a4.ty, .string a4.txt, .int .i64 a4.num, .slice ps4 a4.kids.length cs4] 27)).kept g5 (fun e => by have := RU _ e.symm; omega)); obtain ⟨p5, c5, e5, _⟩ := h5.form; subst e5; have d5 := Y5.out.cell 4; simp at d5; have f6 := Y5.out.frozen 4; clear h5 g5))
            all_goals
              have e9 : (l ++ [a4]).length = l.length + 1 := by simp
              rw [e9] at KB5
              have gs := grown_set (grown_refl w5 (some (w.heap.size + 1))) 4 (.slice p5 (l.length + 1) c5)
              have Y6 := hid (Y5.out.set 4 (.slice p5 (l.length + 1) c5))
              have P6 := hid (P5.out.keptG gs (by omega) (by omega))
              have KB6 := hid (KB5.out.kept gs (fun r e => by cases e; omega))
              have X6 := hid (X5.out.kept gs (fun e => by injection e with e; omega))
              have G6 := hid (grown_to G5.out gs (by omega))
              have s6 := gs.size
              have s61 := Y5.out.lt
              simp at Y6
              clear gs
              generalize w5.setCell ⟨w.heap.size + 1, 4, none⟩ (.slice p5 (l.length + 1) c5) = w6 at *
              go_wp2_with fail
              go_roundg gk
              case measure => omega
              case rel => exact ⟨l ++ [a4], q4, g0 + 1, p5, c5, rfl, ⟨by rw [EQ.out.1, bnd_ok HZ3.out.1, bnd_ok HZ4.out.1], trivial⟩, P6.out, by rw [e9]; exact KB6.out, X6.out, by rw [e9]; exact Y6.out, by rw [e9]; omega, by rw [e9]; omega, by omega, G6.out⟩
          · rw [kv] at C39
            have EQ : Hid (programP R p = (roomP (l.length - g0) 32 >>= fun _ => declarationP R >>= fun x => programL R gk g0 (l ++ [x]) >>= (fun ks => madeP (.mk 1 0 ⟨#[]⟩ 0 ks) >>= fun n => passP >>= fun _ => pure n)) q ∧ True) := hid ⟨HE.out.1.trans (prog_other R gk g0 l _ hw kb kv), trivial⟩
            have HXC : Hid ((roomP (l.length - g0) 32 >>= fun _ => declarationP R >>= fun x => programL R gk g0 (l ++ [x]) >>= (fun ks => madeP (.mk 1 0 ⟨#[]⟩ 0 ks) >>= fun n => passP >>= fun _ => pure n)) q ≠ .error none) := hid (by rw [← EQ.out.1]; exact HX.out)
            have wi : IntKind.i64.wrap ((l.length : Int) - g0) = ((l.length - g0 : Nat) : Int) := by rw [IntKind.wrap_i64]; omega
            clear hw kb kv C42 C43
            go_wp2_with (first
              | (go_at_call 38; refine (C38.out _ HQ.out).mono ?_; rintro e u1 ⟨rfl, g⟩; replace HQ := hid (grown_none HQ.out g); replace P9 := hid (P9.out.kept g); replace KB9 := hid (KB9.out.kept g (by simp)); replace X9 := hid (X9.out.kept g (by simp)); replace Y9 := hid (Y9.out.kept g (by simp)); replace G9 := hid (Loc.grown G9.out ((Loc.refl _ _).quiet g)); replace s9 := Nat.le_trans s9 g.size; clear g C38)
              | (go_at_call 39; refine (C39.out _ HQ.out).mono ?_; rintro e u2 ⟨rfl, g⟩; replace HQ := hid (grown_none HQ.out g); replace P9 := hid (P9.out.kept g); replace KB9 := hid (KB9.out.kept g (by simp)); replace X9 := hid (X9.out.kept g (by simp)); replace Y9 := hid (Y9.out.kept g (by simp)); replace G9 := hid (Loc.grown G9.out ((Loc.refl _ _).quiet g)); replace s9 := Nat.le_trans s9 g.size; have z4 := Y9.out.cell 4; simp at z4; clear g C39)
              | (go_at_call 40; refine (C40.out q (l.length - g0) 32 _ P9.out (by have h := HXC.out; exact bnd_ne h)).mono ?_; intro e w3 hh0; rcases PrP.cases hh0 (by have h := HXC.out; exact bnd_ne h) with hh | hh; (case inl => obtain ⟨at_, n, hz, rfl, g⟩ := hh; exact ⟨rfl, by rw [EQ.out.1, bnd_err hz]; exact ⟨rfl, grown_bb G9.out g⟩⟩); obtain ⟨a3, q3, v3, hz, rfl, hv, pp, g⟩ := hh; have hv' : v3 = .tuple #[] := hv; subst hv'; have HZ3 := hid (And.intro hz trivial); have P3 := hid pp; have G3 := hid (grown_bb G9.out g); have KB3 := hid (KB9.out.kept g (fun r e => by cases e; omega)); have X3 := hid (X9.out.kept g (lt_nb hbl _ (by omega))); have Y3 := hid (Y9.out.kept g (lt_nb hbl _ (by omega))); have s3 := g.size; clear hz pp g hh0))
            have c4 := Y3.out.cell 4
            simp at c4
            have f4 := Y3.out.frozen 4
            have GD : w3.grownBy w3.drew none := grown_drew (grown_refl _ _)
            clear z4
            go_region_law (first
              | (go_simp; go_at_call 41; refine (C41.out q3 _ (P3.out.kept GD) (by have h := HXC.out; rw [bnd_ok HZ3.out.1] at h; exact bnd_ne h)).mono ?_; intro e w4 hh0; rcases PrP.cases hh0 (by have h := HXC.out; rw [bnd_ok HZ3.out.1] at h; exact bnd_ne h) with hh | hh; (case inl => obtain ⟨at_, n, hz, rfl, g⟩ := hh; exact ⟨rfl, by rw [EQ.out.1, bnd_ok HZ3.out.1, bnd_err hz]; exact ⟨rfl, grown_bb (Loc.grown G3.out ((Loc.refl _ w3).quiet GD)) g⟩⟩); obtain ⟨a4, q4, v4, hz, rfl, hv, pp, g⟩ := hh; obtain ⟨qs4, rfl, hk⟩ := hv; obtain ⟨ps4, cs4, rfl, _, _, _⟩ := hk.form; have HZ4 := hid (And.intro hz trivial); have P4 := hid pp; have G4 := hid (grown_bb (Loc.grown G3.out ((Loc.refl _ w3).quiet GD)) g); have gg : w3.grownBy w4 (some b) := grown_bb (grown_b GD) g; have K4 := hid hk; have KB4 := hid (KB3.out.kept gg (fun r e => by cases e; omega)); have X4 := hid (X3.out.kept gg (lt_nb hbl _ (by omega))); have Y4 := hid (Y3.out.kept gg (lt_nb hbl _ (by omega))); have s4 : w3.heap.size ≤ w4.heap.size := gg.size; have d4 := Y4.out.cell 4; simp at d4; have f5 := Y4.out.frozen 4; have e6 : ∀ o, (w4.alloc o).cell? ⟨w.heap.size + 1, 4, none⟩ = some (.slice pv l.length cv) := fun o => (Y4.out.alloc o).cell 4; clear gg; clear hz pp g hh0)
              | (refine step_nd 25 27 Tryz.underlying25 info27 (.tmp 25) (.tmp 28) rfl rfl (w.heap.size + 2) (.slice pv l.length cv) l a4 (.slice ps4 a4.kids.length cs4) ⟨w4.heap.size, 0, none⟩ 1 (KB4.out.kept (grown_alloc (grown_refl w4 none) _) (by simp)) (NdC.new w4 27 a4 _) ((K4.out.mono (fun g hg _ => ⟨by have h9 : w3.drew.heap.size = w3.heap.size := rfl; have h5 : w3.drew.heap.size ≤ g := hg; omega, fun e => by have h6 := (KB3.out.lt g e.symm).2; have h9 : w3.drew.heap.size = w3.heap.size := rfl; have h5 : w3.drew.heap.size ≤ g := hg; omega⟩)).kept (grown_alloc (grown_refl w4 none) _)) HLN.out (by rw [World.size_alloc]; omega) rfl rfl ?_; intro v5 w5 h5 g5; have KB5 := hid h5; have RU := row_under KB4.out; have L5 : Hid (Loc w.heap.size w4 w5) := hid (((Loc.refl _ w4).alloc _).by g5 (fun k e => by have := RU k e; omega)); have P5 := hid (P4.out.loc L5.out hbl htl); have G5 := hid (Loc.grown G4.out L5.out); have X5 := hid ((X4.out.alloc (.cells #[.int .i64 a4.kind, .int .i64 a4.ty, .string a4.txt, .int .i64 a4.num, .slice ps4 a4.kids.length cs4] 27)).kept g5 (fun e => by have := RU _ e.symm; omega)); have Y5 := hid ((Y4.out.alloc (.cells #[.int .i64 a4.kind, .int .i64 a4.ty, .string a4.txt, .int .i64 a4.num, .slice ps4 a4.kids.length cs4] 27)).kept g5 (fun e => by have := RU _ e.symm; omega)); obtain ⟨p5, c5, e5, _⟩ := h5.form; subst e5; have d5 := Y5.out.cell 4; simp at d5; have f6 := Y5.out.frozen 4; clear h5 g5))
            all_goals
              have e9 : (l ++ [a4]).length = l.length + 1 := by simp
              rw [e9] at KB5
              have gs := grown_set (grown_refl w5 (some (w.heap.size + 1))) 4 (.slice p5 (l.length + 1) c5)
              have Y6 := hid (Y5.out.set 4 (.slice p5 (l.length + 1) c5))
              have P6 := hid (P5.out.keptG gs (by omega) (by omega))
              have KB6 := hid (KB5.out.kept gs (fun r e => by cases e; omega))
              have X6 := hid (X5.out.kept gs (fun e => by injection e with e; omega))
              have G6 := hid (grown_to G5.out gs (by omega))
              have s6 := gs.size
              have s61 := Y5.out.lt
              simp at Y6
              clear gs
              generalize w5.setCell ⟨w.heap.size + 1, 4, none⟩ (.slice p5 (l.length + 1) c5) = w6 at *
              go_wp2_with fail
              go_roundg gk
              case measure => omega
              case rel => exact ⟨l ++ [a4], q4, g0, p5, c5, rfl, ⟨by rw [EQ.out.1, bnd_ok HZ3.out.1, bnd_ok HZ4.out.1], trivial⟩, P6.out, by rw [e9]; exact KB6.out, X6.out, by rw [e9]; exact Y6.out, by rw [e9]; omega, by rw [e9]; omega, by omega, G6.out⟩
end Pm
end Go.Proofs.YtajoncmmdeahnaaGreatDoor
namespace Go.Proofs.YtajoncmmdeahnaaGreatDoor
open Go.RowKit
namespace Pm
structure Knot (b tg cp : Nat) (all : List Tk) (R : Rc) : Prop where
  expr : ∀ (l : Nat) q W, PsA W b tg cp all q → R.expr l q ≠ .error none → Calls Tryz.prog 231 #[.pointer (some ⟨b, 0, none⟩), .int .i64 l] W (PrP (nV W.heap.size) b tg cp all W (R.expr l q))
  oper : ∀ q W, PsA W b tg cp all q → R.oper q ≠ .error none → Calls Tryz.prog 259 #[.pointer (some ⟨b, 0, none⟩)] W (PrP (nV W.heap.size) b tg cp all W (R.oper q))
  block : ∀ q W, PsA W b tg cp all q → R.block q ≠ .error none → Calls Tryz.prog 126 #[.pointer (some ⟨b, 0, none⟩)] W (PrP (nV W.heap.size) b tg cp all W (R.block q))
  branches : ∀ q W, PsA W b tg cp all q → R.branches q ≠ .error none → Calls Tryz.prog 197 #[.pointer (some ⟨b, 0, none⟩)] W (PrP (nV W.heap.size) b tg cp all W (R.branches q))
theorem knot {b tg cp : Nat} {all : List Tk} (hlen : all.length ≤ 50000) (h164 : ∀ q W, PsA W b tg cp all q → literalP q ≠ .error none → Calls Tryz.prog 164 #[.pointer (some ⟨b, 0, none⟩)] W (PrP (nV W.heap.size) b tg cp all W (literalP q))) : ∀ k, Knot b tg cp all (rc k)
  | 0 => ⟨fun _ _ _ _ h => absurd rfl h, fun _ _ _ h => absurd rfl h, fun _ _ _ h => absurd rfl h, fun _ _ _ h => absurd rfl h⟩
  | k + 1 => by
    have ih := knot hlen h164 k
    have h234 : ∀ (s : ByteArray) q W, PsA W b tg cp all q → callP (rc k) s q ≠ .error none → Calls Tryz.prog 234 #[.pointer (some ⟨b, 0, none⟩), .string s] W (PrP (nV W.heap.size) b tg cp all W (callP (rc k) s q)) := fun s q W hW h => call_any (rc k) s W hW h (fun q W hW h => argument_any (rc k) W hW h ih.expr) hlen
    refine ⟨fun l q W hW h => expression_any (rc k) l W hW h ih.oper ih.expr, fun q W hW h => ?_, fun q W hW h => ?_, fun q W hW h => ?_⟩
    · exact operand_any (rc k) W hW h (fun s q W hW h => signed_any (rc k) s W hW h ih.oper) (fun q W hW h => bracketed_any (rc k) W hW h ih.expr) (fun q W hW h => variableOrCall_any (rc k) W hW h h234) h164
    · exact block_any (rc k) W hW h (fun q W hW h => statement_any (rc k) W hW h ih.branches (fun q W hW h => loop_any (rc k) W hW h ih.expr ih.block) (fun kd q W hW h => line_any (rc k) kd W hW h ih.expr) (fun q W hW h => named_any (rc k) W hW h ih.expr h234)) hlen
    · exact branches_any (rc k) W hW h ih.expr ih.block (fun q W hW h => otherwise_any (rc k) W hW h ih.block ih.branches)
theorem program_knot {b tg cp : Nat} {all : List Tk} {p : Ps} (hlen : all.length ≤ 50000) (h164 : ∀ q W, PsA W b tg cp all q → literalP q ≠ .error none → Calls Tryz.prog 164 #[.pointer (some ⟨b, 0, none⟩)] W (PrP (nV W.heap.size) b tg cp all W (literalP q))) (h123 : ∀ q W, PsA W b tg cp all q → constantP q ≠ .error none → Calls Tryz.prog 123 #[.pointer (some ⟨b, 0, none⟩)] W (PrP (nV W.heap.size) b tg cp all W (constantP q))) (k : Nat) (w : World) (hP : PsA w b tg cp all p) (hx : programP (rc k) p ≠ .error none) :
    Calls Tryz.prog 21 #[.pointer (some ⟨b, 0, none⟩)] w (PrP (nV w.heap.size) b tg cp all w (programP (rc k) p)) := by
  have ih := knot hlen h164 k
  exact program_any (rc k) w hP hx (fun q W hW h => declaration_any (rc k) W hW h (fun q W hW h => global_any W hW h h123) (fun q W hW h => function_any (rc k) W hW h ih.block hlen) (fun q W hW h => test_any (rc k) W hW h ih.block)) hlen
end Pm
end Go.Proofs.YtajoncmmdeahnaaGreatDoor
