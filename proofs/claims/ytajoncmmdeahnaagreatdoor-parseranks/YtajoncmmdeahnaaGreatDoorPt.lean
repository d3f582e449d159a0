/-
  The parser: block.
-/
import Derived.Test.YtajoncmmdeahnaaGreatDoorPs
namespace Go.Proofs.YtajoncmmdeahnaaGreatDoor
open Go.RowKit
namespace Pm
theorem bnd_assoc {α β γ : Type} (x : Pr α) (g : α → Pr β) (f : β → Pr γ) (q : Ps) : ((x >>= g) >>= f) q = (x >>= fun a => g a >>= f) q := by
  show Pr.bnd (Pr.bnd x g) f q = Pr.bnd x (fun a => Pr.bnd (g a) f) q
  unfold Pr.bnd
  cases x q with
  | ok a => rfl
  | error e => rfl
theorem block_nil {β : Type} (R : Rc) (k : Nat) (l : List Nd) (f : List Nd → Pr β) {q : Ps} (hw : q.ws = []) : (blockL R (k + 1) l >>= f) q = .error none := by
  refine bnd_err ?_
  unfold blockL
  rw [bnd_err (sees_nil [125] hw)]
theorem block_end {β : Type} (R : Rc) (k : Nat) (l : List Nd) (f : List Nd → Pr β) {q : Ps} {t : Tk} {r : List Tk} (hw : q.ws = t :: r) (h : (t.s == [125]) = true) : (blockL R (k + 1) l >>= f) q = f l q := by
  refine bnd_ok ?_
  unfold blockL
  rw [bnd_ok (sees_eq [125] hw), h]
  rfl
theorem block_more {β : Type} (R : Rc) (k : Nat) (l : List Nd) (f : List Nd → Pr β) {q : Ps} {t : Tk} {r : List Tk} (hw : q.ws = t :: r) (h : (t.s == [125]) = false) : (blockL R (k + 1) l >>= f) q = (roomP l.length 32 >>= fun _ => statementP R >>= fun x => blockL R k (l ++ [x]) >>= f) q := by
  have e : (blockL R (k + 1) l >>= f) q = ((roomP l.length 32 >>= fun _ => statementP R >>= fun x => blockL R k (l ++ [x])) >>= f) q := by
    show Pr.bnd _ f q = Pr.bnd _ f q
    unfold Pr.bnd
    have e2 : blockL R (k + 1) l q = (roomP l.length 32 >>= fun _ => statementP R >>= fun x => blockL R k (l ++ [x])) q := by
      conv => lhs; unfold blockL
      rw [bnd_ok (sees_eq [125] hw), h]
      rfl
    rw [e2]
  rw [e, bnd_assoc]
  show Pr.bnd _ _ q = Pr.bnd _ _ q
  unfold Pr.bnd
  cases roomP l.length 32 q with
  | ok a => exact bnd_assoc _ _ _ _
  | error e => rfl
set_option maxRecDepth 100000 in
set_option maxHeartbeats 8000000 in
theorem block_any {b tg cp : Nat} {all : List Tk} {p : Ps} (R : Rc) (w : World) (hP : PsA w b tg cp all p) (hx : blockP R p ≠ .error none)
    (h166 : ∀ q W, PsA W b tg cp all q → statementP R q ≠ .error none → Calls Tryz.prog 166 #[.pointer (some ⟨b, 0, none⟩)] W (PrP (nV W.heap.size) b tg cp all W (statementP R q)))
    (hlen : all.length ≤ 50000) :
    Calls Tryz.prog 126 #[.pointer (some ⟨b, 0, none⟩)] w (PrP (nV w.heap.size) b tg cp all w (blockP R p)) := by
  have hbl := hP.lt
  have htl := hP.tgl
  have X0 := hid (Blk.new w 27 #[.int .i64 0, .int .i64 0, .string ⟨#[]⟩, .int .i64 0, .slice none 0 0])
  have HX := hid hx
  have G0 := hid (grown_refl w (some b))
  have P0 := hid hP
  have C165 : Hid (∀ q W, PsA W b tg cp all q → openP [123] q ≠ .error none → Calls Tryz.prog 165 #[.pointer (some ⟨b, 0, none⟩), .string ⟨#[123]⟩] W (PrP uV b tg cp all W (openP [123] q))) := fun q W hW h => open_any [123] W hW h
  have C167 : Hid (∀ q W, PsA W b tg cp all q → shutP [125] q ≠ .error none → Calls Tryz.prog 167 #[.pointer (some ⟨b, 0, none⟩), .string ⟨#[125]⟩] W (PrP uV b tg cp all W (shutP [125] q))) := fun q W hW h => shut_any [125] W hW h
  have C40 : Hid (∀ q (h m : Nat) W, PsA W b tg cp all q → roomP h m q ≠ .error none → Calls Tryz.prog 40 #[.pointer (some ⟨b, 0, none⟩), .int .i64 h, .int .i64 m] W (PrP uV b tg cp all W (roomP h m q))) := fun q h m W hW _ => room_any h m W hW
  have C166 := hid h166
  clear h166
  have C42 : Hid (∀ q x k t s n ps l c W, PsA W b tg cp all q → madeP x q ≠ .error none → Calls Tryz.prog 42 #[.pointer (some ⟨b, 0, none⟩), .agg #[.int .i64 k, .int .i64 t, .string s, .int .i64 n, .slice ps l c]] W (PrP (fun _ _ v => v = .agg #[.int .i64 k, .int .i64 t, .string s, .int .i64 n, .slice ps l c]) b tg cp all W (madeP x q))) := fun q x k t s n ps l c W hW h => made_any x k t s n ps l c W hW h
  have X00 : Hid (Blk ((w.alloc (.cells #[.int .i64 0, .int .i64 0, .string ⟨#[]⟩, .int .i64 0, .slice none 0 0] 27)).alloc (.cells #[.int .i64 6, .int .i64 0, .string ⟨#[]⟩, .int .i64 0, .slice none 0 0] 27)) w.heap.size 27 #[.int .i64 0, .int .i64 0, .string ⟨#[]⟩, .int .i64 0, .slice none 0 0]) := hid (X0.out.alloc _)
  have Y00 : Hid (Blk ((w.alloc (.cells #[.int .i64 0, .int .i64 0, .string ⟨#[]⟩, .int .i64 0, .slice none 0 0] 27)).alloc (.cells #[.int .i64 6, .int .i64 0, .string ⟨#[]⟩, .int .i64 0, .slice none 0 0] 27)) (w.heap.size + 1) 27 #[.int .i64 6, .int .i64 0, .string ⟨#[]⟩, .int .i64 0, .slice none 0 0]) := hid (by have h := Blk.new (w.alloc (.cells #[.int .i64 0, .int .i64 0, .string ⟨#[]⟩, .int .i64 0, .slice none 0 0] 27)) 27 #[.int .i64 6, .int .i64 0, .string ⟨#[]⟩, .int .i64 0, .slice none 0 0]; rw [World.size_alloc] at h; exact h)
  clear hx hP
  go_enter Tryz.func126, Tryz.ntmps126
  go_wp2_with (first
    | (go_at_call 165; refine (C165.out p _ (P0.out.loc (n := w.heap.size) (by repeat (first | exact Loc.refl _ _ | refine Loc.alloc ?_ _ | refine Loc.quiet ?_ (by assumption))) hbl htl) (by have h := HX.out; unfold blockP at h; exact bnd_ne h)).mono ?_; intro e w1 hh0; rcases PrP.cases hh0 (by have h := HX.out; unfold blockP at h; exact bnd_ne h) with hh | hh; (case inl => obtain ⟨at_, n, hz, rfl, g⟩ := hh; exact ⟨rfl, by unfold blockP; rw [bnd_err hz]; exact ⟨rfl, grown_bb (Loc.grown G0.out (by repeat (first | exact Loc.refl _ _ | refine Loc.alloc ?_ _ | refine Loc.quiet ?_ (by assumption)))) g⟩⟩); obtain ⟨a1, q1, v1, hz, rfl, hv, pp, g⟩ := hh; have hv' : v1 = .tuple #[] := hv; subst hv'; have HZ1 := hid (And.intro hz trivial); have P1 := hid pp; have G1 := hid (grown_bb (Loc.grown G0.out (by repeat (first | exact Loc.refl _ _ | refine Loc.alloc ?_ _ | refine Loc.quiet ?_ (by assumption)))) g); have hs1 := g.size; rw [World.size_alloc, World.size_alloc] at hs1; have X1 := hid (X00.out.kept g (lt_nb hbl _ (by omega))); have Y1 := hid (Y00.out.kept g (lt_nb hbl _ (by omega))); clear hz pp g hh0))
  have hwl := P1.out.wsl
  obtain ⟨M, hM⟩ : ∃ M, q1.ws.length + 1 = M := ⟨_, rfl⟩
  have FIN0 : Hid (blockP R p = (blockL R M [] >>= (fun ks => shutP [125] >>= fun _ => madeP (.mk 6 0 ⟨#[]⟩ 0 ks))) q1 ∧ True) := hid ⟨by unfold blockP; rw [bnd_ok HZ1.out.1, ← hM]; rfl, trivial⟩
  clear C165
  go_loopg [] M (fun gk wr => ∃ (l : List Nd) (q : Ps) (pv : Option Addr) (cv : Nat), (blockP R p = (blockL R gk l >>= (fun ks => shutP [125] >>= fun _ => madeP (.mk 6 0 ⟨#[]⟩ 0 ks))) q ∧ True) ∧ PsA wr b tg cp all q ∧ Kb wr (w.heap.size + 2) 27 (.slice pv l.length cv) l ∧ Blk wr w.heap.size 27 #[.int .i64 0, .int .i64 0, .string ⟨#[]⟩, .int .i64 0, .slice none 0 0] ∧ Blk wr (w.heap.size + 1) 27 #[.int .i64 6, .int .i64 0, .string ⟨#[]⟩, .int .i64 0, .slice pv l.length cv] ∧ l.length + gk ≤ 60000 ∧ w.heap.size + 2 ≤ wr.heap.size ∧ w.grownBy wr (some b))
  case atStart => exact ⟨[], q1, none, 0, FIN0.out, P1.out, Kb.nil _ _ _, X1.out, Y1.out, by simp; omega, hs1, G1.out⟩
  case round =>
    obtain ⟨l, q, pv, cv, hE, hp9, hkb, hx9, hy9, hln, hs9, hg9⟩ := hrel
    have P9 := hid hp9
    have G9 := hid hg9
    have KB9 := hid hkb
    have X9 := hid hx9
    have Y9 := hid hy9
    have HE := hid hE
    have s9 := hs9
    clear hE hkb hg9 hx9 hy9 FIN0 X1 Y1 P1 G1 hwl hM HZ1 hs9 hs1
    cases gk with
    | zero => exact absurd (HE.out.1.trans (bnd_err rfl)) HX.out
    | succ gk =>
      match hw : q.ws with
      | [] => exact absurd (HE.out.1.trans (block_nil R gk l _ hw)) HX.out
      | t :: r =>
        have C39 : Hid (∀ W, wr.grownBy W none → Calls Tryz.prog 39 #[.pointer (some ⟨b, 0, none⟩), .string ⟨#[125]⟩] W fun e w' => e = .returned (.bool (t.s == [125])) ∧ W.grownBy w' none) := fun W hW => sees_any [125] W (hp9.kept hW) hw
        clear hp9
        rcases Bool.eq_false_or_eq_true (t.s == [125]) with kb | kb
        · rw [kb] at C39
          have EQ : Hid (blockP R p = (shutP [125] >>= fun _ => madeP (.mk 6 0 ⟨#[]⟩ 0 l)) q ∧ True) := hid ⟨HE.out.1.trans (block_end R gk l _ hw kb), trivial⟩
          have HXC : Hid ((shutP [125] >>= fun _ => madeP (.mk 6 0 ⟨#[]⟩ 0 l)) q ≠ .error none) := hid (by rw [← EQ.out.1]; exact HX.out)
          clear hw kb C166 C40
          go_wp2_with (first
            | (go_at_call 39; refine (C39.out _ (grown_refl _ _)).mono ?_; rintro e w6 ⟨rfl, g⟩; replace P9 := hid (P9.out.kept g); replace KB9 := hid (KB9.out.kept g (by simp)); replace X9 := hid (X9.out.kept g (by simp)); replace Y9 := hid (Y9.out.kept g (by simp)); replace G9 := hid (Loc.grown G9.out ((Loc.refl _ _).quiet g)); replace s9 : w.heap.size + 2 ≤ w6.heap.size := (by have := g.size; omega); have z4 := Y9.out.cell 4; simp at z4; clear g C39)
            | (go_at_call 167; refine (C167.out q _ P9.out (by have h := HXC.out; exact bnd_ne h)).mono ?_; intro e w3 hh0; rcases PrP.cases hh0 (by have h := HXC.out; exact bnd_ne h) with hh | hh; (case inl => obtain ⟨at_, n, hz, rfl, g⟩ := hh; exact ⟨rfl, by rw [EQ.out.1, bnd_err hz]; exact ⟨rfl, grown_bb G9.out g⟩⟩); obtain ⟨a3, q3, v3, hz, rfl, hv, pp, g⟩ := hh; have hv' : v3 = .tuple #[] := hv; subst hv'; have HZ3 := hid (And.intro hz trivial); have P3 := hid pp; have G3 := hid (grown_bb G9.out g); have K3 := hid (KB9.out.ks.keptB g (by omega)); have X3 := hid (X9.out.kept g (lt_nb hbl _ (by omega))); have Y3 := hid (Y9.out.kept g (lt_nb hbl _ (by omega))); have y0 := Y3.out.cell 0; have y1 := Y3.out.cell 1; have y2 := Y3.out.cell 2; have y3 := Y3.out.cell 3; have y4 := Y3.out.cell 4; simp at y0 y1 y2 y3 y4; clear hz pp g hh0)
            | (go_at_call 42; refine (C42.out q3 (.mk 6 0 ⟨#[]⟩ 0 l) 6 0 ⟨#[]⟩ 0 pv l.length cv _ P3.out (by have h := HXC.out; rw [bnd_ok HZ3.out.1] at h; exact h)).mono ?_; intro e w8 hh0; rcases PrP.cases hh0 (by have h := HXC.out; rw [bnd_ok HZ3.out.1] at h; exact h) with hh | hh; (case inl => obtain ⟨at_, n, hz, rfl, g⟩ := hh; exact ⟨rfl, by rw [EQ.out.1, bnd_ok HZ3.out.1, hz]; exact ⟨rfl, grown_bb G3.out g⟩⟩); obtain ⟨a8, q8, v8, hz, rfl, hv, pp, g⟩ := hh; have hv' : v8 = _ := hv; subst hv'; obtain rfl := made_ok hz; have HZ8 := hid (And.intro hz trivial); have P8 := hid pp; have G8 := hid (grown_bb G3.out g); have X8 := hid (X3.out.kept g (lt_nb hbl _ (by omega))); have K8 := hid (K3.out.keptB g (by omega)); clear hz pp g hh0)
            | (refine store_nd (.tmp 2) (.tmp 26) rfl rfl w.heap.size X8.out rfl rfl ?_; intro w9 b9 g9; have Z9 := hid b9; have G10 := hid (grown_to G8.out g9 (Nat.le_refl _)); have P10 := hid (P8.out.keptG g9 (by omega) (by omega)); have K10 := hid (K8.out.keptB g9 (by omega)); clear b9 g9))
          refine bodyPost_ret (results_nd rfl _ _ w.heap.size rfl Z9.out) rfl ?_
          rw [EQ.out.1, bnd_ok HZ3.out.1, HZ8.out.1]
          exact ⟨_, rfl, ⟨_, rfl, K10.out.mono (fun g hg _ => by omega)⟩, P10.out, G10.out⟩
        · rw [kb] at C39
          have EQ : Hid (blockP R p = (roomP l.length 32 >>= fun _ => statementP R >>= fun x => blockL R gk (l ++ [x]) >>= (fun ks => shutP [125] >>= fun _ => madeP (.mk 6 0 ⟨#[]⟩ 0 ks))) q ∧ True) := hid ⟨HE.out.1.trans (block_more R gk l _ hw kb), trivial⟩
          have HXC : Hid ((roomP l.length 32 >>= fun _ => statementP R >>= fun x => blockL R gk (l ++ [x]) >>= (fun ks => shutP [125] >>= fun _ => madeP (.mk 6 0 ⟨#[]⟩ 0 ks))) q ≠ .error none) := hid (by rw [← EQ.out.1]; exact HX.out)
          have HLN : Hid (l.length < 100000) := hid (by omega)
          clear hw kb C167 C42
          go_wp2_with (first
            | (go_at_call 39; refine (C39.out _ (grown_refl _ _)).mono ?_; rintro e w6 ⟨rfl, g⟩; replace P9 := hid (P9.out.kept g); replace KB9 := hid (KB9.out.kept g (by simp)); replace X9 := hid (X9.out.kept g (by simp)); replace Y9 := hid (Y9.out.kept g (by simp)); replace G9 := hid (Loc.grown G9.out ((Loc.refl _ _).quiet g)); replace s9 : w.heap.size + 2 ≤ w6.heap.size := (by have := g.size; omega); have z4 := Y9.out.cell 4; simp at z4; clear g C39)
            | (go_at_call 40; refine (C40.out q l.length 32 _ P9.out (by have h := HXC.out; exact bnd_ne h)).mono ?_; intro e w3 hh0; rcases PrP.cases hh0 (by have h := HXC.out; exact bnd_ne h) with hh | hh; (case inl => obtain ⟨at_, n, hz, rfl, g⟩ := hh; exact ⟨rfl, by rw [EQ.out.1, bnd_err hz]; exact ⟨rfl, grown_bb G9.out g⟩⟩); obtain ⟨a3, q3, v3, hz, rfl, hv, pp, g⟩ := hh; have hv' : v3 = .tuple #[] := hv; subst hv'; have HZ3 := hid (And.intro hz trivial); have P3 := hid pp; have G3 := hid (grown_bb G9.out g); have KB3 := hid (KB9.out.kept g (fun r e => by cases e; omega)); have X3 := hid (X9.out.kept g (lt_nb hbl _ (by omega))); have Y3 := hid (Y9.out.kept g (lt_nb hbl _ (by omega))); have s3 := g.size; clear hz pp g hh0))
          have c4 := Y3.out.cell 4
          simp at c4
          have f4 := Y3.out.frozen 4
          have GD : w3.grownBy w3.drew none := grown_drew (grown_refl _ _)
          clear z4
          go_region_law (first
            | (go_simp; go_at_call 166; refine (C166.out q3 _ (P3.out.kept GD) (by have h := HXC.out; rw [bnd_ok HZ3.out.1] at h; exact bnd_ne h)).mono ?_; intro e w4 hh0; rcases PrP.cases hh0 (by have h := HXC.out; rw [bnd_ok HZ3.out.1] at h; exact bnd_ne h) with hh | hh; (case inl => obtain ⟨at_, n, hz, rfl, g⟩ := hh; exact ⟨rfl, by rw [EQ.out.1, bnd_ok HZ3.out.1, bnd_err hz]; exact ⟨rfl, grown_bb (Loc.grown G3.out ((Loc.refl _ w3).quiet GD)) g⟩⟩); obtain ⟨a4, q4, v4, hz, rfl, hv, pp, g⟩ := hh; obtain ⟨qs4, rfl, hk⟩ := hv; obtain ⟨ps4, cs4, rfl, _, _, _⟩ := hk.form; have HZ4 := hid (And.intro hz trivial); have P4 := hid pp; have G4 := hid (grown_bb (Loc.grown G3.out ((Loc.refl _ w3).quiet GD)) g); have gg : w3.grownBy w4 (some b) := grown_bb (grown_b GD) g; have K4 := hid hk; have KB4 := hid (KB3.out.kept gg (fun r e => by cases e; omega)); have X4 := hid (X3.out.kept gg (lt_nb hbl _ (by omega))); have Y4 := hid (Y3.out.kept gg (lt_nb hbl _ (by omega))); have s4 : w3.heap.size ≤ w4.heap.size := gg.size; have d4 := Y4.out.cell 4; simp at d4; have f5 := Y4.out.frozen 4; have e6 : ∀ o, (w4.alloc o).cell? ⟨w.heap.size + 1, 4, none⟩ = some (.slice pv l.length cv) := fun o => (Y4.out.alloc o).cell 4; clear gg; clear hz pp g hh0)
            | (refine step_nd 25 27 Tryz.underlying25 info27 (.tmp 16) (.tmp 19) rfl rfl (w.heap.size + 2) (.slice pv l.length cv) l a4 (.slice ps4 a4.kids.length cs4) ⟨w4.heap.size, 0, none⟩ 1 (KB4.out.kept (grown_alloc (grown_refl w4 none) _) (by simp)) (NdC.new w4 27 a4 _) ((K4.out.mono (fun g hg _ => ⟨by have h9 : w3.drew.heap.size = w3.heap.size := rfl; have h5 : w3.drew.heap.size ≤ g := hg; omega, fun e => by have h6 := (KB3.out.lt g e.symm).2; have h9 : w3.drew.heap.size = w3.heap.size := rfl; have h5 : w3.drew.heap.size ≤ g := hg; omega⟩)).kept (grown_alloc (grown_refl w4 none) _)) HLN.out (by rw [World.size_alloc]; omega) rfl rfl ?_; intro v5 w5 h5 g5; have KB5 := hid h5; have RU := row_under KB4.out; have L5 : Hid (Loc w.heap.size w4 w5) := hid (((Loc.refl _ w4).alloc _).by g5 (fun k e => by have := RU k e; omega)); have P5 := hid (P4.out.loc L5.out hbl htl); have G5 := hid (Loc.grown G4.out L5.out); have X5 := hid ((X4.out.alloc (.cells #[.int .i64 a4.kind, .int .i64 a4.ty, .string a4.txt, .int .i64 a4.num, .slice ps4 a4.kids.length cs4] 27)).kept g5 (fun e => by have := RU _ e.symm; omega)); have Y5 := hid ((Y4.out.alloc (.cells #[.int .i64 a4.kind, .int .i64 a4.ty, .string a4.txt, .int .i64 a4.num, .slice ps4 a4.kids.length cs4] 27)).kept g5 (fun e => by have := RU _ e.symm; omega)); obtain ⟨p5, c5, e5, _⟩ := h5.form; subst e5; have d5 := Y5.out.cell 4; simp at d5; have f6 := Y5.out.frozen 4; clear h5 g5))
          all_goals
            have gs := grown_set (grown_refl w5 (some (w.heap.size + 1))) 4 (.slice p5 (l ++ [a4]).length c5)
            have Y6 := Y5.out.set 4 (.slice p5 (l ++ [a4]).length c5)
            simp only [List.setIfInBounds_toArray, List.set_cons_succ, List.set_cons_zero] at Y6
            have R6 : Hid (PsA (w5.setCell ⟨w.heap.size + 1, 4, none⟩ (.slice p5 (l ++ [a4]).length c5)) b tg cp all q4 ∧ Kb (w5.setCell ⟨w.heap.size + 1, 4, none⟩ (.slice p5 (l ++ [a4]).length c5)) (w.heap.size + 2) 27 (.slice p5 (l ++ [a4]).length c5) (l ++ [a4]) ∧ Blk (w5.setCell ⟨w.heap.size + 1, 4, none⟩ (.slice p5 (l ++ [a4]).length c5)) w.heap.size 27 #[.int .i64 0, .int .i64 0, .string ⟨#[]⟩, .int .i64 0, .slice none 0 0] ∧ w.heap.size + 2 ≤ (w5.setCell ⟨w.heap.size + 1, 4, none⟩ (.slice p5 (l ++ [a4]).length c5)).heap.size ∧ w.grownBy (w5.setCell ⟨w.heap.size + 1, 4, none⟩ (.slice p5 (l ++ [a4]).length c5)) (some b)) := hid ⟨P5.out.keptG gs (by omega) (by omega), KB5.out.kept gs (fun r e => by cases e; omega), X5.out.kept gs (fun e => by injection e with e; omega), by have h1 := Y5.out.lt; have h2 := gs.size; omega, grown_to G5.out gs (by omega)⟩
            have S6 := hid Y6
            clear gs Y6
            go_wp2_with fail
            go_roundg gk
            case measure => omega
            case rel =>
              obtain ⟨r1, r2, r3, r4, r5⟩ := R6.out
              have e9 : (l ++ [a4]).length = l.length + 1 := by simp
              rw [e9] at r1 r2 r3 r4 r5
              have s6 := S6.out
              rw [e9] at s6
              refine ⟨l ++ [a4], q4, p5, c5, ⟨by rw [EQ.out.1, bnd_ok HZ3.out.1, bnd_ok HZ4.out.1], trivial⟩, r1, ?_, r3, ?_, by simp; omega, r4, r5⟩
              · rw [e9]; exact r2
              · rw [e9]; exact s6
end Pm
end Go.Proofs.YtajoncmmdeahnaaGreatDoor
