/-
  The parser: program.
-/
import Derived.Test.YtajoncmmdeahnaaGreatDoorPt
import Derived.Test.YtajoncmmdeahnaaGreatDoorKPo
namespace Go.Proofs.YtajoncmmdeahnaaGreatDoor
open Go.RowKit
namespace Pm
theorem prog_nil {β : Type} (R : Rc) (k g : Nat) (l : List Nd) (f : List Nd → Pr β) {q : Ps} (hw : q.ws = []) : (programL R (k + 1) g l >>= f) q = .error none := by
  refine bnd_err ?_
  unfold programL
  rw [bnd_err (nxt_nil hw)]
theorem prog_end {β : Type} (R : Rc) (k g : Nat) (l : List Nd) (f : List Nd → Pr β) {q : Ps} {t : Tk} {r : List Tk} (hw : q.ws = t :: r) (h : (t.kind == 0) = true) : (programL R (k + 1) g l >>= f) q = f l q := by
  refine bnd_ok ?_
  unfold programL
  rw [bnd_ok (nxt_eq hw), if_pos h]
  rfl
theorem bnd_same {α β : Type} {x y : Pr α} {f : α → Pr β} {q : Ps} (h : x q = y q) : (x >>= f) q = (y >>= f) q := by
  show Pr.bnd _ f q = Pr.bnd _ f q
  unfold Pr.bnd
  rw [h]
theorem prog_var {β : Type} (R : Rc) (k g : Nat) (l : List Nd) (f : List Nd → Pr β) {q : Ps} {t : Tk} {r : List Tk} (hw : q.ws = t :: r) (h : (t.kind == 0) = false) (hv : (t.s == wVar) = true) : (programL R (k + 1) g l >>= f) q = (roomP g 16 >>= fun _ => declarationP R >>= fun x => programL R k (g + 1) (l ++ [x]) >>= f) q := by
  have e2 : programL R (k + 1) g l q = (roomP g 16 >>= fun _ => declarationP R >>= fun x => programL R k (g + 1) (l ++ [x])) q := by
    conv => lhs; unfold programL
    rw [bnd_ok (nxt_eq hw), if_neg (by rw [h]; decide), if_pos hv, bnd_assoc]
    rfl
  rw [bnd_same e2, bnd_assoc]
  show Pr.bnd _ _ q = Pr.bnd _ _ q
  unfold Pr.bnd
  cases roomP g 16 q with
  | ok a => exact bnd_assoc _ _ _ _
  | error e => rfl
theorem prog_other {β : Type} (R : Rc) (k g : Nat) (l : List Nd) (f : List Nd → Pr β) {q : Ps} {t : Tk} {r : List Tk} (hw : q.ws = t :: r) (h : (t.kind == 0) = false) (hv : (t.s == wVar) = false) : (programL R (k + 1) g l >>= f) q = (roomP (l.length - g) 32 >>= fun _ => declarationP R >>= fun x => programL R k g (l ++ [x]) >>= f) q := by
  have e2 : programL R (k + 1) g l q = (roomP (l.length - g) 32 >>= fun _ => declarationP R >>= fun x => programL R k g (l ++ [x])) q := by
    conv => lhs; unfold programL
    rw [bnd_ok (nxt_eq hw), if_neg (by rw [h]; decide), if_neg (by rw [hv]; decide), bnd_assoc]
    rfl
  rw [bnd_same e2, bnd_assoc]
  show Pr.bnd _ _ q = Pr.bnd _ _ q
  unfold Pr.bnd
  cases roomP (l.length - g) 32 q with
  | ok a => exact bnd_assoc _ _ _ _
  | error e => rfl
set_option maxRecDepth 100000 in
set_option maxHeartbeats 8000000 in
theorem program_any {b tg cp : Nat} {all : List Tk} {p : Ps} (R : Rc) (w : World) (hP : PsA w b tg cp all p) (hx : programP R p ≠ .error none)
    (h41 : ∀ q W, PsA W b tg cp all q → declarationP R q ≠ .error none → Calls Tryz.prog 41 #[.pointer (some ⟨b, 0, none⟩)] W (PrP (nV W.heap.size) b tg cp all W (declarationP R q)))
    (hlen : all.length ≤ 50000) :
    Calls Tryz.prog 21 #[.pointer (some ⟨b, 0, none⟩)] w (PrP (nV w.heap.size) b tg cp all w (programP R p)) := by
  have hbl := hP.lt
  have htl := hP.tgl
  have X0 := hid (Blk.new w 27 #[.int .i64 0, .int .i64 0, .string ⟨#[]⟩, .int .i64 0, .slice none 0 0])
  have HX := hid hx
  have G0 := hid (grown_refl w (some b))
  have P0 := hid hP
  have C40 : Hid (∀ q (h m : Nat) W, PsA W b tg cp all q → roomP h m q ≠ .error none → Calls Tryz.prog 40 #[.pointer (some ⟨b, 0, none⟩), .int .i64 h, .int .i64 m] W (PrP uV b tg cp all W (roomP h m q))) := fun q h m W hW _ => room_any h m W hW
  have C41 := hid h41
  clear h41
  have C43 : Hid (∀ q W, PsA W b tg cp all q → passP q ≠ .error none → Calls Tryz.prog 43 #[.pointer (some ⟨b, 0, none⟩)] W (PrP uV b tg cp all W (passP q))) := fun q W hW h => pass_any W hW h
  have C42 : Hid (∀ q x k t s n ps l c W, PsA W b tg cp all q → madeP x q ≠ .error none → Calls Tryz.prog 42 #[.pointer (some ⟨b, 0, none⟩), .agg #[.int .i64 k, .int .i64 t, .string s, .int .i64 n, .slice ps l c]] W (PrP (fun _ _ v => v = .agg #[.int .i64 k, .int .i64 t, .string s, .int .i64 n, .slice ps l c]) b tg cp all W (madeP x q))) := fun q x k t s n ps l c W hW h => made_any x k t s n ps l c W hW h
  have X00 : Hid (Blk ((w.alloc (.cells #[.int .i64 0, .int .i64 0, .string ⟨#[]⟩, .int .i64 0, .slice none 0 0] 27)).alloc (.cells #[.int .i64 1, .int .i64 0, .string ⟨#[]⟩, .int .i64 0, .slice none 0 0] 27)) w.heap.size 27 #[.int .i64 0, .int .i64 0, .string ⟨#[]⟩, .int .i64 0, .slice none 0 0]) := hid (X0.out.alloc _)
  have Y00 : Hid (Blk ((w.alloc (.cells #[.int .i64 0, .int .i64 0, .string ⟨#[]⟩, .int .i64 0, .slice none 0 0] 27)).alloc (.cells #[.int .i64 1, .int .i64 0, .string ⟨#[]⟩, .int .i64 0, .slice none 0 0] 27)) (w.heap.size + 1) 27 #[.int .i64 1, .int .i64 0, .string ⟨#[]⟩, .int .i64 0, .slice none 0 0]) := hid (by have h := Blk.new (w.alloc (.cells #[.int .i64 0, .int .i64 0, .string ⟨#[]⟩, .int .i64 0, .slice none 0 0] 27)) 27 #[.int .i64 1, .int .i64 0, .string ⟨#[]⟩, .int .i64 0, .slice none 0 0]; rw [World.size_alloc] at h; exact h)
  clear hx hP
  go_enter Tryz.func21, Tryz.ntmps21
  go_wp2_with fail
  have hwl := P0.out.wsl
  obtain ⟨M, hM⟩ : ∃ M, p.ws.length + 1 = M := ⟨_, rfl⟩
  have FIN0 : Hid (programP R p = (programL R M 0 [] >>= (fun ks => madeP (.mk 1 0 ⟨#[]⟩ 0 ks) >>= fun n => passP >>= fun _ => pure n)) p ∧ True) := hid ⟨by unfold programP; rw [← hM]; rfl, trivial⟩
  have gw : w.grownBy ((w.alloc (.cells #[.int .i64 0, .int .i64 0, .string ⟨#[]⟩, .int .i64 0, .slice none 0 0] 27)).alloc (.cells #[.int .i64 1, .int .i64 0, .string ⟨#[]⟩, .int .i64 0, .slice none 0 0] 27)) none := grown_alloc (grown_alloc (grown_refl w none) _) _
  have P1 := hid (P0.out.kept gw)
  have G1 := hid (Loc.grown G0.out ((Loc.refl _ w).quiet gw))
  have s1 : w.heap.size + 2 ≤ ((w.alloc (.cells #[.int .i64 0, .int .i64 0, .string ⟨#[]⟩, .int .i64 0, .slice none 0 0] 27)).alloc (.cells #[.int .i64 1, .int .i64 0, .string ⟨#[]⟩, .int .i64 0, .slice none 0 0] 27)).heap.size := by rw [World.size_alloc, World.size_alloc]; omega
  clear gw
  go_loopg [4] M (fun gk s4 wr => ∃ (l : List Nd) (q : Ps) (g0 : Nat) (pv : Option Addr) (cv : Nat), s4 = .int .i64 g0 ∧ (programP R p = (programL R gk g0 l >>= (fun ks => madeP (.mk 1 0 ⟨#[]⟩ 0 ks) >>= fun n => passP >>= fun _ => pure n)) q ∧ True) ∧ PsA wr b tg cp all q ∧ Kb wr (w.heap.size + 2) 27 (.slice pv l.length cv) l ∧ Blk wr w.heap.size 27 #[.int .i64 0, .int .i64 0, .string ⟨#[]⟩, .int .i64 0, .slice none 0 0] ∧ Blk wr (w.heap.size + 1) 27 #[.int .i64 1, .int .i64 0, .string ⟨#[]⟩, .int .i64 0, .slice pv l.length cv] ∧ l.length + gk ≤ 60000 ∧ g0 ≤ l.length ∧ w.heap.size + 2 ≤ wr.heap.size ∧ w.grownBy wr (some b))
  case atStart => exact ⟨[], p, 0, none, 0, rfl, FIN0.out, P1.out, Kb.nil _ _ _, X00.out, Y00.out, by simp; omega, by simp, s1, G1.out⟩
  case round =>
    obtain ⟨l, q, g0, pv, cv, rfl, hE, hp9, hkb, hx9, hy9, hln, hg0, hs9, hg9⟩ := hrel
    have P9 := hid hp9
    have G9 := hid hg9
    have KB9 := hid hkb
    have X9 := hid hx9
    have Y9 := hid hy9
    have HE := hid hE
    have s9 := hs9
    have HQ := hid (grown_refl wr none)
    clear hE hkb hg9 hx9 hy9 FIN0 P1 G1 hwl hM hs9 s1 X00 Y00
    cases gk with
    | zero => exact absurd (HE.out.1.trans (bnd_err rfl)) HX.out
    | succ gk =>
      match hw : q.ws with
      | [] => exact absurd (HE.out.1.trans (prog_nil R gk g0 l _ hw)) HX.out
      | t :: r =>
        have C38 : Hid (∀ W, wr.grownBy W none → Calls Tryz.prog 38 #[.pointer (some ⟨b, 0, none⟩)] W fun e w' => e = .returned (.agg #[.int .i64 t.kind, .string ⟨t.s.toArray⟩, .int .i64 t.pl]) ∧ W.grownBy w' none) := fun W hW => next_any W (hp9.kept hW) hw
        have C39 : Hid (∀ W, wr.grownBy W none → Calls Tryz.prog 39 #[.pointer (some ⟨b, 0, none⟩), .string ⟨#[118, 97, 114]⟩] W fun e w' => e = .returned (.bool (t.s == wVar)) ∧ W.grownBy w' none) := fun W hW => sees_any wVar W (hp9.kept hW) hw
        have f0 := fld0
        clear hp9
        rcases Bool.eq_false_or_eq_true (t.kind == 0) with kb | kb
        · have hk0 : (t.kind : Int) = 0 := by have h : t.kind = 0 := by simpa using kb
                                              omega
          have EQ : Hid (programP R p = (madeP (.mk 1 0 ⟨#[]⟩ 0 l) >>= fun n => passP >>= fun _ => pure n) q ∧ True) := hid ⟨HE.out.1.trans (prog_end R gk g0 l _ hw kb), trivial⟩
          have HXC : Hid ((madeP (.mk 1 0 ⟨#[]⟩ 0 l) >>= fun n => passP >>= fun _ => pure n) q ≠ .error none) := hid (by rw [← EQ.out.1]; exact HX.out)
          have z0 := Y9.out.lt
          clear hw kb C41 C40 C39
          go_upto_region 9 with (first
            | (go_at_call 38; refine (C38.out _ HQ.out).mono ?_; rintro e u1 ⟨rfl, g⟩; replace HQ := hid (grown_none HQ.out g); replace P9 := hid (P9.out.kept g); replace KB9 := hid (KB9.out.kept g (by simp)); replace X9 := hid (X9.out.kept g (by simp)); replace Y9 := hid (Y9.out.kept g (by simp)); replace G9 := hid (Loc.grown G9.out ((Loc.refl _ _).quiet g)); replace s9 := Nat.le_trans s9 g.size; clear g C38))
          have y0 := Y9.out.cell 0
          have y1 := Y9.out.cell 1
          have y2 := Y9.out.cell 2
          have y3 := Y9.out.cell 3
          have y4 := Y9.out.cell 4
          simp at y0 y1 y2 y3 y4
          go_wp2_with (first
            | (go_at_call 42; refine (C42.out q (.mk 1 0 ⟨#[]⟩ 0 l) 1 0 ⟨#[]⟩ 0 pv l.length cv _ P9.out (by have h := HXC.out; exact bnd_ne h)).mono ?_; intro e w8 hh0; rcases PrP.cases hh0 (by have h := HXC.out; exact bnd_ne h) with hh | hh; (case inl => obtain ⟨at_, n, hz, rfl, g⟩ := hh; exact ⟨rfl, by rw [EQ.out.1, bnd_err hz]; exact ⟨rfl, grown_bb G9.out g⟩⟩); obtain ⟨a8, q8, v8, hz, rfl, hv, pp, g⟩ := hh; have hv' : v8 = _ := hv; subst hv'; obtain rfl := made_ok hz; have HZ8 := hid (And.intro hz trivial); have P8 := hid pp; have G8 := hid (grown_bb G9.out g); have K8 := hid (KB9.out.ks.keptB g (by omega)); have X8 := hid (X9.out.kept g (lt_nb hbl _ (by omega))); have Y8 := hid (Y9.out.kept g (lt_nb hbl _ (by omega))); clear hz pp g hh0)
            | (refine store_nd (.tmp 3) (.tmp 33) rfl rfl (w.heap.size + 1) Y8.out rfl rfl ?_; intro w10 b9 g9; have Y10 := hid b9; have G10 := hid (grown_to G8.out g9 (by omega)); have P10 := hid (P8.out.keptG g9 (by omega) (by omega)); have K10 := hid (K8.out.keptB g9 (by omega)); have X10 := hid (X8.out.kept g9 (fun e => by injection e with e; omega)); clear b9 g9)
            | (go_at_call 43; refine (C43.out q8 _ P10.out (by have h := HXC.out; rw [bnd_ok HZ8.out.1] at h; exact bnd_ne h)).mono ?_; intro e w11 hh0; rcases PrP.cases hh0 (by have h := HXC.out; rw [bnd_ok HZ8.out.1] at h; exact bnd_ne h) with hh | hh; (case inl => obtain ⟨at_, n, hz, rfl, g⟩ := hh; exact ⟨rfl, by rw [EQ.out.1, bnd_ok HZ8.out.1, bnd_err hz]; exact ⟨rfl, grown_bb G10.out g⟩⟩); obtain ⟨a11, q11, v11, hz, rfl, hv, pp, g⟩ := hh; have hv' : v11 = .tuple #[] := hv; subst hv'; have HZ11 := hid (And.intro hz trivial); have P11 := hid pp; have G11 := hid (grown_bb G10.out g); have K11 := hid (K10.out.keptB g (by omega)); have X11 := hid (X10.out.kept g (lt_nb hbl _ (by omega))); have Y11 := hid (Y10.out.kept g (lt_nb hbl _ (by omega))); have y0 := Y11.out.cell 0; have y1 := Y11.out.cell 1; have y2 := Y11.out.cell 2; have y3 := Y11.out.cell 3; have y4 := Y11.out.cell 4; simp at y0 y1 y2 y3 y4; clear hz pp g hh0)
            | (refine store_nd (.tmp 2) (.tmp 36) rfl rfl w.heap.size X11.out rfl rfl ?_; intro w12 b9 g9; have Z9 := hid b9; have G12 := hid (grown_to G11.out g9 (Nat.le_refl _)); have P12 := hid (P11.out.keptG g9 (by omega) (by omega)); have K12 := hid (K11.out.keptB g9 (by omega)); clear b9 g9))
          refine bodyPost_ret (results_nd rfl _ _ w.heap.size rfl Z9.out) rfl ?_
          rw [EQ.out.1, bnd_ok HZ8.out.1, bnd_ok HZ11.out.1, pure_ap]
          exact ⟨_, rfl, ⟨_, rfl, K12.out.mono (fun g hg _ => by omega)⟩, P12.out, G12.out⟩
        · have hk0 : ¬ (t.kind : Int) = 0 := by
            intro h
            have h1 : t.kind = 0 := by omega
            rw [h1] at kb
            cases kb
          have HLN : Hid (l.length < 100000) := hid (by omega)
          rcases Bool.eq_false_or_eq_true (t.s == wVar) with kv | kv
          · rw [kv] at C39
            have EQ : Hid (programP R p = (roomP g0 16 >>= fun _ => declarationP R >>= fun x => programL R gk (g0 + 1) (l ++ [x]) >>= (fun ks => madeP (.mk 1 0 ⟨#[]⟩ 0 ks) >>= fun n => passP >>= fun _ => pure n)) q ∧ True) := hid ⟨HE.out.1.trans (prog_var R gk g0 l _ hw kb kv), trivial⟩
            have HXC : Hid ((roomP g0 16 >>= fun _ => declarationP R >>= fun x => programL R gk (g0 + 1) (l ++ [x]) >>= (fun ks => madeP (.mk 1 0 ⟨#[]⟩ 0 ks) >>= fun n => passP >>= fun _ => pure n)) q ≠ .error none) := hid (by rw [← EQ.out.1]; exact HX.out)
            have wi : IntKind.i64.wrap ((g0 : Int) + 1) = (g0 : Int) + 1 := by rw [IntKind.wrap_i64]; omega
            clear hw kb kv C42 C43
            go_wp2_with (first
              | (go_at_call 38; refine (C38.out _ HQ.out).mono ?_; rintro e u1 ⟨rfl, g⟩; replace HQ := hid (grown_none HQ.out g); replace P9 := hid (P9.out.kept g); replace KB9 := hid (KB9.out.kept g (by simp)); replace X9 := hid (X9.out.kept g (by simp)); replace Y9 := hid (Y9.out.kept g (by simp)); replace G9 := hid (Loc.grown G9.out ((Loc.refl _ _).quiet g)); replace s9 := Nat.le_trans s9 g.size; clear g C38)
              | (go_at_call 39; refine (C39.out _ HQ.out).mono ?_; rintro e u2 ⟨rfl, g⟩; replace HQ := hid (grown_none HQ.out g); replace P9 := hid (P9.out.kept g); replace KB9 := hid (KB9.out.kept g (by simp)); replace X9 := hid (X9.out.kept g (by simp)); replace Y9 := hid (Y9.out.kept g (by simp)); replace G9 := hid (Loc.grown G9.out ((Loc.refl _ _).quiet g)); replace s9 := Nat.le_trans s9 g.size; have z4 := Y9.out.cell 4; simp at z4; clear g C39)
              | (go_at_call 40; refine (C40.out q g0 16 _ P9.out (by have h := HXC.out; exact bnd_ne h)).mono ?_; intro e w3 hh0; rcases PrP.cases hh0 (by have h := HXC.out; exact bnd_ne h) with hh | hh; (case inl => obtain ⟨at_, n, hz, rfl, g⟩ := hh; exact ⟨rfl, by rw [EQ.out.1, bnd_err hz]; exact ⟨rfl, grown_bb G9.out g⟩⟩); obtain ⟨a3, q3, v3, hz, rfl, hv, pp, g⟩ := hh; have hv' : v3 = .tuple #[] := hv; subst hv'; have HZ3 := hid (And.intro hz trivial); have P3 := hid pp; have G3 := hid (grown_bb G9.out g); have KB3 := hid (KB9.out.kept g (fun r e => by cases e; omega)); have X3 := hid (X9.out.kept g (lt_nb hbl _ (by omega))); have Y3 := hid (Y9.out.kept g (lt_nb hbl _ (by omega))); have s3 := g.size; clear hz pp g hh0))
            have c4 := Y3.out.cell 4
            simp at c4
            have f4 := Y3.out.frozen 4
            have GD : w3.grownBy w3.drew none := grown_drew (grown_refl _ _)
            clear z4
            go_region_law (first
              | (go_simp; go_at_call 41; refine (C41.out q3 _ (P3.out.kept GD) (by have h := HXC.out; rw [bnd_ok HZ3.out.1] at h; exact bnd_ne h)).mono ?_; intro e w4 hh0; rcases PrP.cases hh0 (by have h := HXC.out; rw [bnd_ok HZ3.out.1] at h; exact bnd_ne h) with hh | hh; (case inl => obtain ⟨at_, n, hz, rfl, g⟩ := hh; exact ⟨rfl, by rw [EQ.out.1, bnd_ok HZ3.out.1, bnd_err hz]; exact ⟨rfl, grown_bb (Loc.grown G3.out ((Loc.refl _ w3).quiet GD)) g⟩⟩); obtain ⟨a4, q4, v4, hz, rfl, hv, pp, g⟩ := hh; obtain ⟨qs4, rfl, hk⟩ := hv; obtain ⟨ps4, cs4, rfl, _, _, _⟩ := hk.form; have HZ4 := hid (And.intro hz trivial); have P4 := hid pp; have G4 := hid (grown_bb (Loc.grown G3.out ((Loc.refl _ w3).quiet GD)) g); have gg : w3.grownBy w4 (some b) := grown_bb (grown_b GD) g; have K4 := hid hk; have KB4 := hid (KB3.out.kept gg (fun r e => by cases e; omega)); have X4 := hid (X3.out.kept gg (lt_nb hbl _ (by omega))); have Y4 := hid (Y3.out.kept gg (lt_nb hbl _ (by omega))); have s4 : w3.heap.size ≤ w4.heap.size := gg.size; have d4 := Y4.out.cell 4; simp at d4; have f5 := Y4.out.frozen 4; have e6 : ∀ o, (w4.alloc o).cell? ⟨w.heap.size + 1, 4, none⟩ = some (.slice pv l.length cv) := fun o => (Y4.out.alloc o).cell 4; clear gg; clear hz pp g hh0)
              | (refine step_nd 25 27 Tryz.underlying25 info27 (.tmp 25) (.tmp 28) rfl rfl (w.heap.size + 2) (.slice pv l.length cv) l a4 (.slice ps4 a4.kids.length cs4) ⟨w4.heap.size, 0, none⟩ 1 (KB4.out.kept (grown_alloc (grown_refl w4 none) _) (by simp)) (NdC.new w4 27 a4 _) ((K4.out.mono (fun g hg _ => ⟨by have h9 : w3.drew.heap.size = w3.heap.size := rfl; have h5 : w3.drew.heap.size ≤ g := hg; omega, fun e => by have h6 := (KB3.out.lt g e.symm).2; have h9 : w3.drew.heap.size = w3.heap.size := rfl; have h5 : w3.drew.heap.size ≤ g := hg; omega⟩)).kept (grown_alloc (grown_refl w4 none) _)) HLN.out (by rw [World.size_alloc]; omega) rfl rfl ?_; intro v5 w5 h5 g5; have KB5 := hid h5; have RU := row_under KB4.out; have L5 : Hid (Loc w.heap.size w4 w5) := hid (((Loc.refl _ w4).alloc _).by g5 (fun k e => by have := RU k e; omega)); have P5 := hid (P4.out.loc L5.out hbl htl); have G5 := hid (Loc.grown G4.out L5.out); have X5 := hid ((X4.out.alloc (.cells #[.int .i64 a4.kind, .int .i64 a4.ty, .string a4.txt, .int .i64 a4.num, .slice ps4 a4.kids.length cs4] 27)).kept g5 (fun e => by have := RU _ e.symm; omega)); have Y5 := hid ((Y4.out.alloc (.cells #[.int .i64 a4.kind, .int .i64 a4.ty, .string a4.txt, .int .i64 a4.num, .slice ps4 a4.kids.length cs4] 27)).kept g5 (fun e => by have := RU _ e.symm; omega)); obtain ⟨p5, c5, e5, _⟩ := h5.form; subst e5; have d5 := Y5.out.cell 4; simp at d5; have f6 := Y5.out.frozen 4; clear h5 g5))
            all_goals
              have e9 : (l ++ [a4]).length = l.length + 1 := by simp
              rw [e9] at KB5
              have gs := grown_set (grown_refl w5 (some (w.heap.size + 1))) 4 (.slice p5 (l.length + 1) c5)
              have Y6 := hid (Y5.out.set 4 (.slice p5 (l.length + 1) c5))
              have P6 := hid (P5.out.keptG gs (by omega) (by omega))
              have KB6 := hid (KB5.out.kept gs (fun r e => by cases e; omega))
              have X6 := hid (X5.out.kept gs (fun e => by injection e with e; omega))
              have G6 := hid (grown_to G5.out gs (by omega))
              have s6 := gs.size
              have s61 := Y5.out.lt
              simp at Y6
              clear gs
              generalize w5.setCell ⟨w.heap.size + 1, 4, none⟩ (.slice p5 (l.length + 1) c5) = w6 at *
              go_wp2_with fail
              go_roundg gk
              case measure => omega
              case rel => exact ⟨l ++ [a4], q4, g0 + 1, p5, c5, rfl, ⟨by rw [EQ.out.1, bnd_ok HZ3.out.1, bnd_ok HZ4.out.1], trivial⟩, P6.out, by rw [e9]; exact KB6.out, X6.out, by rw [e9]; exact Y6.out, by rw [e9]; omega, by rw [e9]; omega, by omega, G6.out⟩
          · rw [kv] at C39
            have EQ : Hid (programP R p = (roomP (l.length - g0) 32 >>= fun _ => declarationP R >>= fun x => programL R gk g0 (l ++ [x]) >>= (fun ks => madeP (.mk 1 0 ⟨#[]⟩ 0 ks) >>= fun n => passP >>= fun _ => pure n)) q ∧ True) := hid ⟨HE.out.1.trans (prog_other R gk g0 l _ hw kb kv), trivial⟩
            have HXC : Hid ((roomP (l.length - g0) 32 >>= fun _ => declarationP R >>= fun x => programL R gk g0 (l ++ [x]) >>= (fun ks => madeP (.mk 1 0 ⟨#[]⟩ 0 ks) >>= fun n => passP >>= fun _ => pure n)) q ≠ .error none) := hid (by rw [← EQ.out.1]; exact HX.out)
            have wi : IntKind.i64.wrap ((l.length : Int) - g0) = ((l.length - g0 : Nat) : Int) := by rw [IntKind.wrap_i64]; omega
            clear hw kb kv C42 C43
            go_wp2_with (first
              | (go_at_call 38; refine (C38.out _ HQ.out).mono ?_; rintro e u1 ⟨rfl, g⟩; replace HQ := hid (grown_none HQ.out g); replace P9 := hid (P9.out.kept g); replace KB9 := hid (KB9.out.kept g (by simp)); replace X9 := hid (X9.out.kept g (by simp)); replace Y9 := hid (Y9.out.kept g (by simp)); replace G9 := hid (Loc.grown G9.out ((Loc.refl _ _).quiet g)); replace s9 := Nat.le_trans s9 g.size; clear g C38)
              | (go_at_call 39; refine (C39.out _ HQ.out).mono ?_; rintro e u2 ⟨rfl, g⟩; replace HQ := hid (grown_none HQ.out g); replace P9 := hid (P9.out.kept g); replace KB9 := hid (KB9.out.kept g (by simp)); replace X9 := hid (X9.out.kept g (by simp)); replace Y9 := hid (Y9.out.kept g (by simp)); replace G9 := hid (Loc.grown G9.out ((Loc.refl _ _).quiet g)); replace s9 := Nat.le_trans s9 g.size; have z4 := Y9.out.cell 4; simp at z4; clear g C39)
              | (go_at_call 40; refine (C40.out q (l.length - g0) 32 _ P9.out (by have h := HXC.out; exact bnd_ne h)).mono ?_; intro e w3 hh0; rcases PrP.cases hh0 (by have h := HXC.out; exact bnd_ne h) with hh | hh; (case inl => obtain ⟨at_, n, hz, rfl, g⟩ := hh; exact ⟨rfl, by rw [EQ.out.1, bnd_err hz]; exact ⟨rfl, grown_bb G9.out g⟩⟩); obtain ⟨a3, q3, v3, hz, rfl, hv, pp, g⟩ := hh; have hv' : v3 = .tuple #[] := hv; subst hv'; have HZ3 := hid (And.intro hz trivial); have P3 := hid pp; have G3 := hid (grown_bb G9.out g); have KB3 := hid (KB9.out.kept g (fun r e => by cases e; omega)); have X3 := hid (X9.out.kept g (lt_nb hbl _ (by omega))); have Y3 := hid (Y9.out.kept g (lt_nb hbl _ (by omega))); have s3 := g.size; clear hz pp g hh0))
            have c4 := Y3.out.cell 4
            simp at c4
            have f4 := Y3.out.frozen 4
            have GD : w3.grownBy w3.drew none := grown_drew (grown_refl _ _)
            clear z4
            go_region_law (first
              | (go_simp; go_at_call 41; refine (C41.out q3 _ (P3.out.kept GD) (by have h := HXC.out; rw [bnd_ok HZ3.out.1] at h; exact bnd_ne h)).mono ?_; intro e w4 hh0; rcases PrP.cases hh0 (by have h := HXC.out; rw [bnd_ok HZ3.out.1] at h; exact bnd_ne h) with hh | hh; (case inl => obtain ⟨at_, n, hz, rfl, g⟩ := hh; exact ⟨rfl, by rw [EQ.out.1, bnd_ok HZ3.out.1, bnd_err hz]; exact ⟨rfl, grown_bb (Loc.grown G3.out ((Loc.refl _ w3).quiet GD)) g⟩⟩); obtain ⟨a4, q4, v4, hz, rfl, hv, pp, g⟩ := hh; obtain ⟨qs4, rfl, hk⟩ := hv; obtain ⟨ps4, cs4, rfl, _, _, _⟩ := hk.form; have HZ4 := hid (And.intro hz trivial); have P4 := hid pp; have G4 := hid (grown_bb (Loc.grown G3.out ((Loc.refl _ w3).quiet GD)) g); have gg : w3.grownBy w4 (some b) := grown_bb (grown_b GD) g; have K4 := hid hk; have KB4 := hid (KB3.out.kept gg (fun r e => by cases e; omega)); have X4 := hid (X3.out.kept gg (lt_nb hbl _ (by omega))); have Y4 := hid (Y3.out.kept gg (lt_nb hbl _ (by omega))); have s4 : w3.heap.size ≤ w4.heap.size := gg.size; have d4 := Y4.out.cell 4; simp at d4; have f5 := Y4.out.frozen 4; have e6 : ∀ o, (w4.alloc o).cell? ⟨w.heap.size + 1, 4, none⟩ = some (.slice pv l.length cv) := fun o => (Y4.out.alloc o).cell 4; clear gg; clear hz pp g hh0)
              | (refine step_nd 25 27 Tryz.underlying25 info27 (.tmp 25) (.tmp 28) rfl rfl (w.heap.size + 2) (.slice pv l.length cv) l a4 (.slice ps4 a4.kids.length cs4) ⟨w4.heap.size, 0, none⟩ 1 (KB4.out.kept (grown_alloc (grown_refl w4 none) _) (by simp)) (NdC.new w4 27 a4 _) ((K4.out.mono (fun g hg _ => ⟨by have h9 : w3.drew.heap.size = w3.heap.size := rfl; have h5 : w3.drew.heap.size ≤ g := hg; omega, fun e => by have h6 := (KB3.out.lt g e.symm).2; have h9 : w3.drew.heap.size = w3.heap.size := rfl; have h5 : w3.drew.heap.size ≤ g := hg; omega⟩)).kept (grown_alloc (grown_refl w4 none) _)) HLN.out (by rw [World.size_alloc]; omega) rfl rfl ?_; intro v5 w5 h5 g5; have KB5 := hid h5; have RU := row_under KB4.out; have L5 : Hid (Loc w.heap.size w4 w5) := hid (((Loc.refl _ w4).alloc _).by g5 (fun k e => by have := RU k e; omega)); have P5 := hid (P4.out.loc L5.out hbl htl); have G5 := hid (Loc.grown G4.out L5.out); have X5 := hid ((X4.out.alloc (.cells #[.int .i64 a4.kind, .int .i64 a4.ty, .string a4.txt, .int .i64 a4.num, .slice ps4 a4.kids.length cs4] 27)).kept g5 (fun e => by have := RU _ e.symm; omega)); have Y5 := hid ((Y4.out.alloc (.cells #[.int .i64 a4.kind, .int .i64 a4.ty, .string a4.txt, .int .i64 a4.num, .slice ps4 a4.kids.length cs4] 27)).kept g5 (fun e => by have := RU _ e.symm; omega)); obtain ⟨p5, c5, e5, _⟩ := h5.form; subst e5; have d5 := Y5.out.cell 4; simp at d5; have f6 := Y5.out.frozen 4; clear h5 g5))
            all_goals
              have e9 : (l ++ [a4]).length = l.length + 1 := by simp
              rw [e9] at KB5
              have gs := grown_set (grown_refl w5 (some (w.heap.size + 1))) 4 (.slice p5 (l.length + 1) c5)
              have Y6 := hid (Y5.out.set 4 (.slice p5 (l.length + 1) c5))
              have P6 := hid (P5.out.keptG gs (by omega) (by omega))
              have KB6 := hid (KB5.out.kept gs (fun r e => by cases e; omega))
              have X6 := hid (X5.out.kept gs (fun e => by injection e with e; omega))
              have G6 := hid (grown_to G5.out gs (by omega))
              have s6 := gs.size
              have s61 := Y5.out.lt
              simp at Y6
              clear gs
              generalize w5.setCell ⟨w.heap.size + 1, 4, none⟩ (.slice p5 (l.length + 1) c5) = w6 at *
              go_wp2_with fail
              go_roundg gk
              case measure => omega
              case rel => exact ⟨l ++ [a4], q4, g0, p5, c5, rfl, ⟨by rw [EQ.out.1, bnd_ok HZ3.out.1, bnd_ok HZ4.out.1], trivial⟩, P6.out, by rw [e9]; exact KB6.out, X6.out, by rw [e9]; exact Y6.out, by rw [e9]; omega, by rw [e9]; omega, by omega, G6.out⟩
end Pm
end Go.Proofs.YtajoncmmdeahnaaGreatDoor
