/-
  The parser: list.
-/
import Derived.Test.YtajoncmmdeahnaaGreatDoorPr
import Derived.LoopTactic
import Derived.Deep.LoopGhost
namespace Go.Proofs.YtajoncmmdeahnaaGreatDoor
open Go.RowKit
namespace Pm
theorem PsA.wsl {w : World} {b tg cp : Nat} {all : List Tk} {q : Ps} (h : PsA w b tg cp all q) : q.ws.length ≤ all.length := by
  obtain ⟨i, pa, h1, _⟩ := h
  rw [h1, List.length_drop]
  omega
def lV (base : Nat) (w : World) (l : List Nd) (v : Value) : Prop := Kb w base 27 v l ∧ l.length ≤ 60000
theorem kb_one {base : Nat} (w : World) (x : Nd) (q : Value) (hk : KsV w (fun g => base ≤ g) q x.kids) (hb : base ≤ w.heap.size) : Kb (w.alloc (.cells #[.int .i64 x.kind, .int .i64 x.ty, .string x.txt, .int .i64 x.num, q] 27)) base 27 (.slice (some ⟨w.heap.size, 0, none⟩) 1 1) [x] := by
  refine ⟨[.int .i64 x.kind, .int .i64 x.ty, .string x.txt, .int .i64 x.num, q], ⟨rfl, .inr ⟨w.heap.size, 1, _, rfl, hb, heap_alloc_new w _, Nat.le_refl _, by unfold maxLen; omega, rfl, rfl⟩⟩, ?_, fun h => by cases h⟩
  have h := CellsN.snoc (w := w.alloc (.cells #[.int .i64 x.kind, .int .i64 x.ty, .string x.txt, .int .i64 x.num, q] 27)) (P := fun b => base ≤ b ∧ some b ≠ (Value.slice (some ⟨w.heap.size, 0, none⟩) 1 1).ownBlock) (x := x) (q := q) ((hk.mono (fun b h1 h2 => ⟨h1, fun e => by injection e with e; have h3 : b = w.heap.size := e; omega⟩)).kept (grown_alloc (grown_refl w none) _)) (cs := []) (ks := []) rfl
  exact h
theorem list_nil (item : Pr Nd) (k : Nat) (l : List Nd) {q : Ps} (hw : q.ws = []) : listL item (k + 1) l q = .error none := by
  unfold listL
  rw [bnd_err (sees_nil [44] hw)]
theorem list_end (item : Pr Nd) (k : Nat) (l : List Nd) {q : Ps} {t : Tk} {r : List Tk} (hw : q.ws = t :: r) (h : (t.s == [44]) = false) : listL item (k + 1) l q = .ok (l, q) := by
  unfold listL
  rw [bnd_ok (sees_eq [44] hw), h]
  rfl
theorem list_more (item : Pr Nd) (k : Nat) (l : List Nd) {q : Ps} {t : Tk} {r : List Tk} (hw : q.ws = t :: r) (h : (t.s == [44]) = true) : listL item (k + 1) l q = (passP >>= fun _ => roomP l.length 6 >>= fun _ => item >>= fun x => listL item k (l ++ [x])) q := by
  conv => lhs; unfold listL
  rw [bnd_ok (sees_eq [44] hw), h]
  rfl
set_option maxRecDepth 100000 in
set_option maxHeartbeats 8000000 in
theorem list_arg {b tg cp : Nat} {all : List Tk} {p : Ps} (item : Pr Nd) (w : World) (hP : PsA w b tg cp all p) (hx : listP item p ≠ .error none) (hlen : all.length ≤ 50000)
    (hI : ∀ q W, PsA W b tg cp all q → item q ≠ .error none → Calls Tryz.prog 261 #[.pointer (some ⟨b, 0, none⟩)] W (PrP (nV W.heap.size) b tg cp all W (item q))) :
    Calls Tryz.prog 124 #[.pointer (some ⟨b, 0, none⟩), .func (.func 261) #[.pointer (some ⟨b, 0, none⟩)] #[]] w (PrP (lV w.heap.size) b tg cp all w (listP item p)) := by
  have hbl := hP.lt
  have htl := hP.tgl
  have HX := hid hx
  have G0 := hid (grown_refl w (some b))
  have P0 := hid hP
  have CI := hid hI
  have C43 : Hid (∀ q W, PsA W b tg cp all q → passP q ≠ .error none → Calls Tryz.prog 43 #[.pointer (some ⟨b, 0, none⟩)] W (PrP uV b tg cp all W (passP q))) := fun q W hW h => pass_any W hW h
  have C40 : Hid (∀ q (h m : Nat) W, PsA W b tg cp all q → roomP h m q ≠ .error none → Calls Tryz.prog 40 #[.pointer (some ⟨b, 0, none⟩), .int .i64 h, .int .i64 m] W (PrP uV b tg cp all W (roomP h m q))) := fun q h m W hW _ => room_any h m W hW
  clear hx hP hI
  go_enter Tryz.func124, Tryz.ntmps124
  go_wp2_with (first
    | (go_at_call 261; refine (CI.out p _ P0.out (by have h := HX.out; unfold listP at h; exact bnd_ne h)).mono ?_; intro e w1 hh0; rcases PrP.cases hh0 (by have h := HX.out; unfold listP at h; exact bnd_ne h) with hh | hh; (case inl => obtain ⟨at_, n, hz, rfl, g⟩ := hh; exact ⟨rfl, by unfold listP; rw [bnd_err hz]; exact ⟨rfl, grown_bb G0.out g⟩⟩); obtain ⟨a1, q1, v1, hz, rfl, hv, pp, g⟩ := hh; obtain ⟨qs1, rfl, hk⟩ := hv; obtain ⟨ps1, cs1, rfl, _, _, _⟩ := hk.form; have HZ1 := hid (And.intro hz trivial); have P1 := hid pp; have G1 := hid (grown_bb G0.out g); have K1 := hid hk; have s1 := g.size; clear hz pp g hh0))
  have hwl := P1.out.wsl
  obtain ⟨M, hM⟩ : ∃ M, q1.ws.length + 1 = M := ⟨_, rfl⟩
  have FIN0 : Hid (listP item p = listL item M [a1] q1 ∧ True) := hid ⟨by unfold listP; rw [bnd_ok HZ1.out.1, ← hM], trivial⟩
  go_loopg [5] M (fun gk s5 wr => ∃ (l : List Nd) (q : Ps) (v : Value), v = s5 ∧ (listP item p = listL item gk l q ∧ True) ∧ PsA wr b tg cp all q ∧ Kb wr w.heap.size 27 v l ∧ l.length + gk ≤ 60000 ∧ w.grownBy wr (some b))
  case atStart => exact ⟨[a1], q1, _, rfl, FIN0.out, P1.out.kept (grown_alloc (grown_refl w1 none) _), kb_one w1 a1 _ (K1.out.mono (fun g hg _ => hg)) s1, by simp; omega, Loc.grown G1.out ((Loc.refl _ w1).alloc _)⟩
  case round =>
    obtain ⟨l, q, v, rfl, hE, hp9, hkb, hln, hg9⟩ := hrel
    obtain ⟨pv, cv, ev, _⟩ := hkb.form
    subst ev
    have P9 := hid hp9
    have G9 := hid hg9
    have KB9 := hid hkb
    have HE := hid hE
    have s9 := hg9.size
    clear hE hkb hg9 FIN0 K1 P1 G1 hwl hM s1 HZ1
    cases gk with
    | zero => exact absurd HE.out.1 (fun e => HX.out e)
    | succ gk =>
      match hw : q.ws with
      | [] => exact absurd (HE.out.1.trans (list_nil item gk l hw)) HX.out
      | t :: r =>
        have C39 : Hid (∀ W, wr.grownBy W none → Calls Tryz.prog 39 #[.pointer (some ⟨b, 0, none⟩), .string ⟨#[44]⟩] W fun e w' => e = .returned (.bool (t.s == [44])) ∧ W.grownBy w' none) := fun W hW => sees_any [44] W (hp9.kept hW) hw
        clear hp9
        rcases Bool.eq_false_or_eq_true (t.s == [44]) with kb | kb
        · rw [kb] at C39
          have EQ : Hid (listP item p = (passP >>= fun _ => roomP l.length 6 >>= fun _ => item >>= fun x => listL item gk (l ++ [x])) q ∧ True) := hid ⟨HE.out.1.trans (list_more item gk l hw kb), trivial⟩
          have HXC : Hid ((passP >>= fun _ => roomP l.length 6 >>= fun _ => item >>= fun x => listL item gk (l ++ [x])) q ≠ .error none) := hid (by rw [← EQ.out.1]; exact HX.out)
          have HLN : Hid (l.length < 100000) := hid (by omega)
          clear hw kb
          go_wp2_with (first
            | (go_at_call 39; refine (C39.out _ (grown_refl _ _)).mono ?_; rintro e w6 ⟨rfl, g⟩; replace P9 := hid (P9.out.kept g); replace KB9 := hid (KB9.out.kept g (by simp)); replace G9 := hid (Loc.grown G9.out ((Loc.refl _ _).quiet g)); replace s9 : w.heap.size ≤ w6.heap.size := G9.out.size; clear g C39)
            | (go_at_call 43; refine (C43.out q _ P9.out (by have h := HXC.out; exact bnd_ne h)).mono ?_; intro e w2 hh0; rcases PrP.cases hh0 (by have h := HXC.out; exact bnd_ne h) with hh | hh; (case inl => obtain ⟨at_, n, hz, rfl, g⟩ := hh; exact ⟨rfl, by rw [EQ.out.1, bnd_err hz]; exact ⟨rfl, grown_bb G9.out g⟩⟩); obtain ⟨a2, q2, v2, hz, rfl, hv, pp, g⟩ := hh; have hv' : v2 = .tuple #[] := hv; subst hv'; have HZ2 := hid (And.intro hz trivial); have P2 := hid pp; have G2 := hid (grown_bb G9.out g); have KB2 := hid (KB9.out.kept g (fun r e => by cases e; omega)); have s2 := g.size; clear hz pp g hh0)
            | (go_at_call 40; refine (C40.out q2 l.length 6 _ P2.out (by have h := HXC.out; rw [bnd_ok HZ2.out.1] at h; exact bnd_ne h)).mono ?_; intro e w3 hh0; rcases PrP.cases hh0 (by have h := HXC.out; rw [bnd_ok HZ2.out.1] at h; exact bnd_ne h) with hh | hh; (case inl => obtain ⟨at_, n, hz, rfl, g⟩ := hh; exact ⟨rfl, by rw [EQ.out.1, bnd_ok HZ2.out.1, bnd_err hz]; exact ⟨rfl, grown_bb G2.out g⟩⟩); obtain ⟨a3, q3, v3, hz, rfl, hv, pp, g⟩ := hh; have hv' : v3 = .tuple #[] := hv; subst hv'; have HZ3 := hid (And.intro hz trivial); have P3 := hid pp; have G3 := hid (grown_bb G2.out g); have KB3 := hid (KB2.out.kept g (fun r e => by cases e; omega)); have s3 := g.size; clear hz pp g hh0)
            | (go_at_call 261; refine (CI.out q3 _ P3.out (by have h := HXC.out; rw [bnd_ok HZ2.out.1, bnd_ok HZ3.out.1] at h; exact bnd_ne h)).mono ?_; intro e w4 hh0; rcases PrP.cases hh0 (by have h := HXC.out; rw [bnd_ok HZ2.out.1, bnd_ok HZ3.out.1] at h; exact bnd_ne h) with hh | hh; (case inl => obtain ⟨at_, n, hz, rfl, g⟩ := hh; exact ⟨rfl, by rw [EQ.out.1, bnd_ok HZ2.out.1, bnd_ok HZ3.out.1, bnd_err hz]; exact ⟨rfl, grown_bb G3.out g⟩⟩); obtain ⟨a4, q4, v4, hz, rfl, hv, pp, g⟩ := hh; obtain ⟨qs4, rfl, hk⟩ := hv; obtain ⟨ps4, cs4, rfl, _, _, _⟩ := hk.form; have HZ4 := hid (And.intro hz trivial); have P4 := hid pp; have G4 := hid (grown_bb G3.out g); have K4 := hid hk; have KB4 := hid (KB3.out.kept g (fun r e => by cases e; omega)); have s4 := g.size; clear hz pp g hh0)
            | (at_builtin; refine append_nd 25 27 Tryz.underlying25 info27 (.tmp 17) (.tmp 20) rfl rfl w.heap.size (.slice pv l.length cv) l a4 (.slice ps4 a4.kids.length cs4) ⟨w4.heap.size, 0, none⟩ 1 (KB4.out.kept (grown_alloc (grown_refl w4 none) _) (by simp)) (NdC.new w4 27 a4 _) ((K4.out.mono (fun g hg _ => ⟨by have h5 : w3.heap.size ≤ g := hg; omega, fun e => by have h6 := (KB3.out.lt g e.symm).2; have h5 : w3.heap.size ≤ g := hg; omega⟩)).kept (grown_alloc (grown_refl w4 none) _)) HLN.out (by rw [World.size_alloc]; omega) rfl rfl ?_; intro v5 w5 h5 g5; have KB5 := hid h5; have RU := row_under KB4.out; have L5 : Hid (Loc w.heap.size w4 w5) := hid (((Loc.refl _ w4).alloc _).by g5 (fun k e => RU k e)); have P5 := hid (P4.out.loc L5.out hbl htl); have G5 := hid (Loc.grown G4.out L5.out); clear h5 g5))
          go_roundg gk
          case measure => omega
          case rel => exact ⟨l ++ [a4], q4, v5, rfl, ⟨by rw [EQ.out.1, bnd_ok HZ2.out.1, bnd_ok HZ3.out.1, bnd_ok HZ4.out.1], trivial⟩, P5.out, KB5.out, by simp; omega, G5.out⟩
        · rw [kb] at C39
          have EQ : Hid (listP item p = .ok (l, q) ∧ True) := hid ⟨HE.out.1.trans (list_end item gk l hw kb), trivial⟩
          clear hw kb
          go_wp2_with (first
            | (go_at_call 39; refine (C39.out _ (grown_refl _ _)).mono ?_; rintro e w6 ⟨rfl, g⟩; replace P9 := hid (P9.out.kept g); replace KB9 := hid (KB9.out.kept g (by simp)); replace G9 := hid (Loc.grown G9.out ((Loc.refl _ _).quiet g)); clear g C39))
          go_ret
          rw [EQ.out.1]
          exact ⟨_, rfl, ⟨KB9.out, by omega⟩, P9.out, G9.out⟩
set_option maxRecDepth 100000 in
set_option maxHeartbeats 8000000 in
theorem list_par {b tg cp : Nat} {all : List Tk} {p : Ps} (item : Pr Nd) (w : World) (hP : PsA w b tg cp all p) (hx : listP item p ≠ .error none) (hlen : all.length ≤ 50000)
    (hI : ∀ q W, PsA W b tg cp all q → item q ≠ .error none → Calls Tryz.prog 125 #[.pointer (some ⟨b, 0, none⟩)] W (PrP (nV W.heap.size) b tg cp all W (item q))) :
    Calls Tryz.prog 124 #[.pointer (some ⟨b, 0, none⟩), .func (.func 125) #[.pointer (some ⟨b, 0, none⟩)] #[]] w (PrP (lV w.heap.size) b tg cp all w (listP item p)) := by
  have hbl := hP.lt
  have htl := hP.tgl
  have HX := hid hx
  have G0 := hid (grown_refl w (some b))
  have P0 := hid hP
  have CI := hid hI
  have C43 : Hid (∀ q W, PsA W b tg cp all q → passP q ≠ .error none → Calls Tryz.prog 43 #[.pointer (some ⟨b, 0, none⟩)] W (PrP uV b tg cp all W (passP q))) := fun q W hW h => pass_any W hW h
  have C40 : Hid (∀ q (h m : Nat) W, PsA W b tg cp all q → roomP h m q ≠ .error none → Calls Tryz.prog 40 #[.pointer (some ⟨b, 0, none⟩), .int .i64 h, .int .i64 m] W (PrP uV b tg cp all W (roomP h m q))) := fun q h m W hW _ => room_any h m W hW
  clear hx hP hI
  go_enter Tryz.func124, Tryz.ntmps124
  go_wp2_with (first
    | (go_at_call 125; refine (CI.out p _ P0.out (by have h := HX.out; unfold listP at h; exact bnd_ne h)).mono ?_; intro e w1 hh0; rcases PrP.cases hh0 (by have h := HX.out; unfold listP at h; exact bnd_ne h) with hh | hh; (case inl => obtain ⟨at_, n, hz, rfl, g⟩ := hh; exact ⟨rfl, by unfold listP; rw [bnd_err hz]; exact ⟨rfl, grown_bb G0.out g⟩⟩); obtain ⟨a1, q1, v1, hz, rfl, hv, pp, g⟩ := hh; obtain ⟨qs1, rfl, hk⟩ := hv; obtain ⟨ps1, cs1, rfl, _, _, _⟩ := hk.form; have HZ1 := hid (And.intro hz trivial); have P1 := hid pp; have G1 := hid (grown_bb G0.out g); have K1 := hid hk; have s1 := g.size; clear hz pp g hh0))
  have hwl := P1.out.wsl
  obtain ⟨M, hM⟩ : ∃ M, q1.ws.length + 1 = M := ⟨_, rfl⟩
  have FIN0 : Hid (listP item p = listL item M [a1] q1 ∧ True) := hid ⟨by unfold listP; rw [bnd_ok HZ1.out.1, ← hM], trivial⟩
  go_loopg [5] M (fun gk s5 wr => ∃ (l : List Nd) (q : Ps) (v : Value), v = s5 ∧ (listP item p = listL item gk l q ∧ True) ∧ PsA wr b tg cp all q ∧ Kb wr w.heap.size 27 v l ∧ l.length + gk ≤ 60000 ∧ w.grownBy wr (some b))
  case atStart => exact ⟨[a1], q1, _, rfl, FIN0.out, P1.out.kept (grown_alloc (grown_refl w1 none) _), kb_one w1 a1 _ (K1.out.mono (fun g hg _ => hg)) s1, by simp; omega, Loc.grown G1.out ((Loc.refl _ w1).alloc _)⟩
  case round =>
    obtain ⟨l, q, v, rfl, hE, hp9, hkb, hln, hg9⟩ := hrel
    obtain ⟨pv, cv, ev, _⟩ := hkb.form
    subst ev
    have P9 := hid hp9
    have G9 := hid hg9
    have KB9 := hid hkb
    have HE := hid hE
    have s9 := hg9.size
    clear hE hkb hg9 FIN0 K1 P1 G1 hwl hM s1 HZ1
    cases gk with
    | zero => exact absurd HE.out.1 (fun e => HX.out e)
    | succ gk =>
      match hw : q.ws with
      | [] => exact absurd (HE.out.1.trans (list_nil item gk l hw)) HX.out
      | t :: r =>
        have C39 : Hid (∀ W, wr.grownBy W none → Calls Tryz.prog 39 #[.pointer (some ⟨b, 0, none⟩), .string ⟨#[44]⟩] W fun e w' => e = .returned (.bool (t.s == [44])) ∧ W.grownBy w' none) := fun W hW => sees_any [44] W (hp9.kept hW) hw
        clear hp9
        rcases Bool.eq_false_or_eq_true (t.s == [44]) with kb | kb
        · rw [kb] at C39
          have EQ : Hid (listP item p = (passP >>= fun _ => roomP l.length 6 >>= fun _ => item >>= fun x => listL item gk (l ++ [x])) q ∧ True) := hid ⟨HE.out.1.trans (list_more item gk l hw kb), trivial⟩
          have HXC : Hid ((passP >>= fun _ => roomP l.length 6 >>= fun _ => item >>= fun x => listL item gk (l ++ [x])) q ≠ .error none) := hid (by rw [← EQ.out.1]; exact HX.out)
          have HLN : Hid (l.length < 100000) := hid (by omega)
          clear hw kb
          go_wp2_with (first
            | (go_at_call 39; refine (C39.out _ (grown_refl _ _)).mono ?_; rintro e w6 ⟨rfl, g⟩; replace P9 := hid (P9.out.kept g); replace KB9 := hid (KB9.out.kept g (by simp)); replace G9 := hid (Loc.grown G9.out ((Loc.refl _ _).quiet g)); replace s9 : w.heap.size ≤ w6.heap.size := G9.out.size; clear g C39)
            | (go_at_call 43; refine (C43.out q _ P9.out (by have h := HXC.out; exact bnd_ne h)).mono ?_; intro e w2 hh0; rcases PrP.cases hh0 (by have h := HXC.out; exact bnd_ne h) with hh | hh; (case inl => obtain ⟨at_, n, hz, rfl, g⟩ := hh; exact ⟨rfl, by rw [EQ.out.1, bnd_err hz]; exact ⟨rfl, grown_bb G9.out g⟩⟩); obtain ⟨a2, q2, v2, hz, rfl, hv, pp, g⟩ := hh; have hv' : v2 = .tuple #[] := hv; subst hv'; have HZ2 := hid (And.intro hz trivial); have P2 := hid pp; have G2 := hid (grown_bb G9.out g); have KB2 := hid (KB9.out.kept g (fun r e => by cases e; omega)); have s2 := g.size; clear hz pp g hh0)
            | (go_at_call 40; refine (C40.out q2 l.length 6 _ P2.out (by have h := HXC.out; rw [bnd_ok HZ2.out.1] at h; exact bnd_ne h)).mono ?_; intro e w3 hh0; rcases PrP.cases hh0 (by have h := HXC.out; rw [bnd_ok HZ2.out.1] at h; exact bnd_ne h) with hh | hh; (case inl => obtain ⟨at_, n, hz, rfl, g⟩ := hh; exact ⟨rfl, by rw [EQ.out.1, bnd_ok HZ2.out.1, bnd_err hz]; exact ⟨rfl, grown_bb G2.out g⟩⟩); obtain ⟨a3, q3, v3, hz, rfl, hv, pp, g⟩ := hh; have hv' : v3 = .tuple #[] := hv; subst hv'; have HZ3 := hid (And.intro hz trivial); have P3 := hid pp; have G3 := hid (grown_bb G2.out g); have KB3 := hid (KB2.out.kept g (fun r e => by cases e; omega)); have s3 := g.size; clear hz pp g hh0)
            | (go_at_call 125; refine (CI.out q3 _ P3.out (by have h := HXC.out; rw [bnd_ok HZ2.out.1, bnd_ok HZ3.out.1] at h; exact bnd_ne h)).mono ?_; intro e w4 hh0; rcases PrP.cases hh0 (by have h := HXC.out; rw [bnd_ok HZ2.out.1, bnd_ok HZ3.out.1] at h; exact bnd_ne h) with hh | hh; (case inl => obtain ⟨at_, n, hz, rfl, g⟩ := hh; exact ⟨rfl, by rw [EQ.out.1, bnd_ok HZ2.out.1, bnd_ok HZ3.out.1, bnd_err hz]; exact ⟨rfl, grown_bb G3.out g⟩⟩); obtain ⟨a4, q4, v4, hz, rfl, hv, pp, g⟩ := hh; obtain ⟨qs4, rfl, hk⟩ := hv; obtain ⟨ps4, cs4, rfl, _, _, _⟩ := hk.form; have HZ4 := hid (And.intro hz trivial); have P4 := hid pp; have G4 := hid (grown_bb G3.out g); have K4 := hid hk; have KB4 := hid (KB3.out.kept g (fun r e => by cases e; omega)); have s4 := g.size; clear hz pp g hh0)
            | (at_builtin; refine append_nd 25 27 Tryz.underlying25 info27 (.tmp 17) (.tmp 20) rfl rfl w.heap.size (.slice pv l.length cv) l a4 (.slice ps4 a4.kids.length cs4) ⟨w4.heap.size, 0, none⟩ 1 (KB4.out.kept (grown_alloc (grown_refl w4 none) _) (by simp)) (NdC.new w4 27 a4 _) ((K4.out.mono (fun g hg _ => ⟨by have h5 : w3.heap.size ≤ g := hg; omega, fun e => by have h6 := (KB3.out.lt g e.symm).2; have h5 : w3.heap.size ≤ g := hg; omega⟩)).kept (grown_alloc (grown_refl w4 none) _)) HLN.out (by rw [World.size_alloc]; omega) rfl rfl ?_; intro v5 w5 h5 g5; have KB5 := hid h5; have RU := row_under KB4.out; have L5 : Hid (Loc w.heap.size w4 w5) := hid (((Loc.refl _ w4).alloc _).by g5 (fun k e => RU k e)); have P5 := hid (P4.out.loc L5.out hbl htl); have G5 := hid (Loc.grown G4.out L5.out); clear h5 g5))
          go_roundg gk
          case measure => omega
          case rel => exact ⟨l ++ [a4], q4, v5, rfl, ⟨by rw [EQ.out.1, bnd_ok HZ2.out.1, bnd_ok HZ3.out.1, bnd_ok HZ4.out.1], trivial⟩, P5.out, KB5.out, by simp; omega, G5.out⟩
        · rw [kb] at C39
          have EQ : Hid (listP item p = .ok (l, q) ∧ True) := hid ⟨HE.out.1.trans (list_end item gk l hw kb), trivial⟩
          clear hw kb
          go_wp2_with (first
            | (go_at_call 39; refine (C39.out _ (grown_refl _ _)).mono ?_; rintro e w6 ⟨rfl, g⟩; replace P9 := hid (P9.out.kept g); replace KB9 := hid (KB9.out.kept g (by simp)); replace G9 := hid (Loc.grown G9.out ((Loc.refl _ _).quiet g)); clear g C39))
          go_ret
          rw [EQ.out.1]
          exact ⟨_, rfl, ⟨KB9.out, by omega⟩, P9.out, G9.out⟩
end Pm
end Go.Proofs.YtajoncmmdeahnaaGreatDoor
