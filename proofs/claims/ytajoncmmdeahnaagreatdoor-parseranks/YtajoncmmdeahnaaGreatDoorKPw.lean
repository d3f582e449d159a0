/-
  The parser: rank; a row of two nodes that is laid at once. The parser: call.
-/
import Derived.Test.YtajoncmmdeahnaaGreatDoorPs
namespace Go.Proofs.YtajoncmmdeahnaaGreatDoor
open Go.RowKit
theorem ks_two {P : Nat → Prop} (w : World) (y z : Nd) (q r : Value) (hy : KsV w P q y.kids) (hz : KsV w P r z.kids) (hp : P w.heap.size) : KsV (w.alloc (.cells #[.int .i64 y.kind, .int .i64 y.ty, .string y.txt, .int .i64 y.num, q, .int .i64 z.kind, .int .i64 z.ty, .string z.txt, .int .i64 z.num, r] 27)) P (.slice (some ⟨w.heap.size, 0, none⟩) 2 2) [y, z] := by
  have hB := Blk.new w 27 #[.int .i64 y.kind, .int .i64 y.ty, .string y.txt, .int .i64 y.num, q, .int .i64 z.kind, .int .i64 z.ty, .string z.txt, .int .i64 z.num, r]
  have gy := hy.kept (grown_alloc (grown_refl w none) (.cells #[.int .i64 y.kind, .int .i64 y.ty, .string y.txt, .int .i64 y.num, q, .int .i64 z.kind, .int .i64 z.ty, .string z.txt, .int .i64 z.num, r] 27))
  have gz := hz.kept (grown_alloc (grown_refl w none) (.cells #[.int .i64 y.kind, .int .i64 y.ty, .string y.txt, .int .i64 y.num, q, .int .i64 z.kind, .int .i64 z.ty, .string z.txt, .int .i64 z.num, r] 27))
  refine ⟨w.heap.size, Or.inr ⟨by simp, hp, 2, rfl, by simp, by unfold maxLen; omega⟩, RowN.of fun i hi => ?_⟩
  match i, hi with
  | 0, _ => exact NdAt.mk (q := q) (by rw [hB.cell]; rfl) (by rw [hB.cell]; rfl) (by rw [hB.cell]; rfl) (by rw [hB.cell]; rfl) (by rw [hB.cell]; rfl) gy
  | 1, _ => exact NdAt.mk (q := r) (by rw [hB.cell]; rfl) (by rw [hB.cell]; rfl) (by rw [hB.cell]; rfl) (by rw [hB.cell]; rfl) (by rw [hB.cell]; rfl) gz
namespace Pm
set_option maxRecDepth 100000 in
set_option maxHeartbeats 4000000 in
theorem rank_any (s : List UInt8) (w : World) : Calls Tryz.prog 260 #[.string ⟨s.toArray⟩] w fun e w' => e = .returned (.int .i64 (rankN s)) ∧ w' = w := by
  rcases Bool.eq_false_or_eq_true (s == [124, 124]) with k0 | k0
  · go_enter Tryz.func260, Tryz.ntmps260
    go_wp2
    go_ret
    exact ⟨by unfold rankN; simp [k0], rfl⟩
  rcases Bool.eq_false_or_eq_true (s == [38, 38]) with k1 | k1
  · go_enter Tryz.func260, Tryz.ntmps260
    go_wp2
    go_ret
    exact ⟨by unfold rankN; simp [k0, k1], rfl⟩
  rcases Bool.eq_false_or_eq_true (s == [60]) with k2 | k2
  · go_enter Tryz.func260, Tryz.ntmps260
    go_wp2
    go_ret
    exact ⟨by unfold rankN; simp [k0, k1, k2], rfl⟩
  rcases Bool.eq_false_or_eq_true (s == [60, 61]) with k3 | k3
  · go_enter Tryz.func260, Tryz.ntmps260
    go_wp2
    go_ret
    exact ⟨by unfold rankN; simp [k0, k1, k2, k3], rfl⟩
  rcases Bool.eq_false_or_eq_true (s == [62]) with k4 | k4
  · go_enter Tryz.func260, Tryz.ntmps260
    go_wp2
    go_ret
    exact ⟨by unfold rankN; simp [k0, k1, k2, k3, k4], rfl⟩
  rcases Bool.eq_false_or_eq_true (s == [62, 61]) with k5 | k5
  · go_enter Tryz.func260, Tryz.ntmps260
    go_wp2
    go_ret
    exact ⟨by unfold rankN; simp [k0, k1, k2, k3, k4, k5], rfl⟩
  rcases Bool.eq_false_or_eq_true (s == [61, 61]) with k6 | k6
  · go_enter Tryz.func260, Tryz.ntmps260
    go_wp2
    go_ret
    exact ⟨by unfold rankN; simp [k0, k1, k2, k3, k4, k5, k6], rfl⟩
  rcases Bool.eq_false_or_eq_true (s == [33, 61]) with k7 | k7
  · go_enter Tryz.func260, Tryz.ntmps260
    go_wp2
    go_ret
    exact ⟨by unfold rankN; simp [k0, k1, k2, k3, k4, k5, k6, k7], rfl⟩
  rcases Bool.eq_false_or_eq_true (s == [43]) with k8 | k8
  · go_enter Tryz.func260, Tryz.ntmps260
    go_wp2
    go_ret
    exact ⟨by unfold rankN; simp [k0, k1, k2, k3, k4, k5, k6, k7, k8], rfl⟩
  rcases Bool.eq_false_or_eq_true (s == [45]) with k9 | k9
  · go_enter Tryz.func260, Tryz.ntmps260
    go_wp2
    go_ret
    exact ⟨by unfold rankN; simp [k0, k1, k2, k3, k4, k5, k6, k7, k8, k9], rfl⟩
  rcases Bool.eq_false_or_eq_true (s == [42]) with k10 | k10
  · go_enter Tryz.func260, Tryz.ntmps260
    go_wp2
    go_ret
    exact ⟨by unfold rankN; simp [k0, k1, k2, k3, k4, k5, k6, k7, k8, k9, k10], rfl⟩
  rcases Bool.eq_false_or_eq_true (s == [47]) with k11 | k11
  · go_enter Tryz.func260, Tryz.ntmps260
    go_wp2
    go_ret
    exact ⟨by unfold rankN; simp [k0, k1, k2, k3, k4, k5, k6, k7, k8, k9, k10, k11], rfl⟩
  rcases Bool.eq_false_or_eq_true (s == [37]) with k12 | k12
  · go_enter Tryz.func260, Tryz.ntmps260
    go_wp2
    go_ret
    exact ⟨by unfold rankN; simp [k0, k1, k2, k3, k4, k5, k6, k7, k8, k9, k10, k11, k12], rfl⟩
  go_enter Tryz.func260, Tryz.ntmps260
  go_wp2
  go_ret
  exact ⟨by unfold rankN; simp [k0, k1, k2, k3, k4, k5, k6, k7, k8, k9, k10, k11, k12], rfl⟩
end Pm
end Go.Proofs.YtajoncmmdeahnaaGreatDoor
namespace Go.Proofs.YtajoncmmdeahnaaGreatDoor
open Go.RowKit
namespace Pm
set_option maxRecDepth 100000 in
set_option maxHeartbeats 4000000 in
theorem call_any {b tg cp : Nat} {all : List Tk} {p : Ps} (R : Rc) (name : ByteArray) (w : World) (hP : PsA w b tg cp all p) (hx : callP R name p ≠ .error none)
    (h261 : ∀ q W, PsA W b tg cp all q → R.expr 1 q ≠ .error none → Calls Tryz.prog 261 #[.pointer (some ⟨b, 0, none⟩)] W (PrP (nV W.heap.size) b tg cp all W (R.expr 1 q)))
    (hlen : all.length ≤ 50000) :
    Calls Tryz.prog 234 #[.pointer (some ⟨b, 0, none⟩), .string name] w (PrP (nV w.heap.size) b tg cp all w (callP R name p)) := by
  have hbl := hP.lt
  have htl := hP.tgl
  have X0 := hid (Blk.new w 27 #[.int .i64 0, .int .i64 0, .string ⟨#[]⟩, .int .i64 0, .slice none 0 0])
  have HX := hid hx
  have G0 := hid (grown_refl w (some b))
  have P0 := hid hP
  have C165 : Hid (∀ q W, PsA W b tg cp all q → openP [40] q ≠ .error none → Calls Tryz.prog 165 #[.pointer (some ⟨b, 0, none⟩), .string ⟨#[40]⟩] W (PrP uV b tg cp all W (openP [40] q))) := fun q W hW h => open_any [40] W hW h
  have C124 : Hid (∀ q W, PsA W b tg cp all q → listP (R.expr 1) q ≠ .error none → Calls Tryz.prog 124 #[.pointer (some ⟨b, 0, none⟩), .func (.func 261) #[.pointer (some ⟨b, 0, none⟩)] #[]] W (PrP (lV W.heap.size) b tg cp all W (listP (R.expr 1) q))) := fun q W hW h => list_arg (R.expr 1) W hW h hlen h261
  clear h261
  have C167 : Hid (∀ q W, PsA W b tg cp all q → shutP [41] q ≠ .error none → Calls Tryz.prog 167 #[.pointer (some ⟨b, 0, none⟩), .string ⟨#[41]⟩] W (PrP uV b tg cp all W (shutP [41] q))) := fun q W hW h => shut_any [41] W hW h
  have C42 : Hid (∀ q x k t s n ps l c W, PsA W b tg cp all q → madeP x q ≠ .error none → Calls Tryz.prog 42 #[.pointer (some ⟨b, 0, none⟩), .agg #[.int .i64 k, .int .i64 t, .string s, .int .i64 n, .slice ps l c]] W (PrP (fun _ _ v => v = .agg #[.int .i64 k, .int .i64 t, .string s, .int .i64 n, .slice ps l c]) b tg cp all W (madeP x q))) := fun q x k t s n ps l c W hW h => made_any x k t s n ps l c W hW h
  have X00 : Hid (Blk ((w.alloc (.cells #[.int .i64 0, .int .i64 0, .string ⟨#[]⟩, .int .i64 0, .slice none 0 0] 27)).alloc (.cells #[.int .i64 24, .int .i64 0, .string name, .int .i64 0, .slice none 0 0] 27)) w.heap.size 27 #[.int .i64 0, .int .i64 0, .string ⟨#[]⟩, .int .i64 0, .slice none 0 0]) := hid (X0.out.alloc _)
  have Y00 : Hid (Blk ((w.alloc (.cells #[.int .i64 0, .int .i64 0, .string ⟨#[]⟩, .int .i64 0, .slice none 0 0] 27)).alloc (.cells #[.int .i64 24, .int .i64 0, .string name, .int .i64 0, .slice none 0 0] 27)) (w.heap.size + 1) 27 #[.int .i64 24, .int .i64 0, .string name, .int .i64 0, .slice none 0 0]) := hid (by have h := Blk.new (w.alloc (.cells #[.int .i64 0, .int .i64 0, .string ⟨#[]⟩, .int .i64 0, .slice none 0 0] 27)) 27 #[.int .i64 24, .int .i64 0, .string name, .int .i64 0, .slice none 0 0]; rw [World.size_alloc] at h; exact h)
  clear hx hP
  go_enter Tryz.func234, Tryz.ntmps234
  have hmf : ∀ (fn : Fn) (first cap : Array Value) (w : World), (Instr.makeFunc fn first cap).run Tryz.prog w = .ok (.func fn first cap) w := fun _ _ _ _ => rfl
  go_wp2_with (first
    | (go_at_call 165; refine (C165.out p _ (P0.out.loc (n := w.heap.size) (by repeat (first | exact Loc.refl _ _ | refine Loc.alloc ?_ _ | refine Loc.quiet ?_ (by assumption))) hbl htl) (by have h := HX.out; unfold callP at h; exact bnd_ne h)).mono ?_; intro e w1 hh0; rcases PrP.cases hh0 (by have h := HX.out; unfold callP at h; exact bnd_ne h) with hh | hh; (case inl => obtain ⟨at_, n, hz, rfl, g⟩ := hh; exact ⟨rfl, by unfold callP; rw [bnd_err hz]; exact ⟨rfl, grown_bb (Loc.grown G0.out (by repeat (first | exact Loc.refl _ _ | refine Loc.alloc ?_ _ | refine Loc.quiet ?_ (by assumption)))) g⟩⟩); obtain ⟨a1, q1, v1, hz, rfl, hv, pp, g⟩ := hh; have hv' : v1 = .tuple #[] := hv; subst hv'; have HZ1 := hid (And.intro hz trivial); have P1 := hid pp; have G1 := hid (grown_bb (Loc.grown G0.out (by repeat (first | exact Loc.refl _ _ | refine Loc.alloc ?_ _ | refine Loc.quiet ?_ (by assumption)))) g); have hs1 := g.size; rw [World.size_alloc, World.size_alloc] at hs1; have X1 := hid (X00.out.kept g (lt_nb hbl _ (by omega))); have Y1 := hid (Y00.out.kept g (lt_nb hbl _ (by omega))); clear hz pp g hh0))
  have EQ1 : callP R name p = ((do if ← seesP [41] then return [] else listP (R.expr 1) : Pr (List Nd)) >>= fun ks => shutP [41] >>= fun _ => madeP (.mk 24 0 name 0 ks)) q1 := by unfold callP; rw [bnd_ok HZ1.out.1]
  match hw : q1.ws with
  | [] => exact absurd (EQ1.trans (bnd_err (bnd_err (sees_nil [41] hw)))) HX.out
  | t :: r =>
    have C39 : Hid (∀ W, w1.grownBy W none → Calls Tryz.prog 39 #[.pointer (some ⟨b, 0, none⟩), .string ⟨#[41]⟩] W fun e w' => e = .returned (.bool (t.s == [41])) ∧ W.grownBy w' none) := fun W hW => sees_any [41] W (P1.out.kept hW) hw
    have e0 : (do if ← seesP [41] then return [] else listP (R.expr 1) : Pr (List Nd)) q1 = if (t.s == [41]) = true then .ok ([], q1) else listP (R.expr 1) q1 := by
      rw [bnd_ok (sees_eq [41] hw)]
      by_cases k : (t.s == [41]) = true
      · rw [if_pos k, if_pos k]
        rfl
      · rw [if_neg k, if_neg k]
    clear C165
    rcases Bool.eq_false_or_eq_true (t.s == [41]) with kb | kb
    · rw [kb] at C39
      rw [if_pos kb] at e0
      have EQ : Hid (callP R name p = (shutP [41] >>= fun _ => madeP (.mk 24 0 name 0 [])) q1 ∧ True) := hid ⟨EQ1.trans (bnd_ok e0), trivial⟩
      have HXC : Hid ((shutP [41] >>= fun _ => madeP (.mk 24 0 name 0 [])) q1 ≠ .error none) := hid (by rw [← EQ.out.1]; exact HX.out)
      clear hw kb e0 EQ1 C124
      go_wp2_with (first
        | (go_at_call 39; refine (C39.out _ (grown_refl _ _)).mono ?_; rintro e w2 ⟨rfl, g⟩; have P2 := hid (P1.out.kept g); have G2 := hid (Loc.grown G1.out ((Loc.refl _ w1).quiet g)); have X2 := hid (X1.out.kept g (by simp)); have Y2 := hid (Y1.out.kept g (by simp)); have s2 := g.size; have f4 := Y2.out.frozen 4; have c4 := Y2.out.cell 4; simp at c4; clear g C39)
        | (go_at_call 167; refine (C167.out q1 _ P2.out (by have h := HXC.out; exact bnd_ne h)).mono ?_; intro e w5 hh0; rcases PrP.cases hh0 (by have h := HXC.out; exact bnd_ne h) with hh | hh; (case inl => obtain ⟨at_, n, hz, rfl, g⟩ := hh; exact ⟨rfl, by rw [EQ.out.1, bnd_err hz]; exact ⟨rfl, grown_bb G2.out g⟩⟩); obtain ⟨a5, q5, v5, hz, rfl, hv, pp, g⟩ := hh; have hv' : v5 = .tuple #[] := hv; subst hv'; have HZ5 := hid (And.intro hz trivial); have P5 := hid pp; have G5 := hid (grown_bb G2.out g); have X5 := hid (X2.out.kept g (lt_nb hbl _ (by omega))); have Y5 := hid (Y2.out.kept g (lt_nb hbl _ (by omega))); have y0 := Y5.out.cell 0; have y1 := Y5.out.cell 1; have y2 := Y5.out.cell 2; have y3 := Y5.out.cell 3; have y4 := Y5.out.cell 4; simp at y0 y1 y2 y3 y4; clear hz pp g hh0)
        | (go_at_call 42; refine (C42.out q5 (.mk 24 0 name 0 []) 24 0 name 0 none 0 0 _ P5.out (by have h := HXC.out; rw [bnd_ok HZ5.out.1] at h; exact h)).mono ?_; intro e w8 hh0; rcases PrP.cases hh0 (by have h := HXC.out; rw [bnd_ok HZ5.out.1] at h; exact h) with hh | hh; (case inl => obtain ⟨at_, n, hz, rfl, g⟩ := hh; exact ⟨rfl, by rw [EQ.out.1, bnd_ok HZ5.out.1, hz]; exact ⟨rfl, grown_bb G5.out g⟩⟩); obtain ⟨a8, q8, v8, hz, rfl, hv, pp, g⟩ := hh; have hv' : v8 = _ := hv; subst hv'; obtain rfl := made_ok hz; have HZ8 := hid (And.intro hz trivial); have P8 := hid pp; have G8 := hid (grown_bb G5.out g); have X8 := hid (X5.out.kept g (lt_nb hbl _ (by omega))); clear hz pp g hh0)
        | (refine store_nd (.tmp 4) (.tmp 22) rfl rfl w.heap.size X8.out rfl rfl ?_; intro w9 b9 g9; have Z9 := hid b9; have G10 := hid (grown_to G8.out g9 (Nat.le_refl _)); have P10 := hid (P8.out.keptG g9 (by omega) (by omega)); clear b9 g9))
      refine bodyPost_ret (results_nd rfl _ _ w.heap.size rfl Z9.out) rfl ?_
      rw [EQ.out.1, bnd_ok HZ5.out.1, HZ8.out.1]
      exact ⟨_, rfl, ⟨_, rfl, KsV.nil _ _⟩, P10.out, G10.out⟩
    · rw [kb] at C39
      rw [if_neg (by rw [kb]; decide)] at e0
      have EQ : Hid (callP R name p = (listP (R.expr 1) >>= fun ks => shutP [41] >>= fun _ => madeP (.mk 24 0 name 0 ks)) q1 ∧ True) := hid ⟨by
        rw [EQ1]
        show Pr.bnd _ _ q1 = Pr.bnd _ _ q1
        unfold Pr.bnd
        rw [e0], trivial⟩
      have HXC : Hid ((listP (R.expr 1) >>= fun ks => shutP [41] >>= fun _ => madeP (.mk 24 0 name 0 ks)) q1 ≠ .error none) := hid (by rw [← EQ.out.1]; exact HX.out)
      clear hw kb e0 EQ1
      go_wp2_with (first
        | (go_at_call 39; refine (C39.out _ (grown_refl _ _)).mono ?_; rintro e w2 ⟨rfl, g⟩; have P2 := hid (P1.out.kept g); have G2 := hid (Loc.grown G1.out ((Loc.refl _ w1).quiet g)); have X2 := hid (X1.out.kept g (by simp)); have Y2 := hid (Y1.out.kept g (by simp)); have s2 := g.size; have f4 := Y2.out.frozen 4; have c4 := Y2.out.cell 4; simp at c4; clear g C39)
        | (go_at_call 124; refine (C124.out q1 _ P2.out (by have h := HXC.out; exact bnd_ne h)).mono ?_; intro e w4 hh0; rcases PrP.cases hh0 (by have h := HXC.out; exact bnd_ne h) with hh | hh; (case inl => obtain ⟨at_, n, hz, rfl, g⟩ := hh; exact ⟨rfl, by rw [EQ.out.1, bnd_err hz]; exact ⟨rfl, grown_bb G2.out g⟩⟩); obtain ⟨a4, q4, v4, hz, rfl, hv, pp, g⟩ := hh; have hk : KsV w4 (fun g => w2.heap.size ≤ g) v4 a4 := Kb.ks hv.1; obtain ⟨ps4, cs4, ev4, _, _, _⟩ := hk.form; subst ev4; have HZ4 := hid (And.intro hz trivial); have P4 := hid pp; have G4 := hid (grown_bb G2.out g); have K4 := hid hk; have X4 := hid (X2.out.kept g (lt_nb hbl _ (by omega))); have Y4 := hid (Y2.out.kept g (lt_nb hbl _ (by omega))); have s4 := g.size; have f5 := Y4.out.frozen 4; have d4 := Y4.out.cell 4; simp at d4; clear hz pp g hh0)
        | (go_at_call 167; have gs := grown_set (grown_refl w4 (some (w.heap.size + 1))) 4 (.slice ps4 a4.length cs4); have P6 := hid (P4.out.keptG gs (by omega) (by omega)); have G6 := hid (grown_to G4.out gs (by omega)); have X6 := hid (X4.out.kept gs (fun e => by injection e with e; omega)); have Y6 := hid (Y4.out.set 4 (.slice ps4 a4.length cs4)); simp at Y6; have K6 := hid (K4.out.keptB gs (by omega)); clear gs; generalize w4.setCell ⟨w.heap.size + 1, 4, none⟩ (.slice ps4 a4.length cs4) = w6 at *; go_at_call 167; refine (C167.out q4 _ P6.out (by have h := HXC.out; rw [bnd_ok HZ4.out.1] at h; exact bnd_ne h)).mono ?_; intro e w5 hh0; rcases PrP.cases hh0 (by have h := HXC.out; rw [bnd_ok HZ4.out.1] at h; exact bnd_ne h) with hh | hh; (case inl => obtain ⟨at_, n, hz, rfl, g⟩ := hh; exact ⟨rfl, by rw [EQ.out.1, bnd_ok HZ4.out.1, bnd_err hz]; exact ⟨rfl, grown_bb G6.out g⟩⟩); obtain ⟨a5, q5, v5, hz, rfl, hv, pp, g⟩ := hh; have hv' : v5 = .tuple #[] := hv; subst hv'; have HZ5 := hid (And.intro hz trivial); have P5 := hid pp; have G5 := hid (grown_bb G6.out g); have X5 := hid (X6.out.kept g (lt_nb hbl _ (by omega))); have Y5 := hid (Y6.out.kept g (lt_nb hbl _ (by omega))); have K5 := hid (K6.out.keptB g (by omega)); have y0 := Y5.out.cell 0; have y1 := Y5.out.cell 1; have y2 := Y5.out.cell 2; have y3 := Y5.out.cell 3; have y4 := Y5.out.cell 4; simp at y0 y1 y2 y3 y4; clear hz pp g hh0)
        | (go_at_call 42; refine (C42.out q5 (.mk 24 0 name 0 a4) 24 0 name 0 ps4 a4.length cs4 _ P5.out (by have h := HXC.out; rw [bnd_ok HZ4.out.1, bnd_ok HZ5.out.1] at h; exact h)).mono ?_; intro e w8 hh0; rcases PrP.cases hh0 (by have h := HXC.out; rw [bnd_ok HZ4.out.1, bnd_ok HZ5.out.1] at h; exact h) with hh | hh; (case inl => obtain ⟨at_, n, hz, rfl, g⟩ := hh; exact ⟨rfl, by rw [EQ.out.1, bnd_ok HZ4.out.1, bnd_ok HZ5.out.1, hz]; exact ⟨rfl, grown_bb G5.out g⟩⟩); obtain ⟨a8, q8, v8, hz, rfl, hv, pp, g⟩ := hh; have hv' : v8 = _ := hv; subst hv'; obtain rfl := made_ok hz; have HZ8 := hid (And.intro hz trivial); have P8 := hid pp; have G8 := hid (grown_bb G5.out g); have X8 := hid (X5.out.kept g (lt_nb hbl _ (by omega))); have K8 := hid (K5.out.keptB g (by omega)); clear hz pp g hh0)
        | (refine store_nd (.tmp 4) (.tmp 22) rfl rfl w.heap.size X8.out rfl rfl ?_; intro w9 b9 g9; have Z9 := hid b9; have G10 := hid (grown_to G8.out g9 (Nat.le_refl _)); have P10 := hid (P8.out.keptG g9 (by omega) (by omega)); have K10 := hid (K8.out.keptB g9 (by omega)); clear b9 g9))
      refine bodyPost_ret (results_nd rfl _ _ w.heap.size rfl Z9.out) rfl ?_
      rw [EQ.out.1, bnd_ok HZ4.out.1, bnd_ok HZ5.out.1, HZ8.out.1]
      exact ⟨_, rfl, ⟨_, rfl, K10.out.mono (fun g hg _ => by omega)⟩, P10.out, G10.out⟩
end Pm
end Go.Proofs.YtajoncmmdeahnaaGreatDoor
