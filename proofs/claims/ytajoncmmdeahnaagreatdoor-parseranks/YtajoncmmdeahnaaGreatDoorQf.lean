/-
  The parser: a literal.
-/
import Derived.Test.YtajoncmmdeahnaaGreatDoorPi6
import Derived.Test.YtajoncmmdeahnaaGreatDoorKPh
import Derived.Test.YtajoncmmdeahnaaGreatDoorKDPs
namespace Go.Proofs.YtajoncmmdeahnaaGreatDoor
open Go.RowKit
namespace Pm
set_option maxRecDepth 100000 in
set_option maxHeartbeats 1000000 in
theorem literal_true {b tg cp : Nat} {all : List Tk} {p : Ps} {t : Tk} {r : List Tk} (w : World) (hP : PsA w b tg cp all p) (hw : p.ws = t :: r) (hk2 : t.kind ≠ 2) (hk3 : t.kind ≠ 3) (ht : t.s = wTrue) (hx : (passP >>= fun _ => madeP (.mk (22) (0) ⟨#[]⟩ (1) [])) p ≠ .error none) :
    Calls Tryz.prog 164 #[.pointer (some ⟨b, 0, none⟩)] w (PrP (nV w.heap.size) b tg cp all w ((passP >>= fun _ => madeP (.mk (22) (0) ⟨#[]⟩ (1) [])) p)) := by
  have hbl := hP.lt
  have htl := hP.tgl
  have C38 : Hid (∀ W, w.grownBy W none → Calls Tryz.prog 38 #[.pointer (some ⟨b, 0, none⟩)] W fun e w' => e = .returned (.agg #[.int .i64 t.kind, .string (tkS t), .int .i64 t.pl]) ∧ W.grownBy w' none) := fun W hW => next_any W (hP.kept hW) hw
  rw [show tkS t = ⟨#[116, 114, 117, 101]⟩ by unfold tkS; rw [ht]; rfl] at C38
  have hN : passP p ≠ .error none := bnd_ne hx
  have C43 : Hid (∀ W, PsA W b tg cp all p → Calls Tryz.prog 43 #[.pointer (some ⟨b, 0, none⟩)] W (PrP uV b tg cp all W (passP p))) := fun W hW => pass_any W hW hN
  have C42 : Hid (∀ q x k t s n ps l c W, PsA W b tg cp all q → madeP x q ≠ .error none → Calls Tryz.prog 42 #[.pointer (some ⟨b, 0, none⟩), .agg #[.int .i64 k, .int .i64 t, .string s, .int .i64 n, .slice ps l c]] W (PrP (fun _ _ v => v = .agg #[.int .i64 k, .int .i64 t, .string s, .int .i64 n, .slice ps l c]) b tg cp all W (madeP x q))) := fun q x k t s n ps l c W hW h => made_any x k t s n ps l c W hW h
  have X0 := hid (Blk.new w 27 #[.int .i64 0, .int .i64 0, .string ⟨#[]⟩, .int .i64 0, .slice none 0 0])
  have P0 := hid hP
  have HX := hid hx
  have HN := hid hN
  have k2 : ((t.kind : Int) == 2) = false := by rw [beq_eq_false_iff_ne]; omega
  have k3 : ((t.kind : Int) == 3) = false := by rw [beq_eq_false_iff_ne]; omega
  have f1 := fld1
  clear hP hw hx hN
  generalize (t.kind : Int) = kd at *
  go_enter Tryz.func164, Tryz.ntmps164
  go_wp2_with (first
    | (go_at_call 38; refine (C38.out _ (grown_alloc (grown_refl _ _) _)).mono ?_; rintro e w1 ⟨rfl, g⟩; have P1 := hid (P0.out.kept (grown_none (grown_alloc (grown_refl _ _) _) g)); have G1 : Hid (w.grownBy w1 (some b)) := hid (grown_b (b := b) (grown_none (grown_alloc (grown_refl _ _) _) g)); have X1 := hid (X0.out.kept g (by simp)); have s1 := g.size; rw [World.size_alloc] at s1; have P3 := hid (P1.out.kept (grown_alloc (grown_alloc (grown_refl w1 none) (.cells #[.int .i64 kd, .string ⟨#[116, 114, 117, 101]⟩, .int .i64 t.pl] 88)) (.cells #[.int .i64 22, .int .i64 0, .string ⟨#[]⟩, .int .i64 1, .slice none 0 0] 27))); have G3 := hid (Loc.grown G1.out (((Loc.refl w.heap.size w1).alloc (.cells #[.int .i64 kd, .string ⟨#[116, 114, 117, 101]⟩, .int .i64 t.pl] 88)).alloc (.cells #[.int .i64 22, .int .i64 0, .string ⟨#[]⟩, .int .i64 1, .slice none 0 0] 27))); have X3 := hid ((X1.out.alloc (.cells #[.int .i64 kd, .string ⟨#[116, 114, 117, 101]⟩, .int .i64 t.pl] 88)).alloc (.cells #[.int .i64 22, .int .i64 0, .string ⟨#[]⟩, .int .i64 1, .slice none 0 0] 27)); have Y3 := hid (Blk.new (w1.alloc (.cells #[.int .i64 kd, .string ⟨#[116, 114, 117, 101]⟩, .int .i64 t.pl] 88)) 27 #[.int .i64 22, .int .i64 0, .string ⟨#[]⟩, .int .i64 1, .slice none 0 0]); rw [World.size_alloc] at Y3; clear g)
    | (go_at_call 43; refine (C43.out _ P3.out).mono ?_; intro e w4 hh0; rcases PrP.cases hh0 HN.out with hh | hh; (case inl => obtain ⟨at_, n9, hz, rfl, g⟩ := hh; exact ⟨rfl, by rw [bnd_err hz]; exact ⟨rfl, grown_bb G3.out g⟩⟩); obtain ⟨a4, q4, v4, hz, rfl, hv, pp, g⟩ := hh; have hv' : v4 = _ := hv; subst hv'; have HZ4 := hid (And.intro hz trivial); have P4 := hid pp; have G4 := hid (grown_bb G3.out g); have X4 := hid (X3.out.kept g (lt_nb hbl _ (Nat.le_refl _))); have Y4 := hid (Y3.out.kept g (lt_nb hbl _ (by omega))); have y0 := Y4.out.cell 0; have y1 := Y4.out.cell 1; have y2 := Y4.out.cell 2; have y3 := Y4.out.cell 3; have y4 := Y4.out.cell 4; simp at y0 y1 y2 y3 y4; clear hz pp g hh0)
    | (go_at_call 42; refine (C42.out q4 (.mk (22) (0) ⟨#[]⟩ (1) []) (22) (0) ⟨#[]⟩ (1) none 0 0 _ P4.out (by have h := HX.out; rw [bnd_ok HZ4.out.1] at h; exact h)).mono ?_; intro e w7 hh0; rcases PrP.cases hh0 (by have h := HX.out; rw [bnd_ok HZ4.out.1] at h; exact h) with hh | hh; (case inl => obtain ⟨at_, n9, hz, rfl, g⟩ := hh; exact ⟨rfl, by rw [bnd_ok HZ4.out.1, hz]; exact ⟨rfl, grown_bb G4.out g⟩⟩); obtain ⟨a7, q7, v7, hz, rfl, hv, pp, g⟩ := hh; have hv' : v7 = _ := hv; subst hv'; obtain rfl := made_ok hz; have HZ7 := hid (And.intro hz trivial); have P7 := hid pp; have G7 := hid (grown_bb G4.out g); have X7 := hid (X4.out.kept g (lt_nb hbl _ (Nat.le_refl _))); clear hz pp g hh0)
    | (refine store_nd (.tmp 2) (.tmp 43) rfl rfl w.heap.size X7.out rfl rfl ?_; intro w8 b8 g8; have Z8 := hid b8; have G8 := hid (grown_to G7.out g8 (Nat.le_refl _)); have P8 := hid (P7.out.keptG g8 (by omega) (by omega)); clear b8 g8))
  refine bodyPost_ret (results_nd rfl _ _ w.heap.size rfl Z8.out) rfl ?_
  rw [bnd_ok HZ4.out.1, HZ7.out.1]
  exact ⟨_, rfl, ⟨_, rfl, KsV.nil _ _⟩, P8.out, G8.out⟩
set_option maxRecDepth 100000 in
set_option maxHeartbeats 1000000 in
theorem literal_false {b tg cp : Nat} {all : List Tk} {p : Ps} {t : Tk} {r : List Tk} (w : World) (hP : PsA w b tg cp all p) (hw : p.ws = t :: r) (hk2 : t.kind ≠ 2) (hk3 : t.kind ≠ 3) (ht : t.s = wFalse) (hx : (passP >>= fun _ => madeP (.mk (22) (0) ⟨#[]⟩ (0) [])) p ≠ .error none) :
    Calls Tryz.prog 164 #[.pointer (some ⟨b, 0, none⟩)] w (PrP (nV w.heap.size) b tg cp all w ((passP >>= fun _ => madeP (.mk (22) (0) ⟨#[]⟩ (0) [])) p)) := by
  have hbl := hP.lt
  have htl := hP.tgl
  have C38 : Hid (∀ W, w.grownBy W none → Calls Tryz.prog 38 #[.pointer (some ⟨b, 0, none⟩)] W fun e w' => e = .returned (.agg #[.int .i64 t.kind, .string (tkS t), .int .i64 t.pl]) ∧ W.grownBy w' none) := fun W hW => next_any W (hP.kept hW) hw
  rw [show tkS t = ⟨#[102, 97, 108, 115, 101]⟩ by unfold tkS; rw [ht]; rfl] at C38
  have hN : passP p ≠ .error none := bnd_ne hx
  have C43 : Hid (∀ W, PsA W b tg cp all p → Calls Tryz.prog 43 #[.pointer (some ⟨b, 0, none⟩)] W (PrP uV b tg cp all W (passP p))) := fun W hW => pass_any W hW hN
  have C42 : Hid (∀ q x k t s n ps l c W, PsA W b tg cp all q → madeP x q ≠ .error none → Calls Tryz.prog 42 #[.pointer (some ⟨b, 0, none⟩), .agg #[.int .i64 k, .int .i64 t, .string s, .int .i64 n, .slice ps l c]] W (PrP (fun _ _ v => v = .agg #[.int .i64 k, .int .i64 t, .string s, .int .i64 n, .slice ps l c]) b tg cp all W (madeP x q))) := fun q x k t s n ps l c W hW h => made_any x k t s n ps l c W hW h
  have X0 := hid (Blk.new w 27 #[.int .i64 0, .int .i64 0, .string ⟨#[]⟩, .int .i64 0, .slice none 0 0])
  have P0 := hid hP
  have HX := hid hx
  have HN := hid hN
  have k2 : ((t.kind : Int) == 2) = false := by rw [beq_eq_false_iff_ne]; omega
  have k3 : ((t.kind : Int) == 3) = false := by rw [beq_eq_false_iff_ne]; omega
  have f1 := fld1
  clear hP hw hx hN
  generalize (t.kind : Int) = kd at *
  go_enter Tryz.func164, Tryz.ntmps164
  go_wp2_with (first
    | (go_at_call 38; refine (C38.out _ (grown_alloc (grown_refl _ _) _)).mono ?_; rintro e w1 ⟨rfl, g⟩; have P1 := hid (P0.out.kept (grown_none (grown_alloc (grown_refl _ _) _) g)); have G1 : Hid (w.grownBy w1 (some b)) := hid (grown_b (b := b) (grown_none (grown_alloc (grown_refl _ _) _) g)); have X1 := hid (X0.out.kept g (by simp)); have s1 := g.size; rw [World.size_alloc] at s1; have P3 := hid (P1.out.kept (grown_alloc (grown_alloc (grown_refl w1 none) (.cells #[.int .i64 kd, .string ⟨#[102, 97, 108, 115, 101]⟩, .int .i64 t.pl] 88)) (.cells #[.int .i64 22, .int .i64 0, .string ⟨#[]⟩, .int .i64 0, .slice none 0 0] 27))); have G3 := hid (Loc.grown G1.out (((Loc.refl w.heap.size w1).alloc (.cells #[.int .i64 kd, .string ⟨#[102, 97, 108, 115, 101]⟩, .int .i64 t.pl] 88)).alloc (.cells #[.int .i64 22, .int .i64 0, .string ⟨#[]⟩, .int .i64 0, .slice none 0 0] 27))); have X3 := hid ((X1.out.alloc (.cells #[.int .i64 kd, .string ⟨#[102, 97, 108, 115, 101]⟩, .int .i64 t.pl] 88)).alloc (.cells #[.int .i64 22, .int .i64 0, .string ⟨#[]⟩, .int .i64 0, .slice none 0 0] 27)); have Y3 := hid (Blk.new (w1.alloc (.cells #[.int .i64 kd, .string ⟨#[102, 97, 108, 115, 101]⟩, .int .i64 t.pl] 88)) 27 #[.int .i64 22, .int .i64 0, .string ⟨#[]⟩, .int .i64 0, .slice none 0 0]); rw [World.size_alloc] at Y3; clear g)
    | (go_at_call 43; refine (C43.out _ P3.out).mono ?_; intro e w4 hh0; rcases PrP.cases hh0 HN.out with hh | hh; (case inl => obtain ⟨at_, n9, hz, rfl, g⟩ := hh; exact ⟨rfl, by rw [bnd_err hz]; exact ⟨rfl, grown_bb G3.out g⟩⟩); obtain ⟨a4, q4, v4, hz, rfl, hv, pp, g⟩ := hh; have hv' : v4 = _ := hv; subst hv'; have HZ4 := hid (And.intro hz trivial); have P4 := hid pp; have G4 := hid (grown_bb G3.out g); have X4 := hid (X3.out.kept g (lt_nb hbl _ (Nat.le_refl _))); have Y4 := hid (Y3.out.kept g (lt_nb hbl _ (by omega))); have y0 := Y4.out.cell 0; have y1 := Y4.out.cell 1; have y2 := Y4.out.cell 2; have y3 := Y4.out.cell 3; have y4 := Y4.out.cell 4; simp at y0 y1 y2 y3 y4; clear hz pp g hh0)
    | (go_at_call 42; refine (C42.out q4 (.mk (22) (0) ⟨#[]⟩ (0) []) (22) (0) ⟨#[]⟩ (0) none 0 0 _ P4.out (by have h := HX.out; rw [bnd_ok HZ4.out.1] at h; exact h)).mono ?_; intro e w7 hh0; rcases PrP.cases hh0 (by have h := HX.out; rw [bnd_ok HZ4.out.1] at h; exact h) with hh | hh; (case inl => obtain ⟨at_, n9, hz, rfl, g⟩ := hh; exact ⟨rfl, by rw [bnd_ok HZ4.out.1, hz]; exact ⟨rfl, grown_bb G4.out g⟩⟩); obtain ⟨a7, q7, v7, hz, rfl, hv, pp, g⟩ := hh; have hv' : v7 = _ := hv; subst hv'; obtain rfl := made_ok hz; have HZ7 := hid (And.intro hz trivial); have P7 := hid pp; have G7 := hid (grown_bb G4.out g); have X7 := hid (X4.out.kept g (lt_nb hbl _ (Nat.le_refl _))); clear hz pp g hh0)
    | (refine store_nd (.tmp 2) (.tmp 43) rfl rfl w.heap.size X7.out rfl rfl ?_; intro w8 b8 g8; have Z8 := hid b8; have G8 := hid (grown_to G7.out g8 (Nat.le_refl _)); have P8 := hid (P7.out.keptG g8 (by omega) (by omega)); clear b8 g8))
  refine bodyPost_ret (results_nd rfl _ _ w.heap.size rfl Z8.out) rfl ?_
  rw [bnd_ok HZ4.out.1, HZ7.out.1]
  exact ⟨_, rfl, ⟨_, rfl, KsV.nil _ _⟩, P8.out, G8.out⟩
set_option maxRecDepth 100000 in
set_option maxHeartbeats 1000000 in
theorem literal_int {b tg cp : Nat} {all : List Tk} {p : Ps} {t : Tk} {r : List Tk} (w : World) (hP : PsA w b tg cp all p) (hw : p.ws = t :: r) (hk2 : t.kind = 2) (hok : okI t.s = true) (hx : (passP >>= fun _ => madeP (.mk (20) (0) ⟨#[]⟩ (digF 0 t.s : Nat) [])) p ≠ .error none) :
    Calls Tryz.prog 164 #[.pointer (some ⟨b, 0, none⟩)] w (PrP (nV w.heap.size) b tg cp all w ((passP >>= fun _ => madeP (.mk (20) (0) ⟨#[]⟩ (digF 0 t.s : Nat) [])) p)) := by
  have hbl := hP.lt
  have htl := hP.tgl
  have C38 : Hid (∀ W, w.grownBy W none → Calls Tryz.prog 38 #[.pointer (some ⟨b, 0, none⟩)] W fun e w' => e = .returned (.agg #[.int .i64 t.kind, .string (tkS t), .int .i64 t.pl]) ∧ W.grownBy w' none) := fun W hW => next_any W (hP.kept hW) hw
  have C195 : Hid (∀ W, Calls Tryz.prog 195 #[.string (tkS t), .int .i64 10, .int .i64 64] W fun e w' => e = .returned (.tuple #[.int .i64 (digF 0 t.s : Nat), .nilIface]) ∧ W.grownBy w' none) := fun W => by
    unfold okI at hok
    rw [Bool.and_eq_true, Bool.and_eq_true, Bool.and_eq_true, decide_eq_true_eq, decide_eq_true_eq] at hok
    obtain ⟨⟨⟨h1, h2⟩, h3⟩, h4⟩ := hok
    exact parseInt_digits t.s W (by intro e; rw [e] at h1; exact absurd h1 (by decide)) h2 h3 h4
  have hN : passP p ≠ .error none := bnd_ne hx
  have C43 : Hid (∀ W, PsA W b tg cp all p → Calls Tryz.prog 43 #[.pointer (some ⟨b, 0, none⟩)] W (PrP uV b tg cp all W (passP p))) := fun W hW => pass_any W hW hN
  have C42 : Hid (∀ q x k t s n ps l c W, PsA W b tg cp all q → madeP x q ≠ .error none → Calls Tryz.prog 42 #[.pointer (some ⟨b, 0, none⟩), .agg #[.int .i64 k, .int .i64 t, .string s, .int .i64 n, .slice ps l c]] W (PrP (fun _ _ v => v = .agg #[.int .i64 k, .int .i64 t, .string s, .int .i64 n, .slice ps l c]) b tg cp all W (madeP x q))) := fun q x k t s n ps l c W hW h => made_any x k t s n ps l c W hW h
  have X0 := hid (Blk.new w 27 #[.int .i64 0, .int .i64 0, .string ⟨#[]⟩, .int .i64 0, .slice none 0 0])
  have P0 := hid hP
  have HX := hid hx
  have HN := hid hN
  have k2 : ((t.kind : Int) == 2) = true := by rw [hk2]; rfl
  have f1 := fld1
  generalize tkS t = S at *
  generalize ((digF 0 t.s : Nat) : Int) = D at *
  clear hP hw hx hN
  generalize (t.kind : Int) = kd at *
  go_enter Tryz.func164, Tryz.ntmps164
  go_wp2_with (first
    | (go_at_call 38; refine (C38.out _ (grown_alloc (grown_refl _ _) _)).mono ?_; rintro e w1 ⟨rfl, g⟩; have P1 := hid (P0.out.kept (grown_none (grown_alloc (grown_refl _ _) _) g)); have G1 : Hid (w.grownBy w1 (some b)) := hid (grown_b (b := b) (grown_none (grown_alloc (grown_refl _ _) _) g)); have X1 := hid (X0.out.kept g (by simp)); have s1 := g.size; rw [World.size_alloc] at s1; have P3 := hid (P1.out.kept (grown_alloc (grown_alloc (grown_refl w1 none) (.cells #[.int .i64 kd, .string S, .int .i64 t.pl] 88)) (.cells #[.int .i64 20, .int .i64 0, .string ⟨#[]⟩, .int .i64 0, .slice none 0 0] 27))); have G3 := hid (Loc.grown G1.out (((Loc.refl w.heap.size w1).alloc (.cells #[.int .i64 kd, .string S, .int .i64 t.pl] 88)).alloc (.cells #[.int .i64 20, .int .i64 0, .string ⟨#[]⟩, .int .i64 0, .slice none 0 0] 27))); have X3 := hid ((X1.out.alloc (.cells #[.int .i64 kd, .string S, .int .i64 t.pl] 88)).alloc (.cells #[.int .i64 20, .int .i64 0, .string ⟨#[]⟩, .int .i64 0, .slice none 0 0] 27)); have Y3 := hid (Blk.new (w1.alloc (.cells #[.int .i64 kd, .string S, .int .i64 t.pl] 88)) 27 #[.int .i64 20, .int .i64 0, .string ⟨#[]⟩, .int .i64 0, .slice none 0 0]); rw [World.size_alloc] at Y3; clear g)
    | (go_at_call 195; refine (C195.out _).mono ?_; rintro e w5 ⟨rfl, g⟩; have P5 := hid (P3.out.kept g); have G5 := hid (grown_none G3.out g); have X5 := hid (X3.out.kept g (by simp)); have Y5 := hid (Y3.out.kept g (by simp)); have z3 := Y5.out.frozen 3; have z4 := Y5.out.cell 3; simp at z4; have P3 := hid (P5.out.keptG (grown_set (grown_refl w5 (some (w1.heap.size + 1))) 3 (.int .i64 D)) (by omega) (by omega)); have G3 := hid (grown_set_new G5.out (a := ⟨w1.heap.size + 1, 3, none⟩) (.int .i64 D) (by show _ ≤ w1.heap.size + 1; omega)); have X3 := hid (X5.out.other (a := ⟨w1.heap.size + 1, 3, none⟩) (.int .i64 D) (by show _ ≠ w1.heap.size + 1; omega)); have Y3 := hid (Y5.out.set 3 (.int .i64 D)); simp at Y3; clear g)
    | (go_at_call 43; refine (C43.out _ P3.out).mono ?_; intro e w4 hh0; rcases PrP.cases hh0 HN.out with hh | hh; (case inl => obtain ⟨at_, n9, hz, rfl, g⟩ := hh; exact ⟨rfl, by rw [bnd_err hz]; exact ⟨rfl, grown_bb G3.out g⟩⟩); obtain ⟨a4, q4, v4, hz, rfl, hv, pp, g⟩ := hh; have hv' : v4 = _ := hv; subst hv'; have HZ4 := hid (And.intro hz trivial); have P4 := hid pp; have G4 := hid (grown_bb G3.out g); have X4 := hid (X3.out.kept g (lt_nb hbl _ (Nat.le_refl _))); have Y4 := hid (Y3.out.kept g (lt_nb hbl _ (by omega))); have y0 := Y4.out.cell 0; have y1 := Y4.out.cell 1; have y2 := Y4.out.cell 2; have y3 := Y4.out.cell 3; have y4 := Y4.out.cell 4; simp at y0 y1 y2 y3 y4; clear hz pp g hh0)
    | (go_at_call 42; refine (C42.out q4 (.mk (20) (0) ⟨#[]⟩ (D) []) (20) (0) ⟨#[]⟩ (D) none 0 0 _ P4.out (by have h := HX.out; rw [bnd_ok HZ4.out.1] at h; exact h)).mono ?_; intro e w7 hh0; rcases PrP.cases hh0 (by have h := HX.out; rw [bnd_ok HZ4.out.1] at h; exact h) with hh | hh; (case inl => obtain ⟨at_, n9, hz, rfl, g⟩ := hh; exact ⟨rfl, by rw [bnd_ok HZ4.out.1, hz]; exact ⟨rfl, grown_bb G4.out g⟩⟩); obtain ⟨a7, q7, v7, hz, rfl, hv, pp, g⟩ := hh; have hv' : v7 = _ := hv; subst hv'; obtain rfl := made_ok hz; have HZ7 := hid (And.intro hz trivial); have P7 := hid pp; have G7 := hid (grown_bb G4.out g); have X7 := hid (X4.out.kept g (lt_nb hbl _ (Nat.le_refl _))); clear hz pp g hh0)
    | (refine store_nd (.tmp 2) (.tmp 43) rfl rfl w.heap.size X7.out rfl rfl ?_; intro w8 b8 g8; have Z8 := hid b8; have G8 := hid (grown_to G7.out g8 (Nat.le_refl _)); have P8 := hid (P7.out.keptG g8 (by omega) (by omega)); clear b8 g8))
  refine bodyPost_ret (results_nd rfl _ _ w.heap.size rfl Z8.out) rfl ?_
  rw [bnd_ok HZ4.out.1, HZ7.out.1]
  exact ⟨_, rfl, ⟨_, rfl, KsV.nil _ _⟩, P8.out, G8.out⟩
set_option maxRecDepth 100000 in
set_option maxHeartbeats 1000000 in
theorem literal_float {b tg cp : Nat} {all : List Tk} {p : Ps} {t : Tk} {r : List Tk} (w : World) (hP : PsA w b tg cp all p) (hw : p.ws = t :: r) (A B : List UInt8) (hk3 : t.kind = 3) (hts : t.s = A ++ 46 :: B) (hA : ∀ c ∈ A, Dg.isD c) (hB : ∀ c ∈ B, Dg.isD c) (hl : A.length ≤ 7) (hl2 : B.length ≤ 8) (hx : (passP >>= fun _ => madeP (flA A B)) p ≠ .error none) :
    Calls Tryz.prog 164 #[.pointer (some ⟨b, 0, none⟩)] w (PrP (nV w.heap.size) b tg cp all w ((passP >>= fun _ => madeP (flA A B)) p)) := by
  have hbl := hP.lt
  have htl := hP.tgl
  have C38 : Hid (∀ W, w.grownBy W none → Calls Tryz.prog 38 #[.pointer (some ⟨b, 0, none⟩)] W fun e w' => e = .returned (.agg #[.int .i64 t.kind, .string (tkS t), .int .i64 t.pl]) ∧ W.grownBy w' none) := fun W hW => next_any W (hP.kept hW) hw
  have C196 : Hid (∀ W, w.grownBy W (some b) → Calls Tryz.prog 196 #[.string (tkS t)] W fun e w' => e = .returned (.agg #[.int .i64 21, .int .i64 0, .string ⟨(ahD A ++ 46 :: beD B).toArray⟩, .int .i64 (quoD (digF 0 (ahD A ++ beD B)) (beD B).length : Nat), .slice none 0 0]) ∧ W.grownBy w' none) := fun W hW => by
    have hG := (hP.gl).keptR hW (fun k e => by injection e with e; omega)
    have e : tkS t = Dg.mkS (A ++ 46 :: B) := by unfold tkS; rw [hts]; rfl
    rw [e]
    obtain ⟨g, o, n, c, h1, h2, h3, h4⟩ := hG.pow
    exact Dg.float_any A B W ⟨hG.opt, hG.man, ⟨g, o, n, c, h1, h2, h4⟩⟩ hA hB hl hl2
  have hN : passP p ≠ .error none := bnd_ne hx
  have C43 : Hid (∀ W, PsA W b tg cp all p → Calls Tryz.prog 43 #[.pointer (some ⟨b, 0, none⟩)] W (PrP uV b tg cp all W (passP p))) := fun W hW => pass_any W hW hN
  have C42 : Hid (∀ q x k t s n ps l c W, PsA W b tg cp all q → madeP x q ≠ .error none → Calls Tryz.prog 42 #[.pointer (some ⟨b, 0, none⟩), .agg #[.int .i64 k, .int .i64 t, .string s, .int .i64 n, .slice ps l c]] W (PrP (fun _ _ v => v = .agg #[.int .i64 k, .int .i64 t, .string s, .int .i64 n, .slice ps l c]) b tg cp all W (madeP x q))) := fun q x k t s n ps l c W hW h => made_any x k t s n ps l c W hW h
  unfold flA at hx hN C43 ⊢
  have X0 := hid (Blk.new w 27 #[.int .i64 0, .int .i64 0, .string ⟨#[]⟩, .int .i64 0, .slice none 0 0])
  have P0 := hid hP
  have HX := hid hx
  have HN := hid hN
  have k2 : ((t.kind : Int) == 2) = false := by rw [hk3]; rfl
  have k3 : ((t.kind : Int) == 3) = true := by rw [hk3]; rfl
  have f1 := fld1
  clear hts hk3 hA hB hl hl2
  generalize tkS t = S at *
  generalize ((quoD (digF 0 (ahD A ++ beD B)) (beD B).length : Nat) : Int) = D at *
  generalize (⟨(ahD A ++ 46 :: beD B).toArray⟩ : ByteArray) = T at *
  clear hP hw hx hN
  generalize (t.kind : Int) = kd at *
  go_enter Tryz.func164, Tryz.ntmps164
  go_wp2_with (first
    | (go_at_call 38; refine (C38.out _ (grown_alloc (grown_refl _ _) _)).mono ?_; rintro e w1 ⟨rfl, g⟩; have P1 := hid (P0.out.kept (grown_none (grown_alloc (grown_refl _ _) _) g)); have G1 : Hid (w.grownBy w1 (some b)) := hid (grown_b (b := b) (grown_none (grown_alloc (grown_refl _ _) _) g)); have X1 := hid (X0.out.kept g (by simp)); have s1 := g.size; rw [World.size_alloc] at s1; have P3 := hid (P1.out.kept (grown_alloc (grown_alloc (grown_refl w1 none) (.cells #[.int .i64 kd, .string S, .int .i64 t.pl] 88)) (.cells #[.int .i64 0, .int .i64 0, .string ⟨#[]⟩, .int .i64 0, .slice none 0 0] 27))); have G3 := hid (Loc.grown G1.out (((Loc.refl w.heap.size w1).alloc (.cells #[.int .i64 kd, .string S, .int .i64 t.pl] 88)).alloc (.cells #[.int .i64 0, .int .i64 0, .string ⟨#[]⟩, .int .i64 0, .slice none 0 0] 27))); have X3 := hid ((X1.out.alloc (.cells #[.int .i64 kd, .string S, .int .i64 t.pl] 88)).alloc (.cells #[.int .i64 0, .int .i64 0, .string ⟨#[]⟩, .int .i64 0, .slice none 0 0] 27)); have Y3 := hid (Blk.new (w1.alloc (.cells #[.int .i64 kd, .string S, .int .i64 t.pl] 88)) 27 #[.int .i64 0, .int .i64 0, .string ⟨#[]⟩, .int .i64 0, .slice none 0 0]); rw [World.size_alloc] at Y3; clear g)
    | (go_at_call 196; refine (C196.out _ G3.out).mono ?_; rintro e w5 ⟨rfl, g⟩; have P5 := hid (P3.out.kept g); have G5 := hid (grown_none G3.out g); have X5 := hid (X3.out.kept g (by simp)); have Y5 := hid (Y3.out.kept g (by simp)); clear g)
    | (refine store_nd (.tmp 4) (.tmp 28) rfl rfl (w1.heap.size + 1) Y5.out rfl rfl ?_; intro w6 b6 g6; have Y3 := hid b6; have G3 := hid (grown_to G5.out g6 (by omega)); have P3 := hid (P5.out.keptG g6 (by omega) (by omega)); have X3 := hid (X5.out.kept g6 (fun e => by injection e with e; omega)); clear b6 g6)
    | (go_at_call 43; refine (C43.out _ P3.out).mono ?_; intro e w4 hh0; rcases PrP.cases hh0 HN.out with hh | hh; (case inl => obtain ⟨at_, n9, hz, rfl, g⟩ := hh; exact ⟨rfl, by rw [bnd_err hz]; exact ⟨rfl, grown_bb G3.out g⟩⟩); obtain ⟨a4, q4, v4, hz, rfl, hv, pp, g⟩ := hh; have hv' : v4 = _ := hv; subst hv'; have HZ4 := hid (And.intro hz trivial); have P4 := hid pp; have G4 := hid (grown_bb G3.out g); have X4 := hid (X3.out.kept g (lt_nb hbl _ (Nat.le_refl _))); have Y4 := hid (Y3.out.kept g (lt_nb hbl _ (by omega))); have y0 := Y4.out.cell 0; have y1 := Y4.out.cell 1; have y2 := Y4.out.cell 2; have y3 := Y4.out.cell 3; have y4 := Y4.out.cell 4; simp at y0 y1 y2 y3 y4; clear hz pp g hh0)
    | (go_at_call 42; refine (C42.out q4 (.mk (21) (0) T (D) []) (21) (0) T (D) none 0 0 _ P4.out (by have h := HX.out; rw [bnd_ok HZ4.out.1] at h; exact h)).mono ?_; intro e w7 hh0; rcases PrP.cases hh0 (by have h := HX.out; rw [bnd_ok HZ4.out.1] at h; exact h) with hh | hh; (case inl => obtain ⟨at_, n9, hz, rfl, g⟩ := hh; exact ⟨rfl, by rw [bnd_ok HZ4.out.1, hz]; exact ⟨rfl, grown_bb G4.out g⟩⟩); obtain ⟨a7, q7, v7, hz, rfl, hv, pp, g⟩ := hh; have hv' : v7 = _ := hv; subst hv'; obtain rfl := made_ok hz; have HZ7 := hid (And.intro hz trivial); have P7 := hid pp; have G7 := hid (grown_bb G4.out g); have X7 := hid (X4.out.kept g (lt_nb hbl _ (Nat.le_refl _))); clear hz pp g hh0)
    | (refine store_nd (.tmp 2) (.tmp 43) rfl rfl w.heap.size X7.out rfl rfl ?_; intro w8 b8 g8; have Z8 := hid b8; have G8 := hid (grown_to G7.out g8 (Nat.le_refl _)); have P8 := hid (P7.out.keptG g8 (by omega) (by omega)); clear b8 g8))
  refine bodyPost_ret (results_nd rfl _ _ w.heap.size rfl Z8.out) rfl ?_
  rw [bnd_ok HZ4.out.1, HZ7.out.1]
  exact ⟨_, rfl, ⟨_, rfl, KsV.nil _ _⟩, P8.out, G8.out⟩
theorem literal_eq {p : Ps} {t : Tk} {r : List Tk} (hw : p.ws = t :: r) : literalP p = (if (t.kind == 2) = true then (if okI t.s = true then (passP >>= fun _ => madeP (.mk 20 0 ⟨#[]⟩ (digF 0 t.s : Nat) [])) p else .error none) else if (t.kind == 3) = true then (if okFl t.s = true then (passP >>= fun _ => madeP (flN t.s)) p else .error none) else if (t.s == wTrue) = true then (passP >>= fun _ => madeP (.mk 22 0 ⟨#[]⟩ 1 [])) p else if (t.s == wFalse) = true then (passP >>= fun _ => madeP (.mk 22 0 ⟨#[]⟩ 0 [])) p else .error (some (t.pl, 110))) := by
  unfold literalP
  rw [bnd_ok (nxt_eq hw)]
  by_cases h1 : (t.kind == 2) = true
  · rw [if_pos h1, if_pos h1]
    by_cases h2 : okI t.s = true
    · rw [if_pos h2, if_pos h2]
    · rw [if_neg h2, if_neg h2]
  · rw [if_neg h1, if_neg h1]
    by_cases h2 : (t.kind == 3) = true
    · rw [if_pos h2, if_pos h2]
      by_cases h3 : okFl t.s = true
      · rw [if_pos h3, if_pos h3]
      · rw [if_neg h3, if_neg h3]
    · rw [if_neg h2, if_neg h2]
      by_cases h3 : (t.s == wTrue) = true
      · rw [if_pos h3, if_pos h3]
      · rw [if_neg h3, if_neg h3]
        by_cases h4 : (t.s == wFalse) = true
        · rw [if_pos h4, if_pos h4]
        · rw [if_neg h4, if_neg h4, fail_eq 110 hw]
set_option maxRecDepth 100000 in
set_option maxHeartbeats 1000000 in
theorem literal_none {b tg cp : Nat} {all : List Tk} {p : Ps} {t : Tk} {r : List Tk} (w : World) (hP : PsA w b tg cp all p) (hw : p.ws = t :: r) (h2 : ¬ (t.kind == 2) = true) (h3 : ¬ (t.kind == 3) = true) (h4 : ¬ (t.s == wTrue) = true) (h5 : ¬ (t.s == wFalse) = true) :
    Calls Tryz.prog 164 #[.pointer (some ⟨b, 0, none⟩)] w (PrP (nV w.heap.size) b tg cp all w (.error (some (t.pl, 110)))) := by
  have C38 : Hid (∀ W, w.grownBy W none → Calls Tryz.prog 38 #[.pointer (some ⟨b, 0, none⟩)] W fun e w' => e = .returned (.agg #[.int .i64 t.kind, .string (tkS t), .int .i64 t.pl]) ∧ W.grownBy w' none) := fun W hW => next_any W (hP.kept hW) hw
  have C82 : Hid (∀ W, w.grownBy W none → _) := fun W hW => fail_any 110 W (hP.kept hW) hw
  have k2 : ((t.kind : Int) == 2) = false := by rw [beq_eq_false_iff_ne]; intro e; exact h2 (by rw [beq_iff_eq]; omega)
  have k3 : ((t.kind : Int) == 3) = false := by rw [beq_eq_false_iff_ne]; intro e; exact h3 (by rw [beq_iff_eq]; omega)
  have k4 : (t.s == [116, 114, 117, 101]) = false := by rw [Bool.not_eq_true] at h4; exact h4
  have k5 : (t.s == [102, 97, 108, 115, 101]) = false := by rw [Bool.not_eq_true] at h5; exact h5
  have f1 := fld1
  unfold tkS at C38
  clear hP hw h2 h3 h4 h5
  generalize (t.kind : Int) = kd at *
  generalize t.s = ts at *
  go_enter Tryz.func164, Tryz.ntmps164
  go_wp2_with (first
    | (go_at_call 38; refine (C38.out _ (grown_alloc (grown_refl _ _) _)).mono ?_; rintro e w1 ⟨rfl, g⟩; have G1 := hid (grown_none (grown_alloc (grown_refl w none) _) g); clear g)
    | (go_at_call 82; refine (C82.out _ (grown_alloc (grown_alloc G1.out _) _)).mono ?_; rintro e w2 ⟨rfl, g⟩; have G2 := hid (grown_none (grown_alloc (grown_alloc G1.out _) _) g); clear g))
  exact ⟨rfl, rfl, grown_b G2.out⟩
theorem okFl_parts {s : List UInt8} (h : okFl s = true) : s = s.takeWhile dgt ++ 46 :: (s.dropWhile dgt).drop 1 ∧ (∀ c ∈ s.takeWhile dgt, Dg.isD c) ∧ (∀ c ∈ (s.dropWhile dgt).drop 1, Dg.isD c) ∧ (s.takeWhile dgt).length ≤ 7 ∧ ((s.dropWhile dgt).drop 1).length ≤ 8 := by
  have e0 := List.takeWhile_append_dropWhile (p := dgt) (l := s)
  have ha : ∀ c ∈ s.takeWhile dgt, Dg.isD c := fun c hc => dgt_iff (List.all_eq_true.1 List.all_takeWhile c hc)
  unfold okFl at h
  split at h
  · rename_i B hB
    rw [Bool.and_eq_true, Bool.and_eq_true, decide_eq_true_eq, decide_eq_true_eq] at h
    rw [hB] at e0 ⊢
    exact ⟨e0.symm, ha, fun c hc => dgt_iff (List.all_eq_true.1 h.1.1 c hc), h.1.2, h.2⟩
  · exact absurd h (by decide)
theorem literal_any {b tg cp : Nat} {all : List Tk} {p : Ps} (w : World) (hP : PsA w b tg cp all p) (hx : literalP p ≠ .error none) :
    Calls Tryz.prog 164 #[.pointer (some ⟨b, 0, none⟩)] w (PrP (nV w.heap.size) b tg cp all w (literalP p)) := by
  match hw : p.ws with
  | [] => exact absurd (by unfold literalP; rw [bnd_err (nxt_nil hw)]) hx
  | t :: r =>
    rw [literal_eq hw] at hx ⊢
    by_cases h1 : (t.kind == 2) = true
    · rw [if_pos h1] at hx ⊢
      by_cases h2 : okI t.s = true
      · rw [if_pos h2] at hx ⊢
        exact literal_int w hP hw (by rw [beq_iff_eq] at h1; exact h1) h2 hx
      · rw [if_neg h2] at hx
        exact absurd rfl hx
    · rw [if_neg h1] at hx ⊢
      by_cases h2 : (t.kind == 3) = true
      · rw [if_pos h2] at hx ⊢
        by_cases h3 : okFl t.s = true
        · rw [if_pos h3] at hx ⊢
          obtain ⟨q1, q2, q3, q4, q5⟩ := okFl_parts h3
          exact literal_float w hP hw _ _ (by rw [beq_iff_eq] at h2; exact h2) q1 q2 q3 q4 q5 hx
        · rw [if_neg h3] at hx
          exact absurd rfl hx
      · rw [if_neg h2] at hx ⊢
        have n2 : t.kind ≠ 2 := fun e => h1 (by rw [e]; rfl)
        have n3 : t.kind ≠ 3 := fun e => h2 (by rw [e]; rfl)
        by_cases h3 : (t.s == wTrue) = true
        · rw [if_pos h3] at hx ⊢
          exact literal_true w hP hw n2 n3 (by rw [beq_iff_eq] at h3; exact h3) hx
        · rw [if_neg h3] at hx ⊢
          by_cases h4 : (t.s == wFalse) = true
          · rw [if_pos h4] at hx ⊢
            exact literal_false w hP hw n2 n3 (by rw [beq_iff_eq] at h4; exact h4) hx
          · rw [if_neg h4] at hx ⊢
            exact literal_none w hP hw h1 h2 h3 h4
end Pm
end Go.Proofs.YtajoncmmdeahnaaGreatDoor
