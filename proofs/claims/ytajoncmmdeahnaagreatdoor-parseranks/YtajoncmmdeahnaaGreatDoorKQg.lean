/-
  The checker: which nodes some text has. The checker: which nodes some text has: expressions, and all. The parser: a constant.
-/
import Derived.Test.YtajoncmmdeahnaaGreatDoorKACi
import Derived.Test.YtajoncmmdeahnaaGreatDoorKDPs
import Derived.Test.YtajoncmmdeahnaaGreatDoorPi6
import Derived.Test.YtajoncmmdeahnaaGreatDoorKPb
import Derived.Test.YtajoncmmdeahnaaGreatDoorQf
import Derived.Deep.RegionLaw
import Derived.Test.YtajoncmmdeahnaaGreatDoorKPq
namespace Go.Proofs.YtajoncmmdeahnaaGreatDoor
open Go.RowKit
namespace Ck
end Ck
end Go.Proofs.YtajoncmmdeahnaaGreatDoor
namespace Go.Proofs.YtajoncmmdeahnaaGreatDoor
open Go.RowKit
namespace Ck
end Ck
end Go.Proofs.YtajoncmmdeahnaaGreatDoor
namespace Go.Proofs.YtajoncmmdeahnaaGreatDoor
open Go.RowKit
namespace Pm
set_option maxRecDepth 100000 in
set_option maxHeartbeats 4000000 in
theorem constant_plain {b tg cp : Nat} {all : List Tk} {p : Ps} {t : Tk} {r : List Tk} (w : World) (hP : PsA w b tg cp all p) (hw : p.ws = t :: r) (ht : (t.s == [45]) = false) (hx : literalP p ≠ .error none) :
    Calls Tryz.prog 123 #[.pointer (some ⟨b, 0, none⟩)] w (PrP (nV w.heap.size) b tg cp all w (literalP p)) := by
  have hbl := hP.lt
  have htl := hP.tgl
  have X0 := hid (Blk.new w 27 #[.int .i64 0, .int .i64 0, .string ⟨#[]⟩, .int .i64 0, .slice none 0 0])
  have G0 := hid (grown_refl w (some b))
  have P0 := hid hP
  have C39 : Hid (∀ W, w.grownBy W none → Calls Tryz.prog 39 #[.pointer (some ⟨b, 0, none⟩), .string ⟨#[45]⟩] W fun e w' => e = .returned (.bool (t.s == [45])) ∧ W.grownBy w' none) := fun W hW => sees_any [45] W (hP.kept hW) hw
  rw [ht] at C39
  have HX := hid hx
  have CX : Hid (∀ q W, PsA W b tg cp all q → literalP q ≠ .error none → Calls Tryz.prog 164 #[.pointer (some ⟨b, 0, none⟩)] W (PrP (nV W.heap.size) b tg cp all W (literalP q))) := fun q W hW h => literal_any W hW h
  clear hx hw hP ht
  go_enter Tryz.func123, Tryz.ntmps123
  go_wp2_with (first
    | (go_at_call 39; refine (C39.out _ (by repeat (first | exact grown_refl _ _ | refine grown_alloc ?_ _))).mono ?_; rintro e w1 ⟨rfl, g⟩; have P1 := hid (P0.out.kept (grown_none (by repeat (first | exact grown_refl _ _ | refine grown_alloc ?_ _)) g)); have G1 : Hid (w.grownBy w1 (some b)) := hid (grown_b (b := b) (grown_none (by repeat (first | exact grown_refl _ _ | refine grown_alloc ?_ _)) g)); have X1 := hid (X0.out.kept g (by simp)); have s1 := g.size; rw [World.size_alloc] at s1; clear g)
    | (go_at_call 164; refine (CX.out p _ P1.out HX.out).mono ?_; intro e w2 hh0; rcases PrP.cases hh0 HX.out with hh | hh; (case inl => obtain ⟨at_, n, hz, rfl, g⟩ := hh; exact ⟨rfl, by rw [hz]; exact ⟨rfl, grown_bb G1.out g⟩⟩); obtain ⟨a2, q2, v2, hz, rfl, hv, pp, g⟩ := hh; obtain ⟨qs2, rfl, hk⟩ := hv; obtain ⟨ps2, cs2, rfl, _, _, _⟩ := hk.form; have HZ2 := hid (And.intro hz trivial); have P2 := hid pp; have G2 := hid (grown_bb G1.out g); have K2 := hid hk; have X2 := hid (X1.out.kept g (lt_nb hbl _ (by omega))); have s12 := g.size; clear hz pp g hh0)
    | (refine store_nd (.tmp 2) (.tmp 9) rfl rfl w.heap.size X2.out rfl rfl ?_; intro w9 b9 g9; have Z9 := hid b9; have G9 := hid (grown_to G2.out g9 (Nat.le_refl _)); have P9 := hid (P2.out.keptG g9 (by omega) (by omega)); have K9 := hid (K2.out.keptB g9 (by omega)); clear b9 g9))
  refine bodyPost_ret (results_nd rfl _ _ w.heap.size rfl Z9.out) rfl ?_
  rw [HZ2.out.1]
  exact ⟨_, rfl, ⟨_, rfl, K9.out.mono (fun g hg _ => by have h5 : w1.heap.size ≤ g := hg; omega)⟩, P9.out, G9.out⟩
set_option maxRecDepth 100000 in
set_option maxHeartbeats 4000000 in
theorem constant_over {b tg cp : Nat} {all : List Tk} {p : Ps} {t : Tk} {r : List Tk} (w : World) (hP : PsA w b tg cp all p) (hw : p.ws = t :: r) (ht : (t.s == [45]) = true) (at_ n : Nat) (hz : passP p = .error (some (at_, n))) :
    Calls Tryz.prog 123 #[.pointer (some ⟨b, 0, none⟩)] w (PrP (nV w.heap.size) b tg cp all w (.error (some (at_, n)))) := by
  have hbl := hP.lt
  have htl := hP.tgl
  have X0 := hid (Blk.new w 27 #[.int .i64 0, .int .i64 0, .string ⟨#[]⟩, .int .i64 0, .slice none 0 0])
  have G0 := hid (grown_refl w (some b))
  have P0 := hid hP
  have C39 : Hid (∀ W, w.grownBy W none → Calls Tryz.prog 39 #[.pointer (some ⟨b, 0, none⟩), .string ⟨#[45]⟩] W fun e w' => e = .returned (.bool (t.s == [45])) ∧ W.grownBy w' none) := fun W hW => sees_any [45] W (hP.kept hW) hw
  rw [ht] at C39
  have C43 : Hid (∀ W, PsA W b tg cp all p → Calls Tryz.prog 43 #[.pointer (some ⟨b, 0, none⟩)] W (PrP uV b tg cp all W (.error (some (at_, n))))) := fun W hW => by rw [← hz]; exact pass_any W hW (by rw [hz]; simp)
  clear hz hw hP ht
  go_enter Tryz.func123, Tryz.ntmps123
  go_wp2_with (first
    | (go_at_call 39; refine (C39.out _ (by repeat (first | exact grown_refl _ _ | refine grown_alloc ?_ _))).mono ?_; rintro e w1 ⟨rfl, g⟩; have P1 := hid (P0.out.kept (grown_none (by repeat (first | exact grown_refl _ _ | refine grown_alloc ?_ _)) g)); have G1 : Hid (w.grownBy w1 (some b)) := hid (grown_b (b := b) (grown_none (by repeat (first | exact grown_refl _ _ | refine grown_alloc ?_ _)) g)); have X1 := hid (X0.out.kept g (by simp)); have s1 := g.size; rw [World.size_alloc] at s1; clear g)
    | (go_at_call 43; refine (C43.out _ P1.out).mono ?_; rintro e w2 ⟨rfl, g⟩; have G2 := hid (grown_bb G1.out g); clear g))
  exact ⟨rfl, rfl, G2.out⟩
set_option maxRecDepth 100000 in
set_option maxHeartbeats 4000000 in
theorem constant_bad {b tg cp : Nat} {all : List Tk} {p : Ps} {t : Tk} {r : List Tk} (w : World) (hP : PsA w b tg cp all p) (hw : p.ws = t :: r) (ht : (t.s == [45]) = true) (q : Ps) (hz : passP p = .ok ((), q)) (u : Tk) (r2 : List Tk) (hu : q.ws = u :: r2) (h2 : (u.kind == 2 || u.kind == 3) = false) :
    Calls Tryz.prog 123 #[.pointer (some ⟨b, 0, none⟩)] w (PrP (nV w.heap.size) b tg cp all w (.error (some (u.pl, 110)))) := by
  have hbl := hP.lt
  have htl := hP.tgl
  have X0 := hid (Blk.new w 27 #[.int .i64 0, .int .i64 0, .string ⟨#[]⟩, .int .i64 0, .slice none 0 0])
  have G0 := hid (grown_refl w (some b))
  have P0 := hid hP
  have C39 : Hid (∀ W, w.grownBy W none → Calls Tryz.prog 39 #[.pointer (some ⟨b, 0, none⟩), .string ⟨#[45]⟩] W fun e w' => e = .returned (.bool (t.s == [45])) ∧ W.grownBy w' none) := fun W hW => sees_any [45] W (hP.kept hW) hw
  rw [ht] at C39
  have C43 : Hid (∀ W, PsA W b tg cp all p → Calls Tryz.prog 43 #[.pointer (some ⟨b, 0, none⟩)] W (PrP uV b tg cp all W (.ok ((), q)))) := fun W hW => by rw [← hz]; exact pass_any W hW (by rw [hz]; simp)
  have C38 : Hid (∀ W, PsA W b tg cp all q → Calls Tryz.prog 38 #[.pointer (some ⟨b, 0, none⟩)] W fun e w' => e = .returned (.agg #[.int .i64 u.kind, .string (tkS u), .int .i64 u.pl]) ∧ W.grownBy w' none) := fun W hW => next_any W hW hu
  have f0 := fld0
  have C82 : Hid (∀ W, PsA W b tg cp all q → _) := fun W hW => fail_any 110 W hW hu
  rw [Bool.or_eq_false_iff] at h2
  have k2 : ((u.kind : Int) != 2) = true := by have h := h2.1; rw [beq_eq_false_iff_ne] at h; simp only [bne_iff_ne]; omega
  have k3 : ((u.kind : Int) != 3) = true := by have h := h2.2; rw [beq_eq_false_iff_ne] at h; simp only [bne_iff_ne]; omega
  clear hz hw hP ht hu h2
  generalize (u.kind : Int) = kd at *
  go_enter Tryz.func123, Tryz.ntmps123
  go_wp2_with (first
    | (go_at_call 39; refine (C39.out _ (by repeat (first | exact grown_refl _ _ | refine grown_alloc ?_ _))).mono ?_; rintro e w1 ⟨rfl, g⟩; have P1 := hid (P0.out.kept (grown_none (by repeat (first | exact grown_refl _ _ | refine grown_alloc ?_ _)) g)); have G1 : Hid (w.grownBy w1 (some b)) := hid (grown_b (b := b) (grown_none (by repeat (first | exact grown_refl _ _ | refine grown_alloc ?_ _)) g)); have X1 := hid (X0.out.kept g (by simp)); have s1 := g.size; rw [World.size_alloc] at s1; clear g)
    | (go_at_call 43; refine (C43.out _ P1.out).mono ?_; rintro e w2 ⟨v2, rfl, hv2, pp, g⟩; have hv2' : v2 = .tuple #[] := hv2; subst hv2'; have P2 := hid pp; have G2 := hid (grown_bb G1.out g); have X2 := hid (X1.out.kept g (lt_nb hbl _ (by omega))); have s2 := g.size; clear hv2 pp g)
    | (go_at_call 38; refine (C38.out _ P2.out).mono ?_; rintro e w3 ⟨rfl, g⟩; have P3 := hid (P2.out.kept g); have G3 := hid (grown_none G2.out g); have X3 := hid (X2.out.kept g (by simp)); have s3 := g.size; clear g)
    | (go_at_call 82; refine (C82.out _ P3.out).mono ?_; rintro e w4 ⟨rfl, g⟩; have G4 := hid (grown_bb G3.out (grown_b (b := b) g)); clear g))
  exact ⟨rfl, rfl, G4.out⟩
set_option maxRecDepth 100000 in
set_option maxHeartbeats 4000000 in
theorem constant_lit {b tg cp : Nat} {all : List Tk} {p : Ps} {t : Tk} {r : List Tk} (w : World) (hP : PsA w b tg cp all p) (hw : p.ws = t :: r) (ht : (t.s == [45]) = true) (q : Ps) (hz : passP p = .ok ((), q)) (u : Tk) (r2 : List Tk) (hu : q.ws = u :: r2) (h2 : (u.kind == 2 || u.kind == 3) = true) (at_ n : Nat) (hl : literalP q = .error (some (at_, n))) :
    Calls Tryz.prog 123 #[.pointer (some ⟨b, 0, none⟩)] w (PrP (nV w.heap.size) b tg cp all w (.error (some (at_, n)))) := by
  have hbl := hP.lt
  have htl := hP.tgl
  have X0 := hid (Blk.new w 27 #[.int .i64 0, .int .i64 0, .string ⟨#[]⟩, .int .i64 0, .slice none 0 0])
  have G0 := hid (grown_refl w (some b))
  have P0 := hid hP
  have C39 : Hid (∀ W, w.grownBy W none → Calls Tryz.prog 39 #[.pointer (some ⟨b, 0, none⟩), .string ⟨#[45]⟩] W fun e w' => e = .returned (.bool (t.s == [45])) ∧ W.grownBy w' none) := fun W hW => sees_any [45] W (hP.kept hW) hw
  rw [ht] at C39
  have C43 : Hid (∀ W, PsA W b tg cp all p → Calls Tryz.prog 43 #[.pointer (some ⟨b, 0, none⟩)] W (PrP uV b tg cp all W (.ok ((), q)))) := fun W hW => by rw [← hz]; exact pass_any W hW (by rw [hz]; simp)
  have C38 : Hid (∀ W, PsA W b tg cp all q → Calls Tryz.prog 38 #[.pointer (some ⟨b, 0, none⟩)] W fun e w' => e = .returned (.agg #[.int .i64 u.kind, .string (tkS u), .int .i64 u.pl]) ∧ W.grownBy w' none) := fun W hW => next_any W hW hu
  have f0 := fld0
  have C164 : Hid (∀ W, PsA W b tg cp all q → Calls Tryz.prog 164 #[.pointer (some ⟨b, 0, none⟩)] W (PrP (nV W.heap.size) b tg cp all W (.error (some (at_, n))))) := fun W hW => by rw [← hl]; exact literal_any W hW (by rw [hl]; simp)
  have key : ((u.kind : Int) != 2) = false ∨ (((u.kind : Int) != 2) = true ∧ ((u.kind : Int) != 3) = false) := by
    rw [Bool.or_eq_true, beq_iff_eq, beq_iff_eq] at h2
    rcases h2 with h | h
    · left; rw [h]; rfl
    · right; rw [h]; exact ⟨rfl, rfl⟩
  clear hz hw hP ht hu h2 hl
  generalize (u.kind : Int) = kd at *
  rcases key with k2 | ⟨k2, k3⟩
  all_goals
    go_enter Tryz.func123, Tryz.ntmps123
    go_wp2_with (first
      | (go_at_call 39; refine (C39.out _ (by repeat (first | exact grown_refl _ _ | refine grown_alloc ?_ _))).mono ?_; rintro e w1 ⟨rfl, g⟩; have P1 := hid (P0.out.kept (grown_none (by repeat (first | exact grown_refl _ _ | refine grown_alloc ?_ _)) g)); have G1 : Hid (w.grownBy w1 (some b)) := hid (grown_b (b := b) (grown_none (by repeat (first | exact grown_refl _ _ | refine grown_alloc ?_ _)) g)); have X1 := hid (X0.out.kept g (by simp)); have s1 := g.size; rw [World.size_alloc] at s1; clear g)
      | (go_at_call 43; refine (C43.out _ P1.out).mono ?_; rintro e w2 ⟨v2, rfl, hv2, pp, g⟩; have hv2' : v2 = .tuple #[] := hv2; subst hv2'; have P2 := hid pp; have G2 := hid (grown_bb G1.out g); have X2 := hid (X1.out.kept g (lt_nb hbl _ (by omega))); have s2 := g.size; clear hv2 pp g)
      | (go_at_call 38; refine (C38.out _ P2.out).mono ?_; rintro e w3 ⟨rfl, g⟩; have P3 := hid (P2.out.kept g); have G3 := hid (grown_none G2.out g); have X3 := hid (X2.out.kept g (by simp)); have s3 := g.size; clear g)
      | (go_at_call 164; refine (C164.out _ P3.out).mono ?_; rintro e w4 ⟨rfl, g⟩; have G4 := hid (grown_bb G3.out g); clear g))
    exact ⟨rfl, rfl, G4.out⟩
theorem xor_top (n : Int) (h0 : 0 ≤ n) (h1 : n ≤ 9223372036854775807) : bits .xor .i64 n (-9223372036854775808) = n - 9223372036854775808 := by
  obtain ⟨m, rfl⟩ := Int.eq_ofNat_of_zero_le h0
  have hm : m < 2 ^ 63 := by omega
  have a1 : (BitVec.ofInt 64 (m : Int)).toNat = m := by
    rw [BitVec.ofInt_natCast, BitVec.toNat_ofNat]; exact Nat.mod_eq_of_lt (by omega)
  have a2 : (BitVec.ofInt 64 (-9223372036854775808)).toNat = 2 ^ 63 := by decide
  have a3 : m ^^^ 2 ^ 63 = m + 2 ^ 63 := by
    have h1 := Nat.two_pow_add_eq_or_of_lt hm 1
    rw [Nat.mul_one] at h1
    rw [Nat.add_comm, h1]
    apply Nat.eq_of_testBit_eq
    intro i
    rw [Nat.testBit_xor, Nat.testBit_or, Nat.testBit_two_pow]
    by_cases hi : 63 = i
    · subst hi
      rw [Nat.testBit_lt_two_pow hm]
      simp
    · simp [hi]
  show IntKind.i64.wrap ((BitVec.ofInt 64 (m : Int) ^^^ BitVec.ofInt 64 (-9223372036854775808)).toNat : Int) = _
  rw [BitVec.toNat_xor, a1, a2, a3, IntKind.wrap_i64]
  omega
set_option maxRecDepth 100000 in
set_option maxHeartbeats 4000000 in
theorem constant_int {b tg cp : Nat} {all : List Tk} {p : Ps} {t : Tk} {r : List Tk} (w : World) (hP : PsA w b tg cp all p) (hw : p.ws = t :: r) (ht : (t.s == [45]) = true) (q : Ps) (hz : passP p = .ok ((), q)) (u : Tk) (r2 : List Tk) (hu : q.ws = u :: r2) (h2 : u.kind = 2) (tx : ByteArray) (an : Int) (q2 : Ps) (hl : literalP q = .ok (Nd.mk 20 0 tx an [], q2)) (l0 : 0 ≤ an) (l1 : an ≤ 9223372036854775807) :
    Calls Tryz.prog 123 #[.pointer (some ⟨b, 0, none⟩)] w (PrP (nV w.heap.size) b tg cp all w (.ok (Nd.mk 20 0 tx (- an) [], q2))) := by
  have hbl := hP.lt
  have htl := hP.tgl
  have X0 := hid (Blk.new w 27 #[.int .i64 0, .int .i64 0, .string ⟨#[]⟩, .int .i64 0, .slice none 0 0])
  have G0 := hid (grown_refl w (some b))
  have P0 := hid hP
  have C39 : Hid (∀ W, w.grownBy W none → Calls Tryz.prog 39 #[.pointer (some ⟨b, 0, none⟩), .string ⟨#[45]⟩] W fun e w' => e = .returned (.bool (t.s == [45])) ∧ W.grownBy w' none) := fun W hW => sees_any [45] W (hP.kept hW) hw
  rw [ht] at C39
  have C43 : Hid (∀ W, PsA W b tg cp all p → Calls Tryz.prog 43 #[.pointer (some ⟨b, 0, none⟩)] W (PrP uV b tg cp all W (.ok ((), q)))) := fun W hW => by rw [← hz]; exact pass_any W hW (by rw [hz]; simp)
  have C38 : Hid (∀ W, PsA W b tg cp all q → Calls Tryz.prog 38 #[.pointer (some ⟨b, 0, none⟩)] W fun e w' => e = .returned (.agg #[.int .i64 u.kind, .string (tkS u), .int .i64 u.pl]) ∧ W.grownBy w' none) := fun W hW => next_any W hW hu
  have f0 := fld0
  have C164 : Hid (∀ W, PsA W b tg cp all q → Calls Tryz.prog 164 #[.pointer (some ⟨b, 0, none⟩)] W (PrP (nV W.heap.size) b tg cp all W (.ok (Nd.mk 20 0 tx an [], q2)))) := fun W hW => by rw [← hl]; exact literal_any W hW (by rw [hl]; simp)
  have k2 : ((u.kind : Int) != 2) = false := by rw [h2]; rfl
  have EN := hid (And.intro (show wrap64 (- an) = - an by unfold wrap64; omega) trivial)
  clear hz hw hP ht hu h2 hl l0 l1
  generalize (u.kind : Int) = kd at *
  go_enter Tryz.func123, Tryz.ntmps123
  go_wp2_with (first
    | (go_at_call 39; refine (C39.out _ (by repeat (first | exact grown_refl _ _ | refine grown_alloc ?_ _))).mono ?_; rintro e w1 ⟨rfl, g⟩; have P1 := hid (P0.out.kept (grown_none (by repeat (first | exact grown_refl _ _ | refine grown_alloc ?_ _)) g)); have G1 : Hid (w.grownBy w1 (some b)) := hid (grown_b (b := b) (grown_none (by repeat (first | exact grown_refl _ _ | refine grown_alloc ?_ _)) g)); have X1 := hid (X0.out.kept g (by simp)); have s1 := g.size; rw [World.size_alloc] at s1; clear g)
    | (go_at_call 43; refine (C43.out _ P1.out).mono ?_; rintro e w2 ⟨v2, rfl, hv2, pp, g⟩; have hv2' : v2 = .tuple #[] := hv2; subst hv2'; have P2 := hid pp; have G2 := hid (grown_bb G1.out g); have X2 := hid (X1.out.kept g (lt_nb hbl _ (by omega))); have s2 := g.size; clear hv2 pp g)
    | (go_at_call 38; refine (C38.out _ P2.out).mono ?_; rintro e w3 ⟨rfl, g⟩; have P3 := hid (P2.out.kept g); have G3 := hid (grown_none G2.out g); have X3 := hid (X2.out.kept g (by simp)); have s3 := g.size; clear g)
    | (go_at_call 164; refine (C164.out _ P3.out).mono ?_; rintro e w4 ⟨v4, rfl, hv4, pp, g⟩; obtain ⟨qs4, rfl, hk⟩ := hv4; obtain ⟨ps4, cs4, rfl, _, _, _⟩ := hk.form; have P4 := hid pp; have K4 := hid hk; have G4 := hid (grown_bb G3.out g); have X4 := hid (X3.out.kept g (lt_nb hbl _ (by omega))); have s4 := g.size; clear pp g hk)
    | (refine store_nd (.tmp 2) (.tmp 36) rfl rfl w.heap.size (X4.out.alloc _) rfl rfl ?_; intro w9 b9 g9; have Z9 := hid b9; have G9 := hid (grown_to (Loc.grown G4.out ((Loc.refl _ w4).alloc _)) g9 (Nat.le_refl _)); have P9 := hid ((P4.out.kept (grown_alloc (grown_refl w4 none) _)).keptG g9 (by omega) (by omega)); have K9 := hid ((K4.out.kept (grown_alloc (grown_refl w4 none) _)).keptB g9 (by omega)); clear b9 g9))
  refine bodyPost_ret (results_nd rfl _ _ w.heap.size rfl Z9.out) rfl ?_
  rw [← EN.out.1]
  exact ⟨_, rfl, ⟨_, rfl, K9.out.mono (fun g hg _ => by have h5 : w3.heap.size ≤ g := hg; omega)⟩, P9.out, G9.out⟩
set_option maxRecDepth 100000 in
set_option maxHeartbeats 4000000 in
theorem constant_float {b tg cp : Nat} {all : List Tk} {p : Ps} {t : Tk} {r : List Tk} (w : World) (hP : PsA w b tg cp all p) (hw : p.ws = t :: r) (ht : (t.s == [45]) = true) (q : Ps) (hz : passP p = .ok ((), q)) (u : Tk) (r2 : List Tk) (hu : q.ws = u :: r2) (h2 : u.kind = 3) (tx : ByteArray) (an : Int) (q2 : Ps) (hl : literalP q = .ok (Nd.mk 21 0 tx an [], q2)) (l0 : 0 ≤ an) (l1 : an ≤ 9223372036854775807) :
    Calls Tryz.prog 123 #[.pointer (some ⟨b, 0, none⟩)] w (PrP (nV w.heap.size) b tg cp all w (.ok (Nd.mk 21 0 tx (an - 9223372036854775808) [], q2))) := by
  have hbl := hP.lt
  have htl := hP.tgl
  have X0 := hid (Blk.new w 27 #[.int .i64 0, .int .i64 0, .string ⟨#[]⟩, .int .i64 0, .slice none 0 0])
  have G0 := hid (grown_refl w (some b))
  have P0 := hid hP
  have C39 : Hid (∀ W, w.grownBy W none → Calls Tryz.prog 39 #[.pointer (some ⟨b, 0, none⟩), .string ⟨#[45]⟩] W fun e w' => e = .returned (.bool (t.s == [45])) ∧ W.grownBy w' none) := fun W hW => sees_any [45] W (hP.kept hW) hw
  rw [ht] at C39
  have C43 : Hid (∀ W, PsA W b tg cp all p → Calls Tryz.prog 43 #[.pointer (some ⟨b, 0, none⟩)] W (PrP uV b tg cp all W (.ok ((), q)))) := fun W hW => by rw [← hz]; exact pass_any W hW (by rw [hz]; simp)
  have C38 : Hid (∀ W, PsA W b tg cp all q → Calls Tryz.prog 38 #[.pointer (some ⟨b, 0, none⟩)] W fun e w' => e = .returned (.agg #[.int .i64 u.kind, .string (tkS u), .int .i64 u.pl]) ∧ W.grownBy w' none) := fun W hW => next_any W hW hu
  have f0 := fld0
  have C164 : Hid (∀ W, PsA W b tg cp all q → Calls Tryz.prog 164 #[.pointer (some ⟨b, 0, none⟩)] W (PrP (nV W.heap.size) b tg cp all W (.ok (Nd.mk 21 0 tx an [], q2)))) := fun W hW => by rw [← hl]; exact literal_any W hW (by rw [hl]; simp)
  have k2 : ((u.kind : Int) != 2) = true := by rw [h2]; rfl
  have k3 : ((u.kind : Int) != 3) = false := by rw [h2]; rfl
  have EN := hid (And.intro (xor_top an l0 l1) trivial)
  clear hz hw hP ht hu h2 hl l0 l1
  generalize (u.kind : Int) = kd at *
  go_enter Tryz.func123, Tryz.ntmps123
  go_wp2_with (first
    | (go_at_call 39; refine (C39.out _ (by repeat (first | exact grown_refl _ _ | refine grown_alloc ?_ _))).mono ?_; rintro e w1 ⟨rfl, g⟩; have P1 := hid (P0.out.kept (grown_none (by repeat (first | exact grown_refl _ _ | refine grown_alloc ?_ _)) g)); have G1 : Hid (w.grownBy w1 (some b)) := hid (grown_b (b := b) (grown_none (by repeat (first | exact grown_refl _ _ | refine grown_alloc ?_ _)) g)); have X1 := hid (X0.out.kept g (by simp)); have s1 := g.size; rw [World.size_alloc] at s1; clear g)
    | (go_at_call 43; refine (C43.out _ P1.out).mono ?_; rintro e w2 ⟨v2, rfl, hv2, pp, g⟩; have hv2' : v2 = .tuple #[] := hv2; subst hv2'; have P2 := hid pp; have G2 := hid (grown_bb G1.out g); have X2 := hid (X1.out.kept g (lt_nb hbl _ (by omega))); have s2 := g.size; clear hv2 pp g)
    | (go_at_call 38; refine (C38.out _ P2.out).mono ?_; rintro e w3 ⟨rfl, g⟩; have P3 := hid (P2.out.kept g); have G3 := hid (grown_none G2.out g); have X3 := hid (X2.out.kept g (by simp)); have s3 := g.size; clear g)
    | (go_at_call 164; refine (C164.out _ P3.out).mono ?_; rintro e w4 ⟨v4, rfl, hv4, pp, g⟩; obtain ⟨qs4, rfl, hk⟩ := hv4; obtain ⟨ps4, cs4, rfl, _, _, _⟩ := hk.form; have P4 := hid pp; have K4 := hid hk; have G4 := hid (grown_bb G3.out g); have X4 := hid (X3.out.kept g (lt_nb hbl _ (by omega))); have s4 := g.size; clear pp g hk)
    | (refine store_nd (.tmp 2) (.tmp 36) rfl rfl w.heap.size (X4.out.alloc _) rfl rfl ?_; intro w9 b9 g9; have Z9 := hid b9; have G9 := hid (grown_to (Loc.grown G4.out ((Loc.refl _ w4).alloc _)) g9 (Nat.le_refl _)); have P9 := hid ((P4.out.kept (grown_alloc (grown_refl w4 none) _)).keptG g9 (by omega) (by omega)); have K9 := hid ((K4.out.kept (grown_alloc (grown_refl w4 none) _)).keptB g9 (by omega)); clear b9 g9))
  refine bodyPost_ret (results_nd rfl _ _ w.heap.size rfl Z9.out) rfl ?_
  rw [← EN.out.1]
  exact ⟨_, rfl, ⟨_, rfl, K9.out.mono (fun g hg _ => by have h5 : w3.heap.size ≤ g := hg; omega)⟩, P9.out, G9.out⟩
theorem literal_of {p q : Ps} {t : Tk} {r : List Tk} {a : Nd} (hw : p.ws = t :: r) (h : literalP p = .ok (a, q)) (hk : (t.kind == 2 || t.kind == 3) = true) : (t.kind = 2 ∧ ∃ n : Int, a = .mk 20 0 ⟨#[]⟩ n [] ∧ 0 ≤ n ∧ n ≤ 9223372036854775807) ∨ (t.kind = 3 ∧ ∃ (s : ByteArray) (n : Int), a = .mk 21 0 s n [] ∧ 0 ≤ n ∧ n ≤ 9223372036854775807) := by
  rw [literal_eq hw] at h
  by_cases h1 : (t.kind == 2) = true
  · rw [if_pos h1] at h
    by_cases h2 : okI t.s = true
    · rw [if_pos h2] at h
      left
      refine ⟨by rw [beq_iff_eq] at h1; exact h1, (digF 0 t.s : Nat), ?_, by omega, ?_⟩
      · cases hp : passP p with
        | ok x =>
          rw [bnd_ok (a := x.1) (q := x.2) hp] at h
          exact made_ok h
        | error e =>
          rw [bnd_err hp] at h
          cases h
      · unfold okI at h2
        rw [Bool.and_eq_true, Bool.and_eq_true, Bool.and_eq_true, decide_eq_true_eq, decide_eq_true_eq] at h2
        have := h2.1.2
        omega
    · rw [if_neg h2] at h
      cases h
  · rw [if_neg h1] at h
    rw [Bool.not_eq_true] at h1
    rw [h1, Bool.false_or] at hk
    rw [if_pos hk] at h
    by_cases h3 : okFl t.s = true
    · rw [if_pos h3] at h
      right
      obtain ⟨q1, q2, q3, q4, q5⟩ := okFl_parts h3
      refine ⟨by rw [beq_iff_eq] at hk; exact hk, ⟨(ahD (t.s.takeWhile dgt) ++ 46 :: beD ((t.s.dropWhile dgt).drop 1)).toArray⟩, (quoD (digF 0 (ahD (t.s.takeWhile dgt) ++ beD ((t.s.dropWhile dgt).drop 1))) (beD ((t.s.dropWhile dgt).drop 1)).length : Nat), ?_, by omega, ?_⟩
      · cases hp : passP p with
        | ok x =>
          rw [bnd_ok (a := x.1) (q := x.2) hp] at h
          exact made_ok h
        | error e =>
          rw [bnd_err hp] at h
          cases h
      · have e1 := Dg.orN_len (Dg.trimR ((t.s.dropWhile dgt).drop 1))
        have e2 := Dg.orN_le (Dg.trimR ((t.s.dropWhile dgt).drop 1)) 8 (by omega) (Nat.le_trans (Dg.trimR_len _) q5)
        have e3 := (Dg.quo_is (digF 0 (ahD (t.s.takeWhile dgt) ++ beD ((t.s.dropWhile dgt).drop 1))) (beD ((t.s.dropWhile dgt).drop 1)).length e1 e2).2.2
        have e4 : quoD (digF 0 (ahD (t.s.takeWhile dgt) ++ beD ((t.s.dropWhile dgt).drop 1))) (beD ((t.s.dropWhile dgt).drop 1)).length < 9223372036854775808 := e3
        omega
    · rw [if_neg h3] at h
      cases h
theorem constant_any {b tg cp : Nat} {all : List Tk} {p : Ps} (w : World) (hP : PsA w b tg cp all p) (hx : constantP p ≠ .error none) :
    Calls Tryz.prog 123 #[.pointer (some ⟨b, 0, none⟩)] w (PrP (nV w.heap.size) b tg cp all w (constantP p)) := by
  match hw : p.ws with
  | [] => exact absurd (by unfold constantP; rw [bnd_err (sees_nil [45] hw)]) hx
  | t :: r =>
    cases ht : (t.s == [45]) with
    | false =>
      have e : constantP p = literalP p := by
        unfold constantP
        rw [bnd_ok (sees_eq [45] hw), ht]
        rfl
      rw [e] at hx ⊢
      exact constant_plain w hP hw ht hx
    | true =>
      have e : constantP p = (passP >>= fun _ => nxt >>= fun u => if u.kind == 2 || u.kind == 3 then (literalP >>= fun n => if n.kind == 21 then pure (.mk 21 0 n.txt (if n.num < 0 then n.num + 9223372036854775808 else n.num - 9223372036854775808) []) else pure (.mk n.kind 0 n.txt (- n.num) [])) else failP 110) p := by
        unfold constantP
        rw [bnd_ok (sees_eq [45] hw), ht]
        rfl
      rw [e] at hx ⊢
      clear e
      rcases hz : passP p with e0 | ⟨y, q⟩
      · rw [bnd_err hz] at hx ⊢
        rcases e0 with _ | ⟨at_, n⟩
        · exact absurd rfl hx
        · exact constant_over w hP hw ht at_ n hz
      · rw [bnd_ok hz] at hx ⊢
        match hu : q.ws with
        | [] =>
          rw [bnd_err (nxt_nil hu)] at hx
          exact absurd rfl hx
        | u :: r2 =>
          rw [bnd_ok (nxt_eq hu)] at hx ⊢
          by_cases hk : (u.kind == 2 || u.kind == 3) = true
          · rw [if_pos hk] at hx ⊢
            rcases hl : literalP q with e0 | ⟨a, q2⟩
            · rw [bnd_err hl] at hx ⊢
              rcases e0 with _ | ⟨at_, n⟩
              · exact absurd rfl hx
              · exact constant_lit w hP hw ht q hz u r2 hu hk at_ n hl
            · rw [bnd_ok hl] at hx ⊢
              rcases literal_of hu hl hk with ⟨k2, n, rfl, n0, n1⟩ | ⟨k3, s, n, rfl, n0, n1⟩
              · exact constant_int w hP hw ht q hz u r2 hu k2 _ n q2 hl n0 n1
              · have h := constant_float w hP hw ht q hz u r2 hu k3 s n q2 hl n0 n1
                have e2 : (if (Nd.mk 21 0 s n []).num < 0 then (Nd.mk 21 0 s n []).num + 9223372036854775808 else (Nd.mk 21 0 s n []).num - 9223372036854775808) = n - 9223372036854775808 := if_neg (by show ¬ n < 0; omega)
                rw [if_pos (by rfl), e2]
                exact h
          · rw [if_neg hk] at hx ⊢
            rw [fail_eq 110 hu]
            exact constant_bad w hP hw ht q hz u r2 hu (by simpa using hk)
end Pm
end Go.Proofs.YtajoncmmdeahnaaGreatDoor
