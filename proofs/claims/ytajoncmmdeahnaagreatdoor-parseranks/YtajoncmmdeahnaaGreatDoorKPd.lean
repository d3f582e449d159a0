/-
  A row of names with signs between them, parsed. The parser's small steps: name, typed, open, shut.
-/
import Derived.Test.YtajoncmmdeahnaaGreatDoorKRa
import Derived.Test.YtajoncmmdeahnaaGreatDoorPc
namespace Go.Proofs.YtajoncmmdeahnaaGreatDoor
namespace Rk
open Pm
theorem climb_suffix : ∀ (f low : Nat) (n : Nd) (l : List It), ∃ pre, l = pre ++ (climb f low n l).2
  | 0, _, _, l => ⟨[], rfl⟩
  | _ + 1, _, _, [] => ⟨[], rfl⟩
  | f + 1, low, n, x :: r => by
    unfold climb
    by_cases h : low ≤ rank x
    · rw [if_pos h]
      obtain ⟨p1, e1⟩ := climb_suffix f (rank x + 1) (vN x.2) r
      obtain ⟨p2, e2⟩ := climb_suffix f low (bN x.1 n (climb f (rank x + 1) (vN x.2) r).1) (climb f (rank x + 1) (vN x.2) r).2
      exact ⟨x :: p1 ++ p2, by rw [List.append_assoc, ← e2, List.cons_append, ← e1]⟩
    · rw [if_neg h]
      exact ⟨[], rfl⟩
def Ahead : List It → List Tk → List Tk → Prop
  | [], ws, tail => ws = tail
  | x :: r, ws, tail => ∃ t u ws', ws = t :: u :: ws' ∧ t.s = x.1 ∧ u.s = x.2 ∧ u.kind = 1 ∧ Ahead r ws' tail
theorem Ahead.len : ∀ {l : List It} {ws tail : List Tk}, Ahead l ws tail → l.length + tail.length ≤ ws.length
  | [], ws, tail, h => by
    have h : ws = tail := h
    rw [h]; simp
  | x :: r, ws, tail, ⟨t, u, ws', e, _, _, _, h⟩ => by
    have := h.len
    rw [e]
    simp only [List.length_cons]
    omega
def nameOk (s : List UInt8) : Bool := !(s == [45]) && !(s == [33]) && !(s == [40]) && !(s == wInt) && !(s == wFloat)
structure Good (p : Ps) (l : List It) : Prop where
  over : p.over = false
  nodes : p.nodes + 2 * l.length ≤ 1000
theorem pass_good {p : Ps} {t : Tk} {r : List Tk} (hw : p.ws = t :: r) (ho : p.over = false) : passP p = .ok ((), { p with ws := r }) := by
  unfold passP
  rw [hw]
  simp only []
  rw [ho]
  rfl
theorem made_good (n : Nd) {p : Ps} (h : p.nodes < 2000) : madeP n p = .ok (n, { p with nodes := p.nodes + 1 }) := by
  rw [made_eq, if_pos (by omega)]
  have e : decide (2000 ≤ p.nodes) = false := decide_eq_false (by omega)
  rw [e]
  rfl
theorem oper_name (R : Rc) {p : Ps} {t u : Tk} {r : List Tk} (hw : p.ws = t :: u :: r) (hk : t.kind = 1) (hn : nameOk t.s = true) (hu : (u.s == [40]) = false) (ho : p.over = false) (hd : p.nodes < 2000) :
    operP R p = .ok (vN t.s, { p with ws := u :: r, nodes := p.nodes + 1 }) := by
  unfold nameOk at hn
  simp only [Bool.and_eq_true, Bool.not_eq_true'] at hn
  obtain ⟨⟨⟨⟨n1, n2⟩, n3⟩, n4⟩, n5⟩ := hn
  unfold operP
  rw [bnd_ok (nxt_eq hw), n1, n2, n3, n4, n5, if_neg (by decide), if_neg (by decide), if_neg (by decide), if_pos (by rw [hk]; rfl)]
  unfold variableOrCallP
  have e1 : nameP p = .ok (tkS t, { p with ws := u :: r }) := by
    unfold nameP
    rw [bnd_ok (nxt_eq hw), if_pos (by rw [hk]; rfl), bnd_ok (pass_good hw ho)]
    rfl
  rw [bnd_ok e1, bnd_ok (sees_eq [40] (p := { p with ws := u :: r }) rfl), hu, if_neg (by decide), made_good _ (p := { p with ws := u :: r }) hd]
  rfl
theorem rank_call {s : List UInt8} (h : 1 ≤ rankN s) : (s == [40]) = false := by
  cases e : (s == [40]) with
  | false => rfl
  | true =>
    rw [beq_iff_eq] at e
    rw [e] at h
    exact absurd h (by decide)
theorem Ahead.head {l : List It} {ws tail : List Tk} {t0 : Tk} {tl : List Tk} (h : Ahead l ws tail) (ht : tail = t0 :: tl) (h0 : (t0.s == [40]) = false) (hl : ∀ x ∈ l, 1 ≤ rank x) : ∃ t r, ws = t :: r ∧ (t.s == [40]) = false := by
  cases l with
  | nil =>
    have h : ws = tail := h
    exact ⟨t0, tl, h.trans ht, h0⟩
  | cons x r =>
    obtain ⟨t, u, ws', e, e1, _⟩ := h
    exact ⟨t, u :: ws', e, by rw [e1]; exact rank_call (hl x (List.mem_cons_self ..))⟩
theorem exprL_is {tail : List Tk} {t0 : Tk} {tl : List Tk} (ht : tail = t0 :: tl) (h0 : (t0.s == [40]) = false) (h1 : rankN t0.s = 0) :
    ∀ (f j low k : Nat) (n : Nd) (l : List It) (p : Ps), l.length ≤ f → f + 1 ≤ j → 1 ≤ low → l.length < k → Ahead l p.ws tail → (∀ x ∈ l, 1 ≤ rank x ∧ nameOk x.2 = true) → Good p l →
      ∃ p', exprL (rc j) low k n p = .ok ((climb f low n l).1, p') ∧ Ahead (climb f low n l).2 p'.ws tail ∧ Good p' (climb f low n l).2 ∧ p'.depth = p.depth ∧ p'.nodes + 2 * (climb f low n l).2.length ≤ p.nodes + 2 * l.length
  | f, j, low, 0, n, l, p, _, _, _, hk, _, _, _ => absurd hk (Nat.not_lt_zero _)
  | 0, j, low, k + 1, n, l, p, hl, _, hlow, _, hA, _, hG => by
    obtain rfl : l = [] := List.length_eq_zero_iff.1 (by omega)
    have hA : p.ws = tail := hA
    refine ⟨p, ?_, hA, hG, rfl, Nat.le_refl _⟩
    unfold exprL
    rw [bnd_ok (nxt_eq (hA.trans ht)), if_neg (by omega)]
    rfl
  | f + 1, j, low, k + 1, n, [], p, hl, _, hlow, _, hA, _, hG => by
    have hA : p.ws = tail := hA
    refine ⟨p, ?_, hA, hG, rfl, Nat.le_refl _⟩
    unfold exprL
    rw [bnd_ok (nxt_eq (hA.trans ht)), if_neg (by omega)]
    rfl
  | f + 1, j, low, k + 1, n, x :: r, p, hl, hj, hlow, hk, hA, hI, hG => by
    have hA0 := hA
    obtain ⟨t, u, ws', e, e1, e2, e3, hA'⟩ := hA
    rw [List.length_cons] at hl hk
    unfold exprL climb
    rw [bnd_ok (nxt_eq e), e1]
    by_cases hx : low ≤ rank x
    · rw [if_pos hx, if_pos (show low ≤ rankN x.1 from hx), bnd_ok (pass_good e hG.over)]
      obtain ⟨t1, r1, w1, hc⟩ := hA'.head ht h0 (fun y hy => (hI y (List.mem_cons_of_mem _ hy)).1)
      have hn := hG.nodes
      rw [List.length_cons] at hn
      obtain ⟨i, rfl⟩ : ∃ i, j = i + 2 := ⟨j - 2, by omega⟩
      have ho := oper_name (rc i) (p := { p with ws := u :: ws' }) (t := u) (u := t1) (r := r1) (by rw [w1]) e3 (by rw [e2]; exact (hI x (List.mem_cons_self ..)).2) hc hG.over (show p.nodes < 2000 by omega)
      rw [e2] at ho
      obtain ⟨q, c1, c2, c3, c4, c5⟩ := exprL_is ht h0 h1 f (i + 1) (rank x + 1) ((t1 :: r1).length + 1) (vN x.2) r { p with ws := t1 :: r1, nodes := p.nodes + 1 } (by omega) (by omega) (by omega) (by
        have := hA'.len
        rw [w1] at this
        omega) (by rw [w1] at hA'; exact hA') (fun y hy => hI y (List.mem_cons_of_mem _ hy)) ⟨hG.over, by show p.nodes + 1 + 2 * r.length ≤ 1000; omega⟩
      have hE : (rc (i + 2)).expr (rankN x.1 + 1) { p with ws := u :: ws' } = .ok ((climb f (rank x + 1) (vN x.2) r).1, q) := by
        show exprP (rc (i + 1)) (rankN x.1 + 1) { p with ws := u :: ws' } = _
        unfold exprP
        rw [bnd_ok (show (rc (i + 1)).oper { p with ws := u :: ws' } = _ from ho)]
        exact c1
      rw [bnd_ok hE]
      obtain ⟨pre, hpre⟩ := climb_suffix f (rank x + 1) (vN x.2) r
      have hlen : (climb f (rank x + 1) (vN x.2) r).2.length ≤ r.length := by
        have := congrArg List.length hpre
        rw [List.length_append] at this
        omega
      have c5' : q.nodes + 2 * (climb f (rank x + 1) (vN x.2) r).2.length ≤ p.nodes + 1 + 2 * r.length := c5
      rw [bnd_ok (made_good _ (by have := c3.nodes; omega))]
      have et : tkS t = ⟨x.1.toArray⟩ := by unfold tkS; rw [e1]
      rw [et]
      obtain ⟨q2, d1, d2, d3, d4, d5⟩ := exprL_is ht h0 h1 f (i + 2) low k (bN x.1 n (climb f (rank x + 1) (vN x.2) r).1) (climb f (rank x + 1) (vN x.2) r).2 { q with nodes := q.nodes + 1 } (by omega) (by omega) hlow (by omega) c2
        (fun y hy => hI y (List.mem_cons_of_mem _ (by rw [hpre]; exact List.mem_append_right _ hy))) ⟨c3.over, by show q.nodes + 1 + _ ≤ 1000; omega⟩
      have d5' : q2.nodes + 2 * _ ≤ q.nodes + 1 + 2 * (climb f (rank x + 1) (vN x.2) r).2.length := d5
      exact ⟨q2, d1, d2, d3, d4.trans c4, by rw [List.length_cons]; omega⟩
    · rw [if_neg hx, if_neg (show ¬ low ≤ rankN x.1 from hx)]
      exact ⟨p, rfl, hA0, hG, rfl, Nat.le_refl _⟩
theorem expr_row {tail : List Tk} {t0 : Tk} {tl : List Tk} (ht : tail = t0 :: tl) (h0 : (t0.s == [40]) = false) (h1 : rankN t0.s = 0) (j : Nat) (a : Tk) (l : List It) (p : Ps) (ws : List Tk) (hw : p.ws = a :: ws) (ha : a.kind = 1) (hn : nameOk a.s = true) (hj : l.length + 3 ≤ j)
    (hA : Ahead l ws tail) (hI : ∀ x ∈ l, 1 ≤ rank x ∧ nameOk x.2 = true) (ho : p.over = false) (hnd : p.nodes + 1 + 2 * l.length ≤ 1000) :
    ∃ p', (rc j).expr 1 p = .ok (cutT a.s l, p') ∧ p'.ws = tail ∧ p'.depth = p.depth ∧ p'.over = false ∧ p'.nodes ≤ p.nodes + 1 + 2 * l.length := by
  obtain ⟨i, rfl⟩ : ∃ i, j = i + 2 := ⟨j - 2, by omega⟩
  obtain ⟨t1, r1, w1, hc⟩ := hA.head ht h0 (fun y hy => (hI y hy).1)
  have hop := oper_name (rc i) (p := p) (t := a) (u := t1) (r := r1) (by rw [hw, w1]) ha hn hc ho (by omega)
  obtain ⟨q, c1, c2, c3, c4, c5⟩ := exprL_is ht h0 h1 l.length (i + 1) 1 ((t1 :: r1).length + 1) (vN a.s) l { p with ws := t1 :: r1, nodes := p.nodes + 1 } (Nat.le_refl _) (by omega) (Nat.le_refl _) (by
    have := hA.len
    rw [w1] at this
    omega) (by rw [w1] at hA; exact hA) hI ⟨ho, hnd⟩
  rw [climb_all 1 a.s l (fun u hu => (hI u hu).1) l.length (Nat.le_refl _)] at c1 c2 c3 c5
  refine ⟨q, ?_, c2, c4, c3.over, by have c5' : q.nodes + 2 * 0 ≤ p.nodes + 1 + 2 * l.length := c5; omega⟩
  show exprP (rc (i + 1)) 1 p = _
  unfold exprP
  rw [bnd_ok (show (rc (i + 1)).oper p = _ from hop)]
  exact c1
end Rk
end Go.Proofs.YtajoncmmdeahnaaGreatDoor
namespace Go.Proofs.YtajoncmmdeahnaaGreatDoor
open Go.RowKit
namespace Pm
structure Loc (n : Nat) (w W : World) : Prop where
  os : W.os = w.os
  tape : W.tape = w.tape
  output : W.output = w.output
  size : w.heap.size ≤ W.heap.size
  block : ∀ k, k < n → k < w.heap.size → W.heap[k]? = w.heap[k]?
theorem Loc.refl (n : Nat) (w : World) : Loc n w w := ⟨rfl, rfl, rfl, Nat.le_refl _, fun _ _ _ => rfl⟩
theorem Loc.alloc {n : Nat} {w W : World} (h : Loc n w W) (o : Obj) : Loc n w (W.alloc o) := by
  have g := grown_alloc (grown_refl W none) o
  exact ⟨g.os.trans h.os, g.tape.trans h.tape, g.output.trans h.output, Nat.le_trans h.size g.size, fun k h1 h2 => (g.block k (Nat.lt_of_lt_of_le h2 h.size) (by simp)).trans (h.block k h1 h2)⟩
theorem Loc.by {n : Nat} {w W W' : World} {r : Option Nat} (h : Loc n w W) (g : W.grownBy W' r) (hr : ∀ k, r = some k → n ≤ k) : Loc n w W' :=
  ⟨g.os.trans h.os, g.tape.trans h.tape, g.output.trans h.output, Nat.le_trans h.size g.size, fun k h1 h2 => (g.block k (Nat.lt_of_lt_of_le h2 h.size) (fun e => by have := hr k e.symm; omega)).trans (h.block k h1 h2)⟩
theorem Loc.quiet {n : Nat} {w W W' : World} (h : Loc n w W) (g : W.grownBy W' none) : Loc n w W' := h.by g (by simp)
theorem PsA.loc {n : Nat} {w W : World} {b tg cp : Nat} {all : List Tk} {p : Ps} (h : PsA w b tg cp all p) (hl : Loc n w W) (hb : b < n) (ht : tg < n) : PsA W b tg cp all p := by
  have hbl := h.lt
  have htl := h.tgl
  obtain ⟨i, pa, q1, q2, q3, q4, q5, q6, q7, q8, q9⟩ := h
  exact ⟨i, pa, q1, q2, q3, q4, q5, (hl.block b hb hbl).trans q6, q7, q8.kept (hl.block tg ht htl), q9.below (fun i hi hs => hl.block i (Nat.lt_trans hi hb) hs)⟩
theorem Loc.grown {w w1 W : World} {b : Nat} (h : w.grownBy w1 (some b)) (hl : Loc w.heap.size w1 W) : w.grownBy W (some b) :=
  ⟨hl.os.trans h.os, hl.tape.trans h.tape, hl.output.trans h.output, Nat.le_trans h.size hl.size, fun i hi hn => (hl.block i hi (Nat.lt_of_lt_of_le hi h.size)).trans (h.block i hi hn)⟩
set_option maxRecDepth 100000 in
theorem name_any {b tg cp : Nat} {all : List Tk} {p : Ps} (w : World) (hP : PsA w b tg cp all p) (hx : nameP p ≠ .error none) :
    Calls Tryz.prog 121 #[.pointer (some ⟨b, 0, none⟩)] w (PrP sV b tg cp all w (nameP p)) := by
  match hw : p.ws with
  | [] => exact absurd (by unfold nameP; rw [bnd_err (nxt_nil hw)]) hx
  | t :: r =>
    have C38 := hid (next_any w hP hw)
    rw [name_eq hw] at hx ⊢
    have hl := hP.lt
    have B1 : Hid (∀ (w1 : World) (x : Value), Blk (w1.alloc (.cells #[x, .string (tkS t), .int .i64 t.pl] 88)) w1.heap.size 88 #[x, .string (tkS t), .int .i64 t.pl]) := fun w1 x => Blk.new w1 88 _
    cases hq : (t.kind == 1) with
    | false =>
      have hk : ¬ ((t.kind : Int) = 1) := by
        intro h
        have : t.kind = 1 := by omega
        rw [this] at hq
        cases hq
      have C82 : Hid (∀ W, w.grownBy W none → _) := fun W hW => fail_any 110 W (hP.kept hW) hw
      rw [if_neg (by decide)]
      clear hx hw hP hq B1
      go_enter Tryz.func121, Tryz.ntmps121
      go_wp2_with (first
        | (go_at_call 38; refine C38.out.mono ?_; rintro e w1 ⟨rfl, g1⟩; have G1 := hid g1; clear g1 C38)
        | (go_at_call 82; refine (C82.out _ (grown_alloc G1.out _)).mono ?_; rintro e w2 ⟨rfl, g2⟩; have G2 := hid (grown_none (grown_alloc G1.out _) g2); clear g2 C82))
      exact ⟨rfl, rfl, grown_b G2.out⟩
    | true =>
      have hk : (t.kind : Int) = 1 := by
        have : t.kind = 1 := by simpa using hq
        omega
      rw [hq, if_pos rfl] at hx
      rw [if_pos rfl]
      have hx2 : passP p ≠ .error none := fun h => by rw [h] at hx; exact hx rfl
      have C43 : Hid (∀ W, w.grownBy W none → _) := fun W hW => pass_any W (hP.kept hW) hx2
      clear hw hP hq
      rcases hz : passP p with e0 | ⟨u, q⟩
      · rcases e0 with _ | ⟨at_, n⟩
        · exact absurd hz hx2
        · rw [hz] at C43
          clear hx hx2 hz B1
          go_enter Tryz.func121, Tryz.ntmps121
          go_wp2_with (first
            | (go_at_call 38; refine C38.out.mono ?_; rintro e w1 ⟨rfl, g1⟩; have G1 := hid g1; clear g1 C38)
            | (go_at_call 43; refine (C43.out _ (grown_alloc G1.out _)).mono ?_; rintro e w2 ⟨rfl, g2⟩; have G2 := hid (grown_bb (grown_b (grown_alloc G1.out _)) g2); clear g2 C43))
          exact ⟨rfl, rfl, G2.out⟩
      · rw [hz] at C43
        clear hx hx2 hz
        go_enter Tryz.func121, Tryz.ntmps121
        go_wp2_with (first
          | (go_at_call 38; refine C38.out.mono ?_; rintro e w1 ⟨rfl, g1⟩; have G1 := hid g1; clear g1 C38)
          | (go_at_call 43; (refine (C43.out _ (grown_alloc G1.out _)).mono ?_; rintro e w2 ⟨v, rfl, rfl, p2, g2⟩; have P2 := hid p2; have b2 := (B1.out w1 _).kept g2 (lt_nb hl _ G1.out.size); have y1 := b2.cell 1; simp at y1; have G2 := hid (grown_bb (grown_b (grown_alloc G1.out _)) g2); clear p2 g2 C43 b2)))
        go_ret
        exact ⟨_, rfl, rfl, P2.out, G2.out⟩
set_option maxRecDepth 100000 in
theorem shut_any {b tg cp : Nat} {all : List Tk} {p : Ps} (s : List UInt8) (w : World) (hP : PsA w b tg cp all p) (hx : shutP s p ≠ .error none) :
    Calls Tryz.prog 167 #[.pointer (some ⟨b, 0, none⟩), .string ⟨s.toArray⟩] w (PrP uV b tg cp all w (shutP s p)) := by
  have hx2 : wantP s p ≠ .error none := fun h => hx (by unfold shutP; rw [bnd_err h])
  have C120 := hid (want_any s w hP hx2)
  clear hP
  rcases hz : wantP s p with e0 | ⟨u, q⟩
  · have e1 : shutP s p = .error e0 := by unfold shutP; rw [bnd_err hz]
    rcases e0 with _ | ⟨at_, n⟩
    · exact absurd hz hx2
    · rw [hz] at C120
      rw [e1]
      clear hx hx2 hz e1
      go_enter Tryz.func167, Tryz.ntmps167
      go_wp2_with (first
        | (go_at_call 120; refine C120.out.mono ?_; rintro e w2 ⟨rfl, g2⟩; have G2 := hid g2; clear g2 C120))
      exact ⟨rfl, rfl, G2.out⟩
  · have e1 : shutP s p = higher q := by unfold shutP; rw [bnd_ok hz]
    rw [hz] at C120
    rw [e1] at hx ⊢
    unfold higher at hx ⊢
    by_cases hd : 1 ≤ q.depth ∧ q.depth ≤ 1000001
    · rw [if_pos hd]
      clear hx hx2 hz e1
      have wi : IntKind.i64.wrap ((q.depth : Int) - 1) = (q.depth : Int) - 1 := by rw [IntKind.wrap_i64]; omega
      have ez : Hid (((q.depth - 1 : Nat) : Int) = (q.depth : Int) - 1 ∧ True) := ⟨by omega, trivial⟩
      clear hd
      go_enter Tryz.func167, Tryz.ntmps167
      go_wp2_with (first
        | (go_at_call 120; refine C120.out.mono ?_; rintro e w2 ⟨v, rfl, rfl, p2, g2⟩; have G2 := hid g2; obtain ⟨sl, hB, ⟨pb, n2, c2, rfl⟩, hK⟩ := p2.blk; have d2 := hB.cell 2; simp at d2; have fz := hB.frozen 2; have P4 : Hid (PsA (w2.setCell ⟨b, 2, none⟩ (.int .i64 ((q.depth : Int) - 1))) b tg cp all { q with depth := q.depth - 1 }) := hid (hK _ { q with depth := q.depth - 1 } rfl (by have h := hB.set 2 (.int .i64 ((q.depth : Int) - 1)); show Blk _ b 55 #[_, _, .int .i64 ((q.depth - 1 : Nat) : Int), _]; rw [ez.out.1]; simpa using h) (grown_set (grown_refl w2 (some b)) _ _)); clear p2 g2 C120 hB hK))
      go_end0
      exact ⟨_, rfl, rfl, P4.out, grown_set G2.out _ _⟩
    · rw [if_neg hd] at hx
      exact absurd rfl hx
set_option maxRecDepth 100000 in
theorem open_any {b tg cp : Nat} {all : List Tk} {p : Ps} (s : List UInt8) (w : World) (hP : PsA w b tg cp all p) (hx : openP s p ≠ .error none) :
    Calls Tryz.prog 165 #[.pointer (some ⟨b, 0, none⟩), .string ⟨s.toArray⟩] w (PrP uV b tg cp all w (openP s p)) := by
  rw [open_eq] at hx ⊢
  by_cases hd : p.depth ≤ 1000000
  · rw [if_pos hd] at hx ⊢
    have C40 : Hid (Calls Tryz.prog 40 #[.pointer (some ⟨b, 0, none⟩), .int .i64 p.depth, .int .i64 (40 : Nat)] w (PrP uV b tg cp all w (.ok ((), overIf (decide (40 ≤ p.depth)) p)))) := by
      rw [← room_eq]
      exact hid (room_any p.depth 40 w hP)
    obtain ⟨sl0, hB0, ⟨pb0, n0, c0, rfl⟩, _⟩ := hP.blk
    have c2' := hB0.cell 2
    simp at c2'
    have hod := over_depth (decide (40 ≤ p.depth)) p
    generalize overIf (decide (40 ≤ p.depth)) p = p1 at *
    have wi : IntKind.i64.wrap ((p.depth : Int) + 1) = (p.depth : Int) + 1 := by rw [IntKind.wrap_i64]; omega
    generalize p.depth = dp at *
    have C120 : Hid (∀ W, PsA W b tg cp all { p1 with depth := dp + 1 } → _) := fun W hW => want_any s W hW hx
    clear hB0 hP hd
    rcases hz : wantP s { p1 with depth := dp + 1 } with e0 | ⟨u, q⟩
    · rcases e0 with _ | ⟨at_, n⟩
      · exact absurd hz hx
      · rw [hz] at C120
        clear hx hz
        go_enter Tryz.func165, Tryz.ntmps165
        go_wp2_with (first
          | (go_at_call 40; refine C40.out.mono ?_; rintro e w2 ⟨v, rfl, rfl, p2, g2⟩; have G2 := hid g2; obtain ⟨sl, hB, ⟨pb, n2, c2, rfl⟩, hK⟩ := p2.blk; have d2 := hB.cell 2; simp at d2; rw [hod] at d2; have fz := hB.frozen 2; have P4 : Hid (PsA (w2.setCell ⟨b, 2, none⟩ (.int .i64 ((dp : Int) + 1))) b tg cp all { p1 with depth := dp + 1 }) := hid (hK _ { p1 with depth := dp + 1 } rfl (by have h := hB.set 2 (.int .i64 ((dp : Int) + 1)); simpa using h) (grown_set (grown_refl w2 (some b)) _ _)); have G4 := hid (grown_set G2.out 2 (.int .i64 ((dp : Int) + 1))); clear p2 g2 C40 hB hK)
          | (go_at_call 120; refine (C120.out _ P4.out).mono ?_; rintro e w5 ⟨rfl, g5⟩; have G5 := hid (grown_bb G4.out g5); clear g5 C120))
        exact ⟨rfl, rfl, G5.out⟩
    · rw [hz] at C120
      clear hx hz
      go_enter Tryz.func165, Tryz.ntmps165
      go_wp2_with (first
        | (go_at_call 40; refine C40.out.mono ?_; rintro e w2 ⟨v, rfl, rfl, p2, g2⟩; have G2 := hid g2; obtain ⟨sl, hB, ⟨pb, n2, c2, rfl⟩, hK⟩ := p2.blk; have d2 := hB.cell 2; simp at d2; rw [hod] at d2; have fz := hB.frozen 2; have P4 : Hid (PsA (w2.setCell ⟨b, 2, none⟩ (.int .i64 ((dp : Int) + 1))) b tg cp all { p1 with depth := dp + 1 }) := hid (hK _ { p1 with depth := dp + 1 } rfl (by have h := hB.set 2 (.int .i64 ((dp : Int) + 1)); simpa using h) (grown_set (grown_refl w2 (some b)) _ _)); have G4 := hid (grown_set G2.out 2 (.int .i64 ((dp : Int) + 1))); clear p2 g2 C40 hB hK)
        | (go_at_call 120; refine (C120.out _ P4.out).mono ?_; rintro e w5 ⟨v, rfl, rfl, p5, g5⟩; have P5 := hid p5; have G5 := hid (grown_bb G4.out g5); clear p5 g5 C120))
      go_end0
      exact ⟨_, rfl, rfl, P5.out, G5.out⟩
  · rw [if_neg hd] at hx
    exact absurd rfl hx
end Pm
end Go.Proofs.YtajoncmmdeahnaaGreatDoor
