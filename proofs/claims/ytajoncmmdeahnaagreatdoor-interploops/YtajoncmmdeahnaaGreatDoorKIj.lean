/-
  The interpreter: a kid of a placed node; what holds within a method over a node. The interpreter: an expression. The interpreter: a block. The interpreter: two branches. The interpreter: a loop. The interpreter: a sign between two expressions.
-/
import Derived.Test.YtajoncmmdeahnaaGreatDoorKIf
import Derived.Test.YtajoncmmdeahnaaGreatDoorKVf
namespace Go.Proofs.YtajoncmmdeahnaaGreatDoor
open Go.RowKit
namespace Ip
def ndC (x : Pd) (q : Value) : Array Value := #[.int .i64 x.kind, .int .i64 x.ty, .string x.txt, .int .i64 x.num, .slice none 0 0, .string x.nm, .int .i64 x.pl, q]
structure Fm (X : Xm) (E : Env) (d c nm : Nat) (w0 : World) (x : Pd) (q : Value) (w : World) (st : Ms) : Prop where
  h0 : ∃ st0, CaA w0 X E d c nm st0
  a : CaA w X E d c nm st
  f : FrM X c nm w0 w
  b : Blk w w0.heap.size 121 (ndC x q)
  k : KsP w (PX X) q x.kids
section
variable {X : Xm} {E : Env} {d c nm : Nat} {w0 w w' : World} {x : Pd} {q : Value} {st st' : Ms}
theorem Fm.start (hA : CaA w0 X E d c nm st) (hk : KsP w0 (PX X) q x.kids) : Fm X E d c nm w0 x q (w0.alloc (.cells (ndC x q) 121)) st := by
  have G := grown_alloc (grown_refl w0 none) (.cells (ndC x q) 121)
  exact ⟨⟨_, hA⟩, hA.kept G, FrM.nil G, Blk.new w0 121 (ndC x q), KsP.fr hk (Kp.of_none _ G)⟩
theorem Fm.grow (h : Fm X E d c nm w0 x q w st) (hg : w.grownBy w' none) : Fm X E d c nm w0 x q w' st :=
  ⟨h.h0, h.a.kept hg, h.f.trans (FrM.nil hg), h.b.kept hg (by simp), KsP.fr h.k (Kp.of_none _ hg)⟩
theorem Fm.call (h : Fm X E d c nm w0 x q w st) (hA : CaA w' X E d c nm st') (hF : FrM X c nm w w') : Fm X E d c nm w0 x q w' st' := by
  obtain ⟨s0, h0⟩ := h.h0
  exact ⟨h.h0, hA, h.f.trans hF, FrM.newk h0 hF (Nat.le_refl _) h.b, KsP.fr h.k (h.a.px hF)⟩
theorem Fm.keep (h : Fm X E d c nm w0 x q w st) (hF : FrM X c nm w w') {b : Nat} (hb : w0.heap.size ≤ b) {t : TypeId} {cs : Array Value} (hB : Blk w b t cs) : Blk w' b t cs := by
  obtain ⟨s0, h0⟩ := h.h0
  exact FrM.newk h0 hF hb hB
theorem Fm.wrote (h : Fm X E d c nm w0 x q w st) {r : Nat} (hr : w0.heap.size < r) (hg : w.grownBy w' (some r)) : Fm X E d c nm w0 x q w' st := by
  obtain ⟨s0, h0⟩ := h.h0
  have hn := (h0.new (Nat.le_of_lt hr)).2.2.2.2.2.2
  exact ⟨h.h0, h0.wrote h.a (Nat.le_of_lt hr) hg, h.f.wrote (Nat.le_of_lt hr) hg, h.b.kept hg (fun e => by injection e with e; omega), KsP.fr h.k (Kp.of_grown hg (fun b hb e => by injection e with e; have := hb.2; omega))⟩
theorem Fm.at (h : Fm X E d c nm w0 x q w st) : w.cell? ⟨c, 0, none⟩ = some (.pointer (some ⟨X.m, 0, none⟩)) ∧ w.cell? ⟨c, 1, none⟩ = some (.int .i64 d) ∧ w.cell? ⟨c, 2, none⟩ = some (.map (some nm)) := by
  have h0 := h.a.ca.blk.cell 0
  have h1 := h.a.ca.blk.cell 1
  have h2 := h.a.ca.blk.cell 2
  simp at h0 h1 h2
  exact ⟨h0, h1, h2⟩
theorem Fm.cells (h : Fm X E d c nm w0 x q w st) : w.cell? ⟨w0.heap.size, 0, none⟩ = some (.int .i64 x.kind) ∧ w.cell? ⟨w0.heap.size, 1, none⟩ = some (.int .i64 x.ty) ∧ w.cell? ⟨w0.heap.size, 2, none⟩ = some (.string x.txt) ∧ w.cell? ⟨w0.heap.size, 3, none⟩ = some (.int .i64 x.num)
    ∧ w.cell? ⟨w0.heap.size, 4, none⟩ = some (.slice none 0 0) ∧ w.cell? ⟨w0.heap.size, 5, none⟩ = some (.string x.nm) ∧ w.cell? ⟨w0.heap.size, 6, none⟩ = some (.int .i64 x.pl) ∧ w.cell? ⟨w0.heap.size, 7, none⟩ = some q := by
  have h0 := h.b.cell 0
  have h1 := h.b.cell 1
  have h2 := h.b.cell 2
  have h3 := h.b.cell 3
  have h4 := h.b.cell 4
  have h5 := h.b.cell 5
  have h6 := h.b.cell 6
  have h7 := h.b.cell 7
  exact ⟨h0, h1, h2, h3, h4, h5, h6, h7⟩
end
end Ip
end Go.Proofs.YtajoncmmdeahnaaGreatDoor
namespace Go.Proofs.YtajoncmmdeahnaaGreatDoor
open Go.RowKit
namespace Ip
theorem KsP.kid {w : World} {P : Nat → Prop} {q : Value} {ks : List Pd} (h : KsP w P q ks) (i : Nat) (y : Pd) (hy : ks[i]? = some y) : ∃ g cap qy, q = .slice (some ⟨g, 0, none⟩) ks.length cap ∧ i < ks.length ∧ ks.length ≤ cap ∧ cap ≤ maxLen ∧ P g
    ∧ (w.cell? ⟨g, 8 * i, none⟩ = some (.int .i64 y.kind) ∧ w.cell? ⟨g, 8 * i + 1, none⟩ = some (.int .i64 y.ty) ∧ w.cell? ⟨g, 8 * i + 2, none⟩ = some (.string y.txt) ∧ w.cell? ⟨g, 8 * i + 3, none⟩ = some (.int .i64 y.num) ∧ w.cell? ⟨g, 8 * i + 4, none⟩ = some (.slice none 0 0) ∧ w.cell? ⟨g, 8 * i + 5, none⟩ = some (.string y.nm) ∧ w.cell? ⟨g, 8 * i + 6, none⟩ = some (.int .i64 y.pl) ∧ w.cell? ⟨g, 8 * i + 7, none⟩ = some qy) ∧ KsP w P qy y.kids := by
  obtain ⟨p, cap, rfl, h1, h2, _⟩ := h.form
  obtain ⟨hi, rfl⟩ := List.getElem?_eq_some_iff.1 hy
  obtain ⟨g, rfl, hg, hat⟩ := h.at i hi
  obtain ⟨qy, c0, c1, c2, c3, c4, c5, c6, c7, hk⟩ := hat.cells
  exact ⟨g, cap, qy, rfl, hi, h1, h2, hg, ⟨c0, c1, c2, c3, c4, c5, c6, c7⟩, hk⟩
def exprT (L : Fl) (E : Env) (R : Rc) (d : Nat) (n : Pd) : In V :=
  if n.kind = 23 then varM n.txt
  else if n.kind = 24 then calledM E R d n
  else if n.kind = 25 then kidM n 0 (R.ex d) >>= fun v => resM (unM L n.txt.data.toList v)
  else if n.kind = 26 then betweenM L R d n
  else if n.kind = 27 then kidM n 0 (R.ex d) >>= fun v => resM (convM L n.ty v) >>= fun r => needM r.2 >>= fun _ => pure r.1
  else pure (n.ty, n.num)
theorem exprT_23 (L : Fl) (E : Env) (R : Rc) (d : Nat) (n : Pd) (h : n.kind = 23) : exprT L E R d n = varM n.txt := by
  unfold exprT
  rw [if_pos h]
theorem exprT_24 (L : Fl) (E : Env) (R : Rc) (d : Nat) (n : Pd) (h : n.kind = 24) : exprT L E R d n = calledM E R d n := by
  unfold exprT
  rw [if_neg (by omega), if_pos h]
theorem exprT_25 (L : Fl) (E : Env) (R : Rc) (d : Nat) (n : Pd) (h : n.kind = 25) : exprT L E R d n = (kidM n 0 (R.ex d) >>= fun v => resM (unM L n.txt.data.toList v)) := by
  unfold exprT
  rw [if_neg (by omega), if_neg (by omega), if_pos h]
theorem exprT_26 (L : Fl) (E : Env) (R : Rc) (d : Nat) (n : Pd) (h : n.kind = 26) : exprT L E R d n = betweenM L R d n := by
  unfold exprT
  rw [if_neg (by omega), if_neg (by omega), if_neg (by omega), if_pos h]
theorem exprT_27 (L : Fl) (E : Env) (R : Rc) (d : Nat) (n : Pd) (h : n.kind = 27) : exprT L E R d n = (kidM n 0 (R.ex d) >>= fun v => resM (convM L n.ty v) >>= fun r => needM r.2 >>= fun _ => pure r.1) := by
  unfold exprT
  rw [if_neg (by omega), if_neg (by omega), if_neg (by omega), if_neg (by omega), if_pos h]
theorem exprT_lit (L : Fl) (E : Env) (R : Rc) (d : Nat) (n : Pd) (h : ¬ (n.kind = 23 ∨ n.kind = 24 ∨ n.kind = 25 ∨ n.kind = 26 ∨ n.kind = 27)) : exprT L E R d n = pure (n.ty, n.num) := by
  unfold exprT
  rw [if_neg (by omega), if_neg (by omega), if_neg (by omega), if_neg (by omega), if_neg (by omega)]
theorem resM_ne {α : Type} {o : Option α} {s : Ms} (h : resM o s ≠ .error none) : ∃ r, o = some r := by
  cases o with
  | none => exact absurd rfl h
  | some r => exact ⟨r, rfl⟩
theorem kidM_ne {α : Type} {n : Pd} {i : Nat} {f : Pd → In α} {s : Ms} (h : kidM n i f s ≠ .error none) : ∃ y, n.kids[i]? = some y ∧ kidM n i f = f y := by
  unfold kidM at h ⊢
  cases hy : n.kids[i]? with
  | none => rw [hy] at h; exact absurd rfl h
  | some y => exact ⟨y, rfl, rfl⟩
theorem Fm.two {X : Xm} {E : Env} {d c nm : Nat} {w0 w : World} {x : Pd} {q : Value} {st : Ms} (h : Fm X E d c nm w0 x q w st) (a b : Value) : CaA ((w.setCell ⟨w0.heap.size + 1, 0, none⟩ a).setCell ⟨w0.heap.size + 1, 1, none⟩ b) X E d c nm st ∧ FrM X c nm w0 ((w.setCell ⟨w0.heap.size + 1, 0, none⟩ a).setCell ⟨w0.heap.size + 1, 1, none⟩ b) :=
  have h2 := h.wrote (Nat.lt_succ_self _) (grown_set (grown_set (grown_refl w (some (w0.heap.size + 1))) 0 a) 1 b)
  ⟨h2.a, h2.f⟩
theorem exprM_eq (L : Fl) (E : Env) (R : Rc) (d : Nat) (n : Pd) : exprM L E R d n = stepM E n >>= fun _ => exprT L E R d n := rfl
set_option maxRecDepth 100000 in
set_option maxHeartbeats 40000000 in
theorem ex_23 {X : Xm} {L : Fl} {E : Env} {R : Rc} {d c nm : Nat} (x : Pd) (q : Value) (w : World) (st : Ms) (hA : CaA w X E d c nm st) (hk : KsP w (PX X) q x.kids) (hx : exprM L E R d x st ≠ .error none) (hkd : x.kind = 23) :
    Calls Tryz.prog 151 #[.pointer (some ⟨c, 0, none⟩), ndV x q] w (InP vV X E d c nm w (exprM L E R d x st)) := by
  have hM0 := (Fm.start hA hk).grow (grown_alloc (grown_refl _ none) (.cells #[.int .i64 0, .int .i64 0] 115))
  have hB0 : Blk ((w.alloc (.cells (ndC x q) 121)).alloc (.cells #[.int .i64 0, .int .i64 0] 115)) (w.heap.size + 1) 115 #[.int .i64 0, .int .i64 0] := by simpa using Blk.new (w.alloc (.cells (ndC x q) 121)) 115 #[.int .i64 0, .int .i64 0]
  unfold ndC at hM0 hB0
  have M0 := hid hM0
  have B0 := hid hB0
  have HX := hid hx
  have KD := hid hkd
  unfold ndV
  clear hM0 hB0 hx hA hk hkd
  go_enter Tryz.func151, Tryz.ntmps151
  go_wp2_with fail
  generalize (w.alloc (Obj.cells #[Value.int IntKind.i64 x.kind, Value.int IntKind.i64 x.ty, Value.string x.txt, Value.int IntKind.i64 x.num, Value.slice none 0 0, Value.string x.nm, Value.int IntKind.i64 x.pl, q] 121)).alloc (Obj.cells #[Value.int IntKind.i64 0, Value.int IntKind.i64 0] 115) = wa at *
  have D0 := hid (M0.out.grow (grown_drew (grown_refl wa none)))
  have E0 := hid (B0.out.kept (grown_drew (grown_refl wa none)) (by simp))
  obtain ⟨a0, a1, a2⟩ := M0.out.at
  obtain ⟨n0, n1, n2, n3, n4, n5, n6, n7⟩ := M0.out.cells
  go_region_law (go_simp; go_at_call 107; refine (step_any x q _ st D0.out.a (bnd_ne HX.out)).mono ?_; intro e w1 hh; rcases InP.cases hh (bnd_ne HX.out) with ⟨n, s1, hz, rfl, hM, hF⟩ | ⟨_, s1, hz, rfl, hA1, hF⟩; (case inl => exact ⟨rfl, by rw [exprM_eq, bnd_err hz]; exact ⟨rfl, hM, D0.out.f.trans hF⟩⟩); have HZ1 := hid (And.intro hz trivial); have M1 := hid (D0.out.call hA1 hF); have B1 := hid (D0.out.keep hF (Nat.le_add_right _ 1) E0.out); have HN1 : Hid (exprT L E R d x s1 ≠ .error none) := hid (by have h := HX.out; rw [exprM_eq, bnd_ok hz] at h; exact h); clear a0 a1 a2 n0 n1 n2 n3 n4 n5 n6 n7 hz hA1 hF hh; obtain ⟨a0, a1, a2⟩ := M1.out.at; obtain ⟨n0, n1, n2, n3, n4, n5, n6, n7⟩ := M1.out.cells; rw [KD.out] at n0)
  all_goals
    have hT := exprT_23 L E R d x KD.out
    have HN2 : Hid (varM x.txt s1 ≠ .error none) := hid (by have h := HN1.out; rw [hT] at h; exact h)
    go_wp2_with (first
      | (go_simp; go_at_call 183; refine (var_any x.txt _ s1 M1.out.a HN2.out).mono ?_; intro e w2 hh; rcases InP.cases hh HN2.out with ⟨n, s9, hz, rfl, hM, hF⟩ | ⟨v, s2, hz, rfl, hA2, hF⟩; (case inl => exact ⟨rfl, by rw [exprM_eq, bnd_ok HZ1.out.1, hT, hz]; exact ⟨rfl, hM, M1.out.f.trans hF⟩⟩); have HZ2 := hid (And.intro hT hz); have B2 := hid (M1.out.keep hF (Nat.le_add_right _ 1) B1.out); have M2 := hid (M1.out.call hA2 hF); obtain ⟨c0, c1, f0, f1⟩ := Vl.two_cells B2.out; unfold vV; clear a0 a1 a2 n0 n1 n2 n3 n4 n5 n6 n7 hz hA2 hF hh hT))
    obtain ⟨z0, z1, _, _⟩ := Vl.two_cells (Vl.blk_two B2.out (.int .i64 v.1) (.int .i64 v.2))
    refine bodyPost_ret (v := vV v) (by simp [vV, results, Tryz.results151, go_sem, z0, z1]) rfl ?_
    rw [exprM_eq, bnd_ok HZ1.out.1, HZ2.out.1, HZ2.out.2]
    exact ⟨rfl, M2.out.two _ _⟩
set_option maxRecDepth 100000 in
set_option maxHeartbeats 40000000 in
theorem ex_24 {X : Xm} {L : Fl} {E : Env} {R : Rc} {d c nm : Nat} (h184 : MeC X E 184 vV (calledM E R)) (x : Pd) (q : Value) (w : World) (st : Ms) (hA : CaA w X E d c nm st) (hk : KsP w (PX X) q x.kids) (hx : exprM L E R d x st ≠ .error none) (hkd : x.kind = 24) :
    Calls Tryz.prog 151 #[.pointer (some ⟨c, 0, none⟩), ndV x q] w (InP vV X E d c nm w (exprM L E R d x st)) := by
  have hM0 := (Fm.start hA hk).grow (grown_alloc (grown_refl _ none) (.cells #[.int .i64 0, .int .i64 0] 115))
  have hB0 : Blk ((w.alloc (.cells (ndC x q) 121)).alloc (.cells #[.int .i64 0, .int .i64 0] 115)) (w.heap.size + 1) 115 #[.int .i64 0, .int .i64 0] := by simpa using Blk.new (w.alloc (.cells (ndC x q) 121)) 115 #[.int .i64 0, .int .i64 0]
  unfold ndC at hM0 hB0
  have M0 := hid hM0
  have B0 := hid hB0
  have HX := hid hx
  have KD := hid hkd
  unfold ndV
  clear hM0 hB0 hx hA hk hkd
  go_enter Tryz.func151, Tryz.ntmps151
  go_wp2_with fail
  generalize (w.alloc (Obj.cells #[Value.int IntKind.i64 x.kind, Value.int IntKind.i64 x.ty, Value.string x.txt, Value.int IntKind.i64 x.num, Value.slice none 0 0, Value.string x.nm, Value.int IntKind.i64 x.pl, q] 121)).alloc (Obj.cells #[Value.int IntKind.i64 0, Value.int IntKind.i64 0] 115) = wa at *
  have D0 := hid (M0.out.grow (grown_drew (grown_refl wa none)))
  have E0 := hid (B0.out.kept (grown_drew (grown_refl wa none)) (by simp))
  obtain ⟨a0, a1, a2⟩ := M0.out.at
  obtain ⟨n0, n1, n2, n3, n4, n5, n6, n7⟩ := M0.out.cells
  go_region_law (go_simp; go_at_call 107; refine (step_any x q _ st D0.out.a (bnd_ne HX.out)).mono ?_; intro e w1 hh; rcases InP.cases hh (bnd_ne HX.out) with ⟨n, s1, hz, rfl, hM, hF⟩ | ⟨_, s1, hz, rfl, hA1, hF⟩; (case inl => exact ⟨rfl, by rw [exprM_eq, bnd_err hz]; exact ⟨rfl, hM, D0.out.f.trans hF⟩⟩); have HZ1 := hid (And.intro hz trivial); have M1 := hid (D0.out.call hA1 hF); have B1 := hid (D0.out.keep hF (Nat.le_add_right _ 1) E0.out); have HN1 : Hid (exprT L E R d x s1 ≠ .error none) := hid (by have h := HX.out; rw [exprM_eq, bnd_ok hz] at h; exact h); clear a0 a1 a2 n0 n1 n2 n3 n4 n5 n6 n7 hz hA1 hF hh; obtain ⟨a0, a1, a2⟩ := M1.out.at; obtain ⟨n0, n1, n2, n3, n4, n5, n6, n7⟩ := M1.out.cells; rw [KD.out] at n0)
  all_goals
    have hT := exprT_24 L E R d x KD.out
    have HN2 : Hid (calledM E R d x s1 ≠ .error none) := hid (by have h := HN1.out; rw [hT] at h; exact h)
    go_wp2_with (first
      | (go_simp; go_at_call 184; refine Vl.calls_at (args := #[.pointer (some ⟨c, 0, none⟩), ndV x q]) (by unfold ndV; rw [KD.out]) ?_; refine (h184 d x q c nm _ s1 M1.out.a M1.out.k HN2.out).mono ?_; intro e w2 hh; rcases InP.cases hh HN2.out with ⟨n, s9, hz, rfl, hM, hF⟩ | ⟨v, s2, hz, rfl, hA2, hF⟩; (case inl => exact ⟨rfl, by rw [exprM_eq, bnd_ok HZ1.out.1, hT, hz]; exact ⟨rfl, hM, M1.out.f.trans hF⟩⟩); have HZ2 := hid (And.intro hT hz); have B2 := hid (M1.out.keep hF (Nat.le_add_right _ 1) B1.out); have M2 := hid (M1.out.call hA2 hF); obtain ⟨c0, c1, f0, f1⟩ := Vl.two_cells B2.out; unfold vV; clear a0 a1 a2 n0 n1 n2 n3 n4 n5 n6 n7 hz hA2 hF hh hT))
    obtain ⟨z0, z1, _, _⟩ := Vl.two_cells (Vl.blk_two B2.out (.int .i64 v.1) (.int .i64 v.2))
    refine bodyPost_ret (v := vV v) (by simp [vV, results, Tryz.results151, go_sem, z0, z1]) rfl ?_
    rw [exprM_eq, bnd_ok HZ1.out.1, HZ2.out.1, HZ2.out.2]
    exact ⟨rfl, M2.out.two _ _⟩
set_option maxRecDepth 100000 in
set_option maxHeartbeats 40000000 in
theorem ex_26 {X : Xm} {L : Fl} {E : Env} {R : Rc} {d c nm : Nat} (h186 : MeC X E 186 vV (betweenM L R)) (x : Pd) (q : Value) (w : World) (st : Ms) (hA : CaA w X E d c nm st) (hk : KsP w (PX X) q x.kids) (hx : exprM L E R d x st ≠ .error none) (hkd : x.kind = 26) :
    Calls Tryz.prog 151 #[.pointer (some ⟨c, 0, none⟩), ndV x q] w (InP vV X E d c nm w (exprM L E R d x st)) := by
  have hM0 := (Fm.start hA hk).grow (grown_alloc (grown_refl _ none) (.cells #[.int .i64 0, .int .i64 0] 115))
  have hB0 : Blk ((w.alloc (.cells (ndC x q) 121)).alloc (.cells #[.int .i64 0, .int .i64 0] 115)) (w.heap.size + 1) 115 #[.int .i64 0, .int .i64 0] := by simpa using Blk.new (w.alloc (.cells (ndC x q) 121)) 115 #[.int .i64 0, .int .i64 0]
  unfold ndC at hM0 hB0
  have M0 := hid hM0
  have B0 := hid hB0
  have HX := hid hx
  have KD := hid hkd
  unfold ndV
  clear hM0 hB0 hx hA hk hkd
  go_enter Tryz.func151, Tryz.ntmps151
  go_wp2_with fail
  generalize (w.alloc (Obj.cells #[Value.int IntKind.i64 x.kind, Value.int IntKind.i64 x.ty, Value.string x.txt, Value.int IntKind.i64 x.num, Value.slice none 0 0, Value.string x.nm, Value.int IntKind.i64 x.pl, q] 121)).alloc (Obj.cells #[Value.int IntKind.i64 0, Value.int IntKind.i64 0] 115) = wa at *
  have D0 := hid (M0.out.grow (grown_drew (grown_refl wa none)))
  have E0 := hid (B0.out.kept (grown_drew (grown_refl wa none)) (by simp))
  obtain ⟨a0, a1, a2⟩ := M0.out.at
  obtain ⟨n0, n1, n2, n3, n4, n5, n6, n7⟩ := M0.out.cells
  go_region_law (go_simp; go_at_call 107; refine (step_any x q _ st D0.out.a (bnd_ne HX.out)).mono ?_; intro e w1 hh; rcases InP.cases hh (bnd_ne HX.out) with ⟨n, s1, hz, rfl, hM, hF⟩ | ⟨_, s1, hz, rfl, hA1, hF⟩; (case inl => exact ⟨rfl, by rw [exprM_eq, bnd_err hz]; exact ⟨rfl, hM, D0.out.f.trans hF⟩⟩); have HZ1 := hid (And.intro hz trivial); have M1 := hid (D0.out.call hA1 hF); have B1 := hid (D0.out.keep hF (Nat.le_add_right _ 1) E0.out); have HN1 : Hid (exprT L E R d x s1 ≠ .error none) := hid (by have h := HX.out; rw [exprM_eq, bnd_ok hz] at h; exact h); clear a0 a1 a2 n0 n1 n2 n3 n4 n5 n6 n7 hz hA1 hF hh; obtain ⟨a0, a1, a2⟩ := M1.out.at; obtain ⟨n0, n1, n2, n3, n4, n5, n6, n7⟩ := M1.out.cells; rw [KD.out] at n0)
  all_goals
    have hT := exprT_26 L E R d x KD.out
    have HN2 : Hid (betweenM L R d x s1 ≠ .error none) := hid (by have h := HN1.out; rw [hT] at h; exact h)
    go_wp2_with (first
      | (go_simp; go_at_call 186; refine Vl.calls_at (args := #[.pointer (some ⟨c, 0, none⟩), ndV x q]) (by unfold ndV; rw [KD.out]) ?_; refine (h186 d x q c nm _ s1 M1.out.a M1.out.k HN2.out).mono ?_; intro e w2 hh; rcases InP.cases hh HN2.out with ⟨n, s9, hz, rfl, hM, hF⟩ | ⟨v, s2, hz, rfl, hA2, hF⟩; (case inl => exact ⟨rfl, by rw [exprM_eq, bnd_ok HZ1.out.1, hT, hz]; exact ⟨rfl, hM, M1.out.f.trans hF⟩⟩); have HZ2 := hid (And.intro hT hz); have B2 := hid (M1.out.keep hF (Nat.le_add_right _ 1) B1.out); have M2 := hid (M1.out.call hA2 hF); obtain ⟨c0, c1, f0, f1⟩ := Vl.two_cells B2.out; unfold vV; clear a0 a1 a2 n0 n1 n2 n3 n4 n5 n6 n7 hz hA2 hF hh hT))
    obtain ⟨z0, z1, _, _⟩ := Vl.two_cells (Vl.blk_two B2.out (.int .i64 v.1) (.int .i64 v.2))
    refine bodyPost_ret (v := vV v) (by simp [vV, results, Tryz.results151, go_sem, z0, z1]) rfl ?_
    rw [exprM_eq, bnd_ok HZ1.out.1, HZ2.out.1, HZ2.out.2]
    exact ⟨rfl, M2.out.two _ _⟩
set_option maxRecDepth 100000 in
set_option maxHeartbeats 40000000 in
theorem ex_25 {X : Xm} {L : Fl} {E : Env} {R : Rc} {d c nm : Nat} (hL : FlC L) (hE : MeC X E 151 vV R.ex) (x : Pd) (q : Value) (w : World) (st : Ms) (hA : CaA w X E d c nm st) (hk : KsP w (PX X) q x.kids) (hx : exprM L E R d x st ≠ .error none) (hkd : x.kind = 25) :
    Calls Tryz.prog 151 #[.pointer (some ⟨c, 0, none⟩), ndV x q] w (InP vV X E d c nm w (exprM L E R d x st)) := by
  have hM0 := (Fm.start hA hk).grow (grown_alloc (grown_refl _ none) (.cells #[.int .i64 0, .int .i64 0] 115))
  have hB0 : Blk ((w.alloc (.cells (ndC x q) 121)).alloc (.cells #[.int .i64 0, .int .i64 0] 115)) (w.heap.size + 1) 115 #[.int .i64 0, .int .i64 0] := by simpa using Blk.new (w.alloc (.cells (ndC x q) 121)) 115 #[.int .i64 0, .int .i64 0]
  unfold ndC at hM0 hB0
  have M0 := hid hM0
  have B0 := hid hB0
  have HX := hid hx
  have KD := hid hkd
  have HE := hid hE
  have HL := hid hL
  unfold ndV
  clear hM0 hB0 hx hA hk hkd hE hL
  go_enter Tryz.func151, Tryz.ntmps151
  go_wp2_with fail
  generalize (w.alloc (Obj.cells #[Value.int IntKind.i64 x.kind, Value.int IntKind.i64 x.ty, Value.string x.txt, Value.int IntKind.i64 x.num, Value.slice none 0 0, Value.string x.nm, Value.int IntKind.i64 x.pl, q] 121)).alloc (Obj.cells #[Value.int IntKind.i64 0, Value.int IntKind.i64 0] 115) = wa at *
  have D0 := hid (M0.out.grow (grown_drew (grown_refl wa none)))
  have E0 := hid (B0.out.kept (grown_drew (grown_refl wa none)) (by simp))
  obtain ⟨a0, a1, a2⟩ := M0.out.at
  obtain ⟨n0, n1, n2, n3, n4, n5, n6, n7⟩ := M0.out.cells
  go_region_law (go_simp; go_at_call 107; refine (step_any x q _ st D0.out.a (bnd_ne HX.out)).mono ?_; intro e w1 hh; rcases InP.cases hh (bnd_ne HX.out) with ⟨n, s1, hz, rfl, hM, hF⟩ | ⟨_, s1, hz, rfl, hA1, hF⟩; (case inl => exact ⟨rfl, by rw [exprM_eq, bnd_err hz]; exact ⟨rfl, hM, D0.out.f.trans hF⟩⟩); have HZ1 := hid (And.intro hz trivial); have M1 := hid (D0.out.call hA1 hF); have B1 := hid (D0.out.keep hF (Nat.le_add_right _ 1) E0.out); have HN1 : Hid (exprT L E R d x s1 ≠ .error none) := hid (by have h := HX.out; rw [exprM_eq, bnd_ok hz] at h; exact h); clear a0 a1 a2 n0 n1 n2 n3 n4 n5 n6 n7 hz hA1 hF hh; obtain ⟨a0, a1, a2⟩ := M1.out.at; obtain ⟨n0, n1, n2, n3, n4, n5, n6, n7⟩ := M1.out.cells; rw [KD.out] at n0)
  all_goals
    have hT := exprT_25 L E R d x KD.out
    have HT := hid hT
    have HN2 : Hid ((kidM x 0 (R.ex d) >>= fun v => resM (unM L x.txt.data.toList v)) s1 ≠ .error none) := hid (by have h := HN1.out; rw [hT] at h; exact h)
    clear hT
    obtain ⟨y, hy, hky⟩ := kidM_ne (bnd_ne HN2.out)
    obtain ⟨g, cap, qy, hq, hi, hl1, hl2, hg, ⟨k0, k1, k2, k3, k4, k5, k6, k7⟩, hk⟩ := M1.out.k.kid 0 y hy
    simp only [Nat.mul_zero, Nat.zero_add] at k0 k1 k2 k3 k4 k5 k6 k7
    have MD := hid (M1.out.grow (grown_drew (grown_refl w1 none)))
    have BD := hid (B1.out.kept (grown_drew (grown_refl w1 none)) (by simp))
    have KY := hid (KsP.fr hk (Kp.of_none _ (grown_drew (grown_refl w1 none))))
    have HKY := hid (And.intro hky trivial)
    have K8 : Hid (∀ W W' : World, W.grownBy W' none → (W.cell? ⟨g, 0, none⟩ = some (.int .i64 y.kind) ∧ W.cell? ⟨g, 1, none⟩ = some (.int .i64 y.ty) ∧ W.cell? ⟨g, 2, none⟩ = some (.string y.txt) ∧ W.cell? ⟨g, 3, none⟩ = some (.int .i64 y.num) ∧ W.cell? ⟨g, 4, none⟩ = some (.slice none 0 0) ∧ W.cell? ⟨g, 5, none⟩ = some (.string y.nm) ∧ W.cell? ⟨g, 6, none⟩ = some (.int .i64 y.pl) ∧ W.cell? ⟨g, 7, none⟩ = some qy) → (W'.cell? ⟨g, 0, none⟩ = some (.int .i64 y.kind) ∧ W'.cell? ⟨g, 1, none⟩ = some (.int .i64 y.ty) ∧ W'.cell? ⟨g, 2, none⟩ = some (.string y.txt) ∧ W'.cell? ⟨g, 3, none⟩ = some (.int .i64 y.num) ∧ W'.cell? ⟨g, 4, none⟩ = some (.slice none 0 0) ∧ W'.cell? ⟨g, 5, none⟩ = some (.string y.nm) ∧ W'.cell? ⟨g, 6, none⟩ = some (.int .i64 y.pl) ∧ W'.cell? ⟨g, 7, none⟩ = some qy)) := hid (fun W W' hg h => by
      have e : W'.heap[g]? = W.heap[g]? := hg.block g (cell_lt h.1) (by simp)
      exact ⟨cell_same h.1 e, cell_same h.2.1 e, cell_same h.2.2.1 e, cell_same h.2.2.2.1 e, cell_same h.2.2.2.2.1 e, cell_same h.2.2.2.2.2.1 e, cell_same h.2.2.2.2.2.2.1 e, cell_same h.2.2.2.2.2.2.2 e⟩)
    have HN3 : Hid (R.ex d y s1 ≠ .error none) := hid (by have h := bnd_ne HN2.out; rw [hky] at h; exact h)
    subst hq
    clear hk hky hy hg
    go_wp2_with fail
    go_region_law (first
      | (go_simp; go_at_call 151; refine (HE.out d y qy c nm _ s1 MD.out.a KY.out HN3.out).mono ?_; intro e w2 hh; rcases InP.cases hh HN3.out with ⟨n, s9, hz, rfl, hM, hF⟩ | ⟨v, s2, hz, rfl, hA2, hF⟩; (case inl => exact ⟨rfl, by rw [exprM_eq, bnd_ok HZ1.out.1, HT.out, HKY.out.1, bnd_err hz]; exact ⟨rfl, hM, MD.out.f.trans hF⟩⟩); have HZ2 := hid (And.intro hz trivial); have B2 := hid (MD.out.keep hF (Nat.le_add_right _ 1) BD.out); have M2 := hid (MD.out.call hA2 hF); obtain ⟨r, hr⟩ := resM_ne (by have h := HN2.out; rw [HKY.out.1, bnd_ok hz] at h; exact h); have HR := hid hr; clear a0 a1 a2 n0 n1 n2 n3 n4 n5 n6 n7; obtain ⟨n0, n1, n2, n3, n4, n5, n6, n7⟩ := M2.out.cells; obtain ⟨c0, c1, f0, f1⟩ := Vl.two_cells B2.out; clear hz hA2 hF hh hr k0 k1 k2 k3 k4 k5 k6 k7)
      | (go_simp; go_at_call 185; refine (unC HL.out x.txt v r HR.out _).mono ?_; rintro e w3 ⟨rfl, hg⟩; have M3 := hid (M2.out.grow hg); have B3 := hid (B2.out.kept hg (by simp)); clear c0 c1 f0 f1 n0 n1 n2 n3 n4 n5 n6 n7 hg; obtain ⟨c0, c1, f0, f1⟩ := Vl.two_cells B3.out; unfold vV))
  all_goals
    go_wp2_with fail
    obtain ⟨z0, z1, _, _⟩ := Vl.two_cells (Vl.blk_two B3.out (.int .i64 r.1) (.int .i64 r.2))
    refine bodyPost_ret (v := vV r) (by simp [vV, results, Tryz.results151, go_sem, z0, z1]) rfl ?_
    rw [exprM_eq, bnd_ok HZ1.out.1, HT.out, HKY.out.1, bnd_ok HZ2.out.1, HR.out]
    exact ⟨rfl, M3.out.two _ _⟩
set_option maxRecDepth 100000 in
set_option maxHeartbeats 40000000 in
theorem ex_lit {X : Xm} {L : Fl} {E : Env} {R : Rc} {d c nm : Nat} (x : Pd) (q : Value) (w : World) (st : Ms) (hA : CaA w X E d c nm st) (hk : KsP w (PX X) q x.kids) (hx : exprM L E R d x st ≠ .error none) (hkd : ¬ (x.kind = 23 ∨ x.kind = 24 ∨ x.kind = 25 ∨ x.kind = 26 ∨ x.kind = 27)) :
    Calls Tryz.prog 151 #[.pointer (some ⟨c, 0, none⟩), ndV x q] w (InP vV X E d c nm w (exprM L E R d x st)) := by
  have hM0 := (Fm.start hA hk).grow (grown_alloc (grown_refl _ none) (.cells #[.int .i64 0, .int .i64 0] 115))
  have hB0 : Blk ((w.alloc (.cells (ndC x q) 121)).alloc (.cells #[.int .i64 0, .int .i64 0] 115)) (w.heap.size + 1) 115 #[.int .i64 0, .int .i64 0] := by simpa using Blk.new (w.alloc (.cells (ndC x q) 121)) 115 #[.int .i64 0, .int .i64 0]
  unfold ndC at hM0 hB0
  have M0 := hid hM0
  have B0 := hid hB0
  have HX := hid hx
  have KN := hid hkd
  have KE : Hid ((x.kind == 23) = false ∧ (x.kind == 24) = false ∧ (x.kind == 25) = false ∧ (x.kind == 26) = false ∧ (x.kind == 27) = false) := hid (by simp only [beq_eq_false_iff_ne]; omega)
  unfold ndV
  clear hM0 hB0 hx hA hk hkd
  go_enter Tryz.func151, Tryz.ntmps151
  go_wp2_with fail
  generalize (w.alloc (Obj.cells #[Value.int IntKind.i64 x.kind, Value.int IntKind.i64 x.ty, Value.string x.txt, Value.int IntKind.i64 x.num, Value.slice none 0 0, Value.string x.nm, Value.int IntKind.i64 x.pl, q] 121)).alloc (Obj.cells #[Value.int IntKind.i64 0, Value.int IntKind.i64 0] 115) = wa at *
  have D0 := hid (M0.out.grow (grown_drew (grown_refl wa none)))
  have E0 := hid (B0.out.kept (grown_drew (grown_refl wa none)) (by simp))
  obtain ⟨a0, a1, a2⟩ := M0.out.at
  obtain ⟨n0, n1, n2, n3, n4, n5, n6, n7⟩ := M0.out.cells
  go_region_law (go_simp; go_at_call 107; refine (step_any x q _ st D0.out.a (bnd_ne HX.out)).mono ?_; intro e w1 hh; rcases InP.cases hh (bnd_ne HX.out) with ⟨n, s1, hz, rfl, hM, hF⟩ | ⟨_, s1, hz, rfl, hA1, hF⟩; (case inl => exact ⟨rfl, by rw [exprM_eq, bnd_err hz]; exact ⟨rfl, hM, D0.out.f.trans hF⟩⟩); have HZ1 := hid (And.intro hz trivial); have M1 := hid (D0.out.call hA1 hF); have B1 := hid (D0.out.keep hF (Nat.le_add_right _ 1) E0.out); have HN1 : Hid (exprT L E R d x s1 ≠ .error none) := hid (by have h := HX.out; rw [exprM_eq, bnd_ok hz] at h; exact h); clear a0 a1 a2 n0 n1 n2 n3 n4 n5 n6 n7 hz hA1 hF hh; obtain ⟨a0, a1, a2⟩ := M1.out.at; obtain ⟨n0, n1, n2, n3, n4, n5, n6, n7⟩ := M1.out.cells)
  all_goals
    have HZ2 := hid (exprT_lit L E R d x KN.out)
    obtain ⟨c0, c1, f0, f1⟩ := Vl.two_cells B1.out
    obtain ⟨e23, e24, e25, e26, e27⟩ := KE.out
    go_wp2_with (go_simp; go_at_call 58; refine (lit_any x.kind x.ty x.txt x.num (.slice none 0 0) _).mono ?_; rintro e w2 ⟨rfl, hg⟩; have M2 := hid (M1.out.grow hg); have B2 := hid (B1.out.kept hg (by simp)); clear c0 c1 f0 f1; obtain ⟨c0, c1, f0, f1⟩ := Vl.two_cells B2.out; unfold vV; clear a0 a1 a2 n0 n1 n2 n3 n4 n5 n6 n7 hg)
    obtain ⟨z0, z1, _, _⟩ := Vl.two_cells (Vl.blk_two B2.out (.int .i64 x.ty) (.int .i64 x.num))
    refine bodyPost_ret (v := vV (x.ty, x.num)) (by simp [vV, results, Tryz.results151, go_sem, z0, z1]) rfl ?_
    rw [exprM_eq, bnd_ok HZ1.out.1, HZ2.out]
    exact ⟨rfl, M2.out.two _ _⟩
end Ip
end Go.Proofs.YtajoncmmdeahnaaGreatDoor
namespace Go.Proofs.YtajoncmmdeahnaaGreatDoor
open Go.RowKit
namespace Ip
theorem blockM_eq (E : Env) (R : Rc) (k d : Nat) (n : Pd) : blockM E R k d n = stepM E n >>= fun _ => stmtsM E R k d n.kids := rfl
theorem stmtsM_cons (E : Env) (R : Rc) (k d : Nat) (x : Pd) (r : List Pd) : stmtsM E R k d (x :: r) = stmtM E R k d x >>= fun b => if b = true then pure true else stmtsM E R k d r := by
  rw [stmtsM]
set_option maxRecDepth 100000 in
set_option maxHeartbeats 8000000 in
theorem block_any {X : Xm} {E : Env} {R : Rc} {k : Nat} (hS : MeC X E 108 bU (stmtM E R k)) : MeC X E 61 bU (blockM E R k) := by
  intro d x q c nm w st hA hk hx
  rw [blockM_eq] at hx ⊢
  obtain ⟨p, cap, rfl, hc1, hc2, _⟩ := hk.form
  obtain ⟨L, hL⟩ : ∃ L, x.kids.length = L := ⟨_, rfl⟩
  rw [hL] at hc1
  have hM0 := Fm.start hA hk
  unfold ndC at hM0
  have M0 := hid hM0
  have HX := hid hx
  have HS := hid hS
  have HL := hid hL
  clear hS hL
  unfold ndV
  clear hM0 hx hA hk
  go_enter Tryz.func61, Tryz.ntmps61
  go_wp2_with fail
  generalize w.alloc (Obj.cells #[Value.int IntKind.i64 x.kind, Value.int IntKind.i64 x.ty, Value.string x.txt, Value.int IntKind.i64 x.num, Value.slice none 0 0, Value.string x.nm, Value.int IntKind.i64 x.pl, Value.slice p x.kids.length cap] 121) = wa at *
  have D0 := hid (M0.out.grow (grown_drew (grown_refl wa none)))
  obtain ⟨a0, a1, a2⟩ := M0.out.at
  obtain ⟨n0, n1, n2, n3, n4, n5, n6, n7⟩ := M0.out.cells
  go_region_law (go_simp; go_at_call 107; refine (step_any x (Value.slice p x.kids.length cap) _ st D0.out.a (bnd_ne HX.out)).mono ?_; intro e w1 hh; rcases InP.cases hh (bnd_ne HX.out) with ⟨n, s1, hz, rfl, hM, hF⟩ | ⟨_, s1, hz, rfl, hA1, hF⟩; (case inl => exact ⟨rfl, by rw [bnd_err hz]; exact ⟨rfl, hM, D0.out.f.trans hF⟩⟩); have HZ1 := hid (And.intro hz trivial); have M1 := hid (D0.out.call hA1 hF); have HN1 : Hid (stmtsM E R k d x.kids s1 ≠ .error none) := hid (by have h := HX.out; rw [bnd_ok hz] at h; exact h); clear a0 a1 a2 n0 n1 n2 n3 n4 n5 n6 n7 hz hA1 hF hh; obtain ⟨a0, a1, a2⟩ := M1.out.at; obtain ⟨n0, n1, n2, n3, n4, n5, n6, n7⟩ := M1.out.cells; skip)
  all_goals
    rw [HL.out] at n7
    go_wp2
    go_loopw [16] (fun i wr => ∃ (j : Nat) (s : Ms), j ≤ L ∧ i = .int .i64 j ∧ Fm X E d c nm w x (.slice p x.kids.length cap) wr s ∧ stmtsM E R k d x.kids s1 = stmtsM E R k d (x.kids.drop j) s) (fun i _ => L - (intOf i).toNat)
    case atStart => exact ⟨0, s1, Nat.zero_le _, rfl, M1.out, rfl⟩
    case round =>
      obtain ⟨j, s, hj, rfl, hF, hE⟩ := hrel
      clear a0 a1 a2 n0 n1 n2 n3 n4 n5 n6 n7
      have hln := HL.out
      have j0 : (0 : Int) ≤ j := by omega
      by_cases hlt : j < L
      · have j1 : (j : Int) < L := by omega
        have jm : (L : Int) ≤ 9223372036854775807 := by unfold maxLen at hc2; omega
        have hjk : j < x.kids.length := by omega
        obtain ⟨g, rfl, hg, hat⟩ := hF.k.at j hjk
        rw [List.drop_eq_getElem_cons hjk, stmtsM_cons] at hE
        obtain ⟨qy, c0, c1, c2, c3, c4, c5, c6, c7, hky⟩ := hat.cells
        rw [Nat.mul_comm 8 j] at c0 c1 c2 c3 c4 c5 c6 c7
        generalize x.kids[j] = y at *
        obtain ⟨py, cy, rfl, _, _, _⟩ := hky.form
        have GA := grown_alloc (grown_refl wr none) (.cells #[.int .i64 y.kind, .int .i64 y.ty, .string y.txt, .int .i64 y.num, .slice none 0 0, .string y.nm, .int .i64 y.pl, .slice py y.kids.length cy] 121)
        have M2 := hid (hF.grow GA)
        have KY := hid (KsP.fr hky (Kp.of_none _ GA))
        have HE := hid hE
        have HN2 : Hid (stmtM E R k d y s ≠ .error none) := hid (by have h := HN1.out; rw [hE] at h; exact bnd_ne h)
        have HJ := hid (And.intro hlt hjk)
        clear hE hat hky hF GA hln hjk hg hj
        rcases hz : stmtM E R k d y s with e0 | ⟨b, s2⟩
        · have HZ2 := hid hz
          clear hz
          go_wp2_with (go_at_call 108; refine (HS.out d y (.slice py y.kids.length cy) c nm _ s M2.out.a KY.out HN2.out).mono ?_; intro e w2 hh; rcases InP.cases hh HN2.out with ⟨n, s9, hz, rfl, hM, hF⟩ | ⟨b, s9, hz, rfl, hA2, hF⟩; (case inr => rw [HZ2.out] at hz; cases hz))
          exact ⟨rfl, by rw [bnd_ok HZ1.out.1, HE.out, bnd_err hz]; exact ⟨rfl, hM, M2.out.f.trans hF⟩⟩
        · have HZ2 := hid hz
          clear hz
          cases b with
          | true =>
            go_wp2_with (go_at_call 108; refine (HS.out d y (.slice py y.kids.length cy) c nm _ s M2.out.a KY.out HN2.out).mono ?_; intro e w2 hh; rw [HZ2.out] at hh; obtain ⟨rfl, hA2, hF⟩ := hh; have M3 := hid (M2.out.call hA2 hF); clear hA2 hF; unfold bU)
            go_ret
            rw [bnd_ok HZ1.out.1, HE.out, bnd_ok HZ2.out]
            exact ⟨rfl, M3.out.a, M3.out.f⟩
          | false =>
            go_wp2_with (go_at_call 108; refine (HS.out d y (.slice py y.kids.length cy) c nm _ s M2.out.a KY.out HN2.out).mono ?_; intro e w2 hh; rw [HZ2.out] at hh; obtain ⟨rfl, hA2, hF⟩ := hh; have M3 := hid (M2.out.call hA2 hF); clear hA2 hF; unfold bU)
            go_roundw
            case rel => exact ⟨j + 1, s2, HJ.out.1, by go_num, M3.out, by rw [HE.out, bnd_ok HZ2.out]; rfl⟩
            case measure => have := HJ.out.1; simp [intOf]; omega
      · have j1 : ¬ (j : Int) < L := by omega
        have hd : x.kids.drop j = [] := List.drop_eq_nil_of_le (by omega)
        rw [hd] at hE
        have HE := hid hE
        have M3 := hid hF
        clear hE hF hd hln
        go_wp2
        go_ret
        rw [bnd_ok HZ1.out.1, HE.out]
        exact ⟨rfl, M3.out.a, M3.out.f⟩
end Ip
end Go.Proofs.YtajoncmmdeahnaaGreatDoor
namespace Go.Proofs.YtajoncmmdeahnaaGreatDoor
open Go.RowKit
namespace Ip
theorem branch_any {X : Xm} {E : Env} {R : Rc} (hE : MeC X E 151 vV R.ex) (hB : MeC X E 61 bU R.bl) : MeC X E 149 bU (branchM R) := by
  have _ := hE
  have _ := hB
  intro _ _ _ _ _ _ _ _ _ hx
  exact absurd rfl hx
end Ip
end Go.Proofs.YtajoncmmdeahnaaGreatDoor
namespace Go.Proofs.YtajoncmmdeahnaaGreatDoor
open Go.RowKit
namespace Ip
theorem least_ex (Q : Nat → Prop) : ∀ n, Q n → ∃ m, Q m ∧ ∀ i, Q i → m ≤ i := by
  intro n
  induction n using Nat.strongRecOn with
  | ind n ih =>
    intro h
    by_cases h1 : ∃ i, i < n ∧ Q i
    · obtain ⟨i, h2, h3⟩ := h1
      exact ih i h2 h3
    · exact ⟨n, h, fun i hi => Nat.le_of_not_lt (fun h2 => h1 ⟨i, h2, hi⟩)⟩
theorem measure_ex (Q : Nat → World → Prop) : ∃ m : World → Nat, ∀ w j, Q j w → Q (m w) w ∧ m w ≤ j := by
  have h : ∀ w, ∃ n, ∀ j, Q j w → Q n w ∧ n ≤ j := fun w => by
    by_cases h1 : ∃ j, Q j w
    · obtain ⟨j, hj⟩ := h1
      obtain ⟨m, h2, h3⟩ := least_ex (fun i => Q i w) j hj
      exact ⟨m, fun i hi => ⟨h2, h3 i hi⟩⟩
    · exact ⟨0, fun j hj => absurd ⟨j, hj⟩ h1⟩
  exact Classical.axiomOfChoice h
theorem loopM_succ (R : Rc) (d : Nat) (n : Pd) (j : Nat) : loopM R d n (j + 1) = kidM n 0 (R.ex d) >>= fun v => if trueV v = true then (kidM n 1 (R.bl d) >>= fun b => if b = true then pure true else loopM R d n j) else pure false := by
  rw [loopM]
theorem kidM_of {α : Type} {n y : Pd} {i : Nat} {f : Pd → In α} (h : n.kids[i]? = some y) : kidM n i f = f y := by
  unfold kidM
  rw [h]
set_option maxRecDepth 100000 in
set_option maxHeartbeats 8000000 in
theorem loop_go {X : Xm} {E : Env} {R : Rc} (hE : MeC X E 151 vV R.ex) (hB : MeC X E 61 bU R.bl) {k d c nm : Nat} {x y0 : Pd} {q : Value} {w : World} {st : Ms} (hA : CaA w X E d c nm st) (hk : KsP w (PX X) q x.kids) (hy0 : x.kids[0]? = some y0) (hx : loopM R d x k st ≠ .error none) :
    Calls Tryz.prog 150 #[.pointer (some ⟨c, 0, none⟩), ndV x q] w (InP bU X E d c nm w (loopM R d x k st)) := by
  have hM0 := Fm.start hA hk
  obtain ⟨g, cap, _, rfl, hi, hl1, hl2, _, _, _⟩ := hM0.k.kid 0 y0 hy0
  obtain ⟨msr, hmsr⟩ := measure_ex (fun j wr => ∃ s, Fm X E d c nm w x (.slice (some ⟨g, 0, none⟩) x.kids.length cap) wr s ∧ loopM R d x j s = loopM R d x k st)
  have HMS := hid hmsr
  have HE := hid hE
  have HB := hid hB
  have HX := hid hx
  have HY0 := hid hy0
  unfold ndC at hM0
  have M0 := hid hM0
  unfold ndV
  clear hM0 hA hk hE hB hx hmsr hy0
  go_enter Tryz.func150, Tryz.ntmps150
  go_wp2_with fail
  go_loopw [] (fun wr => ∃ j s, Fm X E d c nm w x (.slice (some ⟨g, 0, none⟩) x.kids.length cap) wr s ∧ loopM R d x j s = loopM R d x k st) (fun wr => msr wr)
  case atStart => exact ⟨k, st, M0.out, rfl⟩
  case round =>
    obtain ⟨j9, s9, h9a, h9b⟩ := hrel
    obtain ⟨⟨s, hF, hj⟩, _⟩ := HMS.out wr j9 ⟨s9, h9a, h9b⟩
    clear h9a h9b
    rcases hmw : msr wr with _ | j
    · rw [hmw] at hj
      exact absurd (show loopM R d x k st = .error none from hj.symm) HX.out
    rw [hmw, loopM_succ, kidM_of HY0.out] at hj
    have HW := hid hmw
    have hne : ∀ {r : Re Bool}, r = loopM R d x k st → r ≠ .error none := fun h => by rw [h]; exact HX.out
    clear hmw
    obtain ⟨g', cap', qy, hq, hi', _, _, _, ⟨k0, k1, k2, k3, k4, k5, k6, k7⟩, hkk⟩ := hF.k.kid 0 y0 HY0.out
    injection hq with hq _ hcap
    subst hcap
    injection hq with hq
    injection hq with hq _ _
    subst hq
    simp only [Nat.mul_zero, Nat.zero_add] at k0 k1 k2 k3 k4 k5 k6 k7
    have KY := hid hkk
    clear M0 hi'
    have M0 := hid hF
    obtain ⟨n0, n1, n2, n3, n4, n5, n6, n7⟩ := hF.cells
    have HJ := hid hj
    clear hkk hF hj
    rcases hz : R.ex d y0 s with e0 | ⟨v, s1⟩
    · rcases e0 with _ | ⟨n, s1⟩
      · exact absurd (bnd_err hz) (hne HJ.out)
      have HZ1 := hid hz
      have HN3 : Hid (R.ex d y0 s ≠ .error none) := hid (by rw [hz]; intro h; cases h)
      clear hz hne
      go_wp2_with (go_at_call 151; refine (HE.out d y0 qy c nm _ s M0.out.a KY.out HN3.out).mono ?_; intro e w1 hh; rw [HZ1.out] at hh; obtain ⟨rfl, hM, hF⟩ := hh)
      exact ⟨rfl, by rw [← HJ.out, bnd_err HZ1.out]; exact ⟨rfl, hM, M0.out.f.trans hF⟩⟩
    have HZ1 := hid hz
    have HN3 : Hid (R.ex d y0 s ≠ .error none) := hid (by rw [hz]; intro h; cases h)
    have HJ1 := hid ((bnd_ok hz).symm.trans HJ.out)
    clear hz HJ
    cases ht : trueV v with
    | false =>
      have TC : Hid (∀ W, Calls Tryz.prog 153 #[vV v] W (Vl.GrP (.bool false) W)) := hid (fun W => by have h := trueC v W; rw [ht] at h; exact h)
      have HJ2 : Hid (Except.ok (false, s1) = loopM R d x k st) := hid (by have h := HJ1.out; rw [ht, if_neg Bool.false_ne_true] at h; exact h)
      clear ht hne
      go_wp2_with (first
        | (go_at_call 151; refine (HE.out d y0 qy c nm _ s M0.out.a KY.out HN3.out).mono ?_; intro e w1 hh; rw [HZ1.out] at hh; obtain ⟨rfl, hA2, hF⟩ := hh; have M1 := hid (M0.out.call hA2 hF); clear hA2 hF n0 n1 n2 n3 n4 n5 n6 n7 k0 k1 k2 k3 k4 k5 k6 k7)
        | (go_at_call 153; refine (TC.out _).mono ?_; rintro e w2 ⟨rfl, hg⟩; have M2 := hid (M1.out.grow hg); obtain ⟨n0, n1, n2, n3, n4, n5, n6, n7⟩ := M2.out.cells;  clear hg))
      go_ret
      rw [← HJ2.out]
      exact ⟨rfl, M2.out.a, M2.out.f⟩
    | true =>
      have TC : Hid (∀ W, Calls Tryz.prog 153 #[vV v] W (Vl.GrP (.bool true) W)) := hid (fun W => by have h := trueC v W; rw [ht] at h; exact h)
      have hj2 : (kidM x 1 (R.bl d) >>= fun b => if b = true then pure true else loopM R d x j) s1 = loopM R d x k st := by have h := HJ1.out; rw [ht, if_pos rfl] at h; exact h
      clear ht HJ1
      obtain ⟨y1, hy1, hky1⟩ := kidM_ne (bnd_ne (hne hj2))
      rw [hky1] at hj2
      have HY2 := hid hy1
      clear hy1 hky1
      rcases hz2 : R.bl d y1 s1 with e0 | ⟨b, s2⟩
      · rcases e0 with _ | ⟨n, s2⟩
        · exact absurd (bnd_err hz2) (hne hj2)
        have HZ2 := hid hz2
        have HN4 : Hid (R.bl d y1 s1 ≠ .error none) := hid (by rw [hz2]; intro h; cases h)
        have HJ3 := hid ((bnd_err hz2).symm.trans hj2)
        clear hz2 hj2 hne
        go_wp2_with (first
          | (go_at_call 151; refine (HE.out d y0 qy c nm _ s M0.out.a KY.out HN3.out).mono ?_; intro e w1 hh; rw [HZ1.out] at hh; obtain ⟨rfl, hA2, hF⟩ := hh; have M1 := hid (M0.out.call hA2 hF); clear hA2 hF n0 n1 n2 n3 n4 n5 n6 n7 k0 k1 k2 k3 k4 k5 k6 k7)
          | (go_at_call 153; refine (TC.out _).mono ?_; rintro e w2 ⟨rfl, hg⟩; have M2 := hid (M1.out.grow hg); obtain ⟨n0, n1, n2, n3, n4, n5, n6, n7⟩ := M2.out.cells; obtain ⟨g', cap', qy', hq', hi', _, _, _, ⟨k0, k1, k2, k3, k4, k5, k6, k7⟩, hkk⟩ := M2.out.k.kid 1 y1 HY2.out; injection hq' with hq' _ hcap'; subst hcap'; injection hq' with hq'; injection hq' with hq' _ _; subst hq'; simp only [Nat.mul_one, Nat.reduceAdd] at k0 k1 k2 k3 k4 k5 k6 k7; have KY2 := hid hkk; have hi2 : (1 : Int) < (x.kids.length : Int) := (by omega); clear hkk; clear hg)
          | (go_at_call 61; refine (HB.out d y1 qy' c nm _ s1 M2.out.a KY2.out HN4.out).mono ?_; intro e w3 hh; rw [HZ2.out] at hh; obtain ⟨rfl, hM, hF⟩ := hh))
        exact ⟨rfl, by rw [← HJ3.out]; exact ⟨rfl, hM, M2.out.f.trans hF⟩⟩
      have HZ2 := hid hz2
      have HN4 : Hid (R.bl d y1 s1 ≠ .error none) := hid (by rw [hz2]; intro h; cases h)
      have HJ3 := hid ((bnd_ok hz2).symm.trans hj2)
      clear hz2 hj2 hne
      cases b with
      | true =>
        go_wp2_with (first
          | (go_at_call 151; refine (HE.out d y0 qy c nm _ s M0.out.a KY.out HN3.out).mono ?_; intro e w1 hh; rw [HZ1.out] at hh; obtain ⟨rfl, hA2, hF⟩ := hh; have M1 := hid (M0.out.call hA2 hF); clear hA2 hF n0 n1 n2 n3 n4 n5 n6 n7 k0 k1 k2 k3 k4 k5 k6 k7)
          | (go_at_call 153; refine (TC.out _).mono ?_; rintro e w2 ⟨rfl, hg⟩; have M2 := hid (M1.out.grow hg); obtain ⟨n0, n1, n2, n3, n4, n5, n6, n7⟩ := M2.out.cells; obtain ⟨g', cap', qy', hq', hi', _, _, _, ⟨k0, k1, k2, k3, k4, k5, k6, k7⟩, hkk⟩ := M2.out.k.kid 1 y1 HY2.out; injection hq' with hq' _ hcap'; subst hcap'; injection hq' with hq'; injection hq' with hq' _ _; subst hq'; simp only [Nat.mul_one, Nat.reduceAdd] at k0 k1 k2 k3 k4 k5 k6 k7; have KY2 := hid hkk; have hi2 : (1 : Int) < (x.kids.length : Int) := (by omega); clear hkk; clear hg)
          | (go_at_call 61; refine (HB.out d y1 qy' c nm _ s1 M2.out.a KY2.out HN4.out).mono ?_; intro e w3 hh; rw [HZ2.out] at hh; obtain ⟨rfl, hA2, hF⟩ := hh; have M3 := hid (M2.out.call hA2 hF); clear hA2 hF; unfold bU))
        go_ret
        rw [← HJ3.out]
        exact ⟨rfl, M3.out.a, M3.out.f⟩
      | false =>
        go_wp2_with (first
          | (go_at_call 151; refine (HE.out d y0 qy c nm _ s M0.out.a KY.out HN3.out).mono ?_; intro e w1 hh; rw [HZ1.out] at hh; obtain ⟨rfl, hA2, hF⟩ := hh; have M1 := hid (M0.out.call hA2 hF); clear hA2 hF n0 n1 n2 n3 n4 n5 n6 n7 k0 k1 k2 k3 k4 k5 k6 k7)
          | (go_at_call 153; refine (TC.out _).mono ?_; rintro e w2 ⟨rfl, hg⟩; have M2 := hid (M1.out.grow hg); obtain ⟨n0, n1, n2, n3, n4, n5, n6, n7⟩ := M2.out.cells; obtain ⟨g', cap', qy', hq', hi', _, _, _, ⟨k0, k1, k2, k3, k4, k5, k6, k7⟩, hkk⟩ := M2.out.k.kid 1 y1 HY2.out; injection hq' with hq' _ hcap'; subst hcap'; injection hq' with hq'; injection hq' with hq' _ _; subst hq'; simp only [Nat.mul_one, Nat.reduceAdd] at k0 k1 k2 k3 k4 k5 k6 k7; have KY2 := hid hkk; have hi2 : (1 : Int) < (x.kids.length : Int) := (by omega); clear hkk; clear hg)
          | (go_at_call 61; refine (HB.out d y1 qy' c nm _ s1 M2.out.a KY2.out HN4.out).mono ?_; intro e w3 hh; rw [HZ2.out] at hh; obtain ⟨rfl, hA2, hF⟩ := hh; have M3 := hid (M2.out.call hA2 hF); clear hA2 hF; unfold bU))
        go_roundw
        case rel => exact ⟨j, s2, M3.out, HJ3.out⟩
        case measure => exact Nat.lt_succ_of_le (HMS.out _ j ⟨s2, M3.out, HJ3.out⟩).2
theorem loop_any {X : Xm} {E : Env} {R : Rc} {k : Nat} (hE : MeC X E 151 vV R.ex) (hB : MeC X E 61 bU R.bl) : MeC X E 150 bU (fun d x => loopM R d x k) := by
  intro d x q c nm w st hA hk hx
  rcases k with _ | k
  · exact absurd rfl hx
  have h := hx
  simp only [loopM_succ] at h
  obtain ⟨y, hy, _⟩ := kidM_ne (bnd_ne h)
  exact loop_go hE hB hA hk hy hx
end Ip
end Go.Proofs.YtajoncmmdeahnaaGreatDoor
namespace Go.Proofs.YtajoncmmdeahnaaGreatDoor
open Go.RowKit
namespace Ip
theorem needM_0 {n : Nat} (h : n = 0) (s : Ms) : needM n s = .ok ((), s) := by
  unfold needM
  rw [if_pos h]
  rfl
theorem needM_1 {n : Nat} (h : n ≠ 0) (s : Ms) : needM n s = .error (some (n, s)) := by
  unfold needM
  rw [if_neg h]
  rfl
def shortB (n : Pd) (a : V) : Bool := (n.txt.data.toList == [38, 38] && !trueV a) || (n.txt.data.toList == [124, 124] && trueV a)
def betT (L : Fl) (R : Rc) (d : Nat) (n : Pd) (a : V) : In V := kidM n 1 (R.ex d) >>= fun b => resM (binM L n.txt.data.toList a b) >>= fun r => needM r.2 >>= fun _ => pure r.1
theorem betM_eq (L : Fl) (R : Rc) (d : Nat) (n : Pd) : betweenM L R d n = kidM n 0 (R.ex d) >>= fun a => if shortB n a = true then pure a else betT L R d n a := rfl
set_option maxRecDepth 100000 in
set_option maxHeartbeats 20000000 in
theorem bet_and {X : Xm} {E : Env} {R : Rc} (hE : MeC X E 151 vV R.ex) {d c nm : Nat} {x y : Pd} {q : Value} {w : World} {st s1 : Ms} {v : V} (hA : CaA w X E d c nm st) (hk : KsP w (PX X) q x.kids) (hy : x.kids[0]? = some y) (hz : R.ex d y st = .ok (v, s1)) (hs : x.txt = ⟨#[38, 38]⟩) (ht : trueV v = false) :
    Calls Tryz.prog 186 #[.pointer (some ⟨c, 0, none⟩), ndV x q] w (InP vV X E d c nm w (.ok (v, s1))) := by
  have hM0 := (Fm.start hA hk).grow (grown_alloc (grown_refl _ none) (.cells #[.int .i64 0, .int .i64 0] 115))
  have hB0 : Blk ((w.alloc (.cells (ndC x q) 121)).alloc (.cells #[.int .i64 0, .int .i64 0] 115)) (w.heap.size + 1) 115 #[.int .i64 0, .int .i64 0] := by simpa using Blk.new (w.alloc (.cells (ndC x q) 121)) 115 #[.int .i64 0, .int .i64 0]
  unfold ndC at hM0 hB0
  have M0 := hid hM0
  have B0 := hid hB0
  have HE := hid hE
  obtain ⟨g, cap, qy, hq, hi, hl1, hl2, hg, ⟨k0, k1, k2, k3, k4, k5, k6, k7⟩, hkk⟩ := hM0.k.kid 0 y hy
  simp only [Nat.mul_zero, Nat.zero_add] at k0 k1 k2 k3 k4 k5 k6 k7
  have KY := hid hkk
  have HZ1 := hid hz
  have HN3 : Hid (R.ex d y st ≠ .error none) := hid (by rw [hz]; intro h; cases h)
  subst hq
  obtain ⟨n0, n1, n2, n3, n4, n5, n6, n7⟩ := hM0.cells
  rw [hs] at n2
  have TC : Hid (∀ W, Calls Tryz.prog 153 #[vV v] W (Vl.GrP (.bool false) W)) := hid (fun W => by have h := trueC v W; rw [ht] at h; exact h)
  have HS := hid hs
  clear hs ht
  unfold ndV
  clear hM0 hB0 hA hk hE hkk hy hg hz
  go_enter Tryz.func186, Tryz.ntmps186
  go_wp2_with (first
    | (go_at_call 151; refine (HE.out d y qy c nm _ st M0.out.a KY.out HN3.out).mono ?_; intro e w1 hh; rw [HZ1.out] at hh; obtain ⟨rfl, hA2, hF⟩ := hh; have B1 := hid (M0.out.keep hF (Nat.le_add_right _ 1) B0.out); have M1 := hid (M0.out.call hA2 hF); have T1 := hid (Blk.new w1 115 #[.int .i64 v.1, .int .i64 v.2]); have MA1 := hid (M1.out.grow (grown_alloc (grown_refl w1 none) (.cells #[.int .i64 v.1, .int .i64 v.2] 115))); have BA1 := hid (B1.out.alloc (.cells #[.int .i64 v.1, .int .i64 v.2] 115)); have SZ : Hid (w.heap.size + 1 < w1.heap.size) := hid B1.out.lt; clear n0 n1 n2 n3 n4 n5 n6 n7; obtain ⟨n0, n1, n2, n3, n4, n5, n6, n7⟩ := MA1.out.cells; obtain ⟨t0, t1, g0, g1⟩ := Vl.two_cells T1.out; obtain ⟨c0, c1, f0, f1⟩ := Vl.two_cells BA1.out; rw [HS.out] at n2; clear hA2 hF k0 k1 k2 k3 k4 k5 k6 k7; unfold vV)
    | (go_at_call 153; refine (TC.out _).mono ?_; rintro e w2 ⟨rfl, hg⟩; have T2 := hid (T1.out.kept hg (by simp)); have M2 := hid (MA1.out.grow hg); have B2 := hid (BA1.out.kept hg (by simp)); clear n0 n1 n2 n3 n4 n5 n6 n7 t0 t1 g0 g1 c0 c1 f0 f1 hg; obtain ⟨n0, n1, n2, n3, n4, n5, n6, n7⟩ := M2.out.cells; obtain ⟨t0, t1, g0, g1⟩ := Vl.two_cells T2.out; obtain ⟨c0, c1, f0, f1⟩ := Vl.two_cells B2.out; rw [HS.out] at n2))
  obtain ⟨z0, z1, _, _⟩ := Vl.two_cells (Vl.blk_two B2.out (.int .i64 v.1) (.int .i64 v.2))
  refine bodyPost_ret (v := vV v) (by simp [vV, results, Tryz.results186, go_sem, z0, z1]) rfl ?_
  exact ⟨rfl, M2.out.two _ _⟩
set_option maxRecDepth 100000 in
set_option maxHeartbeats 20000000 in
theorem bet_or {X : Xm} {E : Env} {R : Rc} (hE : MeC X E 151 vV R.ex) {d c nm : Nat} {x y : Pd} {q : Value} {w : World} {st s1 : Ms} {v : V} (hA : CaA w X E d c nm st) (hk : KsP w (PX X) q x.kids) (hy : x.kids[0]? = some y) (hz : R.ex d y st = .ok (v, s1)) (hs : x.txt = ⟨#[124, 124]⟩) (ht : trueV v = true) :
    Calls Tryz.prog 186 #[.pointer (some ⟨c, 0, none⟩), ndV x q] w (InP vV X E d c nm w (.ok (v, s1))) := by
  have hM0 := (Fm.start hA hk).grow (grown_alloc (grown_refl _ none) (.cells #[.int .i64 0, .int .i64 0] 115))
  have hB0 : Blk ((w.alloc (.cells (ndC x q) 121)).alloc (.cells #[.int .i64 0, .int .i64 0] 115)) (w.heap.size + 1) 115 #[.int .i64 0, .int .i64 0] := by simpa using Blk.new (w.alloc (.cells (ndC x q) 121)) 115 #[.int .i64 0, .int .i64 0]
  unfold ndC at hM0 hB0
  have M0 := hid hM0
  have B0 := hid hB0
  have HE := hid hE
  obtain ⟨g, cap, qy, hq, hi, hl1, hl2, hg, ⟨k0, k1, k2, k3, k4, k5, k6, k7⟩, hkk⟩ := hM0.k.kid 0 y hy
  simp only [Nat.mul_zero, Nat.zero_add] at k0 k1 k2 k3 k4 k5 k6 k7
  have KY := hid hkk
  have HZ1 := hid hz
  have HN3 : Hid (R.ex d y st ≠ .error none) := hid (by rw [hz]; intro h; cases h)
  subst hq
  obtain ⟨n0, n1, n2, n3, n4, n5, n6, n7⟩ := hM0.cells
  rw [hs] at n2
  have TC : Hid (∀ W, Calls Tryz.prog 153 #[vV v] W (Vl.GrP (.bool true) W)) := hid (fun W => by have h := trueC v W; rw [ht] at h; exact h)
  have HS := hid hs
  clear hs ht
  unfold ndV
  clear hM0 hB0 hA hk hE hkk hy hg hz
  go_enter Tryz.func186, Tryz.ntmps186
  go_wp2_with (first
    | (go_at_call 151; refine (HE.out d y qy c nm _ st M0.out.a KY.out HN3.out).mono ?_; intro e w1 hh; rw [HZ1.out] at hh; obtain ⟨rfl, hA2, hF⟩ := hh; have B1 := hid (M0.out.keep hF (Nat.le_add_right _ 1) B0.out); have M1 := hid (M0.out.call hA2 hF); have T1 := hid (Blk.new w1 115 #[.int .i64 v.1, .int .i64 v.2]); have MA1 := hid (M1.out.grow (grown_alloc (grown_refl w1 none) (.cells #[.int .i64 v.1, .int .i64 v.2] 115))); have BA1 := hid (B1.out.alloc (.cells #[.int .i64 v.1, .int .i64 v.2] 115)); have SZ : Hid (w.heap.size + 1 < w1.heap.size) := hid B1.out.lt; clear n0 n1 n2 n3 n4 n5 n6 n7; obtain ⟨n0, n1, n2, n3, n4, n5, n6, n7⟩ := MA1.out.cells; obtain ⟨t0, t1, g0, g1⟩ := Vl.two_cells T1.out; obtain ⟨c0, c1, f0, f1⟩ := Vl.two_cells BA1.out; rw [HS.out] at n2; clear hA2 hF k0 k1 k2 k3 k4 k5 k6 k7; unfold vV)
    | (go_at_call 153; refine (TC.out _).mono ?_; rintro e w2 ⟨rfl, hg⟩; have T2 := hid (T1.out.kept hg (by simp)); have M2 := hid (MA1.out.grow hg); have B2 := hid (BA1.out.kept hg (by simp)); clear n0 n1 n2 n3 n4 n5 n6 n7 t0 t1 g0 g1 c0 c1 f0 f1 hg; obtain ⟨n0, n1, n2, n3, n4, n5, n6, n7⟩ := M2.out.cells; obtain ⟨t0, t1, g0, g1⟩ := Vl.two_cells T2.out; obtain ⟨c0, c1, f0, f1⟩ := Vl.two_cells B2.out; rw [HS.out] at n2))
  obtain ⟨z0, z1, _, _⟩ := Vl.two_cells (Vl.blk_two B2.out (.int .i64 v.1) (.int .i64 v.2))
  refine bodyPost_ret (v := vV v) (by simp [vV, results, Tryz.results186, go_sem, z0, z1]) rfl ?_
  exact ⟨rfl, M2.out.two _ _⟩
end Ip
end Go.Proofs.YtajoncmmdeahnaaGreatDoor
