/-
  The interpreter: a sign between two expressions, the second of which is run. The interpreter: all that call themselves.
-/
import Derived.Test.YtajoncmmdeahnaaGreatDoorKIj
import Derived.Deep.CutRange
import Derived.Deep.CutBlock
import Derived.Deep.RegionHeld3
import Derived.Test.YtajoncmmdeahnaaGreatDoorIi
import Derived.Test.YtajoncmmdeahnaaGreatDoorKIq
namespace Go.Proofs.YtajoncmmdeahnaaGreatDoor
open Go.RowKit
namespace Ip
structure RB (X : Xm) (E : Env) (d c nm : Nat) (w : World) (x : Pd) (q : Value) (s : Ms) (v : V) (tb : Nat) (W : World) : Prop where
  m : Fm X E d c nm w x q W s
  b : Blk W (w.heap.size + 1) 115 #[.int .i64 0, .int .i64 0]
  t : Blk W tb 115 #[.int .i64 v.1, .int .i64 v.2]
  z : w.heap.size + 1 < tb
def SP (w : World) (x y1 : Pd) (g cap t0 : Nat) (v : V) (qy1 : Value) (V : World) : Prop := V.cell? ⟨w.heap.size, 2, none⟩ = some (.string x.txt) ∧ V.cell? ⟨w.heap.size, 7, none⟩ = some (.slice (some ⟨g, 0, none⟩) x.kids.length cap) ∧ V.cell? ⟨t0, 0, none⟩ = some (.int .i64 v.1) ∧ V.cell? ⟨t0, 1, none⟩ = some (.int .i64 v.2)
  ∧ V.cell? ⟨g, 8, none⟩ = some (.int .i64 y1.kind) ∧ V.cell? ⟨g, 9, none⟩ = some (.int .i64 y1.ty) ∧ V.cell? ⟨g, 10, none⟩ = some (.string y1.txt) ∧ V.cell? ⟨g, 11, none⟩ = some (.int .i64 y1.num) ∧ V.cell? ⟨g, 12, none⟩ = some (.slice none 0 0) ∧ V.cell? ⟨g, 13, none⟩ = some (.string y1.nm) ∧ V.cell? ⟨g, 14, none⟩ = some (.int .i64 y1.pl) ∧ V.cell? ⟨g, 15, none⟩ = some qy1
theorem SP.same {w : World} {x y1 : Pd} {g cap t0 : Nat} {v : V} {qy1 : Value} {W W' : World} (h : SP w x y1 g cap t0 v qy1 W) (h1 : W'.heap[w.heap.size]? = W.heap[w.heap.size]?) (h2 : W'.heap[t0]? = W.heap[t0]?) (h3 : W'.heap[g]? = W.heap[g]?) : SP w x y1 g cap t0 v qy1 W' := by
  obtain ⟨a1, a2, a3, a4, b0, b1, b2, b3, b4, b5, b6, b7⟩ := h
  exact ⟨cell_same a1 h1, cell_same a2 h1, cell_same a3 h2, cell_same a4 h2, cell_same b0 h3, cell_same b1 h3, cell_same b2 h3, cell_same b3 h3, cell_same b4 h3, cell_same b5 h3, cell_same b6 h3, cell_same b7 h3⟩
theorem SP.grow {w : World} {x y1 : Pd} {g cap t0 : Nat} {v : V} {qy1 : Value} {W W' : World} (h : SP w x y1 g cap t0 v qy1 W) (hg : W.grownBy W' none) : SP w x y1 g cap t0 v qy1 W' :=
  h.same (hg.block _ (cell_lt h.1) (by simp)) (hg.block _ (cell_lt h.2.2.1) (by simp)) (hg.block _ (cell_lt h.2.2.2.2.1) (by simp))
theorem SP.put {w : World} {x y1 : Pd} {g cap t0 : Nat} {v : V} {qy1 : Value} {W : World} (h : SP w x y1 g cap t0 v qy1 W) {tb : Nat} (z1 : w.heap.size < tb) (z2 : t0 < tb) (z3 : g < tb) (u u' : Value) : SP w x y1 g cap t0 v qy1 ((W.setCell ⟨tb, 0, none⟩ u).setCell ⟨tb, 1, none⟩ u') := by
  have G : W.grownBy ((W.setCell ⟨tb, 0, none⟩ u).setCell ⟨tb, 1, none⟩ u') (some tb) := grown_set (grown_set (grown_refl W (some tb)) 0 _) 1 _
  exact h.same (G.block _ (cell_lt h.1) (fun e => by injection e with e; omega)) (G.block _ (cell_lt h.2.2.1) (fun e => by injection e with e; omega)) (G.block _ (cell_lt h.2.2.2.2.1) (fun e => by injection e with e; omega))
theorem SP.call {X : Xm} {E : Env} {d c nm : Nat} {q : Value} {s : Ms} {w : World} {x y1 : Pd} {g cap t0 : Nat} {v : V} {qy1 : Value} {W W' : World} (h : SP w x y1 g cap t0 v qy1 W) (m : Fm X E d c nm w x q W s) (hF : FrM X c nm W W') (z2 : w.heap.size ≤ t0) (z3 : PX X g) : SP w x y1 g cap t0 v qy1 W' := by
  obtain ⟨s0, h0⟩ := m.h0
  obtain ⟨n1, n2, n3, n4, n5, n6, n7⟩ := h0.new (Nat.le_refl _)
  obtain ⟨k1, k2, k3, k4, k5, k6, k7⟩ := h0.new z2
  exact h.same (hF.block _ (cell_lt h.1) n1 n3 n4 n5 n6) (hF.block _ (cell_lt h.2.2.1) k1 k3 k4 k5 k6) (m.a.px hF g z3 (cell_lt h.2.2.2.2.1))
theorem RB.alloc {X : Xm} {E : Env} {d c nm : Nat} {w : World} {x : Pd} {q : Value} {s : Ms} {W : World} (m : Fm X E d c nm w x q W s) (b : Blk W (w.heap.size + 1) 115 #[.int .i64 0, .int .i64 0]) (v : V) : RB X E d c nm w x q s v W.heap.size (W.alloc (.cells #[.int .i64 v.1, .int .i64 v.2] 115)) :=
  ⟨m.grow (grown_alloc (grown_refl W none) _), b.alloc _, Blk.new W 115 _, b.lt⟩
theorem RB.set {X : Xm} {E : Env} {d c nm : Nat} {w : World} {x : Pd} {q : Value} {s : Ms} {W : World} {tb : Nat} (m : Fm X E d c nm w x q W s) (b : Blk W (w.heap.size + 1) 115 #[.int .i64 0, .int .i64 0]) (h : w.heap.size + 1 < tb) {u u' : Value} (t : Blk W tb 115 #[u, u']) (v : V) : RB X E d c nm w x q s v tb ((W.setCell ⟨tb, 0, none⟩ (.int .i64 v.1)).setCell ⟨tb, 1, none⟩ (.int .i64 v.2)) :=
  ⟨m.wrote (Nat.lt_of_succ_lt h) (grown_set (grown_set (grown_refl W (some tb)) 0 _) 1 _), b.kept (grown_set (grown_set (grown_refl W (some tb)) 0 _) 1 _) (fun e => by injection e with e; omega), Vl.blk_two t _ _, h⟩
set_option maxRecDepth 100000 in
set_option maxHeartbeats 20000000 in
theorem bet_long {X : Xm} {E : Env} {R : Rc} {L : Fl} (hL : FlC L) (hE : MeC X E 151 vV R.ex) {d c nm : Nat} {x y : Pd} {q : Value} {w : World} {st s1 : Ms} {v : V} (hA : CaA w X E d c nm st) (hk : KsP w (PX X) q x.kids) (hy : x.kids[0]? = some y) (hz : R.ex d y st = .ok (v, s1)) (hx : betT L R d x v s1 ≠ .error none) (hs : shortB x v = false) :
    Calls Tryz.prog 186 #[.pointer (some ⟨c, 0, none⟩), ndV x q] w (InP vV X E d c nm w (betT L R d x v s1)) := by
  obtain ⟨y1, hy1, hky1⟩ := kidM_ne (bnd_ne hx)
  have HY1 := hid hy1
  have HKY := hid (And.intro hky1 trivial)
  have HX := hid hx
  have HL := hid hL
  have HN4 : Hid (R.ex d y1 s1 ≠ .error none) := hid (by have h := bnd_ne hx; rw [hky1] at h; exact h)
  clear hy1 hky1 hx hL
  have HS := hid hs
  clear hs
  have hM0 := (Fm.start hA hk).grow (grown_alloc (grown_refl _ none) (.cells #[.int .i64 0, .int .i64 0] 115))
  have hB0 : Blk ((w.alloc (.cells (ndC x q) 121)).alloc (.cells #[.int .i64 0, .int .i64 0] 115)) (w.heap.size + 1) 115 #[.int .i64 0, .int .i64 0] := by simpa using Blk.new (w.alloc (.cells (ndC x q) 121)) 115 #[.int .i64 0, .int .i64 0]
  unfold ndC at hM0 hB0
  have M0 := hid hM0
  have B0 := hid hB0
  have HE := hid hE
  obtain ⟨g, cap, qy, hq, hi, hl1, hl2, hg, ⟨k0, k1, k2, k3, k4, k5, k6, k7⟩, hkk⟩ := hM0.k.kid 0 y hy
  simp only [Nat.mul_zero, Nat.zero_add] at k0 k1 k2 k3 k4 k5 k6 k7
  have KY := hid hkk
  have HZ1 := hid hz
  have HN3 : Hid (R.ex d y st ≠ .error none) := hid (by rw [hz]; intro h; cases h)
  subst hq
  obtain ⟨n0, n1, n2, n3, n4, n5, n6, n7⟩ := hM0.cells
  skip
  skip
  unfold ndV
  clear hM0 hB0 hA hk hE hkk hy hg hz
  go_enter Tryz.func186, Tryz.ntmps186
  go_upto_region 2 with (go_at_call 151; refine (HE.out d y qy c nm _ st M0.out.a KY.out HN3.out).mono ?_; intro e w1 hh; rw [HZ1.out] at hh; obtain ⟨rfl, hA2, hF⟩ := hh; have B1 := hid (M0.out.keep hF (Nat.le_add_right _ 1) B0.out); have M1 := hid (M0.out.call hA2 hF); have T1 := hid (Blk.new w1 115 #[.int .i64 v.1, .int .i64 v.2]); have MA1 := hid (M1.out.grow (grown_alloc (grown_refl w1 none) (.cells #[.int .i64 v.1, .int .i64 v.2] 115))); have BA1 := hid (B1.out.alloc (.cells #[.int .i64 v.1, .int .i64 v.2] 115)); have SZ : Hid (w.heap.size + 1 < w1.heap.size) := hid B1.out.lt; clear n0 n1 n2 n3 n4 n5 n6 n7; obtain ⟨n0, n1, n2, n3, n4, n5, n6, n7⟩ := MA1.out.cells; obtain ⟨t0, t1, g0, g1⟩ := Vl.two_cells T1.out; obtain ⟨c0, c1, f0, f1⟩ := Vl.two_cells BA1.out; skip; clear hA2 hF k0 k1 k2 k3 k4 k5 k6 k7; unfold vV)
  go_cut [32] from 14 to 32 (fun c32 W => c32 = .bool false ∧ RB X E d c nm w x (.slice (some ⟨g, 0, none⟩) x.kids.length cap) s1 v w1.heap.size W)
  case first =>
    by_cases e1 : x.txt.toList = [38, 38]
    · have ht : trueV v = true := by
        have h := HS.out
        unfold shortB at h
        rw [ByteArray.toList_eq] at e1
        rw [e1] at h
        simpa using h
      have TC : Hid (∀ W, Calls Tryz.prog 153 #[vV v] W (Vl.GrP (.bool true) W)) := hid (fun W => by have h := trueC v W; rw [ht] at h; exact h)
      have HT : Hid (x.txt = ⟨#[38, 38]⟩) := hid (bytes_of (by rw [← ByteArray.toList_eq]; exact e1))
      clear e1 ht
      rw [HT.out] at n2
      go_wp2_with (go_at_call 153; refine (TC.out _).mono ?_; rintro e w2 ⟨rfl, hg⟩; have T2 := hid (T1.out.kept hg (by simp)); have M2 := hid (MA1.out.grow hg); have B2 := hid (BA1.out.kept hg (by simp)); clear n0 n1 n2 n3 n4 n5 n6 n7 t0 t1 g0 g1 c0 c1 f0 f1 hg; obtain ⟨n0, n1, n2, n3, n4, n5, n6, n7⟩ := M2.out.cells; rw [HT.out] at n2)
      go_meet
      exact ⟨rfl, M2.out, B2.out, T2.out, SZ.out⟩
    by_cases e2 : x.txt.toList = [124, 124]
    · have ht : trueV v = false := by
        have h := HS.out
        unfold shortB at h
        rw [ByteArray.toList_eq] at e2
        rw [e2] at h
        simpa using h
      have TC : Hid (∀ W, Calls Tryz.prog 153 #[vV v] W (Vl.GrP (.bool false) W)) := hid (fun W => by have h := trueC v W; rw [ht] at h; exact h)
      have HT : Hid (x.txt = ⟨#[124, 124]⟩) := hid (bytes_of (by rw [← ByteArray.toList_eq]; exact e2))
      clear e1 e2 ht
      rw [HT.out] at n2
      go_wp2_with (go_at_call 153; refine (TC.out _).mono ?_; rintro e w2 ⟨rfl, hg⟩; have T2 := hid (T1.out.kept hg (by simp)); have M2 := hid (MA1.out.grow hg); have B2 := hid (BA1.out.kept hg (by simp)); clear n0 n1 n2 n3 n4 n5 n6 n7 t0 t1 g0 g1 c0 c1 f0 f1 hg; obtain ⟨n0, n1, n2, n3, n4, n5, n6, n7⟩ := M2.out.cells; rw [HT.out] at n2)
      go_meet
      exact ⟨rfl, M2.out, B2.out, T2.out, SZ.out⟩
    · go_wp2
      go_meet
      exact ⟨rfl, MA1.out, BA1.out, T1.out, SZ.out⟩
  case rest =>
    obtain ⟨rfl, hRB⟩ := hcut
    clear n0 n1 n2 n3 n4 n5 n6 n7 t0 t1 g0 g1 c0 c1 f0 f1
    have M2 := hid hRB.m
    have B2 := hid hRB.b
    have T2 := hid hRB.t
    have SZ := hid hRB.z
    clear hRB
    obtain ⟨g1, cap1, qy1, hq1, hi1, _, _, hgp, ⟨k0, k1, k2, k3, k4, k5, k6, k7⟩, hkk1⟩ := M2.out.k.kid 1 y1 HY1.out
    injection hq1 with hq1 _ hcap1
    subst hcap1
    injection hq1 with hq1
    injection hq1 with hq1 _ _
    subst hq1
    have HGP := hid hgp
    have hi2 : (1 : Int) < (x.kids.length : Int) := by omega
    simp only [Nat.mul_one, Nat.reduceAdd] at k0 k1 k2 k3 k4 k5 k6 k7
    have K8 : Hid (∀ W W' : World, W.grownBy W' none → (W.cell? ⟨g, 8, none⟩ = some (.int .i64 y1.kind) ∧ W.cell? ⟨g, 9, none⟩ = some (.int .i64 y1.ty) ∧ W.cell? ⟨g, 10, none⟩ = some (.string y1.txt) ∧ W.cell? ⟨g, 11, none⟩ = some (.int .i64 y1.num) ∧ W.cell? ⟨g, 12, none⟩ = some (.slice none 0 0) ∧ W.cell? ⟨g, 13, none⟩ = some (.string y1.nm) ∧ W.cell? ⟨g, 14, none⟩ = some (.int .i64 y1.pl) ∧ W.cell? ⟨g, 15, none⟩ = some qy1) → (W'.cell? ⟨g, 8, none⟩ = some (.int .i64 y1.kind) ∧ W'.cell? ⟨g, 9, none⟩ = some (.int .i64 y1.ty) ∧ W'.cell? ⟨g, 10, none⟩ = some (.string y1.txt) ∧ W'.cell? ⟨g, 11, none⟩ = some (.int .i64 y1.num) ∧ W'.cell? ⟨g, 12, none⟩ = some (.slice none 0 0) ∧ W'.cell? ⟨g, 13, none⟩ = some (.string y1.nm) ∧ W'.cell? ⟨g, 14, none⟩ = some (.int .i64 y1.pl) ∧ W'.cell? ⟨g, 15, none⟩ = some qy1)) := hid (fun W W' hg h => by
        have e : W'.heap[g]? = W.heap[g]? := hg.block g (cell_lt h.1) (by simp)
        exact ⟨cell_same h.1 e, cell_same h.2.1 e, cell_same h.2.2.1 e, cell_same h.2.2.2.1 e, cell_same h.2.2.2.2.1 e, cell_same h.2.2.2.2.2.1 e, cell_same h.2.2.2.2.2.2.1 e, cell_same h.2.2.2.2.2.2.2 e⟩)
    have MD := hid (M2.out.grow (grown_drew (grown_refl wc none)))
    have BD := hid (B2.out.kept (grown_drew (grown_refl wc none)) (by simp))
    have TD := hid (T2.out.kept (grown_drew (grown_refl wc none)) (by simp))
    have KD1 := hid (KsP.fr hkk1 (Kp.of_none _ (grown_drew (grown_refl wc none))))
    have MDa := hid (MD.out.grow (grown_alloc (grown_refl wc.drew none) (.cells #[.int .i64 0, .int .i64 0] 115)))
    have BDa := hid (BD.out.alloc (.cells #[.int .i64 0, .int .i64 0] 115))
    have TDa := hid (TD.out.alloc (.cells #[.int .i64 0, .int .i64 0] 115))
    have KDa := hid (KsP.fr KD1.out (Kp.of_none _ (grown_alloc (grown_refl wc.drew none) (.cells #[.int .i64 0, .int .i64 0] 115))))
    have SDa : Hid (Blk (wc.drew.alloc (.cells #[.int .i64 0, .int .i64 0] 115)) wc.heap.size 115 #[.int .i64 0, .int .i64 0]) := hid (Blk.new wc.drew 115 #[.int .i64 0, .int .i64 0])
    have SZ2 : Hid (w.heap.size + 1 < wc.heap.size ∧ w1.heap.size < wc.heap.size) := hid ⟨B2.out.lt, T2.out.lt⟩
    have MA2 := hid (M2.out.grow (grown_alloc (grown_refl wc none) (.cells #[.int .i64 0, .int .i64 0] 115)))
    have TA2 := hid (T2.out.alloc (.cells #[.int .i64 0, .int .i64 0] 115))
    obtain ⟨m0, m1, m2, m3, m4, m5, m6, m7⟩ := MA2.out.cells
    skip
    obtain ⟨u0, u1, _, _⟩ := Vl.two_cells TA2.out
    obtain ⟨l0, l1, l2, l3, l4, l5, l6, l7⟩ := K8.out wc (wc.alloc (.cells #[.int .i64 0, .int .i64 0] 115)) (grown_alloc (grown_refl wc none) _) ⟨k0, k1, k2, k3, k4, k5, k6, k7⟩
    clear hkk1
    obtain ⟨n0, n1, n2, n3, n4, n5, n6, n7⟩ := M2.out.cells
    obtain ⟨t0, t1, g0, g1⟩ := Vl.two_cells T2.out
    obtain ⟨c0, c1, f0, f1⟩ := Vl.two_cells B2.out
    go_upto_region 4 with fail
    obtain ⟨py, cy2, rfl, _, _, _⟩ := KD1.out.form
    generalize hcy1 : y1.kids.length = cy1 at *
    have GP : Hid (PX X g) := HGP
    have ZTT : Hid (w.heap.size ≤ w1.heap.size) := hid (Nat.le_of_lt (by have := SZ.out; omega))
    have GL : Hid (g < wc.heap.size) := hid (cell_lt k0)
    have K0 : SP w x y1 g cap w1.heap.size v (.slice py cy1 cy2) wc := ⟨n2, n7, t0, t1, k0, k1, k2, k3, k4, k5, k6, k7⟩
    have HK0 := hid K0
    have HK1 := hid (K0.grow (grown_drew (grown_refl wc none)))
    have HK2 := hid (HK1.out.grow (grown_alloc (grown_refl wc.drew none) (.cells #[.int .i64 0, .int .i64 0] 115)))
    have K2 := K0.grow (grown_drew (grown_alloc (grown_refl wc none) (.cells #[.int .i64 0, .int .i64 0] 115)))
    have K1 := HK1.out
    unfold SP at K0 K1 K2
    rcases hz2 : R.ex d y1 s1 with e0 | ⟨b, s2⟩
    · rcases e0 with _ | ⟨n, s2⟩
      · exact absurd hz2 HN4.out
      have HZ2 := hid hz2
      have HIN : Hid (betT L R d x v s1 = .error (some (n, s2))) := hid (by unfold betT; rw [HKY.out.1, bnd_err hz2])
      rw [HIN.out]
      clear hz2
      go_region_law (first
        | (go_simp; go_at_call 151; refine (HE.out d y1 (.slice py cy1 cy2) c nm _ s1 MD.out.a KD1.out HN4.out).mono ?_; intro e w3 hh; rcases InP.cases hh HN4.out with ⟨n', s9, hz, rfl, hM, hF⟩ | ⟨b, s9, hz, rfl, hA2, hF⟩; (case inl => rw [HZ2.out] at hh; exact ⟨rfl, hh.1, hh.2.1, MD.out.f.trans hh.2.2⟩); have hff : Hid False := hid (by rw [HZ2.out] at hz; cases hz); have CB0 : Hid (∀ a W, Calls Tryz.prog 222 a W (Vl.GrP (Vl.tw (vV ((0, 0) : V)) 0) W)) := hff.out.elim; clear hz; have fa0 : w3.cell? ⟨w.heap.size, 2, none⟩ = some (.string x.txt) := hff.out.elim; have fa1 : w3.cell? ⟨w1.heap.size, 0, none⟩ = some (.int .i64 v.1) := hff.out.elim; have fa2 : w3.cell? ⟨w1.heap.size, 1, none⟩ = some (.int .i64 v.2) := hff.out.elim; have fb0 : (w3.alloc (.cells #[.int .i64 0, .int .i64 0] 115)).cell? ⟨w.heap.size, 2, none⟩ = some (.string x.txt) := hff.out.elim; have fb1 : (w3.alloc (.cells #[.int .i64 0, .int .i64 0] 115)).cell? ⟨w1.heap.size, 0, none⟩ = some (.int .i64 v.1) := hff.out.elim; have fb2 : (w3.alloc (.cells #[.int .i64 0, .int .i64 0] 115)).cell? ⟨w1.heap.size, 1, none⟩ = some (.int .i64 v.2) := hff.out.elim; unfold vV)
        | (go_simp; go_at_call 151; refine (HE.out d y1 (.slice py cy1 cy2) c nm _ s1 MDa.out.a KDa.out HN4.out).mono ?_; intro e w3 hh; rcases InP.cases hh HN4.out with ⟨n', s9, hz, rfl, hM, hF⟩ | ⟨b, s9, hz, rfl, hA2, hF⟩; (case inl => rw [HZ2.out] at hh; exact ⟨rfl, hh.1, hh.2.1, MDa.out.f.trans hh.2.2⟩); have hff : Hid False := hid (by rw [HZ2.out] at hz; cases hz); have CB0 : Hid (∀ a W, Calls Tryz.prog 222 a W (Vl.GrP (Vl.tw (vV ((0, 0) : V)) 0) W)) := hff.out.elim; clear hz; have fa0 : w3.cell? ⟨w.heap.size, 2, none⟩ = some (.string x.txt) := hff.out.elim; have fa1 : w3.cell? ⟨w1.heap.size, 0, none⟩ = some (.int .i64 v.1) := hff.out.elim; have fa2 : w3.cell? ⟨w1.heap.size, 1, none⟩ = some (.int .i64 v.2) := hff.out.elim; have fb0 : (w3.alloc (.cells #[.int .i64 0, .int .i64 0] 115)).cell? ⟨w.heap.size, 2, none⟩ = some (.string x.txt) := hff.out.elim; have fb1 : (w3.alloc (.cells #[.int .i64 0, .int .i64 0] 115)).cell? ⟨w1.heap.size, 0, none⟩ = some (.int .i64 v.1) := hff.out.elim; have fb2 : (w3.alloc (.cells #[.int .i64 0, .int .i64 0] 115)).cell? ⟨w1.heap.size, 1, none⟩ = some (.int .i64 v.2) := hff.out.elim; unfold vV)
        | (go_simp; go_at_call 222; refine (CB0.out _ _).mono ?_; rintro e w4 ⟨rfl, hg⟩; have qc0 : w4.cell? ⟨wc.heap.size, 0, none⟩ = some (.int .i64 0) := hff.out.elim; have zc0 : w4.frozen? ⟨wc.heap.size, 0, none⟩ = false := hff.out.elim; have qc1 : w4.cell? ⟨wc.heap.size, 1, none⟩ = some (.int .i64 0) := hff.out.elim; have zc1 : w4.frozen? ⟨wc.heap.size, 1, none⟩ = false := hff.out.elim; have qd0 : w4.cell? ⟨w3.heap.size, 0, none⟩ = some (.int .i64 0) := hff.out.elim; have zd0 : w4.frozen? ⟨w3.heap.size, 0, none⟩ = false := hff.out.elim; have qd1 : w4.cell? ⟨w3.heap.size, 1, none⟩ = some (.int .i64 0) := hff.out.elim; have zd1 : w4.frozen? ⟨w3.heap.size, 1, none⟩ = false := hff.out.elim; unfold vV))
      all_goals exact hff.out.elim
    have HZ2 := hid (And.intro hz2 trivial)
    obtain ⟨r, hr⟩ := resM_ne (bnd_ne (by have h := HX.out; unfold betT at h; rw [HKY.out.1, bnd_ok hz2] at h; exact h))
    have HR := hid hr
    have CB : Hid (∀ W, Calls Tryz.prog 222 #[.string x.txt, vV v, vV b] W (Vl.GrP (Vl.tw (vV r.1) r.2) W)) := hid (fun W => binC HL.out x.txt v b r hr W)
    clear hz2 hr
    clear l0 l1 l2 l3 l4 l5 l6 l7 m0 m1 m2 m3 m4 m5 m6 m7 u0 u1 K8 MA2 TA2 k0 k1 k2 k3 k4 k5 k6 k7 n0 n1 n2 n3 n4 n5 n6 n7 t0 t1 g0 g1
    go_region_held3 (fun V => V.cell? ⟨w.heap.size, 2, none⟩ = some (.string x.txt) ∧ V.cell? ⟨w.heap.size, 7, none⟩ = some (.slice (some ⟨g, 0, none⟩) x.kids.length cap) ∧ V.cell? ⟨w1.heap.size, 0, none⟩ = some (.int .i64 v.1) ∧ V.cell? ⟨w1.heap.size, 1, none⟩ = some (.int .i64 v.2) ∧ V.cell? ⟨g, 8, none⟩ = some (.int .i64 y1.kind) ∧ V.cell? ⟨g, 9, none⟩ = some (.int .i64 y1.ty) ∧ V.cell? ⟨g, 10, none⟩ = some (.string y1.txt) ∧ V.cell? ⟨g, 11, none⟩ = some (.int .i64 y1.num) ∧ V.cell? ⟨g, 12, none⟩ = some (.slice none 0 0) ∧ V.cell? ⟨g, 13, none⟩ = some (.string y1.nm) ∧ V.cell? ⟨g, 14, none⟩ = some (.int .i64 y1.pl) ∧ V.cell? ⟨g, 15, none⟩ = some (.slice py cy1 cy2)) (first | assumption | exact HK1.out | exact HK2.out | exact K3 | exact K4 | exact K5 | exact K6 | exact K7 | go_keep) (first
      | (go_at_call 151; refine (HE.out d y1 (.slice py cy1 cy2) c nm _ s1 MD.out.a KD1.out HN4.out).mono ?_; intro e w3 hh; rw [HZ2.out.1] at hh; obtain ⟨rfl, hA2, hF⟩ := hh; have B3 := hid (MD.out.keep hF (Nat.le_add_right _ 1) BD.out); have M3 := hid (MD.out.call hA2 hF); have K3 := HK1.out.call MD.out hF ZTT.out GP.out; have HK3 := hid K3; have K4 := K3.grow (grown_alloc (grown_refl w3 none) (.cells #[.int .i64 0, .int .i64 0] 115)); unfold SP at K3 K4; clear hA2 hF; unfold vV)
      | (go_at_call 151; refine (HE.out d y1 (.slice py cy1 cy2) c nm _ s1 MDa.out.a KDa.out HN4.out).mono ?_; intro e w3 hh; rw [HZ2.out.1] at hh; obtain ⟨rfl, hA2, hF⟩ := hh; have S3 := hid (MDa.out.keep hF (Nat.le_of_lt (by have := SZ2.out; omega)) SDa.out); have B3 := hid (MDa.out.keep hF (Nat.le_add_right _ 1) BDa.out); have M3 := hid (MDa.out.call hA2 hF); have K3 := HK2.out.call MDa.out hF ZTT.out GP.out; have HK3 := hid K3; have K4 := K3.grow (grown_alloc (grown_refl w3 none) (.cells #[.int .i64 0, .int .i64 0] 115)); unfold SP at K3 K4; clear hA2 hF; unfold vV)
      | (go_at_call 222; refine (CB.out _).mono ?_; rintro e w4 ⟨rfl, hg⟩; have M4 := hid (M3.out.grow hg); have B4 := hid ((B3.out).kept hg (by simp)); have K5 := (HK3.out).grow hg; have S4 := hid (S3.out.kept hg (by simp)); obtain ⟨p0, p1, q0, q1⟩ := Vl.two_cells S4.out; have K6 := K5.put (Nat.lt_of_succ_lt SZ2.out.1) SZ2.out.2 GL.out (.int .i64 r.1.1) (.int .i64 r.1.2); have RR := hid (RB.set M4.out B4.out SZ2.out.1 S4.out r.1); unfold SP at K5 K6; clear hg; unfold vV)
      | (go_at_call 222; refine (CB.out _).mono ?_; rintro e w4 ⟨rfl, hg⟩; have MA := M3.out.grow (grown_alloc (grown_refl w3 none) (.cells #[.int .i64 0, .int .i64 0] 115)); have M4 := hid (MA.grow hg); have B4 := hid ((B3.out.alloc (.cells #[.int .i64 0, .int .i64 0] 115)).kept hg (by simp)); have K5 := (HK3.out.grow (grown_alloc (grown_refl w3 none) (.cells #[.int .i64 0, .int .i64 0] 115))).grow hg; have S4 := hid ((Blk.new w3 115 #[.int .i64 0, .int .i64 0]).kept hg (by simp)); obtain ⟨p0, p1, q0, q1⟩ := Vl.two_cells S4.out; have SZ3 : Hid (w.heap.size + 1 < w3.heap.size) := hid B3.out.lt; have K6 := K5.put (Nat.lt_of_succ_lt SZ3.out) (cell_lt HK3.out.2.2.1) (cell_lt HK3.out.2.2.2.2.1) (.int .i64 r.1.1) (.int .i64 r.1.2); have RR := hid (RB.set M4.out B4.out SZ3.out S4.out r.1); unfold SP at K5 K6; clear hg; unfold vV)
      | (go_at_call 222; refine (CB.out _).mono ?_; rintro e w4 ⟨rfl, hg⟩; have M4 := hid (M3.out.grow hg); have B4 := hid ((B3.out).kept hg (by simp)); have K5 := (HK3.out).grow hg; have K6 := K5.grow (grown_alloc (grown_refl w4 none) (.cells #[.int .i64 r.1.1, .int .i64 r.1.2] 115)); have K7 := K5.grow (grown_alloc (grown_refl w4 none) (.cells #[.int .i64 0, .int .i64 0] 115)); have RR := hid (RB.alloc M4.out B4.out r.1); unfold SP at K5 K6 K7; clear hg; unfold vV))
    all_goals
      have M5 := hid RR.out.m
      have B5 := hid RR.out.b
      obtain ⟨p0, p1, q0, q1⟩ := Vl.two_cells RR.out.t
      obtain ⟨c0, c1, f0, f1⟩ := Vl.two_cells RR.out.b
      clear RR
      by_cases h0 : r.2 = 0
      · have CN : Hid (∀ W, Calls Tryz.prog 148 #[.int .i64 r.2] W fun e w' => e = .returned (.tuple #[]) ∧ w' = W) := by rw [h0]; exact need_ok
        have EN := hid (needM_0 h0 s2)
        clear h0
        go_wp2_with (go_at_call 148; refine (CN.out _).mono ?_; rintro e w5 ⟨rfl, hw⟩; replace hw := hw.symm; subst hw)
        obtain ⟨z0, z1, _, _⟩ := Vl.two_cells (Vl.blk_two B5.out (.int .i64 r.1.1) (.int .i64 r.1.2))
        refine bodyPost_ret (v := vV r.1) (by simp [vV, results, Tryz.results186, go_sem, z0, z1]) rfl ?_
        unfold betT
        rw [HKY.out.1, bnd_ok HZ2.out.1, HR.out]
        rw [show (resM (some r) >>= fun r => needM r.2 >>= fun _ => pure r.1) = (needM r.2 >>= fun _ => pure r.1) from rfl, bnd_ok EN.out]
        exact ⟨rfl, M5.out.two _ _⟩
      · have CN : Hid (∀ W, Calls Tryz.prog 148 #[.int .i64 r.2] W fun e w' => e = .panicked (TrV r.2) ∧ w' = W) := hid (fun W => need_trap r.2 h0 W)
        have EN := hid (needM_1 h0 s2)
        clear h0
        go_wp2_with (go_at_call 148; refine (CN.out _).mono ?_; rintro e w5 ⟨rfl, hw⟩; replace hw := hw.symm; subst hw)
        refine ⟨rfl, ?_⟩
        unfold betT
        rw [HKY.out.1, bnd_ok HZ2.out.1, HR.out]
        rw [show (resM (some r) >>= fun r => needM r.2 >>= fun _ => pure r.1) = (needM r.2 >>= fun _ => pure r.1) from rfl, bnd_err EN.out]
        exact ⟨rfl, M5.out.a.ma, M5.out.f⟩
end Ip
end Go.Proofs.YtajoncmmdeahnaaGreatDoor
namespace Go.Proofs.YtajoncmmdeahnaaGreatDoor
open Go.RowKit
namespace Ip
theorem bet_trap {X : Xm} {E : Env} {R : Rc} (hE : MeC X E 151 vV R.ex) {d c nm : Nat} {x y : Pd} {q : Value} {w : World} {st : Ms} (hA : CaA w X E d c nm st) (hk : KsP w (PX X) q x.kids) (hy : x.kids[0]? = some y) {n : Nat} {s1 : Ms} (hz : R.ex d y st = .error (some (n, s1))) :
    Calls Tryz.prog 186 #[.pointer (some ⟨c, 0, none⟩), ndV x q] w (InP vV X E d c nm w (.error (some (n, s1)))) := by
  have hM0 := (Fm.start hA hk).grow (grown_alloc (grown_refl _ none) (.cells #[.int .i64 0, .int .i64 0] 115))
  unfold ndC at hM0
  have M0 := hid hM0
  have HE := hid hE
  obtain ⟨g, cap, qy, hq, hi, hl1, hl2, hg, ⟨k0, k1, k2, k3, k4, k5, k6, k7⟩, hkk⟩ := hM0.k.kid 0 y hy
  simp only [Nat.mul_zero, Nat.zero_add] at k0 k1 k2 k3 k4 k5 k6 k7
  have KY := hid hkk
  have HZ1 := hid hz
  have HN3 : Hid (R.ex d y st ≠ .error none) := hid (by rw [hz]; intro h; cases h)
  subst hq
  obtain ⟨n0, n1, n2, n3, n4, n5, n6, n7⟩ := hM0.cells
  unfold ndV
  clear hM0 hA hk hE hkk hy hg hz
  go_enter Tryz.func186, Tryz.ntmps186
  go_wp2_with (go_at_call 151; refine (HE.out d y qy c nm _ st M0.out.a KY.out HN3.out).mono ?_; intro e w1 hh; rw [HZ1.out] at hh; obtain ⟨rfl, hM, hF⟩ := hh)
  exact ⟨rfl, rfl, hM, M0.out.f.trans hF⟩
theorem between_any {X : Xm} {L : Fl} {E : Env} {R : Rc} (hL : FlC L) (hE : MeC X E 151 vV R.ex) : MeC X E 186 vV (betweenM L R) := by
  intro d x q c nm w st hA hk hx
  rw [betM_eq] at hx ⊢
  obtain ⟨y, hy, hky⟩ := kidM_ne (bnd_ne hx)
  rw [hky] at hx ⊢
  rcases hz : R.ex d y st with e0 | ⟨v, s1⟩
  · rcases e0 with _ | ⟨n, s1⟩
    · exact absurd (bnd_err hz) hx
    · rw [bnd_err hz]
      exact bet_trap hE hA hk hy hz
  rw [bnd_ok hz] at hx ⊢
  cases hs : shortB x v with
  | true =>
    rw [if_pos rfl]
    have h := hs
    unfold shortB at h
    rw [Bool.or_eq_true, Bool.and_eq_true, Bool.and_eq_true, beq_iff_eq, beq_iff_eq, Bool.not_eq_true'] at h
    rcases h with ⟨h1, h2⟩ | ⟨h1, h2⟩
    · exact bet_and hE hA hk hy hz (bytes_of h1) h2
    · exact bet_or hE hA hk hy hz (bytes_of h1) h2
  | false =>
    rw [hs, if_neg Bool.false_ne_true] at hx
    rw [if_neg Bool.false_ne_true]
    exact bet_long hL hE hA hk hy hz hx hs
theorem expr_any {X : Xm} {L : Fl} {E : Env} {R : Rc} (hL : FlC L) (hE : MeC X E 151 vV R.ex) (hB : MeC X E 61 bU R.bl) : MeC X E 151 vV (exprM L E R) := by
  intro d x q c nm w st hA hk hx
  by_cases h23 : x.kind = 23
  · exact ex_23 x q w st hA hk hx h23
  by_cases h24 : x.kind = 24
  · exact ex_24 (called_any hE hB) x q w st hA hk hx h24
  by_cases h25 : x.kind = 25
  · exact ex_25 hL hE x q w st hA hk hx h25
  by_cases h26 : x.kind = 26
  · exact ex_26 (between_any hL hE) x q w st hA hk hx h26
  by_cases h27 : x.kind = 27
  · exact ex_27 hL hE x q w st hA hk hx h27
  exact ex_lit x q w st hA hk hx (by omega)
theorem rc_any {X : Xm} {L : Fl} {E : Env} (hL : FlC L) : ∀ k, MeC X E 151 vV (rc L E k).ex ∧ MeC X E 61 bU (rc L E k).bl
  | 0 => ⟨fun _ _ _ _ _ _ _ _ _ hx => absurd rfl hx, fun _ _ _ _ _ _ _ _ _ hx => absurd rfl hx⟩
  | k + 1 => ⟨expr_any hL (rc_any hL k).1 (rc_any hL k).2, block_any (statement_any (rc_any hL k).1 (rc_any hL k).2)⟩
end Ip
end Go.Proofs.YtajoncmmdeahnaaGreatDoor
