/-
  with, at a page with kids: the walk.
-/
import Derived.Test.YtbhmmcelndmijaaGreatKPl3
import Derived.Deep.DeepCutAuto
namespace Go.Proofs.YtbhmmcelndmijaaGreat
open Go.RowKit Go.Maps
theorem PgO.base_le {w : World} {b b' : Nat} {v : Value} {p : Pa.Pg} (h : Pa.PgO w b v p) (hb : b' ≤ b) : Pa.PgO w b' v p := by
  obtain ⟨x, y, z, h0, h1, h2, h3, h4⟩ := h
  exact ⟨x, y, z, h0, h1, Pa.owns_le h2 hb, Pa.owns_le h3 hb, Pa.owns_le h4 hb⟩
/-- A page of one's own that lies ahead of what is turned. -/
theorem XT.pgO {base lb bp bp0 : Nat} {w w' : World} {v : Value} {p : Pa.Pg} {G : Lg} (h : XT base lb bp w w') (hv : Pa.PgO w bp0 v p) (hL : IsLog w base lb G) (hb : ∀ (t : TypeId) (u : Value) (n : Nat) (xs : List Value), w.ownsRow bp0 t 1 u n xs → (∃ a b c, v = .agg #[.bool p.leaf, a, b, c] ∧ (u = a ∨ u = b ∨ u = c)) → ∀ k, u.ownBlock = some k → k < bp) : Pa.PgO w' bp0 v p := by
  obtain ⟨x, y, z, h0, h1, h2, h3, h4⟩ := hv
  exact ⟨x, y, z, h0, h1, h.row h2 hL (by decide) (hb _ _ _ _ h2 ⟨x, y, z, h0, Or.inl rfl⟩), h.row h3 hL (by decide) (hb _ _ _ _ h3 ⟨x, y, z, h0, Or.inr (Or.inl rfl)⟩), h.row h4 hL (by decide) (hb _ _ _ _ h4 ⟨x, y, z, h0, Or.inr (Or.inr rfl)⟩)⟩
theorem PgO.own {w w' : World} {bp0 b : Nat} {t : TypeId} {cs : Array Value} {v : Value} {p : Pa.Pg} (hv : Pa.PgO w bp0 v p) (hb : Blk w b t cs) (ht : t ≠ 9 ∧ t ≠ 3) (hg : w.grownBy w' (some b)) : Pa.PgO w' bp0 v p := by
  obtain ⟨x, y, z, h0, h1, h2, h3, h4⟩ := hv
  exact ⟨x, y, z, h0, h1, rowG_kept h2 hb ht.1 hg, rowG_kept h3 hb ht.1 hg, rowG_kept h4 hb ht.2 hg⟩
/-- What lies in a page's three rows. -/
theorem PgO.form {w : World} {bp : Nat} {v : Value} {p : Pa.Pg} (h : Pa.PgO w bp v p) : ∃ p1 k1 p2 k2 p3 k3, v = .agg #[.bool p.leaf, .slice p1 p.keys.length k1, .slice p2 p.vals.length k2, .slice p3 p.kids.length k3] := by
  obtain ⟨x, y, z, rfl, h1, h2, h3, h4⟩ := h
  obtain ⟨p1, k1, rfl⟩ := Pa.owns_slice h2
  obtain ⟨p2, k2, rfl⟩ := Pa.owns_slice h3
  obtain ⟨p3, k3, rfl⟩ := Pa.owns_slice h4
  exact ⟨_, _, _, _, _, _, rfl⟩
theorem PgO.kid {w : World} {bp k3 : Nat} {a b : Value} {p3 : Option Addr} {p : Pa.Pg} (h : Pa.PgO w bp (.agg #[.bool p.leaf, a, b, .slice p3 p.kids.length k3]) p) {i : Nat} {x : Int} (hi : p.kids[i]? = some x) : ∃ g3, p3 = some ⟨g3, 0, none⟩ ∧ g3 < w.heap.size ∧ ∀ W, w.grownBy W none → W.cell? ⟨g3, i, none⟩ = some (.int .i64 x) := by
  obtain ⟨x', y, z, e, h1, h2, h3, h4⟩ := h
  injection e with e
  have e' := congrArg Array.toList e
  simp at e'
  obtain ⟨rfl, rfl, rfl⟩ := e'
  rcases Sl.owns_cases h4 with ⟨_, h0, _⟩ | ⟨g, c, cur, e, hg, hB, hn, hc, hs, hx, hl⟩
  · have := (List.getElem?_eq_some_iff.1 hi).1
    omega
  · injection e with e1 e2 e3
    subst e1
    refine ⟨g, rfl, hB.lt, fun W hW => ?_⟩
    rw [(hB.kept hW (by simp)).cell]
    exact Sl.take_get hx (by unfold Pa.ints; rw [List.getElem?_map, hi]; rfl)
abbrev pgC (p : Pa.Pg) (p1 : Option Addr) (k1 : Nat) (p2 : Option Addr) (k2 : Nat) (p3 : Option Addr) (k3 : Nat) : Array Value := #[.bool p.leaf, .slice p1 p.keys.length k1, .slice p2 p.vals.length k2, .slice p3 p.kids.length k3]
theorem PgO.below {w : World} {bp : Nat} {v : Value} {p : Pa.Pg} (h : Pa.PgO w bp v p) : ∀ u, (∃ a b c, v = .agg #[.bool p.leaf, a, b, c] ∧ (u = a ∨ u = b ∨ u = c)) → ∀ k, u.ownBlock = some k → k < w.heap.size := by
  obtain ⟨x, y, z, rfl, h1, h2, h3, h4⟩ := h
  rintro u ⟨a, b, c, e, hu⟩ k hk
  injection e with e
  have e' := congrArg Array.toList e
  simp at e'
  obtain ⟨rfl, rfl, rfl⟩ := e'
  rcases hu with rfl | rfl | rfl
  · exact (World.ownsRow.lt h2 k hk).2
  · exact (World.ownsRow.lt h3 k hk).2
  · exact (World.ownsRow.lt h4 k hk).2
/-- A page that was read is put into a box that was made ahead, or behind. -/
theorem first_end (w3 w4 W : World) (q : Pa.Pg) (q1 q2' q3 : Option Addr) (l1 l2 l3 : Nat) (BK : Blk w4 w3.heap.size 70 #[.bool false, .slice none 0 0, .slice none 0 0, .slice none 0 0]) (o4 : Pa.PgO w4 W.heap.size (.agg #[.bool q.leaf, .slice q1 q.keys.length l1, .slice q2' q.vals.length l2, .slice q3 q.kids.length l3]) q) (hs : w3.heap.size ≤ W.heap.size) (hg : w3.grownBy W none) (g4 : W.grownBy w4 none) : w3.heap.size ≤ w3.heap.size ∧ Blk ((((w4.setCell ⟨w3.heap.size, 0, none⟩ (.bool q.leaf)).setCell ⟨w3.heap.size, 1, none⟩ (.slice q1 q.keys.length l1)).setCell ⟨w3.heap.size, 2, none⟩ (.slice q2' q.vals.length l2)).setCell ⟨w3.heap.size, 3, none⟩ (.slice q3 q.kids.length l3)) w3.heap.size 70 #[.bool q.leaf, .slice q1 q.keys.length l1, .slice q2' q.vals.length l2, .slice q3 q.kids.length l3] ∧ Pa.PgO ((((w4.setCell ⟨w3.heap.size, 0, none⟩ (.bool q.leaf)).setCell ⟨w3.heap.size, 1, none⟩ (.slice q1 q.keys.length l1)).setCell ⟨w3.heap.size, 2, none⟩ (.slice q2' q.vals.length l2)).setCell ⟨w3.heap.size, 3, none⟩ (.slice q3 q.kids.length l3)) w3.heap.size (.agg #[.bool q.leaf, .slice q1 q.keys.length l1, .slice q2' q.vals.length l2, .slice q3 q.kids.length l3]) q ∧ w3.grownBy ((((w4.setCell ⟨w3.heap.size, 0, none⟩ (.bool q.leaf)).setCell ⟨w3.heap.size, 1, none⟩ (.slice q1 q.keys.length l1)).setCell ⟨w3.heap.size, 2, none⟩ (.slice q2' q.vals.length l2)).setCell ⟨w3.heap.size, 3, none⟩ (.slice q3 q.kids.length l3)) none :=
  ⟨Nat.le_refl _, blk_store4 _ _ _ _ BK, PgO.base_le (PgO.own o4 BK (by decide) (grown_set (grown_set (grown_set (grown_set (grown_refl w4 (some w3.heap.size)) 0 _) 1 _) 2 _) 3 _)) hs, grown_store4 _ _ _ _ (grown_none hg g4) (Nat.le_refl _)⟩
theorem last_end (w3 w4 : World) (q : Pa.Pg) (q1 q2' q3 : Option Addr) (l1 l2 l3 : Nat) (o4 : Pa.PgO w4 w3.drew.heap.size (.agg #[.bool q.leaf, .slice q1 q.keys.length l1, .slice q2' q.vals.length l2, .slice q3 q.kids.length l3]) q) (g4 : w3.drew.grownBy w4 none) : w3.heap.size ≤ w4.heap.size ∧ Blk (w4.alloc (.cells #[.bool q.leaf, .slice q1 q.keys.length l1, .slice q2' q.vals.length l2, .slice q3 q.kids.length l3] 70)) w4.heap.size 70 #[.bool q.leaf, .slice q1 q.keys.length l1, .slice q2' q.vals.length l2, .slice q3 q.kids.length l3] ∧ Pa.PgO (w4.alloc (.cells #[.bool q.leaf, .slice q1 q.keys.length l1, .slice q2' q.vals.length l2, .slice q3 q.kids.length l3] 70)) w3.heap.size (.agg #[.bool q.leaf, .slice q1 q.keys.length l1, .slice q2' q.vals.length l2, .slice q3 q.kids.length l3]) q ∧ w3.grownBy (w4.alloc (.cells #[.bool q.leaf, .slice q1 q.keys.length l1, .slice q2' q.vals.length l2, .slice q3 q.kids.length l3] 70)) none :=
  ⟨g4.size, Blk.new w4 70 _, Pa.PgO.keptN (show Pa.PgO w4 w3.heap.size _ q from o4) (grown_alloc (grown_refl _ _) _), grown_alloc (grown_none (grown_drew (grown_refl w3 none)) g4) _⟩
set_option maxRecDepth 100000 in
set_option maxHeartbeats 4000000 in
theorem with_node (base bp b lb i : Nat) (g g1 g2 : Lg) (root a : Int) (p q q2 p2 : Pa.Pg) (v : Value) (lo hi lo' hi' k x : ByteArray) (w : World) (hT : IsTree w b lb root) (hL : IsLog w base lb g) (hv : Pa.PgO w bp v p) (hb : bp ≤ w.heap.size) (hleaf : p.leaf = false) (hki : p.kids[i]? = some a)
    (h40 : ∀ W, w.grownBy W none → Calls Tryz.prog 40 #[v, .string k] W fun e w' => e = .returned (.int .i64 i) ∧ W.grownBy w' none)
    (h41 : ∀ W, w.grownBy W none → Calls Tryz.prog 41 #[.agg #[.string lo, .string hi], v, .int .i64 i] W fun e w' => e = .returned (.agg #[.string lo', .string hi']) ∧ W.grownBy w' none)
    (h42 : ∀ W, w.grownBy W none → Calls Tryz.prog 42 #[.pointer (some ⟨b, 0, none⟩), .int .i64 a, .agg #[.string lo', .string hi']] W (Pa.DecPost W q 0))
    (h31 : ∀ W u bq, IsTree W b lb root → IsLog W base lb g → Pa.PgO W bq u q → bq ≤ W.heap.size → Calls Tryz.prog 31 #[.pointer (some ⟨b, 0, none⟩), u, .agg #[.string lo', .string hi'], .string k, .string x] W (SwPost W base lb bq g1 q2))
    (h48 : ∀ W u bq, IsTree W b lb root → IsLog W base lb g1 → Pa.PgO W bp v p → Pa.PgO W bq u q2 → bp ≤ W.heap.size → Calls Tryz.prog 48 #[.pointer (some ⟨b, 0, none⟩), v, .int .i64 i, .int .i64 i, u] W (SwPost W base lb bp g2 p2)) :
    Calls Tryz.prog 31 #[.pointer (some ⟨b, 0, none⟩), v, .agg #[.string lo, .string hi], .string k, .string x] w (SwPost w base lb bp g2 p2) := by
  have C40 := hid h40
  have C41 := hid h41
  have C42 := hid h42
  have C31 := hid h31
  have C48 := hid h48
  have HT := hid hT
  have HL := hid hL
  have HV := hid hv
  have HB := hid hb
  obtain ⟨p1, k1, p2', k2, p3, k3, rfl⟩ := PgO.form hv
  obtain ⟨g3, rfl, hg3, hc3⟩ := PgO.kid hv hki
  rw [hleaf] at *
  have HC3 := hid hc3
  have hil := (List.getElem?_eq_some_iff.1 hki).1
  obtain ⟨P0, hP0⟩ : ∃ P, P = SwPost w base lb bp g2 p2 := ⟨_, rfl⟩
  rw [← hP0]
  have HP := hid (And.intro hP0 trivial)
  obtain ⟨N, hN⟩ : ∃ N, N = w.heap.size := ⟨_, rfl⟩
  have G0 : Hid (w.grownBy (((w.alloc (.cells #[.bool false, .slice p1 p.keys.length k1, .slice p2' p.vals.length k2, .slice (some ⟨g3, 0, none⟩) p.kids.length k3] 70)).alloc (.cells #[.string lo, .string hi] 76)).alloc (.cells #[.bool false, .slice none 0 0, .slice none 0 0, .slice none 0 0] 70)) none) := grown_alloc (grown_alloc (grown_alloc (grown_refl w none) _) _) _
  have X0 : Hid (Blk (((w.alloc (.cells #[.bool false, .slice p1 p.keys.length k1, .slice p2' p.vals.length k2, .slice (some ⟨g3, 0, none⟩) p.kids.length k3] 70)).alloc (.cells #[.string lo, .string hi] 76)).alloc (.cells #[.bool false, .slice none 0 0, .slice none 0 0, .slice none 0 0] 70)) w.heap.size 70 #[.bool false, .slice p1 p.keys.length k1, .slice p2' p.vals.length k2, .slice (some ⟨g3, 0, none⟩) p.kids.length k3]) := ((Blk.new w 70 _).alloc _).alloc _
  have Y0 : Hid (Blk (((w.alloc (.cells #[.bool false, .slice p1 p.keys.length k1, .slice p2' p.vals.length k2, .slice (some ⟨g3, 0, none⟩) p.kids.length k3] 70)).alloc (.cells #[.string lo, .string hi] 76)).alloc (.cells #[.bool false, .slice none 0 0, .slice none 0 0, .slice none 0 0] 70)) (w.heap.size + 1) 76 #[.string lo, .string hi]) := (by
    have := Blk.new (w.alloc (.cells #[.bool false, .slice p1 p.keys.length k1, .slice p2' p.vals.length k2, .slice (some ⟨g3, 0, none⟩) p.kids.length k3] 70)) 76 #[.string lo, .string hi]
    rw [World.size_alloc] at this
    exact this.alloc _)
  have Z0 : Hid (Blk (((w.alloc (.cells #[.bool false, .slice p1 p.keys.length k1, .slice p2' p.vals.length k2, .slice (some ⟨g3, 0, none⟩) p.kids.length k3] 70)).alloc (.cells #[.string lo, .string hi] 76)).alloc (.cells #[.bool false, .slice none 0 0, .slice none 0 0, .slice none 0 0] 70)) (w.heap.size + 1 + 1) 70 #[.bool false, .slice none 0 0, .slice none 0 0, .slice none 0 0]) := third w _ _ 70 _
  clear hP0 h40 h41 h42 h31 h48 hT hL hv hb hc3
  go_enter Tryz.func31, Tryz.ntmps31
  go_wp2_with (first
    | (go_at_call 40; refine (C40.out _ G0.out).mono ?_; rintro e w1 ⟨rfl, g1'⟩; have G1 := hid (grown_none G0.out g1'); have X1 := hid (X0.out.kept g1' (by simp)); have Y1 := hid (Y0.out.kept g1' (by simp)); have Z1 := hid (Z0.out.kept g1' (by simp)); have x0 := X1.out.cell 0; have x1 := X1.out.cell 1; have x2 := X1.out.cell 2; have x3 := X1.out.cell 3; have y0 := Y1.out.cell 0; have y1 := Y1.out.cell 1; simp at x0 x1 x2 x3 y0 y1; clear g1' C40 X0 Y0 Z0 G0)
    | (go_at_call 41; refine (C41.out _ G1.out).mono ?_; rintro e w2 ⟨rfl, g2'⟩; have G2 := hid (grown_none G1.out g2'); have X2 := hid (X1.out.kept g2' (by simp)); have Y2 := hid (Y1.out.kept g2' (by simp)); have Z2 := hid (Z1.out.kept g2' (by simp)); clear x0 x1 x2 x3 y0 y1; have y0 := Y2.out.cell 0; have y1 := Y2.out.cell 1; have f0 := Y2.out.frozen 0; have f1 := Y2.out.frozen 1; simp at y0 y1; clear g2' C41 X1 Y1 Z1 G1))
  have Y3 : Hid (Blk ((w2.setCell ⟨w.heap.size + 1, 0, none⟩ (.string lo')).setCell ⟨w.heap.size + 1, 1, none⟩ (.string hi')) (w.heap.size + 1) 76 #[.string lo', .string hi']) := (Y2.out.set 0 (.string lo')).set 1 (.string hi')
  have GY := grown_set (grown_set (grown_refl w2 (some (w.heap.size + 1))) 0 (.string lo')) 1 (.string hi')
  have X3 := hid (X2.out.kept GY (fun e => by have := Option.some.inj e; omega))
  have Z3 := hid (Z2.out.kept GY (fun e => by have := Option.some.inj e; omega))
  have G3 := hid (grown_through G2.out GY (by omega))
  clear X2 Y2 Z2 G2 GY y0 y1 f0 f1
  generalize (w2.setCell ⟨w.heap.size + 1, 0, none⟩ (.string lo')).setCell ⟨w.heap.size + 1, 1, none⟩ (.string hi') = w3 at *
  have hi1 : (i : Int) < p.kids.length := by omega
  have hsz := Z3.out.lt
  have hgn : ¬ g3 = w3.heap.size := by omega
  have hgn1 : ¬ w.heap.size = w3.heap.size := by omega
  have hgn2 : ¬ w.heap.size + 1 = w3.heap.size := by omega
  go_cut [13, 14] (fun v13 v14 wx => v14 = .int .i64 0 ∧ ∃ K q1 l1 q2' l2 q3 l3, v13 = .pointer (some ⟨K, 0, none⟩) ∧ w3.heap.size ≤ K ∧ Blk wx K 70 #[.bool q.leaf, .slice q1 q.keys.length l1, .slice q2' q.vals.length l2, .slice q3 q.kids.length l3] ∧ Pa.PgO wx w3.heap.size (.agg #[.bool q.leaf, .slice q1 q.keys.length l1, .slice q2' q.vals.length l2, .slice q3 q.kids.length l3]) q ∧ w3.grownBy wx none)
  case first =>
    have x3 := X3.out.cell 3
    have y0 := Y3.out.cell 0
    have y1 := Y3.out.cell 1
    have c3 := HC3.out w3 G3.out
    have ya0 := (Y3.out.alloc (.cells #[.bool false, .slice none 0 0, .slice none 0 0, .slice none 0 0] 70)).cell 0
    have ya1 := (Y3.out.alloc (.cells #[.bool false, .slice none 0 0, .slice none 0 0, .slice none 0 0] 70)).cell 1
    have xa3 := (X3.out.alloc (.cells #[.bool false, .slice none 0 0, .slice none 0 0, .slice none 0 0] 70)).cell 3
    have ca3 := HC3.out (w3.alloc (.cells #[.bool false, .slice none 0 0, .slice none 0 0, .slice none 0 0] 70)) (grown_alloc G3.out _)
    simp at x3 y0 y1 ya0 ya1 xa3
    clear C31 C48 HP HT HL HV HB
    go_region_law (go_simp; go_at_call 42; refine (C42.out _ ?gg).mono ?_; (case gg => first | exact grown_drew G3.out | exact grown_alloc (grown_drew G3.out) _); rintro e w4 ⟨u, rfl, o4, g4⟩; obtain ⟨q1, l1, q2', l2, q3, l3, rfl⟩ := PgO.form o4; first
      | (have BK := hid ((Blk.new w3.drew 70 #[.bool false, .slice none 0 0, .slice none 0 0, .slice none 0 0]).kept g4 (by simp)); have FB : Hid (w3.heap.size ≤ w3.heap.size ∧ Blk ((((w4.setCell ⟨w3.heap.size, 0, none⟩ (.bool q.leaf)).setCell ⟨w3.heap.size, 1, none⟩ (.slice q1 q.keys.length l1)).setCell ⟨w3.heap.size, 2, none⟩ (.slice q2' q.vals.length l2)).setCell ⟨w3.heap.size, 3, none⟩ (.slice q3 q.kids.length l3)) w3.heap.size 70 #[.bool q.leaf, .slice q1 q.keys.length l1, .slice q2' q.vals.length l2, .slice q3 q.kids.length l3] ∧ Pa.PgO ((((w4.setCell ⟨w3.heap.size, 0, none⟩ (.bool q.leaf)).setCell ⟨w3.heap.size, 1, none⟩ (.slice q1 q.keys.length l1)).setCell ⟨w3.heap.size, 2, none⟩ (.slice q2' q.vals.length l2)).setCell ⟨w3.heap.size, 3, none⟩ (.slice q3 q.kids.length l3)) w3.heap.size (.agg #[.bool q.leaf, .slice q1 q.keys.length l1, .slice q2' q.vals.length l2, .slice q3 q.kids.length l3]) q ∧ w3.grownBy ((((w4.setCell ⟨w3.heap.size, 0, none⟩ (.bool q.leaf)).setCell ⟨w3.heap.size, 1, none⟩ (.slice q1 q.keys.length l1)).setCell ⟨w3.heap.size, 2, none⟩ (.slice q2' q.vals.length l2)).setCell ⟨w3.heap.size, 3, none⟩ (.slice q3 q.kids.length l3)) none) := (first_end w3 w4 (w3.alloc (.cells #[.bool false, .slice none 0 0, .slice none 0 0, .slice none 0 0] 70)).drew q q1 q2' q3 l1 l2 l3 BK.out o4 (by show w3.heap.size ≤ (w3.alloc (.cells #[.bool false, .slice none 0 0, .slice none 0 0, .slice none 0 0] 70)).heap.size; rw [World.size_alloc]; exact Nat.le_succ _) (grown_drew (grown_alloc (grown_refl w3 none) _)) g4); have z0 := BK.out.cell 0; have z1 := BK.out.cell 1; have z2 := BK.out.cell 2; have z3 := BK.out.cell 3; have f0 := BK.out.frozen 0; have f1 := BK.out.frozen 1; have f2 := BK.out.frozen 2; have f3 := BK.out.frozen 3; simp at z0 z1 z2 z3 f0 f1 f2 f3; clear BK o4 g4)
      | (have FA : Hid (w3.heap.size ≤ w4.heap.size ∧ Blk (w4.alloc (.cells #[.bool q.leaf, .slice q1 q.keys.length l1, .slice q2' q.vals.length l2, .slice q3 q.kids.length l3] 70)) w4.heap.size 70 #[.bool q.leaf, .slice q1 q.keys.length l1, .slice q2' q.vals.length l2, .slice q3 q.kids.length l3] ∧ Pa.PgO (w4.alloc (.cells #[.bool q.leaf, .slice q1 q.keys.length l1, .slice q2' q.vals.length l2, .slice q3 q.kids.length l3] 70)) w3.heap.size (.agg #[.bool q.leaf, .slice q1 q.keys.length l1, .slice q2' q.vals.length l2, .slice q3 q.kids.length l3]) q ∧ w3.grownBy (w4.alloc (.cells #[.bool q.leaf, .slice q1 q.keys.length l1, .slice q2' q.vals.length l2, .slice q3 q.kids.length l3] 70)) none) := (last_end w3 w4 q q1 q2' q3 l1 l2 l3 o4 g4); clear o4 g4))
    all_goals
      (try go_wp2_with fail)
      go_meet
      first
      | exact ⟨rfl, _, _, _, _, _, _, _, rfl, FA.out⟩
      | exact ⟨rfl, _, _, _, _, _, _, _, rfl, FB.out⟩
  case rest =>
    obtain ⟨rfl, K, q1, l1, q2', l2, q3, l3, rfl, hK, hbk, ho, hgx⟩ := hcut
    have BK := hid hbk
    have O4 := hid ho
    have GX := hid hgx
    have G4 := hid (grown_none G3.out hgx)
    have X4 := hid (X3.out.kept hgx (by simp))
    have Y4 := hid (Y3.out.kept hgx (by simp))
    have Z4 := hid (Z3.out.kept hgx (by simp))
    have T4 := hid (HT.out.kept G4.out)
    have L4 := hid (HL.out.kept G4.out)
    have V4 := hid (HV.out.keptN G4.out)
    have b0 := BK.out.cell 0
    have b1 := BK.out.cell 1
    have b2 := BK.out.cell 2
    have b3 := BK.out.cell 3
    have y0 := Y4.out.cell 0
    have y1 := Y4.out.cell 1
    simp at b0 b1 b2 b3 y0 y1
    have HVB : Hid (∀ u, (∃ a b c, (Value.agg #[.bool false, .slice p1 p.keys.length k1, .slice p2' p.vals.length k2, .slice (some ⟨g3, 0, none⟩) p.kids.length k3]) = .agg #[.bool p.leaf, a, b, c] ∧ (u = a ∨ u = b ∨ u = c)) → ∀ kk, u.ownBlock = some kk → kk < w3.heap.size) := fun u hu kk hkk => by
      have := PgO.below HV.out u hu kk hkk
      omega
    have HTK : Hid (b ≠ K) := (by
      have := Blk.lt HT.out
      show b ≠ K
      omega)
    have hNK : ¬ w.heap.size = K := by omega
    have hNK' : ¬ K = w.heap.size := by omega
    have hZK : ¬ w.heap.size + 1 + 1 = K := by omega
    clear hbk ho hgx C42 X3 Y3 Z3 G3 HC3 hgn hgn1 hgn2 hi1
    go_wp2_with (first
      | (go_at_call 31; refine (C31.out wc _ w3.heap.size T4.out L4.out O4.out GX.out.size).mono ?_; rintro e w5 ⟨u5, rfl, o5, l5, t5⟩; obtain ⟨r1, m1, r2, m2, r3, m3, rfl⟩ := PgO.form o5; have O5 := hid o5; have L5 := hid l5; have T5 := hid t5; have X5 := hid (t5.blk X4.out (by decide) (L4.out.ne X4.out (by decide))); have B5 := hid (t5.blk BK.out (by decide) (L4.out.ne BK.out (by decide))); have Z5 := hid (t5.blk Z4.out (by decide) (L4.out.ne Z4.out (by decide))); have TT5 : Hid (IsTree w5 b lb root) := t5.blk T4.out (by decide) (L4.out.ne T4.out (by decide)); have V5 := hid (t5.pgO V4.out L4.out (fun t u n xs hr hu kk hkk => HVB.out u hu kk hkk)); clear b0 b1 b2 b3 y0 y1; have b0 := B5.out.cell 0; have b1 := B5.out.cell 1; have b2 := B5.out.cell 2; have b3 := B5.out.cell 3; have f0 := B5.out.frozen 0; have f1 := B5.out.frozen 1; have f2 := B5.out.frozen 2; have f3 := B5.out.frozen 3; have x0 := X5.out.cell 0; have x1 := X5.out.cell 1; have x2 := X5.out.cell 2; have x3 := X5.out.cell 3; simp at b0 b1 b2 b3 x0 x1 x2 x3; clear o5 l5 t5 C31)
      | (go_at_call 48; have G6 : Hid (w5.grownBy ((((w5.setCell ⟨K, 0, none⟩ (.bool q2.leaf)).setCell ⟨K, 1, none⟩ (.slice r1 q2.keys.length m1)).setCell ⟨K, 2, none⟩ (.slice r2 q2.vals.length m2)).setCell ⟨K, 3, none⟩ (.slice r3 q2.kids.length m3)) (some K)) := (grown_set (grown_set (grown_set (grown_set (grown_refl w5 (some K)) 0 _) 1 _) 2 _) 3 _); refine (C48.out ((((w5.setCell ⟨K, 0, none⟩ (.bool q2.leaf)).setCell ⟨K, 1, none⟩ (.slice r1 q2.keys.length m1)).setCell ⟨K, 2, none⟩ (.slice r2 q2.vals.length m2)).setCell ⟨K, 3, none⟩ (.slice r3 q2.kids.length m3)) _ w3.heap.size (Blk.kept TT5.out G6.out (fun e => HTK.out (Option.some.inj e))) (L5.out.keptB B5.out (by decide) G6.out) (PgO.own V5.out B5.out (by decide) G6.out) (PgO.own O5.out B5.out (by decide) G6.out) (Nat.le_trans HB.out (Nat.le_trans G4.out.size (Nat.le_trans T5.out.size G6.out.size)))).mono ?_; rintro e w7 ⟨u7, rfl, o7, l7, t7⟩; obtain ⟨s1, n1, s2, n2, s3, n3, rfl⟩ := PgO.form o7; have O7 := hid o7; have L7 := hid l7; have T7 := hid t7; have Z7 := hid (t7.blk (Z5.out.kept G6.out (fun e => hZK (Option.some.inj e))) (by decide) ((L5.out.keptB B5.out (by decide) G6.out).ne (Z5.out.kept G6.out (fun e => hZK (Option.some.inj e))) (by decide))); clear b0 b1 b2 b3 f0 f1 f2 f3 x0 x1 x2 x3; have z0 := Z7.out.cell 0; have z1 := Z7.out.cell 1; have z2 := Z7.out.cell 2; have z3 := Z7.out.cell 3; have f0 := Z7.out.frozen 0; have f1 := Z7.out.frozen 1; have f2 := Z7.out.frozen 2; have f3 := Z7.out.frozen 3; simp at z0 z1 z2 z3; clear o7 l7 t7 C48))
    have BF := blk_store4 (.bool p2.leaf) (.slice s1 p2.keys.length n1) (.slice s2 p2.vals.length n2) (.slice s3 p2.kids.length n3) Z7.out
    have GF := grown_set (grown_set (grown_set (grown_set (grown_refl w7 (some (w.heap.size + 1 + 1))) 0 (.bool p2.leaf)) 1 (.slice s1 p2.keys.length n1)) 2 (.slice s2 p2.vals.length n2)) 3 (.slice s3 p2.kids.length n3)
    refine bodyPost_ret (Pa.results_pg2 Tryz.results31 _ _ (w.heap.size + 1 + 1) rfl BF) rfl ?_
    rw [HP.out.1]
    have XX := ((((XT.of_none (base := base) (lb := lb) (bp := bp) G4.out).after T5.out (by omega)).through G6.out (by omega)).trans T7.out).through GF (by omega)
    exact ⟨_, rfl, PgO.own O7.out Z7.out (by decide) GF, L7.out.keptB Z7.out (by decide) GF, XX⟩
end Go.Proofs.YtbhmmcelndmijaaGreat
