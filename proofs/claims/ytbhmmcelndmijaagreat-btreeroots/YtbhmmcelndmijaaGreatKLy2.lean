/-
  The halves of a page: cut. A page is laid: lay, where it is cut in two.
-/
import Derived.Test.YtbhmmcelndmijaaGreatKAp
import Derived.Deep.RegionWith
import Derived.Deep.RegionHeld3
import Derived.Test.YtbhmmcelndmijaaGreatCun
namespace Go.Proofs.YtbhmmcelndmijaaGreat
open Go.RowKit Go.Maps
set_option maxRecDepth 100000 in
set_option maxHeartbeats 2000000 in
theorem cut_leaf (base : Nat) (v : Value) (p : Pa.Pg) (w : World) (h : Pa.PgO w base v p) (hl : p.vals.length = p.keys.length) (h0 : 0 < p.keys.length) (hn : p.keys.length ≤ 1000) (hf : p.leaf = true) :
    Calls Tryz.prog 70 #[v] w fun e w' => ∃ u1 u2, e = .returned (.tuple #[u1, .string (cutK p), u2]) ∧ PgT w' u1 (cutA p) ∧ PgT w' u2 (cutB p) ∧ w.grownBy w' none := by
  obtain ⟨a, b, c, rfl, j0, h1, h2, h3⟩ := h
  rcases Sl.owns_cases h1 with ⟨_, q0, _⟩ | ⟨g1, c1, cur1, rfl, j1, hB1, hn1, hc1, hs1, hx1, j2⟩
  · omega
  rcases Sl.owns_cases h2 with ⟨_, q0, _⟩ | ⟨g2, c2, cur2, rfl, j3, hB2, hn2, hc2, hs2, hx2, j4⟩
  · omega
  obtain ⟨pc, cc, rfl⟩ := Pa.owns_slice h3
  obtain ⟨n, en⟩ : ∃ n, p.keys.length = n := ⟨_, rfl⟩
  obtain ⟨hh, eh⟩ : ∃ hh, n / 2 = hh := ⟨_, rfl⟩
  have eA : cutA p = ⟨true, p.keys.take hh, p.vals.take hh, []⟩ := by unfold cutA; rw [hf, if_pos rfl, en, eh]
  have eB : cutB p = ⟨true, p.keys.drop hh, p.vals.drop hh, []⟩ := by unfold cutB; rw [hf, if_pos rfl, en, eh]
  have hhn : hh < p.keys.length := by omega
  have eK : cutK p = p.keys[hh] := by unfold cutK; rw [en, eh, List.getD_eq_getElem?_getD, List.getElem?_eq_getElem hhn]; rfl
  obtain ⟨KH, ek⟩ : ∃ KH, p.keys[hh] = KH := ⟨_, rfl⟩
  rw [eA, eB, eK, ek]
  have hv : p.vals.length = n := by omega
  rw [hf, hv, en]
  have y1 : cur1[hh]? = some (.string KH) := Sl.take_get hx1 (by unfold Pa.strs; rw [List.getElem?_map, List.getElem?_eq_getElem hhn, ek]; rfl)
  have i1 : (hh : Int) ≤ n := by omega
  have i0 : (0 : Int) ≤ hh := by omega
  have i2 : (hh : Int) ≤ c1 := by omega
  have i3 : (hh : Int) ≤ c2 := by omega
  have i4 : (n : Int) ≤ c1 := by omega
  have i5 : (n : Int) ≤ c2 := by omega
  have i6 : (hh : Int) < n := by omega
  have iq : (n : Int) / 2 = hh := by omega
  have iw : wrap64 (hh : Int) = hh := by unfold wrap64; omega
  have W0 : Hid (w.grownBy (((w.alloc (.cells #[.bool true, .slice (some ⟨g1, 0, none⟩) n c1, .slice (some ⟨g2, 0, none⟩) n c2, .slice pc p.kids.length cc] 70)).alloc (.cells #[.bool false, .slice none 0 0, .slice none 0 0, .slice none 0 0] 70)).alloc (.cells #[.bool false, .slice none 0 0, .slice none 0 0, .slice none 0 0] 70)) none) := grown_alloc (grown_alloc (grown_alloc (grown_refl _ _) _) _) _
  have X0 := hid (((Blk.new w 70 #[.bool true, .slice (some ⟨g1, 0, none⟩) n c1, .slice (some ⟨g2, 0, none⟩) n c2, .slice pc p.kids.length cc]).alloc (.cells #[.bool false, .slice none 0 0, .slice none 0 0, .slice none 0 0] 70)).alloc (.cells #[.bool false, .slice none 0 0, .slice none 0 0, .slice none 0 0] 70))
  have Q1 := hid ((Blk.new (w.alloc (.cells #[.bool true, .slice (some ⟨g1, 0, none⟩) n c1, .slice (some ⟨g2, 0, none⟩) n c2, .slice pc p.kids.length cc] 70)) 70 #[.bool false, .slice none 0 0, .slice none 0 0, .slice none 0 0]).alloc (.cells #[.bool false, .slice none 0 0, .slice none 0 0, .slice none 0 0] 70))
  have Q2 := hid (Blk.new ((w.alloc (.cells #[.bool true, .slice (some ⟨g1, 0, none⟩) n c1, .slice (some ⟨g2, 0, none⟩) n c2, .slice pc p.kids.length cc] 70)).alloc (.cells #[.bool false, .slice none 0 0, .slice none 0 0, .slice none 0 0] 70)) 70 #[.bool false, .slice none 0 0, .slice none 0 0, .slice none 0 0])
  rw [World.size_alloc] at Q1
  rw [World.size_alloc, World.size_alloc] at Q2
  have B1 := hid (hB1.kept W0.out (by simp))
  have B2 := hid (hB2.kept W0.out (by simp))
  have EN := hid en
  have EV := hid hv
  have HX1 := hid hx1
  have HX2 := hid hx2
  have Y1 := hid y1
  have L1 := hid hB1.lt
  have L2 := hid hB2.lt
  have HN := hid hhn
  have I3 := hid i3
  have I4 := hid i4
  have I5 := hid i5
  have I6 := hid i6
  clear ek hx1 hx2 en hv eh eA eB eK hl h1 h2 h3 hB1 hB2 hs1 hs2 j0 j1 j2 j3 j4 hn1 hn2 hc1 hc2 h0 hn hf y1 i3 i4 i5 i6
  go_enter Tryz.func70, Tryz.ntmps70
  go_wp2_with fail
  rw [iw]
  clear iw iq
  obtain ⟨w1, hw1⟩ : ∃ w1, w1 = ((w.alloc (.cells #[.bool true, .slice (some ⟨g1, 0, none⟩) n c1, .slice (some ⟨g2, 0, none⟩) n c2, .slice pc p.kids.length cc] 70)).alloc (.cells #[.bool false, .slice none 0 0, .slice none 0 0, .slice none 0 0] 70)).alloc (.cells #[.bool false, .slice none 0 0, .slice none 0 0, .slice none 0 0] 70) := ⟨_, rfl⟩
  rw [← hw1] at W0 X0 Q1 Q2 B1 B2 ⊢
  have hz1 : w1.heap.size = w.heap.size + 3 := by rw [hw1]; simp
  clear hw1
  have x0 := X0.out.cell 0
  have x1 := X0.out.cell 1
  simp at x0 x1
  go_region_held3 (fun V => V.cell? ⟨w.heap.size, 0, none⟩ = some (.bool true) ∧ V.cell? ⟨w.heap.size, 1, none⟩ = some (.slice (some ⟨g1, 0, none⟩) n c1)) (first | assumption | go_keep) (fail)
  have F2 := hid (Blk.drew (Blk.new w1 70 #[.bool true, .slice (some ⟨g1, 0, none⟩) hh c1, .slice none 0 0, .slice none 0 0]))
  rw [hz1] at F2
  have W2 := hid (grown_drew (grown_alloc W0.out (.cells #[.bool true, .slice (some ⟨g1, 0, none⟩) hh c1, .slice none 0 0, .slice none 0 0] 70)))
  have E12 : Hid (w1.grownBy (w1.alloc (.cells #[.bool true, .slice (some ⟨g1, 0, none⟩) hh c1, .slice none 0 0, .slice none 0 0] 70)).drew none) := grown_drew (grown_alloc (grown_refl _ _) _)
  have hz2 : (w1.alloc (.cells #[.bool true, .slice (some ⟨g1, 0, none⟩) hh c1, .slice none 0 0, .slice none 0 0] 70)).drew.heap.size = w.heap.size + 4 := by show (w1.alloc _).heap.size = _; rw [World.size_alloc, hz1]
  have X2 := hid (X0.out.kept E12.out (by simp))
  have Q12 := hid (Q1.out.kept E12.out (by simp))
  have Q22 := hid (Q2.out.kept E12.out (by simp))
  have B12 := hid (B1.out.kept E12.out (by simp))
  have B22 := hid (B2.out.kept E12.out (by simp))
  clear X0 Q1 Q2 B1 B2 E12 W0 x0 x1
  generalize (w1.alloc (.cells #[.bool true, .slice (some ⟨g1, 0, none⟩) hh c1, .slice none 0 0, .slice none 0 0] 70)).drew = w2 at *
  clear hz1
  have x0 := X2.out.cell 0
  have x1 := X2.out.cell 1
  simp at x0 x1
  have i4 := I4.out
  have ne1 : ¬ c1 = hh := by have := I6.out; omega
  go_wp2_with fail
  go_region_held3 (fun V => V.cell? ⟨w.heap.size, 0, none⟩ = some (.bool true) ∧ V.cell? ⟨w.heap.size, 1, none⟩ = some (.slice (some ⟨g1, 0, none⟩) n c1)) (first | assumption | go_keep) (fail)
  have S3 := hid (Blk.drew (Blk.new w2 70 #[.bool true, .slice (some ⟨g1, hh, none⟩) (n - hh) (c1 - hh), .slice none 0 0, .slice none 0 0]))
  rw [hz2] at S3
  have W3 := hid (grown_drew (grown_alloc W2.out (.cells #[.bool true, .slice (some ⟨g1, hh, none⟩) (n - hh) (c1 - hh), .slice none 0 0, .slice none 0 0] 70)))
  have E23 : Hid (w2.grownBy (w2.alloc (.cells #[.bool true, .slice (some ⟨g1, hh, none⟩) (n - hh) (c1 - hh), .slice none 0 0, .slice none 0 0] 70)).drew none) := grown_drew (grown_alloc (grown_refl _ _) _)
  have X3 := hid (X2.out.kept E23.out (by simp))
  have Q13 := hid (Q12.out.kept E23.out (by simp))
  have Q23 := hid (Q22.out.kept E23.out (by simp))
  have B13 := hid (B12.out.kept E23.out (by simp))
  have B23 := hid (B22.out.kept E23.out (by simp))
  have F3 := hid (F2.out.kept E23.out (by simp))
  clear X2 Q12 Q22 B12 B22 E23 W2 x0 x1 F2 i4 hz2
  generalize (w2.alloc (.cells #[.bool true, .slice (some ⟨g1, hh, none⟩) (n - hh) (c1 - hh), .slice none 0 0, .slice none 0 0] 70)).drew = w3 at *
  have x0 := X3.out.cell 0
  have x2 := X3.out.cell 2
  have f2 := F3.out.cell 2
  have fz := F3.out.frozen 2
  have s2 := S3.out.cell 2
  have sz := S3.out.frozen 2
  simp at x0 x2 f2 s2
  have i3 := I3.out
  have i5 := I5.out
  have ne2 : ¬ c2 = hh := by have := I6.out; omega
  go_wp2_with fail
  go_region_held3 (fun V => V.cell? ⟨w.heap.size, 2, none⟩ = some (.slice (some ⟨g2, 0, none⟩) n c2)) (first | assumption | go_keep) (fail)
  have F4 := hid (Blk.drew (Blk.other (F3.out.set 2 (.slice (some ⟨g2, 0, none⟩) hh c2)) (a := ⟨w.heap.size + 4, 2, none⟩) (.slice (some ⟨g2, hh, none⟩) (n - hh) (c2 - hh)) (by show w.heap.size + 3 ≠ w.heap.size + 4; omega)))
  have S4 := hid (Blk.drew ((Blk.other S3.out (a := ⟨w.heap.size + 3, 2, none⟩) (.slice (some ⟨g2, 0, none⟩) hh c2) (by show w.heap.size + 4 ≠ w.heap.size + 3; omega)).set 2 (.slice (some ⟨g2, hh, none⟩) (n - hh) (c2 - hh))))
  have W4 := hid (grown_drew (grown_set_new (grown_set_new W3.out (a := ⟨w.heap.size + 3, 2, none⟩) (.slice (some ⟨g2, 0, none⟩) hh c2) (by show w.heap.size ≤ w.heap.size + 3; omega)) (a := ⟨w.heap.size + 4, 2, none⟩) (.slice (some ⟨g2, hh, none⟩) (n - hh) (c2 - hh)) (by show w.heap.size ≤ w.heap.size + 4; omega)))
  have keep : Hid (∀ (g : Nat) (t : TypeId) (cs : Array Value), Blk w3 g t cs → g ≠ w.heap.size + 3 → g ≠ w.heap.size + 4 → Blk ((w3.setCell ⟨w.heap.size + 3, 2, none⟩ (.slice (some ⟨g2, 0, none⟩) hh c2)).setCell ⟨w.heap.size + 4, 2, none⟩ (.slice (some ⟨g2, hh, none⟩) (n - hh) (c2 - hh))).drew g t cs) := fun g t cs hb n3 n4 => Blk.drew (Blk.other (Blk.other hb _ n3) _ n4)
  have X4 := hid (keep.out _ _ _ X3.out (by omega) (by omega))
  have Q14 := hid (keep.out _ _ _ Q13.out (by omega) (by omega))
  have Q24 := hid (keep.out _ _ _ Q23.out (by omega) (by omega))
  have B14 := hid (keep.out _ _ _ B13.out (by have := L1.out; omega) (by have := L1.out; omega))
  have B24 := hid (keep.out _ _ _ B23.out (by have := L2.out; omega) (by have := L2.out; omega))
  clear X3 Q13 Q23 B13 B23 F3 S3 W3 x0 x2 f2 fz s2 sz i3 i5 ne1 ne2 keep
  generalize ((w3.setCell ⟨w.heap.size + 3, 2, none⟩ (.slice (some ⟨g2, 0, none⟩) hh c2)).setCell ⟨w.heap.size + 4, 2, none⟩ (.slice (some ⟨g2, hh, none⟩) (n - hh) (c2 - hh))).drew = w4 at *
  have x1 := X4.out.cell 1
  have a0 := F4.out.cell 0
  have a1 := F4.out.cell 1
  have a2 := F4.out.cell 2
  have a3 := F4.out.cell 3
  have b0 := S4.out.cell 0
  have b1 := S4.out.cell 1
  have b2 := S4.out.cell 2
  have b3 := S4.out.cell 3
  have k1 : w4.cell? ⟨g1, hh, none⟩ = some (.string KH) := (B14.out.cell hh).trans Y1.out
  have q0 := Q14.out.cell 0
  have q1 := Q14.out.cell 1
  have q2 := Q14.out.cell 2
  have q3 := Q14.out.cell 3
  have r0 := Q24.out.cell 0
  have r1 := Q24.out.cell 1
  have r2 := Q24.out.cell 2
  have r3 := Q24.out.cell 3
  have u0 := Q14.out.frozen 0
  have u1 := Q14.out.frozen 1
  have u2 := Q14.out.frozen 2
  have u3 := Q14.out.frozen 3
  have v0 := Q24.out.frozen 0
  have v1 := Q24.out.frozen 1
  have v2 := Q24.out.frozen 2
  have v3 := Q24.out.frozen 3
  simp at x1 a0 a1 a2 a3 b0 b1 b2 b3 q0 q1 q2 q3 r0 r1 r2 r3
  have i6 := I6.out
  go_wp2_with fail
  clear i1 i2
  have ng1 : ¬ g1 = w.heap.size + 1 := by have := L1.out; omega
  have ng2 : ¬ g1 = w.heap.size + 1 + 1 := by have := L1.out; omega
  have ng3 : ¬ g1 = w.heap.size + 2 := by have := L1.out; omega
  go_region_law (fail)
  all_goals
    rename_i Qp hHeld KK hK
    refine hK _ _ ?_
    clear hK k1 u0 u1 u2 u3 v0 v1 v2 v3 a0 a1 a2 a3 b0 b1 b2 b3 q0 q1 q2 q3 r0 r1 r2 r3 x1
    go_wp2_with fail
    have n12 : w.heap.size + 1 ≠ w.heap.size + 1 + 1 := by omega
    have n21 : w.heap.size + 1 + 1 ≠ w.heap.size + 1 := by omega
    have H1 := Blk.drew (blk_far4 (.bool true) (.slice (some ⟨g1, hh, none⟩) (n - hh) (c1 - hh)) (.slice (some ⟨g2, hh, none⟩) (n - hh) (c2 - hh)) (.slice none 0 0) (blk_store4 (.bool true) (.slice (some ⟨g1, 0, none⟩) hh c1) (.slice (some ⟨g2, 0, none⟩) hh c2) (.slice none 0 0) Q14.out) n12)
    have H2 := Blk.drew (blk_store4 (.bool true) (.slice (some ⟨g1, hh, none⟩) (n - hh) (c1 - hh)) (.slice (some ⟨g2, hh, none⟩) (n - hh) (c2 - hh)) (.slice none 0 0) (blk_far4 (.bool true) (.slice (some ⟨g1, 0, none⟩) hh c1) (.slice (some ⟨g2, 0, none⟩) hh c2) (.slice none 0 0) Q24.out n21))
    have hl2 := L2.out
    have hl1 := L1.out
    have keep : ∀ (g : Nat) (t : TypeId) (cs : Array Value), g < w.heap.size → Blk w4 g t cs → Blk _ g t cs := fun g t cs hg hb => Blk.drew (blk_far4 (.bool true) (.slice (some ⟨g1, hh, none⟩) (n - hh) (c1 - hh)) (.slice (some ⟨g2, hh, none⟩) (n - hh) (c2 - hh)) (.slice none 0 0) (blk_far4 (g' := w.heap.size + 1) (.bool true) (.slice (some ⟨g1, 0, none⟩) hh c1) (.slice (some ⟨g2, 0, none⟩) hh c2) (.slice none 0 0) hb (by omega)) (g' := w.heap.size + 1 + 1) (by omega))
    have G := grown_drew (grown_store4 (.bool true) (.slice (some ⟨g1, hh, none⟩) (n - hh) (c1 - hh)) (.slice (some ⟨g2, hh, none⟩) (n - hh) (c2 - hh)) (.slice none 0 0) (grown_store4 (.bool true) (.slice (some ⟨g1, 0, none⟩) hh c1) (.slice (some ⟨g2, 0, none⟩) hh c2) (.slice none 0 0) W4.out (g := w.heap.size + 1) (by omega)) (g := w.heap.size + 1 + 1) (by omega))
    refine bodyPost_ret (results_pg3 Tryz.results70 _ _ (w.heap.size + 1) (w.heap.size + 1 + 1) rfl rfl H1 H2) rfl ?_
    have hln := HN.out
    have hen := EN.out
    have hev := EV.out
    exact ⟨_, _, rfl, ⟨_, _, _, rfl, rowT_take (keep _ _ _ hl1 B14.out) HX1.out (by omega), rowT_take (keep _ _ _ hl2 B24.out) HX2.out (by omega), rowT_nil⟩, ⟨_, _, _, rfl, rowT_drop (keep _ _ _ hl1 B14.out) HX1.out (by omega), rowT_drop (keep _ _ _ hl2 B24.out) HX2.out (by omega), rowT_nil⟩, G⟩
end Go.Proofs.YtbhmmcelndmijaaGreat
namespace Go.Proofs.YtbhmmcelndmijaaGreat
open Go.RowKit Go.Maps
theorem IsLog.ne {w : World} {base lb g : Nat} {G : Lg} {t : TypeId} {cs : Array Value} (h : IsLog w base lb G) (hb : Blk w g t cs) (ht : t ≠ 87) : g ≠ lb := by
  rintro rfl
  obtain ⟨_, vr, vw, h1, _⟩ := h
  have e1 : w.heap[g]? = some (.cells cs t (0, 0)) := hb
  have e2 : w.heap[g]? = some (.cells (rowG G.d vr vw G.com G.len G.root G.marked) 87 (0, 0)) := h1
  rw [e1] at e2
  injection e2 with e2
  injection e2 with _ e3 _
  exact ht e3
theorem IsTree.lt {w w' : World} {base b lb : Nat} {root : Int} {G : Lg} (h : IsTree w b lb root) (hL : IsLog w base lb G) (hT : LT base lb w w') : IsTree w' b lb root := hT.blk h (by decide) (hL.ne h (by decide))
theorem PgT.lt {w w' : World} {base lb : Nat} {v : Value} {p : Pa.Pg} {G : Lg} (h : PgT w v p) (hL : IsLog w base lb G) (hT : LT base lb w w') : PgT w' v p :=
  h.of_blk fun g t cur ht hb => hT.blk hb (by rcases ht with rfl | rfl <;> decide) (hL.ne hb (by rcases ht with rfl | rfl <;> decide))
theorem cut_any (base : Nat) (v : Value) (p : Pa.Pg) (w : World) (h : Pa.PgO w base v p) (hl : if p.leaf then p.vals.length = p.keys.length else p.kids.length = p.keys.length + 1) (h0 : 3 ≤ p.keys.length) (hn : p.keys.length ≤ 1000) :
    Calls Tryz.prog 70 #[v] w fun e w' => ∃ u1 u2, e = .returned (.tuple #[u1, .string (cutK p), u2]) ∧ PgT w' u1 (cutA p) ∧ PgT w' u2 (cutB p) ∧ w.grownBy w' none := by
  cases hf : p.leaf with
  | true => exact cut_leaf base v p w h (by rw [hf, if_pos rfl] at hl; exact hl) (by omega) hn hf
  | false => exact cut_node base v p w h (by rw [hf, if_neg (by decide)] at hl; exact hl) h0 hn hf
set_option maxRecDepth 100000 in
set_option maxHeartbeats 2000000 in
theorem lay_two (base base' b lb : Nat) (g : Lg) (root : Int) (p : Pa.Pg) (v : Value) (w : World) (hT : IsTree w b lb root) (hL : IsLog w base lb g) (hl : g.recs.length ≤ 99999) (hw : g.wait.size ≤ 500000000) (hw2 : (addG g (cutA p)).wait.size ≤ 500000000) (hn : g.len ≤ 1000000000) (hv : Pa.PgO w base' v p)
    (hsh : if p.leaf then p.vals.length = p.keys.length else p.kids.length = p.keys.length + 1) (h8 : 8 < p.keys.length) (hn8 : p.keys.length ≤ 1000)
    (hfA : (cutA p).fits) (hmA : Pa.mayP (cutA p) = true) (hzA : (Pa.encL (cutA p)).length ≤ 1048576) (hfB : (cutB p).fits) (hmB : Pa.mayP (cutB p) = true) (hzB : (Pa.encL (cutB p)).length ≤ 1048576) :
    Calls Tryz.prog 49 #[.pointer (some ⟨b, 0, none⟩), v] w (LayPost w base lb (addG (addG g (cutA p)) (cutB p)) [cutK p] [(g.len + g.wait.size : Nat), (g.len + (addG g (cutA p)).wait.size : Nat)]) := by
  have C0 : Hid (∀ W, w.grownBy W none → Calls Tryz.prog 70 #[v] W fun e w' => ∃ u1 u2, e = .returned (.tuple #[u1, .string (cutK p), u2]) ∧ PgT w' u1 (cutA p) ∧ PgT w' u2 (cutB p) ∧ W.grownBy w' none) := fun W hW => cut_any base' v p W (hv.keptN hW) hsh (by omega) hn8
  have C1 : Hid (∀ W u, IsTree W b lb root → IsLog W base lb g → PgT W u (cutA p) → Calls Tryz.prog 69 #[.pointer (some ⟨b, 0, none⟩), u] W fun e w' => e = .returned (.tuple #[.int .i64 (g.len + g.wait.size : Nat), .int .i64 0]) ∧ IsLog w' base lb (addG g (cutA p)) ∧ LT base lb W w') := fun W u h1 h2 h3 => add_page base b lb g root _ u W h1 h2 (by omega) hw hn h3.pgV hfA hmA hzA
  have C2 : Hid (∀ W u, IsTree W b lb root → IsLog W base lb (addG g (cutA p)) → PgT W u (cutB p) → Calls Tryz.prog 69 #[.pointer (some ⟨b, 0, none⟩), u] W fun e w' => e = .returned (.tuple #[.int .i64 (g.len + (addG g (cutA p)).wait.size : Nat), .int .i64 0]) ∧ IsLog w' base lb (addG (addG g (cutA p)) (cutB p)) ∧ LT base lb W w') := fun W u h1 h2 h3 => add_page base b lb (addG g (cutA p)) root _ u W h1 h2 (by show (g.recs ++ [_]).length ≤ _; rw [List.length_append]; simp; omega) hw2 hn h3.pgV hfB hmB hzB
  obtain ⟨va, vb, vc, rfl, _, o1, o2, o3⟩ := hv
  obtain ⟨p1, k1, rfl⟩ := Pa.owns_slice o1
  obtain ⟨p2, k2, rfl⟩ := Pa.owns_slice o2
  obtain ⟨p3, k3, rfl⟩ := Pa.owns_slice o3
  generalize addG (addG g (cutA p)) (cutB p) = g3 at *
  generalize g.len + (addG g (cutA p)).wait.size = at2 at *
  generalize addG g (cutA p) = g2 at *
  generalize g.len + g.wait.size = at1 at *
  generalize cutK p = KH at *
  generalize cutA p = pA at *
  generalize cutB p = pB at *
  have i8 : ¬ ((p.keys.length : Int) ≤ 8) := by omega
  have G0 : Hid (w.grownBy (w.alloc (.cells #[.bool p.leaf, .slice p1 p.keys.length k1, .slice p2 p.vals.length k2, .slice p3 p.kids.length k3] 70)) none) := grown_alloc (grown_refl w none) _
  have HT := hid hT
  have HL := hid hL
  clear hT hL hl hw hw2 hn hsh h8 hn8 hfA hmA hzA hfB hmB hzB o1 o2 o3
  go_enter Tryz.func49, Tryz.ntmps49
  go_wp2_with (first
    | (go_at_call 70; refine (C0.out _ G0.out).mono ?_; rintro e w2 ⟨u1, u2, rfl, hA, hB, hg⟩; have TA := hid hA; have TB := hid hB; have G2 := hid (grown_none G0.out hg); obtain ⟨va1, vb1, vc1, rfl, ⟨q1, l1, _, _, rfl, _⟩, ⟨q2, l2, _, _, rfl, _⟩, ⟨q3, l3, _, _, rfl, _⟩⟩ := hA; obtain ⟨va2, vb2, vc2, rfl, ⟨r1, m1, _, _, rfl, _⟩, ⟨r2, m2, _, _, rfl, _⟩, ⟨r3, m3, _, _, rfl, _⟩⟩ := hB; clear hg C0)
    | (go_at_call 69; refine (C1.out ((w2.alloc (.cells #[.bool pA.leaf, .slice q1 pA.keys.length l1, .slice q2 pA.vals.length l2, .slice q3 pA.kids.length l3] 70)).alloc (.cells #[.bool pB.leaf, .slice r1 pB.keys.length m1, .slice r2 pB.vals.length m2, .slice r3 pB.kids.length m3] 70)) _ (HT.out.kept (grown_alloc (grown_alloc G2.out _) _)) (HL.out.kept (grown_alloc (grown_alloc G2.out _) _)) (TA.out.kept (grown_alloc (grown_alloc (grown_refl _ _) _) _))).mono ?_; rintro e w3 ⟨rfl, l3', t3⟩; have G3 : Hid (w.grownBy ((w2.alloc (.cells #[.bool pA.leaf, .slice q1 pA.keys.length l1, .slice q2 pA.vals.length l2, .slice q3 pA.kids.length l3] 70)).alloc (.cells #[.bool pB.leaf, .slice r1 pB.keys.length m1, .slice r2 pB.vals.length m2, .slice r3 pB.kids.length m3] 70)) none) := grown_alloc (grown_alloc G2.out _) _; have L3 := hid l3'; have T3 := hid (LT.trans (LT.of_none G3.out) t3); have HT3 := hid ((HT.out.kept G3.out).lt (HL.out.kept G3.out) t3); have TB3 := hid ((TB.out.kept (grown_alloc (grown_alloc (grown_refl _ _) (.cells #[.bool pA.leaf, .slice q1 pA.keys.length l1, .slice q2 pA.vals.length l2, .slice q3 pA.kids.length l3] 70)) (.cells #[.bool pB.leaf, .slice r1 pB.keys.length m1, .slice r2 pB.vals.length m2, .slice r3 pB.kids.length m3] 70))).lt (HL.out.kept G3.out) t3); have S0 : Blk ((w2.alloc (.cells #[.bool pA.leaf, .slice q1 pA.keys.length l1, .slice q2 pA.vals.length l2, .slice q3 pA.kids.length l3] 70)).alloc (.cells #[.bool pB.leaf, .slice r1 pB.keys.length m1, .slice r2 pB.vals.length m2, .slice r3 pB.kids.length m3] 70)) (w2.heap.size + 1) 70 #[.bool pB.leaf, .slice r1 pB.keys.length m1, .slice r2 pB.vals.length m2, .slice r3 pB.kids.length m3] := (by have := Blk.new (w2.alloc (.cells #[.bool pA.leaf, .slice q1 pA.keys.length l1, .slice q2 pA.vals.length l2, .slice q3 pA.kids.length l3] 70)) 70 #[.bool pB.leaf, .slice r1 pB.keys.length m1, .slice r2 pB.vals.length m2, .slice r3 pB.kids.length m3]; rw [World.size_alloc] at this; exact this); have S3 := hid (t3.blk S0 (by decide) ((HL.out.kept G3.out).ne S0 (by decide))); have s0 := S3.out.cell 0; have s1 := S3.out.cell 1; have s2 := S3.out.cell 2; have s3 := S3.out.cell 3; simp at s0 s1 s2 s3; clear l3' t3 S0 C1 TA TB HT HL G0 G2 G3)
    | (go_at_call 69; refine (C2.out _ _ HT3.out L3.out TB3.out).mono ?_; rintro e w4 ⟨rfl, l4, t4⟩; have L4 := hid l4; have T4 := hid (LT.trans T3.out t4); clear l4 t4 C2))
  refine bodyPost_ret (results_tmp3 Tryz.results49 _ _ _) rfl ?_
  refine ⟨_, _, rfl, ?_, ?_, L4.out.kept (grown_alloc (grown_alloc (grown_refl _ _) _) _), T4.out.trans (LT.of_none (grown_alloc (grown_alloc (grown_refl _ _) _) _))⟩
  · exact row_none (World.ownsRow_lit (base := w.heap.size) (e := 9) (size := 1) w4 #[.string KH] 1 T4.out.size (by decide) rfl) (grown_alloc (grown_refl _ _) _)
  · have q := World.ownsRow_lit (base := w.heap.size) (e := 3) (size := 1) (w4.alloc (.cells #[.string KH] 9)) #[.int .i64 at1, .int .i64 at2] 2 (by rw [World.size_alloc]; have := T4.out.size; omega) (by decide) rfl
    rw [World.size_alloc] at q
    exact q
end Go.Proofs.YtbhmmcelndmijaaGreat
