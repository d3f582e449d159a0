/-
  The halves of a page with kids: cut.
-/
import Derived.Test.YtbhmmcelndmijaaGreatKAp
import Derived.Deep.RegionWith
import Derived.Deep.RegionHeld3
namespace Go.Proofs.YtbhmmcelndmijaaGreat
open Go.RowKit Go.Maps
set_option maxRecDepth 100000 in
set_option maxHeartbeats 2000000 in
theorem cut_node (base : Nat) (v : Value) (p : Pa.Pg) (w : World) (h : Pa.PgO w base v p) (hl : p.kids.length = p.keys.length + 1) (h0 : 3 ≤ p.keys.length) (hn : p.keys.length ≤ 1000) (hf : p.leaf = false) :
    Calls Tryz.prog 70 #[v] w fun e w' => ∃ u1 u2, e = .returned (.tuple #[u1, .string (cutK p), u2]) ∧ PgT w' u1 (cutA p) ∧ PgT w' u2 (cutB p) ∧ w.grownBy w' none := by
  obtain ⟨a, b, c, rfl, j0, h1, h2, h3⟩ := h
  rcases Sl.owns_cases h1 with ⟨_, q0, _⟩ | ⟨g1, c1, cur1, rfl, j1, hB1, hn1, hc1, hs1, hx1, j2⟩
  · omega
  rcases Sl.owns_cases h3 with ⟨_, q0, _⟩ | ⟨g2, c2, cur2, rfl, j3, hB2, hn2, hc2, hs2, hx2, j4⟩
  · omega
  obtain ⟨pb, cb, rfl⟩ := Pa.owns_slice h2
  obtain ⟨n, en⟩ : ∃ n, p.keys.length = n := ⟨_, rfl⟩
  obtain ⟨hh, eh⟩ : ∃ hh, n / 2 = hh := ⟨_, rfl⟩
  obtain ⟨mm, em⟩ : ∃ mm, p.kids.length = mm := ⟨_, rfl⟩
  obtain ⟨hi, ei⟩ : ∃ hi, hh + 1 = hi := ⟨_, rfl⟩
  have N0 : Hid (hh < n ∧ hi < n ∧ hi < mm ∧ n ≤ c1 ∧ mm ≤ c2 ∧ hh + 1 = hi ∧ mm = n + 1 ∧ n ≤ 1000) := by
    clear hc1 hc2 hx1 hx2 hB1 hB2 h1 h2 h3 j0 hf hs1 hs2
    exact ⟨by omega, by omega, by omega, by omega, by omega, by omega, by omega, by omega⟩
  have IW : Hid (wrap64 ((hh : Int) + 1) = hi) := by
    clear hc1 hc2 hx1 hx2 hB1 hB2 h1 h2 h3 j0 hf hs1 hs2
    show wrap64 _ = _; unfold wrap64; omega
  have eA : cutA p = ⟨false, p.keys.take hh, [], p.kids.take hi⟩ := by unfold cutA; rw [hf, if_neg (by decide), en, eh, ei]
  have eB : cutB p = ⟨false, p.keys.drop hi, [], p.kids.drop hi⟩ := by unfold cutB; rw [hf, if_neg (by decide), en, eh, ei]
  have hhn : hh < p.keys.length := by omega
  have eK : cutK p = p.keys[hh] := by unfold cutK; rw [en, eh, List.getD_eq_getElem?_getD, List.getElem?_eq_getElem hhn]; rfl
  obtain ⟨KH, ek⟩ : ∃ KH, p.keys[hh] = KH := ⟨_, rfl⟩
  rw [eA, eB, eK, ek]
  rw [hf, em, en]
  have y1 : cur1[hh]? = some (.string KH) := Sl.take_get hx1 (by unfold Pa.strs; rw [List.getElem?_map, List.getElem?_eq_getElem hhn, ek]; rfl)
  have i1 : (hh : Int) ≤ n := by omega
  have i0 : (0 : Int) ≤ hh := by omega
  have i2 : (hh : Int) ≤ c1 := by omega
  have iq : (n : Int) / 2 = hh := by omega
  have iw : wrap64 (hh : Int) = hh := by unfold wrap64; omega
  have W0 : Hid (w.grownBy (((w.alloc (.cells #[.bool false, .slice (some ⟨g1, 0, none⟩) n c1, .slice pb p.vals.length cb, .slice (some ⟨g2, 0, none⟩) mm c2] 70)).alloc (.cells #[.bool false, .slice none 0 0, .slice none 0 0, .slice none 0 0] 70)).alloc (.cells #[.bool false, .slice none 0 0, .slice none 0 0, .slice none 0 0] 70)) none) := grown_alloc (grown_alloc (grown_alloc (grown_refl _ _) _) _) _
  have X0 := hid (((Blk.new w 70 #[.bool false, .slice (some ⟨g1, 0, none⟩) n c1, .slice pb p.vals.length cb, .slice (some ⟨g2, 0, none⟩) mm c2]).alloc (.cells #[.bool false, .slice none 0 0, .slice none 0 0, .slice none 0 0] 70)).alloc (.cells #[.bool false, .slice none 0 0, .slice none 0 0, .slice none 0 0] 70))
  have Q1 := hid ((Blk.new (w.alloc (.cells #[.bool false, .slice (some ⟨g1, 0, none⟩) n c1, .slice pb p.vals.length cb, .slice (some ⟨g2, 0, none⟩) mm c2] 70)) 70 #[.bool false, .slice none 0 0, .slice none 0 0, .slice none 0 0]).alloc (.cells #[.bool false, .slice none 0 0, .slice none 0 0, .slice none 0 0] 70))
  have Q2 := hid (Blk.new ((w.alloc (.cells #[.bool false, .slice (some ⟨g1, 0, none⟩) n c1, .slice pb p.vals.length cb, .slice (some ⟨g2, 0, none⟩) mm c2] 70)).alloc (.cells #[.bool false, .slice none 0 0, .slice none 0 0, .slice none 0 0] 70)) 70 #[.bool false, .slice none 0 0, .slice none 0 0, .slice none 0 0])
  rw [World.size_alloc] at Q1
  rw [World.size_alloc, World.size_alloc] at Q2
  have B1 := hid (hB1.kept W0.out (by simp))
  have B2 := hid (hB2.kept W0.out (by simp))
  have EN := hid en
  have EM := hid em
  have HX1 := hid hx1
  have HX2 := hid hx2
  have Y1 := hid y1
  have L1 := hid hB1.lt
  have L2 := hid hB2.lt
  have HN := hid hhn
  clear ek hx1 hx2 en em eh ei eA eB eK hl h1 h2 h3 hB1 hB2 hs1 hs2 j0 j1 j2 j3 j4 hn1 hn2 hc1 hc2 h0 hn hf y1
  go_enter Tryz.func70, Tryz.ntmps70
  go_wp2_with fail
  rw [iw]
  clear iw iq
  obtain ⟨w1, hw1⟩ : ∃ w1, w1 = ((w.alloc (.cells #[.bool false, .slice (some ⟨g1, 0, none⟩) n c1, .slice pb p.vals.length cb, .slice (some ⟨g2, 0, none⟩) mm c2] 70)).alloc (.cells #[.bool false, .slice none 0 0, .slice none 0 0, .slice none 0 0] 70)).alloc (.cells #[.bool false, .slice none 0 0, .slice none 0 0, .slice none 0 0] 70) := ⟨_, rfl⟩
  rw [← hw1] at W0 X0 Q1 Q2 B1 B2 ⊢
  have hz1 : w1.heap.size = w.heap.size + 3 := by rw [hw1]; simp
  clear hw1
  have x0 := X0.out.cell 0
  have x1 := X0.out.cell 1
  simp at x0 x1
  go_region_held3 (fun V => V.cell? ⟨w.heap.size, 0, none⟩ = some (.bool false) ∧ V.cell? ⟨w.heap.size, 1, none⟩ = some (.slice (some ⟨g1, 0, none⟩) n c1)) (first | assumption | go_keep) (fail)
  have F2 := hid (Blk.drew (Blk.new w1 70 #[.bool false, .slice (some ⟨g1, 0, none⟩) hh c1, .slice none 0 0, .slice none 0 0]))
  rw [hz1] at F2
  have W2 := hid (grown_drew (grown_alloc W0.out (.cells #[.bool false, .slice (some ⟨g1, 0, none⟩) hh c1, .slice none 0 0, .slice none 0 0] 70)))
  have E12 : Hid (w1.grownBy (w1.alloc (.cells #[.bool false, .slice (some ⟨g1, 0, none⟩) hh c1, .slice none 0 0, .slice none 0 0] 70)).drew none) := grown_drew (grown_alloc (grown_refl _ _) _)
  have hz2 : (w1.alloc (.cells #[.bool false, .slice (some ⟨g1, 0, none⟩) hh c1, .slice none 0 0, .slice none 0 0] 70)).drew.heap.size = w.heap.size + 4 := by show (w1.alloc _).heap.size = _; rw [World.size_alloc, hz1]
  have X2 := hid (X0.out.kept E12.out (by simp))
  have Q12 := hid (Q1.out.kept E12.out (by simp))
  have Q22 := hid (Q2.out.kept E12.out (by simp))
  have B12 := hid (B1.out.kept E12.out (by simp))
  have B22 := hid (B2.out.kept E12.out (by simp))
  clear X0 Q1 Q2 B1 B2 E12 W0 x0 x1
  generalize (w1.alloc (.cells #[.bool false, .slice (some ⟨g1, 0, none⟩) hh c1, .slice none 0 0, .slice none 0 0] 70)).drew = w2 at *
  clear hz1
  have x0 := X2.out.cell 0
  have x1 := X2.out.cell 1
  simp at x0 x1
  have i4 : (n : Int) ≤ c1 := by have := N0.out; omega
  have ne1 : ¬ c1 = hh := by have := N0.out; omega
  go_wp2_with fail
  go_region_held3 (fun V => V.cell? ⟨w.heap.size, 0, none⟩ = some (.bool false) ∧ V.cell? ⟨w.heap.size, 1, none⟩ = some (.slice (some ⟨g1, 0, none⟩) n c1)) (first | assumption | go_keep) (fail)
  have S3 := hid (Blk.drew (Blk.new w2 70 #[.bool false, .slice (some ⟨g1, hh, none⟩) (n - hh) (c1 - hh), .slice none 0 0, .slice none 0 0]))
  rw [hz2] at S3
  have W3 := hid (grown_drew (grown_alloc W2.out (.cells #[.bool false, .slice (some ⟨g1, hh, none⟩) (n - hh) (c1 - hh), .slice none 0 0, .slice none 0 0] 70)))
  have E23 : Hid (w2.grownBy (w2.alloc (.cells #[.bool false, .slice (some ⟨g1, hh, none⟩) (n - hh) (c1 - hh), .slice none 0 0, .slice none 0 0] 70)).drew none) := grown_drew (grown_alloc (grown_refl _ _) _)
  have X3 := hid (X2.out.kept E23.out (by simp))
  have Q13 := hid (Q12.out.kept E23.out (by simp))
  have Q23 := hid (Q22.out.kept E23.out (by simp))
  have B13 := hid (B12.out.kept E23.out (by simp))
  have B23 := hid (B22.out.kept E23.out (by simp))
  have F3 := hid (F2.out.kept E23.out (by simp))
  clear X2 Q12 Q22 B12 B22 E23 W2 x0 x1 F2 i4 hz2
  generalize (w2.alloc (.cells #[.bool false, .slice (some ⟨g1, hh, none⟩) (n - hh) (c1 - hh), .slice none 0 0, .slice none 0 0] 70)).drew = w3 at *
  have x0 := X3.out.cell 0
  have x1 := X3.out.cell 1
  have s1 := S3.out.cell 1
  have sz := S3.out.frozen 1
  simp at x0 x1 s1
  have i3 : (hi : Int) ≤ n := by have := N0.out; omega
  have i5 : (n : Int) ≤ c1 := by have := N0.out; omega
  have i6 : (0 : Int) ≤ hi := by omega
  have ne2 : ¬ c1 = hi := by have := N0.out; omega
  clear i1 i2 ne1
  have iw1 := IW.out
  go_wp2_with fail
  have S3' := hid (S3.out.set 1 (.slice (some ⟨g1, hi, none⟩) (n - hi) (c1 - hi)))
  have W3' := hid (grown_set_new W3.out (a := ⟨w.heap.size + 4, 1, none⟩) (.slice (some ⟨g1, hi, none⟩) (n - hi) (c1 - hi)) (by show w.heap.size ≤ w.heap.size + 4; omega))
  have keep : Hid (∀ (g : Nat) (t : TypeId) (cs : Array Value), Blk w3 g t cs → g ≠ w.heap.size + 4 → Blk (w3.setCell ⟨w.heap.size + 4, 1, none⟩ (.slice (some ⟨g1, hi, none⟩) (n - hi) (c1 - hi))) g t cs) := fun g t cs hb n4 => Blk.other hb _ n4
  have X3' := hid (keep.out _ _ _ X3.out (by omega))
  have Q13' := hid (keep.out _ _ _ Q13.out (by omega))
  have Q23' := hid (keep.out _ _ _ Q23.out (by omega))
  have F3' := hid (keep.out _ _ _ F3.out (by omega))
  have B13' := hid (keep.out _ _ _ B13.out (by have := L1.out; omega))
  have B23' := hid (keep.out _ _ _ B23.out (by have := L2.out; omega))
  clear keep X3 Q13 Q23 F3 B13 B23 S3 W3 x0 x1 s1 sz i5 ne2 i3
  generalize (w3.setCell ⟨w.heap.size + 4, 1, none⟩ (.slice (some ⟨g1, hi, none⟩) (n - hi) (c1 - hi))) = w5 at *
  have x3 := X3'.out.cell 3
  have f3 := F3'.out.cell 3
  have fz := F3'.out.frozen 3
  have s3 := S3'.out.cell 3
  have sz := S3'.out.frozen 3
  simp at x3 f3 s3
  have i3 : (hi : Int) ≤ mm := by have := N0.out; omega
  have i4 : (hi : Int) ≤ c2 := by have := N0.out; omega
  have i5 : (mm : Int) ≤ c2 := by have := N0.out; omega
  have ne2 : ¬ c2 = hi := by have := N0.out; omega
  have iw2 : IntKind.i64.wrap ((hh : Int) + 1) = hi := by rw [wrapEq]; exact iw1
  go_region_held3 (fun V => V.cell? ⟨w.heap.size, 3, none⟩ = some (.slice (some ⟨g2, 0, none⟩) mm c2)) (first | assumption | go_keep) (fail)
  have F4 := hid (Blk.drew (Blk.other (F3'.out.set 3 (.slice (some ⟨g2, 0, none⟩) hi c2)) (a := ⟨w.heap.size + 4, 3, none⟩) (.slice (some ⟨g2, hi, none⟩) (mm - hi) (c2 - hi)) (by show w.heap.size + 3 ≠ w.heap.size + 4; omega)))
  have S4 := hid (Blk.drew ((Blk.other S3'.out (a := ⟨w.heap.size + 3, 3, none⟩) (.slice (some ⟨g2, 0, none⟩) hi c2) (by show w.heap.size + 4 ≠ w.heap.size + 3; omega)).set 3 (.slice (some ⟨g2, hi, none⟩) (mm - hi) (c2 - hi))))
  have W4 := hid (grown_drew (grown_set_new (grown_set_new W3'.out (a := ⟨w.heap.size + 3, 3, none⟩) (.slice (some ⟨g2, 0, none⟩) hi c2) (by show w.heap.size ≤ w.heap.size + 3; omega)) (a := ⟨w.heap.size + 4, 3, none⟩) (.slice (some ⟨g2, hi, none⟩) (mm - hi) (c2 - hi)) (by show w.heap.size ≤ w.heap.size + 4; omega)))
  have keep : Hid (∀ (g : Nat) (t : TypeId) (cs : Array Value), Blk w5 g t cs → g ≠ w.heap.size + 3 → g ≠ w.heap.size + 4 → Blk ((w5.setCell ⟨w.heap.size + 3, 3, none⟩ (.slice (some ⟨g2, 0, none⟩) hi c2)).setCell ⟨w.heap.size + 4, 3, none⟩ (.slice (some ⟨g2, hi, none⟩) (mm - hi) (c2 - hi))).drew g t cs) := fun g t cs hb n3 n4 => Blk.drew (Blk.other (Blk.other hb _ n3) _ n4)
  have X4 := hid (keep.out _ _ _ X3'.out (by omega) (by omega))
  have Q14 := hid (keep.out _ _ _ Q13'.out (by omega) (by omega))
  have Q24 := hid (keep.out _ _ _ Q23'.out (by omega) (by omega))
  have B14 := hid (keep.out _ _ _ B13'.out (by have := L1.out; omega) (by have := L1.out; omega))
  have B24 := hid (keep.out _ _ _ B23'.out (by have := L2.out; omega) (by have := L2.out; omega))
  clear X3' Q13' Q23' B13' B23' F3' S3' W3' x3 f3 fz s3 sz i3 i4 i5 ne2 keep iw1 iw2
  generalize ((w5.setCell ⟨w.heap.size + 3, 3, none⟩ (.slice (some ⟨g2, 0, none⟩) hi c2)).setCell ⟨w.heap.size + 4, 3, none⟩ (.slice (some ⟨g2, hi, none⟩) (mm - hi) (c2 - hi))).drew = w4 at *
  have x1 := X4.out.cell 1
  have a0 := F4.out.cell 0
  have a1 := F4.out.cell 1
  have a2 := F4.out.cell 2
  have a3 := F4.out.cell 3
  have b0 := S4.out.cell 0
  have b1 := S4.out.cell 1
  have b2 := S4.out.cell 2
  have b3 := S4.out.cell 3
  have k1 : w4.cell? ⟨g1, hh, none⟩ = some (.string KH) := (B14.out.cell hh).trans Y1.out
  have q0 := Q14.out.cell 0
  have q1 := Q14.out.cell 1
  have q2 := Q14.out.cell 2
  have q3 := Q14.out.cell 3
  have r0 := Q24.out.cell 0
  have r1 := Q24.out.cell 1
  have r2 := Q24.out.cell 2
  have r3 := Q24.out.cell 3
  have u0 := Q14.out.frozen 0
  have u1 := Q14.out.frozen 1
  have u2 := Q14.out.frozen 2
  have u3 := Q14.out.frozen 3
  have v0 := Q24.out.frozen 0
  have v1 := Q24.out.frozen 1
  have v2 := Q24.out.frozen 2
  have v3 := Q24.out.frozen 3
  simp at x1 a0 a1 a2 a3 b0 b1 b2 b3 q0 q1 q2 q3 r0 r1 r2 r3
  have i6' : (hh : Int) < n := by have := N0.out; omega
  go_wp2_with fail
  have ng1 : ¬ g1 = w.heap.size + 1 := by have := L1.out; omega
  have ng2 : ¬ g1 = w.heap.size + 1 + 1 := by have := L1.out; omega
  have ng3 : ¬ g1 = w.heap.size + 2 := by have := L1.out; omega
  go_region_law (fail)
  all_goals
    rename_i Qp hHeld KK hK
    refine hK _ _ ?_
    clear hK k1 u0 u1 u2 u3 v0 v1 v2 v3 a0 a1 a2 a3 b0 b1 b2 b3 q0 q1 q2 q3 r0 r1 r2 r3 x1
    go_wp2_with fail
    have n12 : w.heap.size + 1 ≠ w.heap.size + 1 + 1 := by omega
    have n21 : w.heap.size + 1 + 1 ≠ w.heap.size + 1 := by omega
    have H1 := Blk.drew (blk_far4 (.bool false) (.slice (some ⟨g1, hi, none⟩) (n - hi) (c1 - hi)) (.slice none 0 0) (.slice (some ⟨g2, hi, none⟩) (mm - hi) (c2 - hi)) (blk_store4 (.bool false) (.slice (some ⟨g1, 0, none⟩) hh c1) (.slice none 0 0) (.slice (some ⟨g2, 0, none⟩) hi c2) Q14.out) n12)
    have H2 := Blk.drew (blk_store4 (.bool false) (.slice (some ⟨g1, hi, none⟩) (n - hi) (c1 - hi)) (.slice none 0 0) (.slice (some ⟨g2, hi, none⟩) (mm - hi) (c2 - hi)) (blk_far4 (.bool false) (.slice (some ⟨g1, 0, none⟩) hh c1) (.slice none 0 0) (.slice (some ⟨g2, 0, none⟩) hi c2) Q24.out n21))
    have hl2 := L2.out
    have hl1 := L1.out
    have keep : ∀ (g : Nat) (t : TypeId) (cs : Array Value), g < w.heap.size → Blk w4 g t cs → Blk _ g t cs := fun g t cs hg hb => Blk.drew (blk_far4 (.bool false) (.slice (some ⟨g1, hi, none⟩) (n - hi) (c1 - hi)) (.slice none 0 0) (.slice (some ⟨g2, hi, none⟩) (mm - hi) (c2 - hi)) (blk_far4 (g' := w.heap.size + 1) (.bool false) (.slice (some ⟨g1, 0, none⟩) hh c1) (.slice none 0 0) (.slice (some ⟨g2, 0, none⟩) hi c2) hb (by omega)) (g' := w.heap.size + 1 + 1) (by omega))
    have G := grown_drew (grown_store4 (.bool false) (.slice (some ⟨g1, hi, none⟩) (n - hi) (c1 - hi)) (.slice none 0 0) (.slice (some ⟨g2, hi, none⟩) (mm - hi) (c2 - hi)) (grown_store4 (.bool false) (.slice (some ⟨g1, 0, none⟩) hh c1) (.slice none 0 0) (.slice (some ⟨g2, 0, none⟩) hi c2) W4.out (g := w.heap.size + 1) (by omega)) (g := w.heap.size + 1 + 1) (by omega))
    refine bodyPost_ret (results_pg3 Tryz.results70 _ _ (w.heap.size + 1) (w.heap.size + 1 + 1) rfl rfl H1 H2) rfl ?_
    have hnn := N0.out
    have hen := EN.out
    have hem := EM.out
    exact ⟨_, _, rfl, ⟨_, _, _, rfl, rowT_take (keep _ _ _ hl1 B14.out) HX1.out (by omega), rowT_nil, rowT_take (keep _ _ _ hl2 B24.out) HX2.out (by omega)⟩, ⟨_, _, _, rfl, rowT_drop (keep _ _ _ hl1 B14.out) HX1.out (by omega), rowT_nil, rowT_drop (keep _ _ _ hl2 B24.out) HX2.out (by omega)⟩, G⟩
end Go.Proofs.YtbhmmcelndmijaaGreat
