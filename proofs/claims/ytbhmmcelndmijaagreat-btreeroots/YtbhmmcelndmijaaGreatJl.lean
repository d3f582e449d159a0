/-
  join: a kid that has too few keys is joined with the one ahead of it: the walk.
-/
import Derived.Test.YtbhmmcelndmijaaGreatJf
namespace Go.Proofs.YtbhmmcelndmijaaGreat
open Go.RowKit Go.Maps
set_option maxRecDepth 100000 in
set_option maxHeartbeats 40000000 in
theorem join_later (base bp bk b lb i j : Nat) (g g2 : Lg) (root a : Int) (p q kid jn p2 : Pa.Pg) (v kv : Value) (lo hi lo' hi' m : ByteArray) (w : World) (hT : IsTree w b lb root) (hL : IsLog w base lb g) (hv : Pa.PgO w bp v p) (hkv : Pa.PgO w bk kv kid) (hb : bp ≤ bk) (hb2 : bk ≤ w.heap.size) (hleaf : p.leaf = false) (hkq : kid.leaf = q.leaf) (hi0 : 0 < i) (hj : i = j + 1) (hi1 : i < 1000) (hki : p.kids[j]? = some a) (hvb : ∀ u, (∃ a b c, v = .agg #[.bool p.leaf, a, b, c] ∧ (u = a ∨ u = b ∨ u = c)) → ∀ k, u.ownBlock = some k → k < bk) (hmk : p.keys[j]? = some m)
    (h41 : ∀ W, w.grownBy W none → Calls Tryz.prog 41 #[.agg #[.string lo, .string hi], v, .int .i64 j] W fun e w' => e = .returned (.agg #[.string lo', .string hi']) ∧ W.grownBy w' none)
    (h42 : ∀ W, w.grownBy W none → Calls Tryz.prog 42 #[.pointer (some ⟨b, 0, none⟩), .int .i64 a, .agg #[.string lo', .string hi']] W (Pa.DecPost W q 0))
    (h66 : ∀ W u bq, Pa.PgO W bk kv kid → Pa.PgO W bq u q → w.heap.size ≤ bq → bq ≤ W.heap.size → Calls Tryz.prog 66 #[u, .string m, kv] W (fun e w' => ∃ x, e = .returned x ∧ Pa.PgO w' bk x jn ∧ PT bk W w'))
    (h48 : ∀ W x, IsTree W b lb root → IsLog W base lb g → Pa.PgO W bp v p → Pa.PgO W bk x jn → bp ≤ W.heap.size → Calls Tryz.prog 48 #[.pointer (some ⟨b, 0, none⟩), v, .int .i64 j, .int .i64 i, x] W (SwPost W base lb bp g2 p2)) :
    Calls Tryz.prog 47 #[.pointer (some ⟨b, 0, none⟩), v, .agg #[.string lo, .string hi], .int .i64 i, kv] w (SwPost w base lb bp g2 p2) := by
  have C41 := hid h41
  have C42 := hid h42
  have C66 := hid h66
  have C48 := hid h48
  have HT := hid hT
  have HL := hid hL
  have HV := hid hv
  have HKV := hid hkv
  have HB := hid (And.intro hb hb2)
  obtain ⟨p1, k1, p2', k2, p3, k3, rfl⟩ := PgO.form hv
  obtain ⟨d1, e1, d2, e2, d3, e3, rfl⟩ := PgO.form hkv
  obtain ⟨g3, rfl, hg3, hc3⟩ := PgO.kid hv hki
  obtain ⟨g4, rfl, hg4, hc4⟩ := PgO.key hv hmk
  have hil := (List.getElem?_eq_some_iff.1 hki).1
  have hml := (List.getElem?_eq_some_iff.1 hmk).1
  have HVB := hid (rows_below hvb)
  rw [hleaf] at *
  have HC3 := hid hc3
  have HC4 := hid hc4
  obtain ⟨P0, hP0⟩ : ∃ P, P = SwPost w base lb bp g2 p2 := ⟨_, rfl⟩
  rw [← hP0]
  have HP := hid (And.intro hP0 trivial)
  have G3 : Hid (w.grownBy ((((w.alloc (.cells #[.bool false, .slice (some ⟨g4, 0, none⟩) p.keys.length k1, .slice p2' p.vals.length k2, .slice (some ⟨g3, 0, none⟩) p.kids.length k3] 70)).alloc (.cells #[.string lo, .string hi] 76)).alloc (.cells #[.bool kid.leaf, .slice d1 kid.keys.length e1, .slice d2 kid.vals.length e2, .slice d3 kid.kids.length e3] 70)).alloc (.cells #[.bool false, .slice none 0 0, .slice none 0 0, .slice none 0 0] 70)) none) := grown_alloc (grown_alloc (grown_alloc (grown_alloc (grown_refl w none) _) _) _) _
  have BB := four w #[.bool false, .slice (some ⟨g4, 0, none⟩) p.keys.length k1, .slice p2' p.vals.length k2, .slice (some ⟨g3, 0, none⟩) p.kids.length k3] #[.string lo, .string hi] #[.bool kid.leaf, .slice d1 kid.keys.length e1, .slice d2 kid.vals.length e2, .slice d3 kid.kids.length e3] #[.bool false, .slice none 0 0, .slice none 0 0, .slice none 0 0] 70 76 70 70
  have X3 := hid BB.1
  have Y3 := hid BB.2.1
  have D3 := hid BB.2.2.1
  have Z3 := hid BB.2.2.2
  have HKQ := hid (And.intro hkq trivial)
  clear BB hP0 h41 h42 h66 h48 hT hL hv hkv hb hb2 hvb hc3 hc4 hki hmk hkq
  have wi : IntKind.i64.wrap ((i : Int) - 1) = (j : Int) := by rw [IntKind.wrap_i64]; omega
  have wi2 : (i : Int) - 1 = (j : Int) := by omega
  have ni : ¬ (i : Int) = 0 := by omega
  have hj0 : (0 : Int) ≤ (j : Int) := by omega
  have hjn : ((j : Int)).toNat = j := by omega
  clear hj hi0
  have ni2 : ((i : Int) == 0) = false := by simp; omega
  go_enter Tryz.func47, Tryz.ntmps47
  go_wp2_with fail
  generalize ((((w.alloc (.cells #[.bool false, .slice (some ⟨g4, 0, none⟩) p.keys.length k1, .slice p2' p.vals.length k2, .slice (some ⟨g3, 0, none⟩) p.kids.length k3] 70)).alloc (.cells #[.string lo, .string hi] 76)).alloc (.cells #[.bool kid.leaf, .slice d1 kid.keys.length e1, .slice d2 kid.vals.length e2, .slice d3 kid.kids.length e3] 70)).alloc (.cells #[.bool false, .slice none 0 0, .slice none 0 0, .slice none 0 0] 70)) = w3 at *
  have hsz := Z3.out.lt
  have hgn : ¬ g3 = w3.heap.size := by omega
  have hgn1 : ¬ w.heap.size = w3.heap.size := by omega
  have hgn2 : ¬ w.heap.size + 1 = w3.heap.size := by omega
  have hj1 : (j : Int) < p.kids.length := by omega
  go_cut [13, 14] (fun v13 v14 wx => v14 = .int .i64 0 ∧ ∃ K q1 l1 q2 l2 q3 l3, v13 = .pointer (some ⟨K, 0, none⟩) ∧ w3.heap.size ≤ K ∧ Blk wx K 70 #[.bool q.leaf, .slice q1 q.keys.length l1, .slice q2 q.vals.length l2, .slice q3 q.kids.length l3] ∧ Pa.PgO wx w3.heap.size (.agg #[.bool q.leaf, .slice q1 q.keys.length l1, .slice q2 q.vals.length l2, .slice q3 q.kids.length l3]) q ∧ w3.grownBy wx none)
  case first =>
    clear C66 C48 HP HT HL HV HB HKV HVB HC4 HKQ
    have SS : Hid (∀ W, w3.grownBy W none → W.cell? ⟨w.heap.size, 0, none⟩ = some (.bool false) ∧ W.cell? ⟨w.heap.size, 1, none⟩ = some (.slice (some ⟨g4, 0, none⟩) p.keys.length k1) ∧ W.cell? ⟨w.heap.size, 2, none⟩ = some (.slice p2' p.vals.length k2) ∧ W.cell? ⟨w.heap.size, 3, none⟩ = some (.slice (some ⟨g3, 0, none⟩) p.kids.length k3) ∧ W.cell? ⟨(w.heap.size + 1), 0, none⟩ = some (.string lo) ∧ W.cell? ⟨(w.heap.size + 1), 1, none⟩ = some (.string hi) ∧ W.cell? ⟨g3, j, none⟩ = some (.int .i64 a)) := fun W hW => by
      have q0 := (X3.out.kept hW (by simp)).cell 0
      have q1 := (X3.out.kept hW (by simp)).cell 1
      have q2 := (X3.out.kept hW (by simp)).cell 2
      have q3 := (X3.out.kept hW (by simp)).cell 3
      have q4 := (Y3.out.kept hW (by simp)).cell 0
      have q5 := (Y3.out.kept hW (by simp)).cell 1
      have q6 := HC3.out W (grown_none G3.out hW)
      simp at q0 q1 q2 q3 q4 q5
      exact ⟨q0, q1, q2, q3, q4, q5, q6⟩
    have D41 : Hid (∀ W, w3.grownBy W none → Calls Tryz.prog 41 #[.agg #[.string lo, .string hi], (.agg #[.bool false, .slice (some ⟨g4, 0, none⟩) p.keys.length k1, .slice p2' p.vals.length k2, .slice (some ⟨g3, 0, none⟩) p.kids.length k3]), .int .i64 j] W fun e w' => e = .returned (.agg #[.string lo', .string hi']) ∧ w3.grownBy w' none ∧ W.grownBy w' none) := fun W hW => (C41.out W (grown_none G3.out hW)).mono fun e w' h => ⟨h.1, grown_none hW h.2, h.2⟩
    have D42 : Hid (∀ W, w3.grownBy W none → Calls Tryz.prog 42 #[.pointer (some ⟨b, 0, none⟩), .int .i64 a, .agg #[.string lo', .string hi']] W fun e w' => ∃ q1 l1 q2 l2 q3 l3, e = .returned (.tuple #[.agg #[.bool q.leaf, .slice q1 q.keys.length l1, .slice q2 q.vals.length l2, .slice q3 q.kids.length l3], .int .i64 0]) ∧ Pa.PgO w' w3.heap.size (.agg #[.bool q.leaf, .slice q1 q.keys.length l1, .slice q2 q.vals.length l2, .slice q3 q.kids.length l3]) q ∧ w3.grownBy w' none ∧ W.grownBy w' none) := fun W hW => (C42.out W (grown_none G3.out hW)).mono fun e w' h => by
      obtain ⟨u, rfl, o, gw⟩ := h
      obtain ⟨q1, l1, q2, l2, q3, l3, rfl⟩ := PgO.form o
      exact ⟨q1, l1, q2, l2, q3, l3, rfl, PgO.base_le o hW.size, grown_none hW gw, gw⟩
    clear C41 C42
    obtain ⟨x0, x1, x2, x3, x4, x5, x6⟩ := SS.out w3 (grown_refl _ _)
    go_region_held3 (fun V => V.cell? ⟨w.heap.size, 0, none⟩ = some (.bool false) ∧ V.cell? ⟨w.heap.size, 1, none⟩ = some (.slice (some ⟨g4, 0, none⟩) p.keys.length k1) ∧ V.cell? ⟨w.heap.size, 2, none⟩ = some (.slice p2' p.vals.length k2) ∧ V.cell? ⟨w.heap.size, 3, none⟩ = some (.slice (some ⟨g3, 0, none⟩) p.kids.length k3) ∧ V.cell? ⟨(w.heap.size + 1), 0, none⟩ = some (.string lo) ∧ V.cell? ⟨(w.heap.size + 1), 1, none⟩ = some (.string hi) ∧ V.cell? ⟨g3, j, none⟩ = some (.int .i64 a)) (first | assumption | exact SS.out _ (grown_drew (grown_refl _ _)) | exact SS.out _ (grown_drew (grown_alloc (grown_refl _ _) _)) | exact SS.out _ (grown_alloc G4.out _) | go_keep) (first
      | (go_at_call 41; refine (D41.out _ ?gg).mono ?_; (case gg => first | exact grown_drew (grown_refl _ _) | exact grown_drew (grown_alloc (grown_refl _ _) _)); rintro e w4 ⟨rfl, g4, gW⟩; have SK4 := SS.out w4 g4; have G4 := hid g4; (try (have BA := hid (Blk.kept (Blk.drew (Blk.new w3 70 #[.bool false, .slice none 0 0, .slice none 0 0, .slice none 0 0])) gW (by simp)))); clear g4 gW)
      | (go_at_call 42; refine (D42.out _ ?gg).mono ?_; (case gg => first | exact G4.out | exact grown_alloc G4.out _); rintro e w5 ⟨q1, l1, q2, l2, q3, l3, rfl, o5, g5, gW⟩; have SK5 := SS.out w5 g5; have O5 := hid o5; have G5 := hid g5; (first | (have BK := hid (BA.out.kept gW (by simp)); clear BA; have SK6 := SS.out (((((w5).setCell ⟨w3.heap.size, 0, none⟩ (.bool q.leaf)).setCell ⟨w3.heap.size, 1, none⟩ (.slice q1 q.keys.length l1)).setCell ⟨w3.heap.size, 2, none⟩ (.slice q2 q.vals.length l2)).setCell ⟨w3.heap.size, 3, none⟩ (.slice q3 q.kids.length l3)) (grown_store4 _ _ _ _ g5 (Nat.le_refl _)); have z0 := BK.out.cell 0; have z1 := BK.out.cell 1; have z2 := BK.out.cell 2; have z3 := BK.out.cell 3; have f0 := BK.out.frozen 0; have f1 := BK.out.frozen 1; have f2 := BK.out.frozen 2; have f3 := BK.out.frozen 3; simp at z0 z1 z2 z3 f0 f1 f2 f3) | (have BK := hid ((Blk.new w4 70 #[.bool false, .slice none 0 0, .slice none 0 0, .slice none 0 0]).kept gW (by simp)); have SK6 := SS.out (((((w5).setCell ⟨w4.heap.size, 0, none⟩ (.bool q.leaf)).setCell ⟨w4.heap.size, 1, none⟩ (.slice q1 q.keys.length l1)).setCell ⟨w4.heap.size, 2, none⟩ (.slice q2 q.vals.length l2)).setCell ⟨w4.heap.size, 3, none⟩ (.slice q3 q.kids.length l3)) (grown_store4 _ _ _ _ g5 G4.out.size); have z0 := BK.out.cell 0; have z1 := BK.out.cell 1; have z2 := BK.out.cell 2; have z3 := BK.out.cell 3; have f0 := BK.out.frozen 0; have f1 := BK.out.frozen 1; have f2 := BK.out.frozen 2; have f3 := BK.out.frozen 3; simp at z0 z1 z2 z3 f0 f1 f2 f3) | (have SK6 := SS.out (w5.alloc (.cells #[.bool false, .slice none 0 0, .slice none 0 0, .slice none 0 0] 70)) (grown_alloc g5 _); have SK7 := SS.out (w5.alloc (.cells #[.bool q.leaf, .slice q1 q.keys.length l1, .slice q2 q.vals.length l2, .slice q3 q.kids.length l3] 70)) (grown_alloc g5 _))); clear o5 g5 gW))
    all_goals
      (try go_wp2_with fail)
      go_meet
      first
      | exact ⟨rfl, _, _, _, _, _, _, _, rfl, new_end w3 w5 q q1 q2 q3 l1 l2 l3 O5.out G5.out⟩
      | exact ⟨rfl, _, _, _, _, _, _, _, rfl, box_end w3 w5 _ q q1 q2 q3 l1 l2 l3 BK.out (by first | exact Nat.le_refl _ | exact G4.out.size) O5.out G5.out⟩
  case rest =>
    obtain ⟨rfl, K, q1, l1, q2, l2, q3, l3, rfl, hK, hbk, ho, hgx⟩ := hcut
    have BK := hid hbk
    have O4 := hid ho
    have GX := hid hgx
    have G4 := hid (grown_none G3.out hgx)
    have X4 := hid (X3.out.kept hgx (by simp))
    have D4 := hid (D3.out.kept hgx (by simp))
    have Z4 := hid (Z3.out.kept hgx (by simp))
    have T4 : Hid (IsTree wc b lb root) := HT.out.kept G4.out
    have L4 := hid (HL.out.kept G4.out)
    have V4 := hid (HV.out.keptN G4.out)
    have KV4 := hid (HKV.out.keptN G4.out)
    have c4 := HC4.out wc G4.out
    have S12 : Hid (∀ W, Blk W w.heap.size 70 #[.bool false, .slice (some ⟨g4, 0, none⟩) p.keys.length k1, .slice p2' p.vals.length k2, .slice (some ⟨g3, 0, none⟩) p.kids.length k3] → Blk W (w.heap.size + 1 + 1) 70 #[.bool kid.leaf, .slice d1 kid.keys.length e1, .slice d2 kid.vals.length e2, .slice d3 kid.kids.length e3] → Blk W K 70 #[.bool q.leaf, .slice q1 q.keys.length l1, .slice q2 q.vals.length l2, .slice q3 q.kids.length l3] → W.cell? ⟨w.heap.size, 0, none⟩ = some (.bool false) ∧ W.cell? ⟨w.heap.size, 1, none⟩ = some (.slice (some ⟨g4, 0, none⟩) p.keys.length k1) ∧ W.cell? ⟨w.heap.size, 2, none⟩ = some (.slice p2' p.vals.length k2) ∧ W.cell? ⟨w.heap.size, 3, none⟩ = some (.slice (some ⟨g3, 0, none⟩) p.kids.length k3) ∧ W.cell? ⟨w.heap.size + 1 + 1, 0, none⟩ = some (.bool kid.leaf) ∧ W.cell? ⟨w.heap.size + 1 + 1, 1, none⟩ = some (.slice d1 kid.keys.length e1) ∧ W.cell? ⟨w.heap.size + 1 + 1, 2, none⟩ = some (.slice d2 kid.vals.length e2) ∧ W.cell? ⟨w.heap.size + 1 + 1, 3, none⟩ = some (.slice d3 kid.kids.length e3) ∧ W.cell? ⟨K, 0, none⟩ = some (.bool q.leaf) ∧ W.cell? ⟨K, 1, none⟩ = some (.slice q1 q.keys.length l1) ∧ W.cell? ⟨K, 2, none⟩ = some (.slice q2 q.vals.length l2) ∧ W.cell? ⟨K, 3, none⟩ = some (.slice q3 q.kids.length l3)) := fun W hx hd hk => by
      have q0 := hx.cell 0
      have q1 := hx.cell 1
      have q2 := hx.cell 2
      have q3 := hx.cell 3
      have q4 := hd.cell 0
      have q5 := hd.cell 1
      have q6 := hd.cell 2
      have q7 := hd.cell 3
      have q8 := hk.cell 0
      have q9 := hk.cell 1
      have q10 := hk.cell 2
      have q11 := hk.cell 3
      simp at q0 q1 q2 q3 q4 q5 q6 q7 q8 q9 q10 q11
      exact ⟨q0, q1, q2, q3, q4, q5, q6, q7, q8, q9, q10, q11⟩
    have SKd := S12.out wc.drew X4.out.drew D4.out.drew BK.out.drew
    obtain ⟨x0, x1, x2, x3, d0, d1', d2', d3', b0, b1, b2, b3⟩ := S12.out wc X4.out D4.out BK.out
    have KV4d := hid (KV4.out.keptN (grown_drew (grown_refl wc none)))
    have O4d := hid (O4.out.keptN (grown_drew (grown_refl wc none)))
    have G3s : Hid (w.heap.size ≤ w3.heap.size) := G3.out.size
    have S4 : Hid (bp ≤ wc.heap.size) := (Nat.le_trans HB.out.1 (Nat.le_trans HB.out.2 G4.out.size))
    have hq1 : (q.leaf != kid.leaf) = false := by rw [HKQ.out.1]; simp
    have hq2 : (q.leaf == kid.leaf) = true := by rw [HKQ.out.1]; simp
    clear hbk ho hgx C41 C42 X3 Y3 D3 Z3 HC3 hgn hgn1 hgn2
    have hm1 : (j : Int) < p.keys.length := by omega
    go_wp2_with fail
    clear hq1 hq2 SKd S12 HT HL HV HKV G3 D4 
    go_region_law (first
      | (go_simp; go_at_call 66; refine (C66.out wc.drew _ w3.heap.size KV4d.out O4d.out G3s.out GX.out.size).mono ?_; rintro e w6 ⟨u6, rfl, o6, t6⟩; obtain ⟨r1, m1, r2, m2, r3, m3, rfl⟩ := PgO.form o6; have O6 := hid o6; have T6 : Hid (PT bk wc w6) := (PT.trans (PT.of_none (grown_drew (grown_refl wc none))) t6); have X6 := T6.out.blk X4.out (by decide); have y0 := X6.cell 0; have y1 := X6.cell 1; have y2 := X6.cell 2; have y3 := X6.cell 3; simp at y0 y1 y2 y3; clear o6 t6 C66 X6 x0 x1 x2 x3 d0 d1' d2' d3' b0 b1 b2 b3 c4)
      | (go_simp; go_at_call 48; refine (C48.out w6 _ (T6.out.blk T4.out (by decide)) (log_pt L4.out T6.out) (T6.out.pgO V4.out (HVB.out _)) O6.out (Nat.le_trans S4.out T6.out.size)).mono ?_; rintro e w7 ⟨u7, rfl, o7, l7, t7⟩; obtain ⟨s1, n1, s2, n2, s3, n3, rfl⟩ := PgO.form o7; have O7 := hid o7; have L7 := hid l7; have T7 := hid t7; have Z7 := hid (t7.blk (T6.out.blk Z4.out (by decide)) (by decide) ((log_pt L4.out T6.out).ne (T6.out.blk Z4.out (by decide)) (by decide))); have z0 := Z7.out.cell 0; have z1 := Z7.out.cell 1; have z2 := Z7.out.cell 2; have z3 := Z7.out.cell 3; have f0 := Z7.out.frozen 0; have f1 := Z7.out.frozen 1; have f2 := Z7.out.frozen 2; have f3 := Z7.out.frozen 3; simp at z0 z1 z2 z3; clear o7 l7 t7 C48 y0 y1 y2 y3))
    all_goals
      (try go_wp2_with fail)
      have BF := blk_store4 (.bool p2.leaf) (.slice s1 p2.keys.length n1) (.slice s2 p2.vals.length n2) (.slice s3 p2.kids.length n3) Z7.out
      have GF := grown_set (grown_set (grown_set (grown_set (grown_refl w7 (some (w.heap.size + 1 + 1 + 1))) 0 (.bool p2.leaf)) 1 (.slice s1 p2.keys.length n1)) 2 (.slice s2 p2.vals.length n2)) 3 (.slice s3 p2.kids.length n3)
      refine bodyPost_ret (Pa.results_pg2 Tryz.results47 _ _ (w.heap.size + 1 + 1 + 1) rfl BF) rfl ?_
      rw [HP.out.1]
      have XX := (((XT.of_none (base := base) (lb := lb) (bp := bp) G4.out).trans (XT.of_pt (T6.out.mono HB.out.1))).trans T7.out).through GF (by omega)
      exact ⟨_, rfl, PgO.own O7.out Z7.out (by decide) GF, L7.out.keptB Z7.out (by decide) GF, XX⟩
end Go.Proofs.YtbhmmcelndmijaaGreat
