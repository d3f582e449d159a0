/-
  without, at a page with kids: the walk.
-/
import Derived.Test.YtbhmmcelndmijaaGreatJf
namespace Go.Proofs.YtbhmmcelndmijaaGreat
open Go.RowKit Go.Maps
/-- What without leaves, where the key is there. -/
def WoPost (w : World) (base lb bp : Nat) (g : Lg) (p : Pa.Pg) (e : Ending) (w' : World) : Prop := ∃ v, e = .returned (.tuple #[v, .bool true, .int .i64 0]) ∧ Pa.PgO w' bp v p ∧ IsLog w' base lb g ∧ XT base lb bp w w'
/-- .. and where it is not. -/
def NoPost (w : World) (base lb bp : Nat) (g : Lg) (e : Ending) (w' : World) : Prop := ∃ v q, e = .returned (.tuple #[v, .bool false, .int .i64 0]) ∧ Pa.PgO w' 0 v q ∧ IsLog w' base lb g ∧ XT base lb bp w w'
theorem three (w : World) (c1 c2 c3 : Array Value) (t1 t2 t3 : TypeId) : Blk (((w.alloc (.cells c1 t1)).alloc (.cells c2 t2)).alloc (.cells c3 t3)) w.heap.size t1 c1 ∧ Blk (((w.alloc (.cells c1 t1)).alloc (.cells c2 t2)).alloc (.cells c3 t3)) (w.heap.size + 1) t2 c2 ∧ Blk (((w.alloc (.cells c1 t1)).alloc (.cells c2 t2)).alloc (.cells c3 t3)) (w.heap.size + 1 + 1) t3 c3 := by
  have h2 := Blk.new (w.alloc (.cells c1 t1)) t2 c2
  have h3 := Blk.new ((w.alloc (.cells c1 t1)).alloc (.cells c2 t2)) t3 c3
  rw [World.size_alloc] at h2
  rw [World.size_alloc, World.size_alloc] at h3
  exact ⟨((Blk.new w t1 c1).alloc _).alloc _, h2.alloc _, h3⟩
theorem results_pg21 {fn : Func} {p u x : Tmp} (h : fn.results = #[.cell p 70, .tmp u, .tmp x]) (tmps : Array Value) (w : World) (g : Nat) {a b c d : Value} (hp : tmps.getD p undef = .pointer (some ⟨g, 0, none⟩)) (hg : Blk w g 70 #[a, b, c, d]) :
    (results fn tmps).run Tryz.prog w = .ok (.tuple #[.agg #[a, b, c, d], tmps.getD u undef, tmps.getD x undef]) w := by
  have hl := run_loadVar_row (P := Tryz.prog) w g 70 70 #[a, b, c, d] (0, 0) _ hg Tryz.underlying70 rfl Pa.size25
  have hp' : tmps[p]?.getD undef = .pointer (some ⟨g, 0, none⟩) := by simpa using hp
  simp [results, h, asAddr, hp', hl, Result.andThen]
set_option maxRecDepth 100000 in
set_option maxHeartbeats 40000000 in
theorem wo_no (base bp b lb i : Nat) (g : Lg) (root a : Int) (p q : Pa.Pg) (v : Value) (lo hi lo' hi' k : ByteArray) (w : World) (hT : IsTree w b lb root) (hL : IsLog w base lb g) (hv : Pa.PgO w bp v p) (hb : bp ≤ w.heap.size) (hleaf : p.leaf = false) (hki : p.kids[i]? = some a)
    (h40 : ∀ W, w.grownBy W none → Calls Tryz.prog 40 #[v, .string k] W fun e w' => e = .returned (.int .i64 i) ∧ W.grownBy w' none)
    (h41 : ∀ W, w.grownBy W none → Calls Tryz.prog 41 #[.agg #[.string lo, .string hi], v, .int .i64 i] W fun e w' => e = .returned (.agg #[.string lo', .string hi']) ∧ W.grownBy w' none)
    (h42 : ∀ W, w.grownBy W none → Calls Tryz.prog 42 #[.pointer (some ⟨b, 0, none⟩), .int .i64 a, .agg #[.string lo', .string hi']] W (Pa.DecPost W q 0))
    (h28 : ∀ W u bq, IsTree W b lb root → IsLog W base lb g → Pa.PgO W bq u q → bq ≤ W.heap.size → Calls Tryz.prog 28 #[.pointer (some ⟨b, 0, none⟩), u, .agg #[.string lo', .string hi'], .string k] W (NoPost W base lb bq g)) :
    Calls Tryz.prog 28 #[.pointer (some ⟨b, 0, none⟩), v, .agg #[.string lo, .string hi], .string k] w (NoPost w base lb bp g) := by
  have C40 := hid h40
  have C41 := hid h41
  have C42 := hid h42
  have C28 := hid h28
  have HT := hid hT
  have HL := hid hL
  have HV := hid hv
  have HB := hid hb
  have hbel := PgO.below hv
  obtain ⟨p1, k1, p2', k2, p3, k3, rfl⟩ := PgO.form hv
  have HVB := hid (rows_below hbel)
  obtain ⟨g3, rfl, hg3, hc3⟩ := PgO.kid hv hki
  have hil := (List.getElem?_eq_some_iff.1 hki).1
  rw [hleaf] at *
  have HC3 := hid hc3
  obtain ⟨P0, hP0⟩ : ∃ P, P = NoPost w base lb bp g := ⟨_, rfl⟩
  rw [← hP0]
  have HP := hid (And.intro hP0 trivial)
  have G0 : Hid (w.grownBy (((w.alloc (.cells #[.bool false, .slice p1 p.keys.length k1, .slice p2' p.vals.length k2, .slice (some ⟨g3, 0, none⟩) p.kids.length k3] 70)).alloc (.cells #[.string lo, .string hi] 76)).alloc (.cells #[.bool false, .slice none 0 0, .slice none 0 0, .slice none 0 0] 70)) none) := grown_alloc (grown_alloc (grown_alloc (grown_refl w none) _) _) _
  have BB := three w #[.bool false, .slice p1 p.keys.length k1, .slice p2' p.vals.length k2, .slice (some ⟨g3, 0, none⟩) p.kids.length k3] #[.string lo, .string hi] #[.bool false, .slice none 0 0, .slice none 0 0, .slice none 0 0] 70 76 70
  have X0 := hid BB.1
  have Y0 := hid BB.2.1
  have Z0 := hid BB.2.2
  clear BB hP0 h40 h41 h42 h28 hT hL hv hb hc3 hki hbel
  go_enter Tryz.func28, Tryz.ntmps28
  go_wp2_with (go_at_call 40; refine (C40.out _ G0.out).mono ?_; rintro e w3 ⟨rfl, g1'⟩; have G3 := hid (grown_none G0.out g1'); have X3 := hid (X0.out.kept g1' (by simp)); have Y3 := hid (Y0.out.kept g1' (by simp)); have Z3 := hid (Z0.out.kept g1' (by simp)); clear g1' C40 X0 Y0 Z0 G0)
  have hsz := Z3.out.lt
  have hgn : ¬ g3 = w3.heap.size := by omega
  have hgn1 : ¬ w.heap.size = w3.heap.size := by omega
  have hgn2 : ¬ w.heap.size + 1 = w3.heap.size := by omega
  have hj1 : (i : Int) < p.kids.length := by omega
  go_cut [14, 15] (fun v13 v14 wx => v14 = .int .i64 0 ∧ ∃ K q1 l1 q2 l2 q3 l3, v13 = .pointer (some ⟨K, 0, none⟩) ∧ w3.heap.size ≤ K ∧ Blk wx K 70 #[.bool q.leaf, .slice q1 q.keys.length l1, .slice q2 q.vals.length l2, .slice q3 q.kids.length l3] ∧ Pa.PgO wx w3.heap.size (.agg #[.bool q.leaf, .slice q1 q.keys.length l1, .slice q2 q.vals.length l2, .slice q3 q.kids.length l3]) q ∧ w3.grownBy wx none)
  case first =>
    clear C28 HP HT HL HV HB HVB Z3
    have SS : Hid (∀ W, w3.grownBy W none → W.cell? ⟨w.heap.size, 0, none⟩ = some (.bool false) ∧ W.cell? ⟨w.heap.size, 1, none⟩ = some (.slice p1 p.keys.length k1) ∧ W.cell? ⟨w.heap.size, 2, none⟩ = some (.slice p2' p.vals.length k2) ∧ W.cell? ⟨w.heap.size, 3, none⟩ = some (.slice (some ⟨g3, 0, none⟩) p.kids.length k3) ∧ W.cell? ⟨(w.heap.size + 1), 0, none⟩ = some (.string lo) ∧ W.cell? ⟨(w.heap.size + 1), 1, none⟩ = some (.string hi) ∧ W.cell? ⟨g3, i, none⟩ = some (.int .i64 a)) := fun W hW => by
      have q0 := (X3.out.kept hW (by simp)).cell 0
      have q1 := (X3.out.kept hW (by simp)).cell 1
      have q2 := (X3.out.kept hW (by simp)).cell 2
      have q3 := (X3.out.kept hW (by simp)).cell 3
      have q4 := (Y3.out.kept hW (by simp)).cell 0
      have q5 := (Y3.out.kept hW (by simp)).cell 1
      have q6 := HC3.out W (grown_none G3.out hW)
      simp at q0 q1 q2 q3 q4 q5
      exact ⟨q0, q1, q2, q3, q4, q5, q6⟩
    have D41 : Hid (∀ W, w3.grownBy W none → Calls Tryz.prog 41 #[.agg #[.string lo, .string hi], (.agg #[.bool false, .slice p1 p.keys.length k1, .slice p2' p.vals.length k2, .slice (some ⟨g3, 0, none⟩) p.kids.length k3]), .int .i64 i] W fun e w' => e = .returned (.agg #[.string lo', .string hi']) ∧ w3.grownBy w' none ∧ W.grownBy w' none) := fun W hW => (C41.out W (grown_none G3.out hW)).mono fun e w' h => ⟨h.1, grown_none hW h.2, h.2⟩
    have D42 : Hid (∀ W, w3.grownBy W none → Calls Tryz.prog 42 #[.pointer (some ⟨b, 0, none⟩), .int .i64 a, .agg #[.string lo', .string hi']] W fun e w' => ∃ q1 l1 q2 l2 q3 l3, e = .returned (.tuple #[.agg #[.bool q.leaf, .slice q1 q.keys.length l1, .slice q2 q.vals.length l2, .slice q3 q.kids.length l3], .int .i64 0]) ∧ Pa.PgO w' w3.heap.size (.agg #[.bool q.leaf, .slice q1 q.keys.length l1, .slice q2 q.vals.length l2, .slice q3 q.kids.length l3]) q ∧ w3.grownBy w' none ∧ W.grownBy w' none) := fun W hW => (C42.out W (grown_none G3.out hW)).mono fun e w' h => by
      obtain ⟨u, rfl, o, gw⟩ := h
      obtain ⟨q1, l1, q2, l2, q3, l3, rfl⟩ := PgO.form o
      exact ⟨q1, l1, q2, l2, q3, l3, rfl, PgO.base_le o hW.size, grown_none hW gw, gw⟩
    clear C41 C42
    obtain ⟨x0, x1, x2, x3, x4, x5, x6⟩ := SS.out w3 (grown_refl _ _)
    go_region_held3 (fun V => V.cell? ⟨w.heap.size, 0, none⟩ = some (.bool false) ∧ V.cell? ⟨w.heap.size, 1, none⟩ = some (.slice p1 p.keys.length k1) ∧ V.cell? ⟨w.heap.size, 2, none⟩ = some (.slice p2' p.vals.length k2) ∧ V.cell? ⟨w.heap.size, 3, none⟩ = some (.slice (some ⟨g3, 0, none⟩) p.kids.length k3) ∧ V.cell? ⟨(w.heap.size + 1), 0, none⟩ = some (.string lo) ∧ V.cell? ⟨(w.heap.size + 1), 1, none⟩ = some (.string hi) ∧ V.cell? ⟨g3, i, none⟩ = some (.int .i64 a)) (first | assumption | exact SS.out _ (grown_drew (grown_refl _ _)) | exact SS.out _ (grown_drew (grown_alloc (grown_refl _ _) _)) | exact SS.out _ (grown_alloc G4.out _) | go_keep) (first
      | (go_at_call 41; refine (D41.out _ ?gg).mono ?_; (case gg => first | exact grown_drew (grown_refl _ _) | exact grown_drew (grown_alloc (grown_refl _ _) _)); rintro e w4 ⟨rfl, g4, gW⟩; have SK4 := SS.out w4 g4; have G4 := hid g4; (try (have BA := hid (Blk.kept (Blk.drew (Blk.new w3 70 #[.bool false, .slice none 0 0, .slice none 0 0, .slice none 0 0])) gW (by simp)))); clear g4 gW)
      | (go_at_call 42; refine (D42.out _ ?gg).mono ?_; (case gg => first | exact G4.out | exact grown_alloc G4.out _); rintro e w5 ⟨q1, l1, q2, l2, q3, l3, rfl, o5, g5, gW⟩; have SK5 := SS.out w5 g5; have O5 := hid o5; have G5 := hid g5; (first | (have BK := hid (BA.out.kept gW (by simp)); clear BA; have SK6 := SS.out (((((w5).setCell ⟨w3.heap.size, 0, none⟩ (.bool q.leaf)).setCell ⟨w3.heap.size, 1, none⟩ (.slice q1 q.keys.length l1)).setCell ⟨w3.heap.size, 2, none⟩ (.slice q2 q.vals.length l2)).setCell ⟨w3.heap.size, 3, none⟩ (.slice q3 q.kids.length l3)) (grown_store4 _ _ _ _ g5 (Nat.le_refl _)); have z0 := BK.out.cell 0; have z1 := BK.out.cell 1; have z2 := BK.out.cell 2; have z3 := BK.out.cell 3; have f0 := BK.out.frozen 0; have f1 := BK.out.frozen 1; have f2 := BK.out.frozen 2; have f3 := BK.out.frozen 3; simp at z0 z1 z2 z3 f0 f1 f2 f3) | (have BK := hid ((Blk.new w4 70 #[.bool false, .slice none 0 0, .slice none 0 0, .slice none 0 0]).kept gW (by simp)); have SK6 := SS.out (((((w5).setCell ⟨w4.heap.size, 0, none⟩ (.bool q.leaf)).setCell ⟨w4.heap.size, 1, none⟩ (.slice q1 q.keys.length l1)).setCell ⟨w4.heap.size, 2, none⟩ (.slice q2 q.vals.length l2)).setCell ⟨w4.heap.size, 3, none⟩ (.slice q3 q.kids.length l3)) (grown_store4 _ _ _ _ g5 G4.out.size); have z0 := BK.out.cell 0; have z1 := BK.out.cell 1; have z2 := BK.out.cell 2; have z3 := BK.out.cell 3; have f0 := BK.out.frozen 0; have f1 := BK.out.frozen 1; have f2 := BK.out.frozen 2; have f3 := BK.out.frozen 3; simp at z0 z1 z2 z3 f0 f1 f2 f3) | (have SK6 := SS.out (w5.alloc (.cells #[.bool false, .slice none 0 0, .slice none 0 0, .slice none 0 0] 70)) (grown_alloc g5 _); have SK7 := SS.out (w5.alloc (.cells #[.bool q.leaf, .slice q1 q.keys.length l1, .slice q2 q.vals.length l2, .slice q3 q.kids.length l3] 70)) (grown_alloc g5 _))); clear o5 g5 gW))
    all_goals
      (try go_wp2_with fail)
      go_meet
      first
      | exact ⟨rfl, _, _, _, _, _, _, _, rfl, new_end w3 w5 q q1 q2 q3 l1 l2 l3 O5.out G5.out⟩
      | exact ⟨rfl, _, _, _, _, _, _, _, rfl, box_end w3 w5 _ q q1 q2 q3 l1 l2 l3 BK.out (by first | exact Nat.le_refl _ | exact G4.out.size) O5.out G5.out⟩
  case rest =>
    obtain ⟨rfl, K, q1, l1, q2', l2, q3, l3, rfl, hK, hbk, ho, hgx⟩ := hcut
    have BK := hid hbk
    have O4 := hid ho
    have GX := hid hgx
    have G4 := hid (grown_none G3.out hgx)
    have X4 := hid (X3.out.kept hgx (by simp))
    have Y4 := hid (Y3.out.kept hgx (by simp))
    have Z4 := hid (Z3.out.kept hgx (by simp))
    have b0 := BK.out.cell 0
    have b1 := BK.out.cell 1
    have b2 := BK.out.cell 2
    have b3 := BK.out.cell 3
    have x0 := X4.out.cell 0
    have x1 := X4.out.cell 1
    have x2 := X4.out.cell 2
    have x3 := X4.out.cell 3
    have y0 := Y4.out.cell 0
    have y1 := Y4.out.cell 1
    simp at b0 b1 b2 b3 x0 x1 x2 x3 y0 y1
    have hNK : ¬ w.heap.size = K := by omega
    have hNK' : ¬ K = w.heap.size := by omega
    have hZK : ¬ w.heap.size + 1 + 1 = K := by omega
    have hTK : Hid (b ≠ K) := (by have := Blk.lt HT.out; show b ≠ K; omega)
    have hbw : Hid (bp ≤ w3.heap.size) := (Nat.le_trans HB.out G3.out.size)
    have hww : Hid (w.heap.size ≤ w3.heap.size) := G3.out.size
    clear hbk ho hgx C42 X3 Y3 Z3 HC3 hgn hgn1 hgn2
    go_wp2_with fail
    go_region_law (first
      | (go_simp; go_at_call 41; refine (C41.out wc.drew (grown_drew G4.out)).mono ?_; rintro e w5 ⟨rfl, g5⟩; have G5 : Hid (wc.grownBy w5 none) := (grown_none (grown_drew (grown_refl wc none)) g5); have K5 := BK.out.kept G5.out (by simp); clear b0 b1 b2 b3 x0 x1 x2 x3 y0 y1; have b0 := K5.cell 0; have b1 := K5.cell 1; have b2 := K5.cell 2; have b3 := K5.cell 3; simp at b0 b1 b2 b3; clear g5 K5 C41)
      | (go_simp; go_at_call 28; refine (C28.out w5 _ w3.heap.size (HT.out.kept (grown_none G4.out G5.out)) (HL.out.kept (grown_none G4.out G5.out)) (O4.out.keptN G5.out) (Nat.le_trans GX.out.size G5.out.size)).mono ?_; rintro e w6 ⟨u6, x, rfl, o6, l6, t6⟩; obtain ⟨r1, m1, r2, m2, r3, m3, rfl⟩ := PgO.form o6; have O6 := hid o6; have L6 := hid l6; have T6 := hid t6; have K6 := hid (t6.blk (BK.out.kept G5.out (by simp)) (by decide) ((HL.out.kept (grown_none G4.out G5.out)).ne (BK.out.kept G5.out (by simp)) (by decide))); clear b0 b1 b2 b3; have b0 := K6.out.cell 0; have b1 := K6.out.cell 1; have b2 := K6.out.cell 2; have b3 := K6.out.cell 3; have f0 := K6.out.frozen 0; have f1 := K6.out.frozen 1; have f2 := K6.out.frozen 2; have f3 := K6.out.frozen 3; simp at b0 b1 b2 b3; clear o6 l6 t6 C28))
    all_goals
      have GK : Hid (w6.grownBy ((((w6.setCell ⟨K, 0, none⟩ (.bool x.leaf)).setCell ⟨K, 1, none⟩ (.slice r1 x.keys.length m1)).setCell ⟨K, 2, none⟩ (.slice r2 x.vals.length m2)).setCell ⟨K, 3, none⟩ (.slice r3 x.kids.length m3)) (some K)) := (grown_set (grown_set (grown_set (grown_set (grown_refl w6 (some K)) 0 _) 1 _) 2 _) 3 _)
      have LL := HL.out.kept (grown_none G4.out G5.out)
      have X7 := hid ((T6.out.blk (X4.out.kept G5.out (by simp)) (by decide) (LL.ne (X4.out.kept G5.out (by simp)) (by decide))).kept GK.out (fun e => hNK (Option.some.inj e)))
      have Z7 := hid ((T6.out.blk (Z4.out.kept G5.out (by simp)) (by decide) (LL.ne (Z4.out.kept G5.out (by simp)) (by decide))).kept GK.out (fun e => hZK (Option.some.inj e)))
      have Y7 := hid ((T6.out.blk (Y4.out.kept G5.out (by simp)) (by decide) (LL.ne (Y4.out.kept G5.out (by simp)) (by decide))).kept GK.out (fun e => by have := Option.some.inj e; omega))
      have T7 : Hid (IsTree ((((w6.setCell ⟨K, 0, none⟩ (.bool x.leaf)).setCell ⟨K, 1, none⟩ (.slice r1 x.keys.length m1)).setCell ⟨K, 2, none⟩ (.slice r2 x.vals.length m2)).setCell ⟨K, 3, none⟩ (.slice r3 x.kids.length m3)) b lb root) := (Blk.kept (T6.out.blk (HT.out.kept (grown_none G4.out G5.out)) (by decide) (LL.ne (HT.out.kept (grown_none G4.out G5.out)) (by decide))) GK.out (fun e => hTK.out (Option.some.inj e)))
      have L7 := hid (L6.out.keptB K6.out (by decide) GK.out)
      have B7 := hid (blk_store4 (.bool x.leaf) (.slice r1 x.keys.length m1) (.slice r2 x.vals.length m2) (.slice r3 x.kids.length m3) K6.out)
      have O7 := hid (PgO.own O6.out K6.out (by decide) GK.out)
      have V7 := hid (PgO.own (T6.out.pgO (HV.out.keptN (grown_none G4.out G5.out)) LL (fun t u n xs hr hu kk hkk => by have := HVB.out _ u hu kk hkk; omega)) K6.out (by decide) GK.out)
      have XT7 := hid (((XT.of_none (base := base) (lb := lb) (bp := bp) (grown_none G4.out G5.out)).after T6.out (by omega)).through GK.out (by omega))
      have S7 : Hid (bp ≤ ((((w6.setCell ⟨K, 0, none⟩ (.bool x.leaf)).setCell ⟨K, 1, none⟩ (.slice r1 x.keys.length m1)).setCell ⟨K, 2, none⟩ (.slice r2 x.vals.length m2)).setCell ⟨K, 3, none⟩ (.slice r3 x.kids.length m3)).heap.size) := (Nat.le_trans HB.out XT7.out.size)
      have S8 : Hid (w3.heap.size ≤ ((((w6.setCell ⟨K, 0, none⟩ (.bool x.leaf)).setCell ⟨K, 1, none⟩ (.slice r1 x.keys.length m1)).setCell ⟨K, 2, none⟩ (.slice r2 x.vals.length m2)).setCell ⟨K, 3, none⟩ (.slice r3 x.kids.length m3)).heap.size) := (Nat.le_trans GX.out.size (Nat.le_trans G5.out.size (Nat.le_trans T6.out.size GK.out.size)))
      clear LL GK b0 b1 b2 b3 f0 f1 f2 f3 BK O4 X4 Y4 Z4 G5 T6 K6 L6 O6 HT HL HV HVB HB
      go_upto_region 9 with fail
      generalize ((((w6.setCell ⟨K, 0, none⟩ (.bool x.leaf)).setCell ⟨K, 1, none⟩ (.slice r1 x.keys.length m1)).setCell ⟨K, 2, none⟩ (.slice r2 x.vals.length m2)).setCell ⟨K, 3, none⟩ (.slice r3 x.kids.length m3)) = W7 at *
      have z0 := Z7.out.cell 0
      have z1 := Z7.out.cell 1
      have z2 := Z7.out.cell 2
      have z3 := Z7.out.cell 3
      have f0 := Z7.out.frozen 0
      have f1 := Z7.out.frozen 1
      have f2 := Z7.out.frozen 2
      have f3 := Z7.out.frozen 3
      simp at z0 z1 z2 z3
      go_wp2_with fail
      have BF := blk_store4 (.bool false) (.slice none 0 0) (.slice none 0 0) (.slice none 0 0) Z7.out
      have GF := grown_set (grown_set (grown_set (grown_set (grown_refl W7 (some (w.heap.size + 1 + 1))) 0 (.bool false)) 1 (.slice none 0 0)) 2 (.slice none 0 0)) 3 (.slice none 0 0)
      refine bodyPost_ret (results_pg21 Tryz.results28 _ _ (w.heap.size + 1 + 1) rfl BF) rfl ?_
      rw [HP.out.1]
      exact ⟨_, ⟨false, [], [], []⟩, rfl, ⟨_, _, _, rfl, Pa.far_nil _, ⟨rfl, Or.inl ⟨rfl, rfl⟩⟩, ⟨rfl, Or.inl ⟨rfl, rfl⟩⟩, ⟨rfl, Or.inl ⟨rfl, rfl⟩⟩⟩, L7.out.keptB Z7.out (by decide) GF, XT7.out.through GF (by omega)⟩
end Go.Proofs.YtbhmmcelndmijaaGreat
