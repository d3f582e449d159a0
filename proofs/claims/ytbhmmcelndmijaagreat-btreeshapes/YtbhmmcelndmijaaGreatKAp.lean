/-
  A page is laid: lay, where it is cut in two. A page becomes the root: plant. append of a row to a row of one's own, and where what comes of it lies.
-/
import Derived.Test.YtbhmmcelndmijaaGreatKLy
import Derived.Test.YtbhmmcelndmijaaGreatKCun
import Derived.LoopN
import Derived.Laws.AppendOwnNone
namespace Go.Proofs.YtbhmmcelndmijaaGreat
open Go.RowKit Go.Maps
theorem IsLog.ne {w : World} {base lb g : Nat} {G : Lg} {t : TypeId} {cs : Array Value} (h : IsLog w base lb G) (hb : Blk w g t cs) (ht : t ≠ 87) : g ≠ lb := by
  rintro rfl
  obtain ⟨_, vr, vw, h1, _⟩ := h
  have e1 : w.heap[g]? = some (.cells cs t (0, 0)) := hb
  have e2 : w.heap[g]? = some (.cells (rowG G.d vr vw G.com G.len G.root G.marked) 87 (0, 0)) := h1
  rw [e1] at e2
  injection e2 with e2
  injection e2 with _ e3 _
  exact ht e3
theorem IsTree.lt {w w' : World} {base b lb : Nat} {root : Int} {G : Lg} (h : IsTree w b lb root) (hL : IsLog w base lb G) (hT : LT base lb w w') : IsTree w' b lb root := hT.blk h (by decide) (hL.ne h (by decide))
theorem PgT.lt {w w' : World} {base lb : Nat} {v : Value} {p : Pa.Pg} {G : Lg} (h : PgT w v p) (hL : IsLog w base lb G) (hT : LT base lb w w') : PgT w' v p :=
  h.of_blk fun g t cur ht hb => hT.blk hb (by rcases ht with rfl | rfl <;> decide) (hL.ne hb (by rcases ht with rfl | rfl <;> decide))
theorem cut_any (base : Nat) (v : Value) (p : Pa.Pg) (w : World) (h : Pa.PgO w base v p) (hl : if p.leaf then p.vals.length = p.keys.length else p.kids.length = p.keys.length + 1) (h0 : 3 ≤ p.keys.length) (hn : p.keys.length ≤ 1000) :
    Calls Tryz.prog 70 #[v] w fun e w' => ∃ u1 u2, e = .returned (.tuple #[u1, .string (cutK p), u2]) ∧ PgT w' u1 (cutA p) ∧ PgT w' u2 (cutB p) ∧ w.grownBy w' none := by
  cases hf : p.leaf with
  | true => exact cut_leaf base v p w h (by rw [hf, if_pos rfl] at hl; exact hl) (by omega) hn hf
  | false => exact cut_node base v p w h (by rw [hf, if_neg (by decide)] at hl; exact hl) h0 hn hf
set_option maxRecDepth 100000 in
set_option maxHeartbeats 2000000 in
theorem lay_two (base base' b lb : Nat) (g : Lg) (root : Int) (p : Pa.Pg) (v : Value) (w : World) (hT : IsTree w b lb root) (hL : IsLog w base lb g) (hl : g.recs.length ≤ 99999) (hw : g.wait.size ≤ 500000000) (hw2 : (addG g (cutA p)).wait.size ≤ 500000000) (hn : g.len ≤ 1000000000) (hv : Pa.PgO w base' v p)
    (hsh : if p.leaf then p.vals.length = p.keys.length else p.kids.length = p.keys.length + 1) (h8 : 8 < p.keys.length) (hn8 : p.keys.length ≤ 1000)
    (hfA : (cutA p).fits) (hmA : Pa.mayP (cutA p) = true) (hzA : (Pa.encL (cutA p)).length ≤ 1048576) (hfB : (cutB p).fits) (hmB : Pa.mayP (cutB p) = true) (hzB : (Pa.encL (cutB p)).length ≤ 1048576) :
    Calls Tryz.prog 49 #[.pointer (some ⟨b, 0, none⟩), v] w (LayPost w base lb (addG (addG g (cutA p)) (cutB p)) [cutK p] [(g.len + g.wait.size : Nat), (g.len + (addG g (cutA p)).wait.size : Nat)]) := by
  have C0 : Hid (∀ W, w.grownBy W none → Calls Tryz.prog 70 #[v] W fun e w' => ∃ u1 u2, e = .returned (.tuple #[u1, .string (cutK p), u2]) ∧ PgT w' u1 (cutA p) ∧ PgT w' u2 (cutB p) ∧ W.grownBy w' none) := fun W hW => cut_any base' v p W (hv.keptN hW) hsh (by omega) hn8
  have C1 : Hid (∀ W u, IsTree W b lb root → IsLog W base lb g → PgT W u (cutA p) → Calls Tryz.prog 69 #[.pointer (some ⟨b, 0, none⟩), u] W fun e w' => e = .returned (.tuple #[.int .i64 (g.len + g.wait.size : Nat), .int .i64 0]) ∧ IsLog w' base lb (addG g (cutA p)) ∧ LT base lb W w') := fun W u h1 h2 h3 => add_page base b lb g root _ u W h1 h2 (by omega) hw hn h3.pgV hfA hmA hzA
  have C2 : Hid (∀ W u, IsTree W b lb root → IsLog W base lb (addG g (cutA p)) → PgT W u (cutB p) → Calls Tryz.prog 69 #[.pointer (some ⟨b, 0, none⟩), u] W fun e w' => e = .returned (.tuple #[.int .i64 (g.len + (addG g (cutA p)).wait.size : Nat), .int .i64 0]) ∧ IsLog w' base lb (addG (addG g (cutA p)) (cutB p)) ∧ LT base lb W w') := fun W u h1 h2 h3 => add_page base b lb (addG g (cutA p)) root _ u W h1 h2 (by show (g.recs ++ [_]).length ≤ _; rw [List.length_append]; simp; omega) hw2 hn h3.pgV hfB hmB hzB
  obtain ⟨va, vb, vc, rfl, _, o1, o2, o3⟩ := hv
  obtain ⟨p1, k1, rfl⟩ := Pa.owns_slice o1
  obtain ⟨p2, k2, rfl⟩ := Pa.owns_slice o2
  obtain ⟨p3, k3, rfl⟩ := Pa.owns_slice o3
  generalize addG (addG g (cutA p)) (cutB p) = g3 at *
  generalize g.len + (addG g (cutA p)).wait.size = at2 at *
  generalize addG g (cutA p) = g2 at *
  generalize g.len + g.wait.size = at1 at *
  generalize cutK p = KH at *
  generalize cutA p = pA at *
  generalize cutB p = pB at *
  have i8 : ¬ ((p.keys.length : Int) ≤ 8) := by omega
  have G0 : Hid (w.grownBy (w.alloc (.cells #[.bool p.leaf, .slice p1 p.keys.length k1, .slice p2 p.vals.length k2, .slice p3 p.kids.length k3] 70)) none) := grown_alloc (grown_refl w none) _
  have HT := hid hT
  have HL := hid hL
  clear hT hL hl hw hw2 hn hsh h8 hn8 hfA hmA hzA hfB hmB hzB o1 o2 o3
  go_enter Tryz.func49, Tryz.ntmps49
  go_wp2_with (first
    | (go_at_call 70; refine (C0.out _ G0.out).mono ?_; rintro e w2 ⟨u1, u2, rfl, hA, hB, hg⟩; have TA := hid hA; have TB := hid hB; have G2 := hid (grown_none G0.out hg); obtain ⟨va1, vb1, vc1, rfl, ⟨q1, l1, _, _, rfl, _⟩, ⟨q2, l2, _, _, rfl, _⟩, ⟨q3, l3, _, _, rfl, _⟩⟩ := hA; obtain ⟨va2, vb2, vc2, rfl, ⟨r1, m1, _, _, rfl, _⟩, ⟨r2, m2, _, _, rfl, _⟩, ⟨r3, m3, _, _, rfl, _⟩⟩ := hB; clear hg C0)
    | (go_at_call 69; refine (C1.out ((w2.alloc (.cells #[.bool pA.leaf, .slice q1 pA.keys.length l1, .slice q2 pA.vals.length l2, .slice q3 pA.kids.length l3] 70)).alloc (.cells #[.bool pB.leaf, .slice r1 pB.keys.length m1, .slice r2 pB.vals.length m2, .slice r3 pB.kids.length m3] 70)) _ (HT.out.kept (grown_alloc (grown_alloc G2.out _) _)) (HL.out.kept (grown_alloc (grown_alloc G2.out _) _)) (TA.out.kept (grown_alloc (grown_alloc (grown_refl _ _) _) _))).mono ?_; rintro e w3 ⟨rfl, l3', t3⟩; have G3 : Hid (w.grownBy ((w2.alloc (.cells #[.bool pA.leaf, .slice q1 pA.keys.length l1, .slice q2 pA.vals.length l2, .slice q3 pA.kids.length l3] 70)).alloc (.cells #[.bool pB.leaf, .slice r1 pB.keys.length m1, .slice r2 pB.vals.length m2, .slice r3 pB.kids.length m3] 70)) none) := grown_alloc (grown_alloc G2.out _) _; have L3 := hid l3'; have T3 := hid (LT.trans (LT.of_none G3.out) t3); have HT3 := hid ((HT.out.kept G3.out).lt (HL.out.kept G3.out) t3); have TB3 := hid ((TB.out.kept (grown_alloc (grown_alloc (grown_refl _ _) (.cells #[.bool pA.leaf, .slice q1 pA.keys.length l1, .slice q2 pA.vals.length l2, .slice q3 pA.kids.length l3] 70)) (.cells #[.bool pB.leaf, .slice r1 pB.keys.length m1, .slice r2 pB.vals.length m2, .slice r3 pB.kids.length m3] 70))).lt (HL.out.kept G3.out) t3); have S0 : Blk ((w2.alloc (.cells #[.bool pA.leaf, .slice q1 pA.keys.length l1, .slice q2 pA.vals.length l2, .slice q3 pA.kids.length l3] 70)).alloc (.cells #[.bool pB.leaf, .slice r1 pB.keys.length m1, .slice r2 pB.vals.length m2, .slice r3 pB.kids.length m3] 70)) (w2.heap.size + 1) 70 #[.bool pB.leaf, .slice r1 pB.keys.length m1, .slice r2 pB.vals.length m2, .slice r3 pB.kids.length m3] := (by have := Blk.new (w2.alloc (.cells #[.bool pA.leaf, .slice q1 pA.keys.length l1, .slice q2 pA.vals.length l2, .slice q3 pA.kids.length l3] 70)) 70 #[.bool pB.leaf, .slice r1 pB.keys.length m1, .slice r2 pB.vals.length m2, .slice r3 pB.kids.length m3]; rw [World.size_alloc] at this; exact this); have S3 := hid (t3.blk S0 (by decide) ((HL.out.kept G3.out).ne S0 (by decide))); have s0 := S3.out.cell 0; have s1 := S3.out.cell 1; have s2 := S3.out.cell 2; have s3 := S3.out.cell 3; simp at s0 s1 s2 s3; clear l3' t3 S0 C1 TA TB HT HL G0 G2 G3)
    | (go_at_call 69; refine (C2.out _ _ HT3.out L3.out TB3.out).mono ?_; rintro e w4 ⟨rfl, l4, t4⟩; have L4 := hid l4; have T4 := hid (LT.trans T3.out t4); clear l4 t4 C2))
  refine bodyPost_ret (results_tmp3 Tryz.results49 _ _ _) rfl ?_
  refine ⟨_, _, rfl, ?_, ?_, L4.out.kept (grown_alloc (grown_alloc (grown_refl _ _) _) _), T4.out.trans (LT.of_none (grown_alloc (grown_alloc (grown_refl _ _) _) _))⟩
  · exact row_none (World.ownsRow_lit (base := w.heap.size) (e := 9) (size := 1) w4 #[.string KH] 1 T4.out.size (by decide) rfl) (grown_alloc (grown_refl _ _) _)
  · have q := World.ownsRow_lit (base := w.heap.size) (e := 3) (size := 1) (w4.alloc (.cells #[.string KH] 9)) #[.int .i64 at1, .int .i64 at2] 2 (by rw [World.size_alloc]; have := T4.out.size; omega) (by decide) rfl
    rw [World.size_alloc] at q
    exact q
end Go.Proofs.YtbhmmcelndmijaaGreat
namespace Go.Proofs.YtbhmmcelndmijaaGreat
open Go.RowKit Go.Maps
/-- What a tree's calls may turn: its own block, its log's block, and the log's rows. -/
structure TT (base lb b : Nat) (w w' : World) : Prop where
  os : w'.os = w.os
  tape : w'.tape = w.tape
  output : w'.output = w.output
  size : w.heap.size ≤ w'.heap.size
  keep : ∀ i, i < w.heap.size → i ≠ b → (i < base ∨ (i ≠ lb ∧ ∀ cs t fz, w.heap[i]? = some (.cells cs t fz) → t ≠ 111 ∧ t ≠ 5)) → w'.heap[i]? = w.heap[i]?
theorem TT.of_lt {base lb b : Nat} {w w' : World} (h : LT base lb w w') : TT base lb b w w' := ⟨h.os, h.tape, h.output, h.size, fun i hi _ hs => h.keep i hi hs⟩
theorem TT.trans {base lb b : Nat} {w w' w'' : World} (h : TT base lb b w w') (k : TT base lb b w' w'') : TT base lb b w w'' :=
  ⟨k.os.trans h.os, k.tape.trans h.tape, k.output.trans h.output, Nat.le_trans h.size k.size, fun i hi hn hs => by
    have e := h.keep i hi hn hs
    rw [← e]
    refine k.keep i (Nat.lt_of_lt_of_le hi h.size) hn ?_
    rcases hs with hs | ⟨h1, h2⟩
    · exact Or.inl hs
    · exact Or.inr ⟨h1, fun cs t fz q => h2 cs t fz (by rw [← e]; exact q)⟩⟩
theorem TT.of_new {base lb b k : Nat} {w w' w'' : World} (h : TT base lb b w w') (g : w'.grownBy w'' (some k)) (hk : w.heap.size ≤ k ∨ k = b) : TT base lb b w w'' :=
  ⟨g.os.trans h.os, g.tape.trans h.tape, g.output.trans h.output, Nat.le_trans h.size g.size, fun i hi hn hs => by
    rw [g.block i (Nat.lt_of_lt_of_le hi h.size) (fun e => by have := Option.some.inj e; rcases hk with hk | hk <;> omega)]
    exact h.keep i hi hn hs⟩
set_option maxRecDepth 100000 in
set_option maxHeartbeats 2000000 in
theorem plant_none (b lb : Nat) (root : Int) (p : Pa.Pg) (v : Value) (w : World) (hT : IsTree w b lb root) (hv : PgT w v p) (hk : p.keys = []) (hf : p.leaf = true) :
    Calls Tryz.prog 29 #[.pointer (some ⟨b, 0, none⟩), v] w fun e w' => e = .returned (.int .i64 0) ∧ IsTree w' b lb (-1) ∧ w.grownBy w' (some b) := by
  obtain ⟨va, vb, vc, rfl, ⟨p1, k1, _, _, rfl, _⟩, ⟨p2, k2, _, _, rfl, _⟩, ⟨p3, k3, _, _, rfl, _⟩⟩ := hv
  have e0 : p.keys.length = 0 := by rw [hk]; rfl
  rw [e0, hf]
  have HT0 := hid hT
  have HT := hid (hT.alloc (.cells #[.bool true, .slice p1 0 k1, .slice p2 p.vals.length k2, .slice p3 p.kids.length k3] 70))
  have t0 := HT.out.cell 0
  have t1 := HT.out.cell 1
  have z1 := HT.out.frozen 1
  simp at t0 t1
  have hb := Blk.lt hT
  have n1 : ¬ w.heap.size = b := by omega
  have n2 : ¬ b = w.heap.size := by omega
  clear hT hk hf e0
  go_enter Tryz.func29, Tryz.ntmps29
  go_wp2_with fail
  refine wp_loop_rounds 1 ?_
  rw [rounds_succ]
  go_wp2_with fail
  go_ret
  have q := (HT0.out.set 1 (.int .i64 (-1))).alloc (.cells #[.bool true, .slice p1 0 k1, .slice p2 p.vals.length k2, .slice p3 p.kids.length k3] 70)
  simp at q
  exact ⟨rfl, q, grown_alloc (grown_set (grown_refl _ _) 1 _) _⟩
theorem IsLog.keptB {w w' : World} {base lb k : Nat} {G : Lg} {t : TypeId} {cs : Array Value} (h : IsLog w base lb G) (hb : Blk w k t cs) (ht : t ≠ 87 ∧ t ≠ 111 ∧ t ≠ 5) (hg : w.grownBy w' (some k)) : IsLog w' base lb G := by
  have hne := h.ne hb ht.1
  obtain ⟨h0, vr, vw, h1, h2, h3⟩ := h
  exact ⟨h0, vr, vw, h1.kept hg (fun e => hne (Option.some.inj e).symm), rowG_kept h2 hb ht.2.1 hg, rowG_kept h3 hb ht.2.2 hg⟩
theorem int_row_one {w : World} {base : Nat} {v : Value} {x : Int} (h : w.ownsRow base 3 1 v [x].length (Pa.ints [x])) : ∃ gi ci cur, v = .slice (some ⟨gi, 0, none⟩) 1 ci ∧ base ≤ gi ∧ Blk w gi 3 cur ∧ cur[0]? = some (.int .i64 x) := by
  rcases Sl.owns_cases h with ⟨_, q0, _⟩ | ⟨gi, ci, cur, rfl, jb, hB, _, _, _, hx, _⟩
  · simp at q0
  · exact ⟨gi, ci, cur, rfl, jb, hB, Sl.take_get hx rfl⟩
set_option maxRecDepth 100000 in
set_option maxHeartbeats 2000000 in
theorem plant_one (base b lb : Nat) (g : Lg) (root : Int) (p : Pa.Pg) (v : Value) (w : World) (hT : IsTree w b lb root) (hL : IsLog w base lb g) (hl : g.recs.length ≤ 100000) (hw : g.wait.size ≤ 500000000) (hn : g.len ≤ 1000000000) (hv : PgT w v p) (hf : p.fits) (hm : Pa.mayP p = true) (hz : (Pa.encL p).length ≤ 1048576) (h0 : 0 < p.keys.length) (h8 : p.keys.length ≤ 8) :
    Calls Tryz.prog 29 #[.pointer (some ⟨b, 0, none⟩), v] w fun e w' => e = .returned (.int .i64 0) ∧ IsTree w' b lb (g.len + g.wait.size : Nat) ∧ IsLog w' base lb (addG g p) ∧ TT base lb b w w' := by
  have C1 : Hid (∀ W, w.grownBy W none → Calls Tryz.prog 49 #[.pointer (some ⟨b, 0, none⟩), v] W (LayPost W base lb (addG g p) [] [(g.len + g.wait.size : Nat)])) := fun W hW => lay_one base b lb g root p v W (hT.kept hW) (hL.kept hW) hl hw hn (hv.kept hW) hf hm hz h8
  obtain ⟨va, vb, vc, rfl, ⟨p1, k1, _, _, rfl, -⟩, ⟨p2, k2, _, _, rfl, -⟩, ⟨p3, k3, _, _, rfl, -⟩⟩ := hv
  generalize addG g p = g2 at *
  generalize g.len + g.wait.size = at_ at *
  have i0 : (0 : Int) < p.keys.length := by omega
  have G0 : Hid (w.grownBy (w.alloc (.cells #[.bool p.leaf, .slice p1 p.keys.length k1, .slice p2 p.vals.length k2, .slice p3 p.kids.length k3] 70)) none) := grown_alloc (grown_refl w none) _
  have X0 := hid (Blk.new w 70 #[.bool p.leaf, .slice p1 p.keys.length k1, .slice p2 p.vals.length k2, .slice p3 p.kids.length k3])
  have HT := hid (hT.kept G0.out)
  have HL := hid (hL.kept G0.out)
  have hb := Blk.lt hT
  have n1 : ¬ w.heap.size = b := by omega
  have n2 : ¬ b = w.heap.size := by omega
  clear hT hL hl hw hn hf hm hz h0 h8
  go_enter Tryz.func29, Tryz.ntmps29
  go_wp2_with fail
  refine wp_loop_rounds 2 ?_
  rw [rounds_succ]
  generalize hK : Code.rounds Tryz.prog _ _ 1 = K1
  have HK := hid hK
  clear hK
  go_wp2_with (first
    | (go_at_call 49; refine (C1.out _ G0.out).mono ?_; rintro e w2 ⟨vk, vi, rfl, ok, oi, l2, t2⟩; obtain ⟨pk, ck, rfl⟩ := Pa.owns_slice ok; have LI := hid l2; have TI := hid (TT.trans (TT.of_lt (b := b) (LT.of_none G0.out)) (TT.of_lt t2)); have X2 := hid (t2.blk X0.out (by decide) (HL.out.ne X0.out (by decide))); have H2 := hid (HT.out.lt HL.out t2); obtain ⟨gi, ci, cur, rfl, jb, hB, hx⟩ := int_row_one oi; have BI := hid hB; have XI := hid hx; have JB := hid jb; clear jb hB hx; clear ok oi l2 t2 C1)
    | (refine Pa.q_is_store 70 (.tmp 3) (.tmp 24) rfl ?_; refine Pa.store_pg 70 Pa.size25 w.heap.size X2.out _ _ rfl rfl rfl rfl ?_; intro w3 hb3 hg3; have X3 := hid hb3; have G3 := hid hg3; clear hb3 hg3))
  rw [← HK.out, rounds_succ]
  have H3 : Hid (IsTree w3 b lb root) := hid (Blk.kept H2.out G3.out (fun e => n2 (Option.some.inj e)))
  have I3 := hid (BI.out.kept G3.out (fun e => by have h1 := JB.out; rw [World.size_alloc] at h1; have := Option.some.inj e; omega))
  have L3 := hid (LI.out.keptB X2.out (by decide) G3.out)
  have t0 := H3.out.cell 0
  have t1 := H3.out.cell 1
  have z1 := H3.out.frozen 1
  have x0 := X3.out.cell 0
  have x1 := X3.out.cell 1
  have x3 := X3.out.cell 3
  simp at t0 t1 x0 x1 x3
  have y0 : w3.cell? ⟨gi, 0, none⟩ = some (.int .i64 at_) := (I3.out.cell 0).trans XI.out
  have n3 : ¬ gi = b := by have h1 := JB.out; rw [World.size_alloc] at h1; omega
  clear HK
  go_wp2_with fail
  go_ret
  have q := (H3.out.set 1 (.int .i64 (-1))).set 1 (.int .i64 at_)
  simp at q
  have gg : w3.grownBy ((w3.setCell ⟨b, 1, none⟩ (.int .i64 (-1))).setCell ⟨b, 1, none⟩ (.int .i64 at_)) (some b) := grown_set (grown_set (grown_refl _ _) 1 _) 1 _
  exact ⟨rfl, q, L3.out.keptB H3.out (by decide) gg, ((TI.out.of_new G3.out (Or.inl (Nat.le_refl _))).of_new gg (Or.inr rfl))⟩
end Go.Proofs.YtbhmmcelndmijaaGreat
namespace Go.Proofs.YtbhmmcelndmijaaGreat
open Go.RowKit Go.Maps
/-- Two pages in one. -/
def joinP (p : Pa.Pg) (k : ByteArray) (q : Pa.Pg) : Pa.Pg := ⟨p.leaf, (if p.leaf then p.keys else p.keys ++ [k]) ++ q.keys, p.vals ++ q.vals, p.kids ++ q.kids⟩
theorem append_where {P : Program} {w : World} (base : Nat) (t ty e : TypeId) (i : TypeInfo) (z : Value) (bytes : Nat) (ht : P.underlying t = some (.slice e)) (hi : P.info? e = some i) (hz : i.zero = some z) (hsize : i.size = 1) (hby : i.bytes = bytes) (hzs : z.cells.size = 1)
    (v : Value) (n : Nat) (xs : List Value) (hown : w.ownsRow base e 1 v n xs) (b2 : Nat) (u : Value) (m : Nat) (news : List Value) (hu : w.ownsRow b2 e 1 u m news) (h1 : ∀ u ∈ news, u.oneCell' = true)
    (h63 : n + m ≤ 10000000) (hb : bytes ≤ 1000) (hbase : base ≤ w.heap.size) :
    ∃ v' w', (Builtin.append_ #[t, t] ty #[v, u]).run P w = .ok v' w' ∧ w'.ownsRow base e 1 v' (n + m) (xs ++ news) ∧ w.grownBy w' v.ownBlock ∧ (v'.ownBlock = v.ownBlock ∨ v'.ownBlock = some w.heap.size) := by
  have hbytes : (n + m) * bytes ≤ 140737488355328 := Nat.le_trans (Nat.mul_le_mul h63 hb) (by decide)
  rcases Sl.owns_cases hu with ⟨rfl, rfl, rfl⟩ | ⟨g2, c2, cur2, rfl, _, hB2, hn2, hc2, hs2, hx2, hl2⟩
  · exact ⟨v, w, run_append_owned_none w base t ty e i 1 ht hi v n xs hown, by rw [Nat.add_zero, List.append_nil]; exact hown, ⟨rfl, rfl, rfl, Nat.le_refl _, fun _ _ _ => rfl⟩, Or.inl rfl⟩
  have hnews : ∀ j q, news[j]? = some q → w.cell? ((⟨g2, 0, none⟩ : Addr).add j) = some q := fun j q hj => by
    have := hB2.cell j
    rw [Addr.add_lit, Nat.zero_add]
    exact this.trans (Sl.take_get hx2 hj)
  have hl : news.length = m * 1 := by omega
  obtain ⟨v', w', hr, h2, h3, h4⟩ := run_append_own (P := P) w base t ty e i z 1 bytes ht hi hz hsize hby hzs (by decide) v n xs hown ⟨g2, 0, none⟩ m c2 news hl hnews h1 (by unfold maxLen; omega) hbytes hbase
  refine ⟨v', w', hr, h2, h3, ?_⟩
  subst hby
  rcases Sl.owns_cases hown with ⟨rfl, rfl, rfl⟩ | ⟨g, cap, cur, rfl, hg, hB, hn, hc, hs, hx, hl1⟩
  · by_cases hm : m = 0
    · exact Or.inl (by rw [h4.mpr ⟨rfl, hm⟩])
    · have e0 := run_append_nil (P := P) w t ty e i z ht hi hz ⟨g2, 0, none⟩ m c2 news (by rw [hsize]; exact hl) hnews (by omega) (by omega) (by have hb' := hbytes; simp only [Nat.zero_add] at hb'; omega)
      rw [e0] at hr
      injection hr with e1 e2
      subst e1
      exact Or.inr rfl
  · by_cases hroom : n + m ≤ cap
    · have e0 := run_append_room (P := P) w t ty e i ht hi g n cap cur hB ⟨g2, 0, none⟩ m c2 news (by rw [hsize]; exact hl) hnews h1 hroom (by rw [hsize]; omega)
      rw [e0] at hr
      injection hr with e1 e2
      subst e1
      exact Or.inl rfl
    · have holds : ∀ j q, xs[j]? = some q → w.cell? ((⟨g, 0, none⟩ : Addr).add j) = some q := hown.cells (g := g) rfl
      have e0 := run_append_grow (P := P) w t ty e i z ht hi hz ⟨g, 0, none⟩ n cap xs (by rw [hsize]; omega) holds ⟨g2, 0, none⟩ m c2 news (by rw [hsize]; exact hl) hnews (by omega) (by omega) (growslice_fits (by omega) hbytes)
      rw [e0] at hr
      injection hr with e1 e2
      subst e1
      exact Or.inr rfl
theorem far_grown {a a' b : Value} {N : Nat} (hf : Pa.Far a b) (hx : a'.ownBlock = a.ownBlock ∨ a'.ownBlock = some N) (hb : ∀ y, b.ownBlock = some y → y < N) : Pa.Far a' b := fun y e1 e2 => by
  rcases hx with h | h
  · exact hf y (by rw [← h]; exact e1) e2
  · rw [h] at e1
    have := hb y e2
    have := Option.some.inj e1
    omega
/-- append of a row to a row of one's own, as a step. -/
theorem append_strs {ops : Array Oper} {rest : List Oper} {o : Oper} {a : Act} {w : World} {Q : Exit → Act → World → Prop} (base b2 : Nat) (l m : List ByteArray) (v u : Value) (hrow : w.ownsRow base 9 1 v l.length (Pa.strs l)) (hu : w.ownsRow b2 9 1 u m.length (Pa.strs m)) (hk : l.length + m.length ≤ 10000000) (hbase : base ≤ w.heap.size) (s x : Operand)
    (hgd : o.guard = none) (ho : o.op = .call { callee := .builtin .append, args := #[s, x], argTypes := #[48, 48] }) (hs : a.eval s = v) (hx : a.eval x = u)
    (h : ∀ v' w', w'.ownsRow base 9 1 v' (l ++ m).length (Pa.strs (l ++ m)) → w.grownBy w' v.ownBlock → (v'.ownBlock = v.ownBlock ∨ v'.ownBlock = some w.heap.size) → wpList Tryz.prog ops Q rest (a.put o.dst v') w') : wpList Tryz.prog ops Q (o :: rest) a w := by
  obtain ⟨i3, hi3, hz0, hz1, hz2⟩ := info_parts Pa.info9
  have h1 : ∀ q ∈ Pa.strs m, q.oneCell' = true := fun q hq => by
    unfold Pa.strs at hq
    obtain ⟨t, _, rfl⟩ := List.mem_map.mp hq
    rfl
  obtain ⟨v', w', hr, h2, h3, h4⟩ := append_where (P := Tryz.prog) base 48 o.type 9 i3 _ 16 Tryz.underlying48 hi3 hz0 hz1 hz2 rfl v l.length (Pa.strs l) hrow b2 u m.length (Pa.strs m) hu h1 hk (by decide) hbase
  refine wpList_plain hgd fun K hK => ?_
  unfold Oper.wp execOp
  simp only [ho, resolve, invoke, builtin, Sem.run_bind, Sem.run_pure, Result.andThen_ok, List.map_toArray, List.map_cons, List.map_nil, hs, hx, hr]
  refine hK _ _ (h v' w' ?_ h3 h4)
  rw [List.length_append]
  unfold Pa.strs at h2 ⊢
  rw [List.map_append]
  exact h2
theorem append_ints {ops : Array Oper} {rest : List Oper} {o : Oper} {a : Act} {w : World} {Q : Exit → Act → World → Prop} (base b2 : Nat) (l m : List Int) (v u : Value) (hrow : w.ownsRow base 3 1 v l.length (Pa.ints l)) (hu : w.ownsRow b2 3 1 u m.length (Pa.ints m)) (hk : l.length + m.length ≤ 10000000) (hbase : base ≤ w.heap.size) (s x : Operand)
    (hgd : o.guard = none) (ho : o.op = .call { callee := .builtin .append, args := #[s, x], argTypes := #[44, 44] }) (hs : a.eval s = v) (hx : a.eval x = u)
    (h : ∀ v' w', w'.ownsRow base 3 1 v' (l ++ m).length (Pa.ints (l ++ m)) → w.grownBy w' v.ownBlock → (v'.ownBlock = v.ownBlock ∨ v'.ownBlock = some w.heap.size) → wpList Tryz.prog ops Q rest (a.put o.dst v') w') : wpList Tryz.prog ops Q (o :: rest) a w := by
  obtain ⟨i3, hi3, hz0, hz1, hz2⟩ := info_parts Pa.info3
  have h1 : ∀ q ∈ Pa.ints m, q.oneCell' = true := fun q hq => by
    unfold Pa.ints at hq
    obtain ⟨t, _, rfl⟩ := List.mem_map.mp hq
    rfl
  obtain ⟨v', w', hr, h2, h3, h4⟩ := append_where (P := Tryz.prog) base 44 o.type 3 i3 _ 8 Tryz.underlying44 hi3 hz0 hz1 hz2 rfl v l.length (Pa.ints l) hrow b2 u m.length (Pa.ints m) hu h1 hk (by decide) hbase
  refine wpList_plain hgd fun K hK => ?_
  unfold Oper.wp execOp
  simp only [ho, resolve, invoke, builtin, Sem.run_bind, Sem.run_pure, Result.andThen_ok, List.map_toArray, List.map_cons, List.map_nil, hs, hx, hr]
  refine hK _ _ (h v' w' ?_ h3 h4)
  rw [List.length_append]
  unfold Pa.ints at h2 ⊢
  rw [List.map_append]
  exact h2
end Go.Proofs.YtbhmmcelndmijaaGreat
