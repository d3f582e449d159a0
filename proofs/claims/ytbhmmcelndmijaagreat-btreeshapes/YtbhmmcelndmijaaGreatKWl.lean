/-
  Delete: a key is taken out of a tree. without, at a leaf; two pages in one.
-/
import Derived.Test.YtbhmmcelndmijaaGreatWo0
import Derived.Test.YtbhmmcelndmijaaGreatGt
namespace Go.Proofs.YtbhmmcelndmijaaGreat
open Go.RowKit Go.Maps
def DlPost (w : World) (base lb b : Nat) (c : Bool) (g : Lg) (a : Int) (e : Ending) (w' : World) : Prop := e = .returned (.tuple #[.bool c, .int .i64 0]) ∧ IsTree w' b lb a ∧ IsLog w' base lb g ∧ TT base lb b w w'
set_option maxRecDepth 100000 in
set_option maxHeartbeats 4000000 in
theorem del_is (base b lb : Nat) (g g1 g2 : Lg) (root a2 : Int) (p p2 : Pa.Pg) (k : ByteArray) (w : World) (hT : IsTree w b lb root) (hL : IsLog w base lb g)
    (h27 : ∀ W, IsTree W b lb root → IsLog W base lb g → Calls Tryz.prog 27 #[.pointer (some ⟨b, 0, none⟩)] W (Pa.DecPost W p 0))
    (h28 : ∀ W u bp, IsTree W b lb root → IsLog W base lb g → Pa.PgO W bp u p → bp ≤ W.heap.size → Calls Tryz.prog 28 #[.pointer (some ⟨b, 0, none⟩), u, .agg #[.string ⟨#[]⟩, .string ⟨#[]⟩], .string k] W (WoPost W base lb bp g1 p2))
    (h29 : ∀ W u bp, IsTree W b lb root → IsLog W base lb g1 → Pa.PgO W bp u p2 → Calls Tryz.prog 29 #[.pointer (some ⟨b, 0, none⟩), u] W (PlPost W base lb b g2 a2)) :
    Calls Tryz.prog 12 #[.pointer (some ⟨b, 0, none⟩), .string k] w (DlPost w base lb b true g2 a2) := by
  have C26 := hid (none_tree b lb root w hT)
  have C27 := hid h27
  have C28 := hid h28
  have C29 := hid h29
  have HT := hid hT
  have HL := hid hL
  obtain ⟨P0, hP0⟩ : ∃ P, P = DlPost w base lb b true g2 a2 := ⟨_, rfl⟩
  rw [← hP0]
  have HP := hid (And.intro hP0 trivial)
  have hbw := Blk.lt hT
  clear hP0 h27 h28 h29 hT hL
  go_enter Tryz.func12, Tryz.ntmps12
  go_wp2_with (first
    | (go_at_call 26; refine C26.out.mono ?_; rintro e w1 ⟨rfl, hw⟩; have hw2 := hw.symm; clear hw; subst hw2; clear C26)
    | (go_at_call 27; refine (C27.out w HT.out HL.out).mono ?_; rintro e w2 ⟨u, rfl, o2, g2'⟩; obtain ⟨q1, l1, q2', l2, q3, l3, rfl⟩ := PgO.form o2; have O2 := hid o2; have G2 := hid g2'; clear g2' o2 C27)
    | (go_at_call 28; refine (C28.out (w2.alloc (.cells #[.bool p.leaf, .slice q1 p.keys.length l1, .slice q2' p.vals.length l2, .slice q3 p.kids.length l3] 70)) _ w.heap.size (HT.out.kept (grown_alloc G2.out _)) (HL.out.kept (grown_alloc G2.out _)) (O2.out.keptN (grown_alloc (grown_refl _ _) _)) (Nat.le_trans G2.out.size (grown_alloc (grown_refl w2 none) _).size)).mono ?_; rintro e w4 ⟨u4, rfl, o4, l4, t4⟩; obtain ⟨r1, m1, r2, m2, r3, m3, rfl⟩ := PgO.form o4; have O4 := hid o4; have L4 := hid l4; have T4 := hid t4; have G3 : Hid (w.grownBy (w2.alloc (.cells #[.bool p.leaf, .slice q1 p.keys.length l1, .slice q2' p.vals.length l2, .slice q3 p.kids.length l3] 70)) none) := (grown_alloc G2.out _); have K4 := hid (t4.blk (Blk.new w2 70 #[.bool p.leaf, .slice q1 p.keys.length l1, .slice q2' p.vals.length l2, .slice q3 p.kids.length l3]) (by decide) ((HL.out.kept G3.out).ne (Blk.new w2 70 #[.bool p.leaf, .slice q1 p.keys.length l1, .slice q2' p.vals.length l2, .slice q3 p.kids.length l3]) (by decide))); have TT4 : Hid (IsTree w4 b lb root) := (t4.blk (HT.out.kept G3.out) (by decide) ((HL.out.kept G3.out).ne (HT.out.kept G3.out) (by decide))); have b0 := K4.out.cell 0; have b1 := K4.out.cell 1; have b2 := K4.out.cell 2; have b3 := K4.out.cell 3; have f0 := K4.out.frozen 0; have f1 := K4.out.frozen 1; have f2 := K4.out.frozen 2; have f3 := K4.out.frozen 3; simp at b0 b1 b2 b3; clear o4 l4 t4 C28)
    | (go_at_call 29; have G6 : Hid (w4.grownBy ((((w4.setCell ⟨w2.heap.size, 0, none⟩ (.bool p2.leaf)).setCell ⟨w2.heap.size, 1, none⟩ (.slice r1 p2.keys.length m1)).setCell ⟨w2.heap.size, 2, none⟩ (.slice r2 p2.vals.length m2)).setCell ⟨w2.heap.size, 3, none⟩ (.slice r3 p2.kids.length m3)) (some w2.heap.size)) := (grown_set (grown_set (grown_set (grown_set (grown_refl w4 (some w2.heap.size)) 0 _) 1 _) 2 _) 3 _); have hK : Hid (w.heap.size ≤ w2.heap.size) := G2.out.size; refine (C29.out ((((w4.setCell ⟨w2.heap.size, 0, none⟩ (.bool p2.leaf)).setCell ⟨w2.heap.size, 1, none⟩ (.slice r1 p2.keys.length m1)).setCell ⟨w2.heap.size, 2, none⟩ (.slice r2 p2.vals.length m2)).setCell ⟨w2.heap.size, 3, none⟩ (.slice r3 p2.kids.length m3)) _ w.heap.size (Blk.kept TT4.out G6.out (fun e => by have h1 := Option.some.inj e; have h2 := hK.out; omega)) (L4.out.keptB K4.out (by decide) G6.out) (PgO.own O4.out K4.out (by decide) G6.out)).mono ?_; rintro e w7 ⟨rfl, t7, l7, tt7⟩; have T7 := hid t7; have L7 := hid l7; have TT7 := hid tt7; clear t7 l7 tt7 C29))
  rw [HP.out.1]
  exact ⟨rfl, T7.out, L7.out, ((TT.after G3.out T4.out (Nat.le_refl _)).of_new G6.out (Or.inl hK.out)).trans TT7.out⟩
set_option maxRecDepth 100000 in
set_option maxHeartbeats 4000000 in
theorem del_no (base b lb : Nat) (g : Lg) (root : Int) (p : Pa.Pg) (k : ByteArray) (w : World) (hT : IsTree w b lb root) (hL : IsLog w base lb g)
    (h27 : ∀ W, IsTree W b lb root → IsLog W base lb g → Calls Tryz.prog 27 #[.pointer (some ⟨b, 0, none⟩)] W (Pa.DecPost W p 0))
    (h28 : ∀ W u bp, IsTree W b lb root → IsLog W base lb g → Pa.PgO W bp u p → bp ≤ W.heap.size → Calls Tryz.prog 28 #[.pointer (some ⟨b, 0, none⟩), u, .agg #[.string ⟨#[]⟩, .string ⟨#[]⟩], .string k] W (NoPost W base lb bp g)) :
    Calls Tryz.prog 12 #[.pointer (some ⟨b, 0, none⟩), .string k] w (DlPost w base lb b false g root) := by
  have C26 := hid (none_tree b lb root w hT)
  have C27 := hid h27
  have C28 := hid h28
  have HT := hid hT
  have HL := hid hL
  obtain ⟨P0, hP0⟩ : ∃ P, P = DlPost w base lb b false g root := ⟨_, rfl⟩
  rw [← hP0]
  have HP := hid (And.intro hP0 trivial)
  have hbw := Blk.lt hT
  clear hP0 h27 h28 hT hL
  go_enter Tryz.func12, Tryz.ntmps12
  go_wp2_with (first
    | (go_at_call 26; refine C26.out.mono ?_; rintro e w1 ⟨rfl, hw⟩; have hw2 := hw.symm; clear hw; subst hw2; clear C26)
    | (go_at_call 27; refine (C27.out w HT.out HL.out).mono ?_; rintro e w2 ⟨u, rfl, o2, g2'⟩; obtain ⟨q1, l1, q2', l2, q3, l3, rfl⟩ := PgO.form o2; have O2 := hid o2; have G2 := hid g2'; clear g2' o2 C27)
    | (go_at_call 28; refine (C28.out (w2.alloc (.cells #[.bool p.leaf, .slice q1 p.keys.length l1, .slice q2' p.vals.length l2, .slice q3 p.kids.length l3] 70)) _ w.heap.size (HT.out.kept (grown_alloc G2.out _)) (HL.out.kept (grown_alloc G2.out _)) (O2.out.keptN (grown_alloc (grown_refl _ _) _)) (Nat.le_trans G2.out.size (grown_alloc (grown_refl w2 none) _).size)).mono ?_; rintro e w4 ⟨u4, p2, rfl, o4, l4, t4⟩; obtain ⟨r1, m1, r2, m2, r3, m3, rfl⟩ := PgO.form o4; have L4 := hid l4; have T4 := hid t4; have G3 : Hid (w.grownBy (w2.alloc (.cells #[.bool p.leaf, .slice q1 p.keys.length l1, .slice q2' p.vals.length l2, .slice q3 p.kids.length l3] 70)) none) := (grown_alloc G2.out _); have K4 := hid (t4.blk (Blk.new w2 70 #[.bool p.leaf, .slice q1 p.keys.length l1, .slice q2' p.vals.length l2, .slice q3 p.kids.length l3]) (by decide) ((HL.out.kept G3.out).ne (Blk.new w2 70 #[.bool p.leaf, .slice q1 p.keys.length l1, .slice q2' p.vals.length l2, .slice q3 p.kids.length l3]) (by decide))); have TT4 : Hid (IsTree w4 b lb root) := (t4.blk (HT.out.kept G3.out) (by decide) ((HL.out.kept G3.out).ne (HT.out.kept G3.out) (by decide))); have b0 := K4.out.cell 0; have b1 := K4.out.cell 1; have b2 := K4.out.cell 2; have b3 := K4.out.cell 3; have f0 := K4.out.frozen 0; have f1 := K4.out.frozen 1; have f2 := K4.out.frozen 2; have f3 := K4.out.frozen 3; simp at b0 b1 b2 b3; clear o4 l4 t4 C28))
  have hK := G2.out.size
  have G6 := grown_set (grown_set (grown_set (grown_set (grown_refl w4 (some w2.heap.size)) 0 (.bool p2.leaf)) 1 (.slice r1 p2.keys.length m1)) 2 (.slice r2 p2.vals.length m2)) 3 (.slice r3 p2.kids.length m3)
  rw [HP.out.1]
  exact ⟨rfl, Blk.kept TT4.out G6 (fun e => by have h1 := Option.some.inj e; omega), L4.out.keptB K4.out (by decide) G6, (TT.after G3.out T4.out (Nat.le_refl _)).of_new G6 (Or.inl hK)⟩
end Go.Proofs.YtbhmmcelndmijaaGreat
namespace Go.Proofs.YtbhmmcelndmijaaGreat
open Go.RowKit Go.Maps
set_option maxRecDepth 100000 in
set_option maxHeartbeats 4000000 in
theorem wo_leaf (base bp b lb : Nat) (c : Bool) (g : Lg) (p p2 : Pa.Pg) (v : Value) (lo hi k : ByteArray) (w : World) (hL : IsLog w base lb g) (hv : Pa.PgO w bp v p) (hleaf : p.leaf = true)
    (h46 : ∀ W, w.grownBy W none → Calls Tryz.prog 46 #[v, .string k] W fun e w' => ∃ v', e = .returned (.tuple #[v', .bool c]) ∧ Pa.PgO w' bp v' p2 ∧ PT bp W w') :
    Calls Tryz.prog 28 #[.pointer (some ⟨b, 0, none⟩), v, .agg #[.string lo, .string hi], .string k] w fun e w' => ∃ v, e = .returned (.tuple #[v, .bool c, .int .i64 0]) ∧ Pa.PgO w' bp v p2 ∧ IsLog w' base lb g ∧ XT base lb bp w w' := by
  obtain ⟨p1, k1, p2', k2, p3, k3, rfl⟩ := PgO.form hv
  rw [hleaf] at *
  obtain ⟨P0, hP0⟩ : ∃ P : Ending → World → Prop, P = fun e w' => ∃ v, e = .returned (.tuple #[v, .bool c, .int .i64 0]) ∧ Pa.PgO w' bp v p2 ∧ IsLog w' base lb g ∧ XT base lb bp w w' := ⟨_, rfl⟩
  rw [← hP0]
  have HP := hid (And.intro hP0 trivial)
  have G0 : Hid (w.grownBy (((w.alloc (.cells #[.bool true, .slice p1 p.keys.length k1, .slice p2' p.vals.length k2, .slice p3 p.kids.length k3] 70)).alloc (.cells #[.string lo, .string hi] 76)).alloc (.cells #[.bool false, .slice none 0 0, .slice none 0 0, .slice none 0 0] 70)) none) := grown_alloc (grown_alloc (grown_alloc (grown_refl w none) _) _) _
  have Z0 := hid (three w #[.bool true, .slice p1 p.keys.length k1, .slice p2' p.vals.length k2, .slice p3 p.kids.length k3] #[.string lo, .string hi] #[.bool false, .slice none 0 0, .slice none 0 0, .slice none 0 0] 70 76 70).2.2
  have C := hid (h46 _ G0.out)
  have HL := hid (hL.kept G0.out)
  clear hP0 h46 hL hv
  go_enter Tryz.func28, Tryz.ntmps28
  go_wp2_with (go_at_call 46; refine C.out.mono ?_; rintro e w2 ⟨v2, rfl, o2, t2⟩; obtain ⟨s1, n1, s2, n2, s3, n3, rfl⟩ := PgO.form o2; have O2 := hid o2; have T2 := hid t2; have Z2 := hid ((t2.blk Z0.out (by decide)).alloc (.cells #[.bool p2.leaf, .slice s1 p2.keys.length n1, .slice s2 p2.vals.length n2, .slice s3 p2.kids.length n3] 70)); have z0 := Z2.out.cell 0; have z1 := Z2.out.cell 1; have z2 := Z2.out.cell 2; have z3 := Z2.out.cell 3; have f0 := Z2.out.frozen 0; have f1 := Z2.out.frozen 1; have f2 := Z2.out.frozen 2; have f3 := Z2.out.frozen 3; have hlt : ¬ w2.heap.size = w.heap.size + 1 + 1 := (by have := (t2.blk Z0.out (by decide)).lt; omega); have hlt2 : ¬ w.heap.size + 1 + 1 = w2.heap.size := (fun e => hlt e.symm); simp at z0 z1 z2 z3; clear o2 t2 C)
  have OA := O2.out.keptN (grown_alloc (grown_refl w2 none) (.cells #[.bool p2.leaf, .slice s1 p2.keys.length n1, .slice s2 p2.vals.length n2, .slice s3 p2.kids.length n3] 70))
  have LA := (log_pt HL.out T2.out).kept (grown_alloc (grown_refl w2 none) (.cells #[.bool p2.leaf, .slice s1 p2.keys.length n1, .slice s2 p2.vals.length n2, .slice s3 p2.kids.length n3] 70))
  have XA := ((XT.of_none (base := base) (lb := lb) (bp := bp) G0.out).trans (XT.of_pt T2.out)).trans (XT.of_none (grown_alloc (grown_refl w2 none) (.cells #[.bool p2.leaf, .slice s1 p2.keys.length n1, .slice s2 p2.vals.length n2, .slice s3 p2.kids.length n3] 70)))
  generalize (w2.alloc (.cells #[.bool p2.leaf, .slice s1 p2.keys.length n1, .slice s2 p2.vals.length n2, .slice s3 p2.kids.length n3] 70)) = WA at *
  have BF := blk_store4 (.bool p2.leaf) (.slice s1 p2.keys.length n1) (.slice s2 p2.vals.length n2) (.slice s3 p2.kids.length n3) Z2.out
  have GF := grown_set (grown_set (grown_set (grown_set (grown_refl WA (some (w.heap.size + 1 + 1))) 0 (.bool p2.leaf)) 1 (.slice s1 p2.keys.length n1)) 2 (.slice s2 p2.vals.length n2)) 3 (.slice s3 p2.kids.length n3)
  refine bodyPost_ret (results_pg21 Tryz.results28 _ _ (w.heap.size + 1 + 1) rfl BF) rfl ?_
  rw [HP.out.1]
  exact ⟨_, rfl, PgO.own OA Z2.out (by decide) GF, LA.keptB Z2.out (by decide) GF, XA.through GF (by omega)⟩
/-- Two pages in one: the first one lies ahead. -/
theorem joined_ahead (bk bq N : Nat) (kv u : Value) (kid q : Pa.Pg) (m : ByteArray) (W : World) (h1 : Pa.PgO W bk kv kid) (h2 : Pa.PgO W bq u q) (hN : ∀ x, (∃ a b c, kv = .agg #[.bool kid.leaf, a, b, c] ∧ (x = a ∨ x = b ∨ x = c)) → ∀ k, x.ownBlock = some k → k < N) (hq : N ≤ bq) (hb : bk ≤ W.heap.size)
    (hs : kid.keys.length ≤ 1000 ∧ kid.vals.length ≤ 1000 ∧ kid.kids.length ≤ 1001 ∧ q.keys.length ≤ 1000 ∧ q.vals.length ≤ 1000 ∧ q.kids.length ≤ 1001) :
    Calls Tryz.prog 66 #[kv, .string m, u] W (fun e w' => ∃ x, e = .returned x ∧ Pa.PgO w' bk x (joinP kid m q) ∧ PT bk W w') := by
  obtain ⟨a1, b1, c1, rfl, f0, r1, r2, r3⟩ := h1
  obtain ⟨a2, b2, c2, rfl, _, r4, r5, r6⟩ := h2
  have far : ∀ (x y : Value) (n : Nat) (xs : List Value) (t : TypeId), (x = a1 ∨ x = b1 ∨ x = c1) → W.ownsRow bq t 1 y n xs → Pa.Far x y := fun x y n xs t hx hy g e1 e2 => by
    have k1 := hN x ⟨a1, b1, c1, rfl, hx⟩ g e1
    have k2 := (World.ownsRow.lt hy g e2).1
    omega
  have f1 := far a1 a2 _ _ _ (Or.inl rfl) r4
  have f2 := far a1 b2 _ _ _ (Or.inl rfl) r5
  have f3 := far b1 b2 _ _ _ (Or.inr (Or.inl rfl)) r5
  cases hl : kid.leaf with
  | true =>
    have := joined_leaf bk bq a1 b1 c1 a2 b2 c2 kid q m W f0 f1 f2 f3 r1 r2 r3 r4 r5 r6 hb hs hl
    rw [hl] at this
    exact this
  | false =>
    have := joined_node bk bq a1 b1 c1 a2 b2 c2 kid q m W f0 f1 f2 f3 r1 r2 r3 r4 r5 r6 hb hs hl
    rw [hl] at this
    exact this
/-- .. and behind. -/
theorem joined_behind (bk bq N : Nat) (kv u : Value) (kid q : Pa.Pg) (m : ByteArray) (W : World) (h1 : Pa.PgO W bk kv kid) (h2 : Pa.PgO W bq u q) (hN : ∀ x, (∃ a b c, kv = .agg #[.bool kid.leaf, a, b, c] ∧ (x = a ∨ x = b ∨ x = c)) → ∀ k, x.ownBlock = some k → k < N) (hq : N ≤ bq) (hb : bq ≤ W.heap.size) (hbk : bk ≤ bq)
    (hs : kid.keys.length ≤ 1000 ∧ kid.vals.length ≤ 1000 ∧ kid.kids.length ≤ 1001 ∧ q.keys.length ≤ 1000 ∧ q.vals.length ≤ 1000 ∧ q.kids.length ≤ 1001) :
    Calls Tryz.prog 66 #[u, .string m, kv] W (fun e w' => ∃ x, e = .returned x ∧ Pa.PgO w' bk x (joinP q m kid) ∧ PT bk W w') := by
  obtain ⟨a1, b1, c1, rfl, _, r1, r2, r3⟩ := h1
  obtain ⟨a2, b2, c2, rfl, f0, r4, r5, r6⟩ := h2
  have far : ∀ (x y : Value) (n : Nat) (xs : List Value) (t : TypeId), (x = a1 ∨ x = b1 ∨ x = c1) → W.ownsRow bq t 1 y n xs → Pa.Far y x := fun x y n xs t hx hy g e2 e1 => by
    have k1 := hN x ⟨a1, b1, c1, rfl, hx⟩ g e1
    have k2 := (World.ownsRow.lt hy g e2).1
    omega
  have f1 := far a1 a2 _ _ _ (Or.inl rfl) r4
  have f2 := far b1 a2 _ _ _ (Or.inr (Or.inl rfl)) r4
  have f3 := far b1 b2 _ _ _ (Or.inr (Or.inl rfl)) r5
  have hs' : q.keys.length ≤ 1000 ∧ q.vals.length ≤ 1000 ∧ q.kids.length ≤ 1001 ∧ kid.keys.length ≤ 1000 ∧ kid.vals.length ≤ 1000 ∧ kid.kids.length ≤ 1001 := ⟨hs.2.2.2.1, hs.2.2.2.2.1, hs.2.2.2.2.2, hs.1, hs.2.1, hs.2.2.1⟩
  have up : ∀ (e : Ending) (w' : World), (∃ x, e = .returned x ∧ Pa.PgO w' bq x (joinP q m kid) ∧ PT bq W w') → ∃ x, e = .returned x ∧ Pa.PgO w' bk x (joinP q m kid) ∧ PT bk W w' := fun e w' ⟨x, h1, h2, h3⟩ => ⟨x, h1, PgO.base_le h2 hbk, h3.mono hbk⟩
  cases hl : q.leaf with
  | true =>
    have := joined_leaf bq bk a2 b2 c2 a1 b1 c1 q kid m W f0 f1 f2 f3 r4 r5 r6 r1 r2 r3 hb hs' hl
    rw [hl] at this
    exact this.mono up
  | false =>
    have := joined_node bq bk a2 b2 c2 a1 b1 c1 q kid m W f0 f1 f2 f3 r4 r5 r6 r1 r2 r3 hb hs' hl
    rw [hl] at this
    exact this.mono up
end Go.Proofs.YtbhmmcelndmijaaGreat
