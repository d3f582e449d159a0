/-
  A page becomes the root: plant. A page with another one, which is laid, in the place of some of its kids: swap.
-/
import Derived.Test.YtbhmmcelndmijaaGreatKLy2
import Derived.LoopN
import Derived.Test.YtbhmmcelndmijaaGreatRep
namespace Go.Proofs.YtbhmmcelndmijaaGreat
open Go.RowKit Go.Maps
/-- What a tree's calls may turn: its own block, its log's block, and the log's rows. -/
structure TT (base lb b : Nat) (w w' : World) : Prop where
  os : w'.os = w.os
  tape : w'.tape = w.tape
  output : w'.output = w.output
  size : w.heap.size ≤ w'.heap.size
  keep : ∀ i, i < w.heap.size → i ≠ b → (i < base ∨ (i ≠ lb ∧ ∀ cs t fz, w.heap[i]? = some (.cells cs t fz) → t ≠ 111 ∧ t ≠ 5)) → w'.heap[i]? = w.heap[i]?
theorem TT.of_lt {base lb b : Nat} {w w' : World} (h : LT base lb w w') : TT base lb b w w' := ⟨h.os, h.tape, h.output, h.size, fun i hi _ hs => h.keep i hi hs⟩
theorem TT.trans {base lb b : Nat} {w w' w'' : World} (h : TT base lb b w w') (k : TT base lb b w' w'') : TT base lb b w w'' :=
  ⟨k.os.trans h.os, k.tape.trans h.tape, k.output.trans h.output, Nat.le_trans h.size k.size, fun i hi hn hs => by
    have e := h.keep i hi hn hs
    rw [← e]
    refine k.keep i (Nat.lt_of_lt_of_le hi h.size) hn ?_
    rcases hs with hs | ⟨h1, h2⟩
    · exact Or.inl hs
    · exact Or.inr ⟨h1, fun cs t fz q => h2 cs t fz (by rw [← e]; exact q)⟩⟩
theorem TT.of_new {base lb b k : Nat} {w w' w'' : World} (h : TT base lb b w w') (g : w'.grownBy w'' (some k)) (hk : w.heap.size ≤ k ∨ k = b) : TT base lb b w w'' :=
  ⟨g.os.trans h.os, g.tape.trans h.tape, g.output.trans h.output, Nat.le_trans h.size g.size, fun i hi hn hs => by
    rw [g.block i (Nat.lt_of_lt_of_le hi h.size) (fun e => by have := Option.some.inj e; rcases hk with hk | hk <;> omega)]
    exact h.keep i hi hn hs⟩
set_option maxRecDepth 100000 in
set_option maxHeartbeats 2000000 in
theorem plant_none (b lb : Nat) (root : Int) (p : Pa.Pg) (v : Value) (w : World) (hT : IsTree w b lb root) (hv : PgT w v p) (hk : p.keys = []) (hf : p.leaf = true) :
    Calls Tryz.prog 29 #[.pointer (some ⟨b, 0, none⟩), v] w fun e w' => e = .returned (.int .i64 0) ∧ IsTree w' b lb (-1) ∧ w.grownBy w' (some b) := by
  obtain ⟨va, vb, vc, rfl, ⟨p1, k1, _, _, rfl, _⟩, ⟨p2, k2, _, _, rfl, _⟩, ⟨p3, k3, _, _, rfl, _⟩⟩ := hv
  have e0 : p.keys.length = 0 := by rw [hk]; rfl
  rw [e0, hf]
  have HT0 := hid hT
  have HT := hid (hT.alloc (.cells #[.bool true, .slice p1 0 k1, .slice p2 p.vals.length k2, .slice p3 p.kids.length k3] 70))
  have t0 := HT.out.cell 0
  have t1 := HT.out.cell 1
  have z1 := HT.out.frozen 1
  simp at t0 t1
  have hb := Blk.lt hT
  have n1 : ¬ w.heap.size = b := by omega
  have n2 : ¬ b = w.heap.size := by omega
  clear hT hk hf e0
  go_enter Tryz.func29, Tryz.ntmps29
  go_wp2_with fail
  refine wp_loop_rounds 1 ?_
  rw [rounds_succ]
  go_wp2_with fail
  go_ret
  have q := (HT0.out.set 1 (.int .i64 (-1))).alloc (.cells #[.bool true, .slice p1 0 k1, .slice p2 p.vals.length k2, .slice p3 p.kids.length k3] 70)
  simp at q
  exact ⟨rfl, q, grown_alloc (grown_set (grown_refl _ _) 1 _) _⟩
theorem IsLog.keptB {w w' : World} {base lb k : Nat} {G : Lg} {t : TypeId} {cs : Array Value} (h : IsLog w base lb G) (hb : Blk w k t cs) (ht : t ≠ 87 ∧ t ≠ 111 ∧ t ≠ 5) (hg : w.grownBy w' (some k)) : IsLog w' base lb G := by
  have hne := h.ne hb ht.1
  obtain ⟨h0, vr, vw, h1, h2, h3⟩ := h
  exact ⟨h0, vr, vw, h1.kept hg (fun e => hne (Option.some.inj e).symm), rowG_kept h2 hb ht.2.1 hg, rowG_kept h3 hb ht.2.2 hg⟩
theorem int_row_one {w : World} {base : Nat} {v : Value} {x : Int} (h : w.ownsRow base 3 1 v [x].length (Pa.ints [x])) : ∃ gi ci cur, v = .slice (some ⟨gi, 0, none⟩) 1 ci ∧ base ≤ gi ∧ Blk w gi 3 cur ∧ cur[0]? = some (.int .i64 x) := by
  rcases Sl.owns_cases h with ⟨_, q0, _⟩ | ⟨gi, ci, cur, rfl, jb, hB, _, _, _, hx, _⟩
  · simp at q0
  · exact ⟨gi, ci, cur, rfl, jb, hB, Sl.take_get hx rfl⟩
set_option maxRecDepth 100000 in
set_option maxHeartbeats 2000000 in
theorem plant_one (base b lb : Nat) (g : Lg) (root : Int) (p : Pa.Pg) (v : Value) (w : World) (hT : IsTree w b lb root) (hL : IsLog w base lb g) (hl : g.recs.length ≤ 100000) (hw : g.wait.size ≤ 500000000) (hn : g.len ≤ 1000000000) (hv : PgT w v p) (hf : p.fits) (hm : Pa.mayP p = true) (hz : (Pa.encL p).length ≤ 1048576) (h0 : 0 < p.keys.length) (h8 : p.keys.length ≤ 8) :
    Calls Tryz.prog 29 #[.pointer (some ⟨b, 0, none⟩), v] w fun e w' => e = .returned (.int .i64 0) ∧ IsTree w' b lb (g.len + g.wait.size : Nat) ∧ IsLog w' base lb (addG g p) ∧ TT base lb b w w' := by
  have C1 : Hid (∀ W, w.grownBy W none → Calls Tryz.prog 49 #[.pointer (some ⟨b, 0, none⟩), v] W (LayPost W base lb (addG g p) [] [(g.len + g.wait.size : Nat)])) := fun W hW => lay_one base b lb g root p v W (hT.kept hW) (hL.kept hW) hl hw hn (hv.kept hW) hf hm hz h8
  obtain ⟨va, vb, vc, rfl, ⟨p1, k1, _, _, rfl, -⟩, ⟨p2, k2, _, _, rfl, -⟩, ⟨p3, k3, _, _, rfl, -⟩⟩ := hv
  generalize addG g p = g2 at *
  generalize g.len + g.wait.size = at_ at *
  have i0 : (0 : Int) < p.keys.length := by omega
  have G0 : Hid (w.grownBy (w.alloc (.cells #[.bool p.leaf, .slice p1 p.keys.length k1, .slice p2 p.vals.length k2, .slice p3 p.kids.length k3] 70)) none) := grown_alloc (grown_refl w none) _
  have X0 := hid (Blk.new w 70 #[.bool p.leaf, .slice p1 p.keys.length k1, .slice p2 p.vals.length k2, .slice p3 p.kids.length k3])
  have HT := hid (hT.kept G0.out)
  have HL := hid (hL.kept G0.out)
  have hb := Blk.lt hT
  have n1 : ¬ w.heap.size = b := by omega
  have n2 : ¬ b = w.heap.size := by omega
  clear hT hL hl hw hn hf hm hz h0 h8
  go_enter Tryz.func29, Tryz.ntmps29
  go_wp2_with fail
  refine wp_loop_rounds 2 ?_
  rw [rounds_succ]
  generalize hK : Code.rounds Tryz.prog _ _ 1 = K1
  have HK := hid hK
  clear hK
  go_wp2_with (first
    | (go_at_call 49; refine (C1.out _ G0.out).mono ?_; rintro e w2 ⟨vk, vi, rfl, ok, oi, l2, t2⟩; obtain ⟨pk, ck, rfl⟩ := Pa.owns_slice ok; have LI := hid l2; have TI := hid (TT.trans (TT.of_lt (b := b) (LT.of_none G0.out)) (TT.of_lt t2)); have X2 := hid (t2.blk X0.out (by decide) (HL.out.ne X0.out (by decide))); have H2 := hid (HT.out.lt HL.out t2); obtain ⟨gi, ci, cur, rfl, jb, hB, hx⟩ := int_row_one oi; have BI := hid hB; have XI := hid hx; have JB := hid jb; clear jb hB hx; clear ok oi l2 t2 C1)
    | (refine Pa.q_is_store 70 (.tmp 3) (.tmp 24) rfl ?_; refine Pa.store_pg 70 Pa.size25 w.heap.size X2.out _ _ rfl rfl rfl rfl ?_; intro w3 hb3 hg3; have X3 := hid hb3; have G3 := hid hg3; clear hb3 hg3))
  rw [← HK.out, rounds_succ]
  have H3 : Hid (IsTree w3 b lb root) := hid (Blk.kept H2.out G3.out (fun e => n2 (Option.some.inj e)))
  have I3 := hid (BI.out.kept G3.out (fun e => by have h1 := JB.out; rw [World.size_alloc] at h1; have := Option.some.inj e; omega))
  have L3 := hid (LI.out.keptB X2.out (by decide) G3.out)
  have t0 := H3.out.cell 0
  have t1 := H3.out.cell 1
  have z1 := H3.out.frozen 1
  have x0 := X3.out.cell 0
  have x1 := X3.out.cell 1
  have x3 := X3.out.cell 3
  simp at t0 t1 x0 x1 x3
  have y0 : w3.cell? ⟨gi, 0, none⟩ = some (.int .i64 at_) := (I3.out.cell 0).trans XI.out
  have n3 : ¬ gi = b := by have h1 := JB.out; rw [World.size_alloc] at h1; omega
  clear HK
  go_wp2_with fail
  go_ret
  have q := (H3.out.set 1 (.int .i64 (-1))).set 1 (.int .i64 at_)
  simp at q
  have gg : w3.grownBy ((w3.setCell ⟨b, 1, none⟩ (.int .i64 (-1))).setCell ⟨b, 1, none⟩ (.int .i64 at_)) (some b) := grown_set (grown_set (grown_refl _ _) 1 _) 1 _
  exact ⟨rfl, q, L3.out.keptB H3.out (by decide) gg, ((TI.out.of_new G3.out (Or.inl (Nat.le_refl _))).of_new gg (Or.inr rfl))⟩
end Go.Proofs.YtbhmmcelndmijaaGreat
namespace Go.Proofs.YtbhmmcelndmijaaGreat
open Go.RowKit Go.Maps
/-- What a change of a tree may turn: its log, and rows of its own pages. -/
structure XT (base lb bp : Nat) (w w' : World) : Prop where
  os : w'.os = w.os
  tape : w'.tape = w.tape
  output : w'.output = w.output
  size : w.heap.size ≤ w'.heap.size
  keep : ∀ i, i < w.heap.size → (i < base ∨ (i ≠ lb ∧ ∀ cs t fz, w.heap[i]? = some (.cells cs t fz) → t ≠ 111 ∧ t ≠ 5)) → (i < bp ∨ ∀ cs t fz, w.heap[i]? = some (.cells cs t fz) → t ≠ 9 ∧ t ≠ 3) → w'.heap[i]? = w.heap[i]?
theorem XT.of_lt {base lb bp : Nat} {w w' : World} (h : LT base lb w w') : XT base lb bp w w' := ⟨h.os, h.tape, h.output, h.size, fun i hi hs _ => h.keep i hi hs⟩
theorem XT.of_pt {base lb bp : Nat} {w w' : World} (h : PT bp w w') : XT base lb bp w w' := ⟨h.os, h.tape, h.output, h.size, fun i hi _ hs => h.keep i hi hs⟩
theorem XT.of_none {base lb bp : Nat} {w w' : World} (h : w.grownBy w' none) : XT base lb bp w w' := XT.of_lt (LT.of_none h)
theorem XT.refl (base lb bp : Nat) (w : World) : XT base lb bp w w := XT.of_none (grown_refl _ _)
theorem XT.trans {base lb bp : Nat} {w w' w'' : World} (h : XT base lb bp w w') (k : XT base lb bp w' w'') : XT base lb bp w w'' :=
  ⟨k.os.trans h.os, k.tape.trans h.tape, k.output.trans h.output, Nat.le_trans h.size k.size, fun i hi hs hp => by
    have e := h.keep i hi hs hp
    refine (k.keep i (Nat.lt_of_lt_of_le hi h.size) ?_ ?_).trans e
    · rcases hs with hs | ⟨h1, h2⟩
      · exact Or.inl hs
      · exact Or.inr ⟨h1, fun cs t fz q => h2 cs t fz (by rw [← e]; exact q)⟩
    · rcases hp with hp | hc
      · exact Or.inl hp
      · exact Or.inr (fun cs t fz hq => hc cs t fz (by rw [← e]; exact hq))⟩
theorem XT.mono {base lb bp bp' : Nat} {w w' : World} (h : XT base lb bp' w w') (hb : bp ≤ bp') : XT base lb bp w w' :=
  ⟨h.os, h.tape, h.output, h.size, fun i hi hs hp => h.keep i hi hs (by
    rcases hp with hp | hp
    · exact Or.inl (by omega)
    · exact Or.inr hp)⟩
/-- Rows that are new to us may be turned by another one. -/
theorem XT.after {base lb bp k : Nat} {w w' w'' : World} (h : XT base lb bp w w') (g : XT base lb k w' w'') (hk : w.heap.size ≤ k) : XT base lb bp w w'' :=
  ⟨g.os.trans h.os, g.tape.trans h.tape, g.output.trans h.output, Nat.le_trans h.size g.size, fun i hi hs hp => by
    have e := h.keep i hi hs hp
    refine (g.keep i (Nat.lt_of_lt_of_le hi h.size) ?_ (Or.inl (by omega))).trans e
    rcases hs with hs | ⟨h1, h2⟩
    · exact Or.inl hs
    · exact Or.inr ⟨h1, fun cs t fz q => h2 cs t fz (by rw [← e]; exact q)⟩⟩
theorem XT.through {base lb bp k : Nat} {w w' w'' : World} (h : XT base lb bp w w') (g : w'.grownBy w'' (some k)) (hk : w.heap.size ≤ k) : XT base lb bp w w'' :=
  ⟨g.os.trans h.os, g.tape.trans h.tape, g.output.trans h.output, Nat.le_trans h.size g.size, fun i hi hs hp => (g.block i (Nat.lt_of_lt_of_le hi h.size) (by simp; omega)).trans (h.keep i hi hs hp)⟩
theorem XT.blk {base lb bp g : Nat} {t : TypeId} {cs : Array Value} {w w' : World} (h : XT base lb bp w w') (hb : Blk w g t cs) (ht : t ≠ 111 ∧ t ≠ 5 ∧ t ≠ 9 ∧ t ≠ 3) (hn : g ≠ lb) : Blk w' g t cs := by
  have hh : w.heap[g]? = some (.cells cs t (0, 0)) := hb
  exact (h.keep g hb.lt (Or.inr ⟨hn, fun cs' t' fz e => by rw [hh] at e; cases e; exact ⟨ht.1, ht.2.1⟩⟩) (Or.inr (fun cs' t' fz e => by rw [hh] at e; cases e; exact ht.2.2))).trans hb
theorem XT.row {base lb bp bp0 n : Nat} {t : TypeId} {v : Value} {xs : List Value} {w w' : World} {G : Lg} (h : XT base lb bp w w') (hr : w.ownsRow bp0 t 1 v n xs) (hL : IsLog w base lb G) (ht : t ≠ 111 ∧ t ≠ 5 ∧ t ≠ 87) (hb : ∀ k, v.ownBlock = some k → k < bp) : w'.ownsRow bp0 t 1 v n xs := by
  rcases hr with ⟨h1, h2⟩
  refine ⟨h1, ?_⟩
  rcases h2 with h2 | ⟨g, cap, cur, rfl, hg, hB, hn, hc, hs, hx⟩
  · exact Or.inl h2
  · have hB' : Blk w g t cur := hB
    refine Or.inr ⟨g, cap, cur, rfl, hg, ?_, hn, hc, hs, hx⟩
    exact (h.keep g hB'.lt (Or.inr ⟨hL.ne hB' ht.2.2, fun cs' t' fz e => by rw [hB] at e; cases e; exact ⟨ht.1, ht.2.1⟩⟩) (Or.inl (hb g rfl))).trans hB
theorem LT.row {base lb bp0 n : Nat} {t : TypeId} {v : Value} {xs : List Value} {w w' : World} {G : Lg} (h : LT base lb w w') (hr : w.ownsRow bp0 t 1 v n xs) (hL : IsLog w base lb G) (ht : t ≠ 111 ∧ t ≠ 5 ∧ t ≠ 87) : w'.ownsRow bp0 t 1 v n xs :=
  XT.row (bp := w.heap.size) (XT.of_lt h) hr hL ht (fun k hk => (World.ownsRow.lt hr k hk).2)
/-- What is no row of this type stays. -/
theorem blk_own {w w' : World} {b bp n : Nat} {t t' : TypeId} {cs : Array Value} {v : Value} {xs : List Value} (hb : Blk w b t cs) (hr : w.ownsRow bp t' 1 v n xs) (ht : t ≠ t') (hg : w.grownBy w' v.ownBlock) : Blk w' b t cs :=
  hb.kept hg (fun e => by
    rcases hr.2 with ⟨rfl, _⟩ | ⟨g, cap, cur, rfl, _, hB, _⟩
    · cases e
    · have e' : b = g := Option.some.inj e
      subst e'
      have h1 : w.heap[b]? = some (.cells cs t (0, 0)) := hb
      rw [hB] at h1
      cases h1
      exact ht rfl)
theorem log_own {w w' : World} {base lb bp n : Nat} {G : Lg} {t' : TypeId} {v : Value} {xs : List Value} (h : IsLog w base lb G) (hr : w.ownsRow bp t' 1 v n xs) (ht : t' ≠ 87 ∧ t' ≠ 111 ∧ t' ≠ 5) (hg : w.grownBy w' v.ownBlock) : IsLog w' base lb G := by
  cases hq : v.ownBlock with
  | none => rw [hq] at hg; exact h.kept hg
  | some k =>
    rw [hq] at hg
    rcases hr.2 with ⟨rfl, _⟩ | ⟨g, cap, cur, rfl, _, hB, _⟩
    · cases hq
    · have e' : g = k := Option.some.inj hq
      subst e'
      exact h.keptB (show Blk w g t' cur from hB) ht hg
/-- A page with others in the place of its kids from i to j. -/
def swapP (p : Pa.Pg) (i j : Nat) (ks : List ByteArray) (is : List Int) : Pa.Pg := ⟨p.leaf, p.keys.take i ++ ks ++ p.keys.drop j, p.vals, p.kids.take i ++ is ++ p.kids.drop (j + 1)⟩
theorem strs_cut (l ks : List ByteArray) (i j : Nat) : (Pa.strs l).take i ++ Pa.strs ks ++ (Pa.strs l).drop j = Pa.strs (l.take i ++ ks ++ l.drop j) := by
  unfold Pa.strs
  rw [List.map_append, List.map_append, List.map_take, List.map_drop]
theorem ints_cut (l ks : List Int) (i j : Nat) : (Pa.ints l).take i ++ Pa.ints ks ++ (Pa.ints l).drop j = Pa.ints (l.take i ++ ks ++ l.drop j) := by
  unfold Pa.ints
  rw [List.map_append, List.map_append, List.map_take, List.map_drop]
/-- Replace at a page's keys. -/
theorem rep_keys (bp b2 i j : Nat) (v u : Value) (l ks : List ByteArray) (w : World) (h : w.ownsRow bp 9 1 v l.length (Pa.strs l)) (hu : w.ownsRow b2 9 1 u ks.length (Pa.strs ks)) (hf : Pa.Far v u) (hij : i = j ∨ (i < j ∧ i + ks.length ≤ j)) (hj : j ≤ l.length) (hl : l.length ≤ 1000000) (hly : ks.length ≤ 1000000) (hb : bp ≤ w.heap.size) :
    Calls Tryz.prog 67 #[v, .int .i64 i, .int .i64 j, u] w (Sl.InsPost 9 bp v (Pa.strs (l.take i ++ ks ++ l.drop j)) w) := by
  rw [← strs_cut]
  have h' : w.ownsRow bp 9 1 v (Pa.strs l).length (Pa.strs l) := by rw [strs_len]; exact h
  have hu' : w.ownsRow b2 9 1 u (Pa.strs ks).length (Pa.strs ks) := by rw [strs_len]; exact hu
  rcases hij with rfl | ⟨h1, h2⟩
  · exact Sl.rep_strs_none bp b2 i v u _ _ w h' (Sl.str_one l) hu' (Sl.str_one ks) hf (by rw [strs_len]; exact hj) (by rw [strs_len]; exact hl) (by rw [strs_len]; exact hly) hb
  · exact Sl.rep_strs bp b2 i j v u _ _ w h' (Sl.str_one l) hu' (Sl.str_one ks) hf h1 (by rw [strs_len]; exact hj) (by rw [strs_len]; exact hl) (by rw [strs_len]; exact h2)
theorem rep_kids (bp b2 i j : Nat) (v u : Value) (l ks : List Int) (w : World) (h : w.ownsRow bp 3 1 v l.length (Pa.ints l)) (hu : w.ownsRow b2 3 1 u ks.length (Pa.ints ks)) (hf : Pa.Far v u) (hij : i < j) (hj : j ≤ l.length) (hl : l.length ≤ 1000000) (hly : ks.length ≤ 1000000) (hb : bp ≤ w.heap.size) :
    Calls Tryz.prog 68 #[v, .int .i64 i, .int .i64 j, u] w (Sl.InsPost 3 bp v (Pa.ints (l.take i ++ ks ++ l.drop j)) w) := by
  rw [← ints_cut]
  exact Sl.rep_ints bp b2 i j v u _ _ w (by rw [ints_len]; exact h) (Sl.int_one l) (by rw [ints_len]; exact hu) (Sl.int_one ks) hf hij (by rw [ints_len]; exact hj) (by rw [ints_len]; exact hl) (by rw [ints_len]; exact hly) hb
def SwPost (w : World) (base lb bp : Nat) (g : Lg) (p : Pa.Pg) (e : Ending) (w' : World) : Prop := ∃ v, e = .returned (.tuple #[v, .int .i64 0]) ∧ Pa.PgO w' bp v p ∧ IsLog w' base lb g ∧ XT base lb bp w w'
set_option maxRecDepth 100000 in
set_option maxHeartbeats 4000000 in
theorem swap_any (base bp b lb i j : Nat) (g g2 : Lg) (p q : Pa.Pg) (v kv : Value) (ks : List ByteArray) (is : List Int) (w : World) (hL : IsLog w base lb g) (hv : Pa.PgO w bp v p) (hkv : PgT w kv q)
    (hC : ∀ W, w.grownBy W none → Calls Tryz.prog 49 #[.pointer (some ⟨b, 0, none⟩), kv] W (LayPost W base lb g2 ks is))
    (hij : i = j ∨ (i < j ∧ i + ks.length ≤ j)) (hj : j ≤ p.keys.length) (hkk : p.kids.length = p.keys.length + 1) (hn : p.keys.length ≤ 1000) (hks : ks.length ≤ 1000) (his : is.length ≤ 1000) (hb : bp ≤ w.heap.size) :
    Calls Tryz.prog 48 #[.pointer (some ⟨b, 0, none⟩), v, .int .i64 i, .int .i64 j, kv] w (SwPost w base lb bp g2 (swapP p i j ks is)) := by
  obtain ⟨va, vb, vc, rfl, hf, o1, o2, o3⟩ := hv
  obtain ⟨p1, k1, rfl⟩ := Pa.owns_slice o1
  obtain ⟨p2, k2, rfl⟩ := Pa.owns_slice o2
  obtain ⟨p3, k3, rfl⟩ := Pa.owns_slice o3
  obtain ⟨ua, ub, uc, rfl, ⟨r1, m1, _, _, rfl, -⟩, ⟨r2, m2, _, _, rfl, -⟩, ⟨r3, m3, _, _, rfl, -⟩⟩ := hkv
  have G0 : Hid (w.grownBy (((w.alloc (.cells #[.bool p.leaf, .slice p1 p.keys.length k1, .slice p2 p.vals.length k2, .slice p3 p.kids.length k3] 70)).alloc (.cells #[.bool q.leaf, .slice r1 q.keys.length m1, .slice r2 q.vals.length m2, .slice r3 q.kids.length m3] 70)).alloc (.cells #[.bool false, .slice none 0 0, .slice none 0 0, .slice none 0 0] 70)) none) := grown_alloc (grown_alloc (grown_alloc (grown_refl w none) _) _) _
  have X0 : Hid (Blk (((w.alloc (.cells #[.bool p.leaf, .slice p1 p.keys.length k1, .slice p2 p.vals.length k2, .slice p3 p.kids.length k3] 70)).alloc (.cells #[.bool q.leaf, .slice r1 q.keys.length m1, .slice r2 q.vals.length m2, .slice r3 q.kids.length m3] 70)).alloc (.cells #[.bool false, .slice none 0 0, .slice none 0 0, .slice none 0 0] 70)) w.heap.size 70 #[.bool p.leaf, .slice p1 p.keys.length k1, .slice p2 p.vals.length k2, .slice p3 p.kids.length k3]) := ((Blk.new w 70 _).alloc _).alloc _
  have Z0 : Hid (Blk (((w.alloc (.cells #[.bool p.leaf, .slice p1 p.keys.length k1, .slice p2 p.vals.length k2, .slice p3 p.kids.length k3] 70)).alloc (.cells #[.bool q.leaf, .slice r1 q.keys.length m1, .slice r2 q.vals.length m2, .slice r3 q.kids.length m3] 70)).alloc (.cells #[.bool false, .slice none 0 0, .slice none 0 0, .slice none 0 0] 70)) (w.heap.size + 1 + 1) 70 #[.bool false, .slice none 0 0, .slice none 0 0, .slice none 0 0]) := third w _ _ 70 _
  have C1 := hid (hC _ G0.out)
  have HL := hid (hL.kept G0.out)
  have O1 := hid (Pa.owns_keptN o1 G0.out)
  have O2 := hid (Pa.owns_keptN o2 G0.out)
  have O3 := hid (Pa.owns_keptN o3 G0.out)
  have HF := hid hf
  have HB := hid hb
  have HJ := hid (And.intro hij hj)
  have HN := hid (And.intro hkk (And.intro hn (And.intro hks his)))
  obtain ⟨P0, hP0⟩ : ∃ P, P = SwPost w base lb bp g2 (swapP p i j ks is) := ⟨_, rfl⟩
  rw [← hP0]
  have HP := hid (And.intro hP0 trivial)
  have hw3 : (((w.alloc (.cells #[.bool p.leaf, .slice p1 p.keys.length k1, .slice p2 p.vals.length k2, .slice p3 p.kids.length k3] 70)).alloc (.cells #[.bool q.leaf, .slice r1 q.keys.length m1, .slice r2 q.vals.length m2, .slice r3 q.kids.length m3] 70)).alloc (.cells #[.bool false, .slice none 0 0, .slice none 0 0, .slice none 0 0] 70)).heap.size = w.heap.size + 1 + 1 + 1 := by rw [World.size_alloc, World.size_alloc, World.size_alloc]
  have HW3 := hid (And.intro hw3 trivial)
  have wj : IntKind.i64.wrap ((j : Int) + 1) = ((j + 1 : Nat) : Int) := by rw [IntKind.wrap_i64]; omega
  obtain ⟨K4, hK4⟩ : ∃ K4, K4 = p.keys.take i ++ ks ++ p.keys.drop j := ⟨_, rfl⟩
  obtain ⟨I4, hI4⟩ : ∃ I4, I4 = p.kids.take i ++ is ++ p.kids.drop (j + 1) := ⟨_, rfl⟩
  have HK4 := hid (And.intro hK4 hI4)
  have CK : Hid (∀ W b2 u, W.ownsRow bp 9 1 (.slice p1 p.keys.length k1) p.keys.length (Pa.strs p.keys) → W.ownsRow b2 9 1 u ks.length (Pa.strs ks) → Pa.Far (.slice p1 p.keys.length k1) u → bp ≤ W.heap.size → Calls Tryz.prog 67 #[.slice p1 p.keys.length k1, .int .i64 i, .int .i64 j, u] W fun e w' => ∃ p4 c4, e = .returned (.slice p4 K4.length c4) ∧ w'.ownsRow bp 9 1 (.slice p4 K4.length c4) K4.length (Pa.strs K4) ∧ W.grownBy w' (Value.slice p1 p.keys.length k1).ownBlock ∧ ((Value.slice p4 K4.length c4).ownBlock = (Value.slice p1 p.keys.length k1).ownBlock ∨ (Value.slice p4 K4.length c4).ownBlock = some W.heap.size)) := fun W b2 u h1 h2 h3 h4 => by
    rw [hK4]
    refine (rep_keys bp b2 i j _ u p.keys ks W h1 h2 h3 hij hj (by omega) (by omega) h4).mono ?_
    rintro e w' ⟨v', rfl, h5, h6, h7⟩
    rw [strs_len] at h5
    obtain ⟨p4, c4, rfl⟩ := Pa.owns_slice h5
    exact ⟨p4, c4, rfl, h5, h6, h7⟩
  have CI : Hid (∀ W b2 u, W.ownsRow bp 3 1 (.slice p3 p.kids.length k3) p.kids.length (Pa.ints p.kids) → W.ownsRow b2 3 1 u is.length (Pa.ints is) → Pa.Far (.slice p3 p.kids.length k3) u → bp ≤ W.heap.size → Calls Tryz.prog 68 #[.slice p3 p.kids.length k3, .int .i64 i, .int .i64 ((j : Int) + 1), u] W fun e w' => ∃ p4 c4, e = .returned (.slice p4 I4.length c4) ∧ w'.ownsRow bp 3 1 (.slice p4 I4.length c4) I4.length (Pa.ints I4) ∧ W.grownBy w' (Value.slice p3 p.kids.length k3).ownBlock) := fun W b2 u h1 h2 h3 h4 => by
    rw [hI4]
    refine (rep_kids bp b2 i (j + 1) _ u p.kids is W h1 h2 h3 (by omega) (by omega) (by omega) (by omega) h4).mono ?_
    rintro e w' ⟨v', rfl, h5, h6, h7⟩
    rw [ints_len] at h5
    obtain ⟨p4, c4, rfl⟩ := Pa.owns_slice h5
    exact ⟨p4, c4, rfl, h5, h6⟩
  clear hK4 hI4
  clear hP0 hC hL o1 o2 o3 hf hb hij hj hkk hn hks his hw3
  go_enter Tryz.func48, Tryz.ntmps48
  go_wp2_with (first
    | (go_at_call 49; refine C1.out.mono ?_; rintro e w2 ⟨vk, vi, rfl, ok, oi, l2, t2⟩; have OK := hid ok; have OI := hid oi; have L2 := hid l2; have T2 := hid t2; have X2 := hid (t2.blk X0.out (by decide) (HL.out.ne X0.out (by decide))); have Z2 := hid (t2.blk Z0.out (by decide) (HL.out.ne Z0.out (by decide))); have A2 := hid (t2.row O1.out HL.out (by decide)); have B2 := hid (t2.row O2.out HL.out (by decide)); have D2 := hid (t2.row O3.out HL.out (by decide)); have S2 : Hid (bp ≤ w2.heap.size) := (by have h1 := HB.out; have h2 := t2.size; have h3 := HW3.out.1; show _ ≤ _; omega); obtain ⟨pk, ck, rfl⟩ := Pa.owns_slice ok; obtain ⟨pi, ci, rfl⟩ := Pa.owns_slice oi; have x1 := X2.out.cell 1; have f1 := X2.out.frozen 1; simp at x1; clear ok oi l2 t2 C1)
    | (go_at_call 67; refine (CK.out w2 _ _ A2.out OK.out (Pa.far_of O1.out OK.out (Nat.le_refl _)) S2.out).mono ?_; rintro e w4 ⟨p4, c4, rfl, o4, g4, x4⟩; have O4 := hid o4; have G4 := hid g4; have XX4 := hid x4; have X4 := hid (blk_own X2.out A2.out (by decide) g4); have Z4 := hid (blk_own Z2.out A2.out (by decide) g4); have D4 := hid (row_type D2.out A2.out (by decide) g4); have I4' := hid (row_type OI.out A2.out (by decide) g4); have B4 := hid (row_far B2.out (far_symm HF.out) g4); have L4 := hid (log_own L2.out A2.out (by decide) g4); have S4 : Hid (bp ≤ w4.heap.size) := (Nat.le_trans S2.out g4.size); clear x1 f1; have x1 := X4.out.cell 1; have f1 := X4.out.frozen 1; have x3 := X4.out.cell 3; simp at x1 x3; clear o4 g4 x4 CK)
    | (go_at_call 68; have G5 : Hid (w4.grownBy (w4.setCell ⟨w.heap.size, 1, none⟩ (.slice p4 K4.length c4)) (some w.heap.size)) := (grown_set (grown_refl _ _) 1 _); refine (CI.out (w4.setCell ⟨w.heap.size, 1, none⟩ (.slice p4 K4.length c4)) _ _ (rowG_kept D4.out X4.out (by decide) G5.out) (rowG_kept I4'.out X4.out (by decide) G5.out) (Pa.far_of O3.out OI.out (Nat.le_refl _)) (Nat.le_trans S4.out G5.out.size)).mono ?_; rintro e w6 ⟨p6, c6, rfl, o6, g6⟩; have D5 := hid (rowG_kept D4.out X4.out (by decide) G5.out); have X5 := X4.out.set 1 (.slice p4 K4.length c4); have X6' := blk_own X5 D5.out (by decide) g6; simp at X6'; have X6 := hid X6'; have Z6 := hid (blk_own (Z4.out.kept G5.out (fun e => by have := Option.some.inj e; omega)) D5.out (by decide) g6); have O6 := hid o6; have G6 := hid g6; clear x1 f1 x3; have y0 := X6.out.cell 0; have y1 := X6.out.cell 1; have y2 := X6.out.cell 2; have y3 := X6.out.cell 3; have h3 := X6.out.frozen 3; have z0 := Z6.out.cell 0; have z1 := Z6.out.cell 1; have z2 := Z6.out.cell 2; have z3 := Z6.out.cell 3; have q0 := Z6.out.frozen 0; have q1 := Z6.out.frozen 1; have q2 := Z6.out.frozen 2; have q3 := Z6.out.frozen 3; simp at y0 y1 y2 y3 z0 z1 z2 z3; clear o6 g6 CI X5 X6'))
  have G7 := grown_set (grown_refl w6 (some w.heap.size)) 3 (.slice p6 I4.length c6)
  have X6b := X6.out
  have Z7 := Z6.out.kept G7 (fun e => by have := Option.some.inj e; omega)
  have L5 := L4.out.keptB X4.out (by decide) G5.out
  have L6 := log_own L5 D5.out (by decide) G6.out
  have L7 := L6.keptB X6b (by decide) G7
  have R6 : ∀ (t : TypeId) (v : Value) (n : Nat) (xs : List Value), t = 9 ∨ t = 3 → w6.ownsRow bp t 1 v n xs → (w6.setCell ⟨w.heap.size, 3, none⟩ (.slice p6 I4.length c6)).ownsRow bp t 1 v n xs := fun t v n xs ht h => rowG_kept h X6b (by rcases ht with rfl | rfl <;> decide) G7
  have K6 := row_type (rowG_kept O4.out X4.out (by decide) G5.out) D5.out (by decide) G6.out
  have V6 := row_type (rowG_kept B4.out X4.out (by decide) G5.out) D5.out (by decide) G6.out
  have XT6 := (((XT.of_none (base := base) (lb := lb) (bp := bp) G0.out).trans (XT.of_lt T2.out)).trans (XT.of_pt (PT.of_own A2.out (Or.inl rfl) G4.out))).through G5.out (Nat.le_refl _)
  have XT7 := (XT6.trans (XT.of_pt (PT.of_own D5.out (Or.inr rfl) G6.out))).through G7 (Nat.le_refl _)
  have FF : Pa.Far (.slice p4 K4.length c4) (.slice p2 p.vals.length k2) := far_grown HF.out XX4.out (fun y hy => (World.ownsRow.lt B2.out y hy).2)
  have K7 := R6 _ _ _ _ (Or.inl rfl) K6
  have V7 := R6 _ _ _ _ (Or.inl rfl) V6
  have I7 := R6 _ _ _ _ (Or.inr rfl) O6.out
  clear R6 K6 V6 L6 L5
  generalize w6.setCell ⟨w.heap.size, 3, none⟩ (.slice p6 I4.length c6) = W7 at *
  have BF := blk_store4 (.bool p.leaf) (.slice p4 K4.length c4) (.slice p2 p.vals.length k2) (.slice p6 I4.length c6) Z7
  have GF := grown_set (grown_set (grown_set (grown_set (grown_refl W7 (some (w.heap.size + 1 + 1))) 0 (.bool p.leaf)) 1 (.slice p4 K4.length c4)) 2 (.slice p2 p.vals.length k2)) 3 (.slice p6 I4.length c6)
  refine bodyPost_ret (Pa.results_pg2 Tryz.results48 _ _ (w.heap.size + 1 + 1) rfl BF) rfl ?_
  rw [HP.out.1]
  have e : swapP p i j ks is = ⟨p.leaf, K4, p.vals, I4⟩ := by unfold swapP; rw [← HK4.out.1, ← HK4.out.2]
  rw [e]
  exact ⟨_, rfl, ⟨_, _, _, rfl, FF, rowG_kept K7 Z7 (by decide) GF, rowG_kept V7 Z7 (by decide) GF, rowG_kept I7 Z7 (by decide) GF⟩, L7.keptB Z7 (by decide) GF, XT7.through GF (by omega)⟩
end Go.Proofs.YtbhmmcelndmijaaGreat
