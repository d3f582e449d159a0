/-
  A tree in memory: the page at a place is read, where the log has it and its keys may stand there. take: a frame that is not right; a record; a marker.
-/
import Derived.Test.YtbhmmcelndmijaaGreatKFs
import Derived.Test.YtbhmmcelndmijaaGreatLsrch
import Derived.Test.YtbhmmcelndmijaaGreatKLg
import Derived.Deep.RegionLaw
namespace Go.Proofs.YtbhmmcelndmijaaGreat
open Go.RowKit Go.Maps
/-- A tree of a log. -/
def IsTree (w : World) (b lb : Nat) (root : Int) : Prop := Blk w b 68 #[.pointer (some ⟨lb, 0, none⟩), .int .i64 root]
theorem IsTree.kept {w w' : World} {b lb : Nat} {root : Int} (h : IsTree w b lb root) (hg : w.grownBy w' none) : IsTree w' b lb root := Blk.kept h hg (by simp)
/-- What a log has at a place. -/
structure PageAt (l : List (Nat × ByteArray)) (a : Int) (p : Pa.Pg) : Prop where
  at_ : ∃ s, atR l a = some s ∧ s.size ≤ 2000000 ∧ Pa.decE s = 0 ∧ Pa.decP s = p
  few : p.keys.length ≤ 1000000
set_option maxRecDepth 100000 in
set_option maxHeartbeats 1000000 in
theorem read_page (base b lb : Nat) (g : Lg) (root a : Int) (lo hi : ByteArray) (p : Pa.Pg) (w : World) (hT : IsTree w b lb root) (hL : IsLog w base lb g) (hs : Asc g.recs) (hl : g.recs.length ≤ 1000000) (hP : PageAt g.recs a p) (hH : Holds lo hi p) :
    Calls Tryz.prog 42 #[.pointer (some ⟨b, 0, none⟩), .int .i64 a, .agg #[.string lo, .string hi]] w (Pa.DecPost w p 0) := by
  obtain ⟨⟨s, h1, h2, h3, h4⟩, h5⟩ := hP
  have e1 : readT g.recs a = s := by unfold readT; rw [h1]; rfl
  have e2 : readC g.recs a = 0 := by unfold readC; rw [h1]; rfl
  have R1 : Hid (∀ W, w.grownBy W none → Calls Tryz.prog 32 #[.pointer (some ⟨lb, 0, none⟩), .int .i64 a] W fun e w' => e = .returned (.tuple #[.string s, .int .i64 0]) ∧ W.grownBy w' none) := fun W hW => by
    have C1 := lread_any base lb g a W (hL.kept hW) hs hl
    rw [e1, e2] at C1
    exact C1
  have C2 : Hid (∀ W, Calls Tryz.prog 33 #[.string s] W (Pa.DecPost W p 0)) := fun W => by
    have := Pa.decode_any s W (by omega)
    rw [h3, h4] at this
    exact this
  have C3 : Hid (∀ W v, Pa.PgV W v p → Calls Tryz.prog 64 #[.agg #[.string lo, .string hi], v] W fun e w' => e = .returned (.bool true) ∧ W.grownBy w' none) := fun W v hv => holds_any lo hi p v W hv h5 hH
  have G0 : Hid (w.grownBy ((w.alloc (.cells #[.string lo, .string hi] 76)).alloc (.cells #[.bool false, .slice none 0 0, .slice none 0 0, .slice none 0 0] 70)) none) := grown_alloc (grown_alloc (grown_refl w none) _) _
  have hT2 := hT.kept G0.out
  have c0 := Blk.cell hT2 0
  simp at c0
  have BR : Hid (Blk ((w.alloc (.cells #[.string lo, .string hi] 76)).alloc (.cells #[.bool false, .slice none 0 0, .slice none 0 0, .slice none 0 0] 70)) (w.heap.size + 1) 70 #[.bool false, .slice none 0 0, .slice none 0 0, .slice none 0 0]) := (by
    have := Blk.new (w.alloc (.cells #[.string lo, .string hi] 76)) 70 #[.bool false, .slice none 0 0, .slice none 0 0, .slice none 0 0]
    rw [World.size_alloc] at this
    exact this)
  have BS : Hid (Blk ((w.alloc (.cells #[.string lo, .string hi] 76)).alloc (.cells #[.bool false, .slice none 0 0, .slice none 0 0, .slice none 0 0] 70)) w.heap.size 76 #[.string lo, .string hi]) := (Blk.new w 76 _).alloc _
  obtain ⟨P, hP⟩ : ∃ P, P = Pa.DecPost w p 0 := ⟨_, rfl⟩
  rw [← hP]
  have HP := hid (And.intro hP trivial)
  clear hP hT2 e1 e2 h1 h2 h3 h4 h5 hH hT hL hs hl
  go_enter Tryz.func42, Tryz.ntmps42
  go_wp2_with (first
    | (go_at_call 32; refine (R1.out _ G0.out).mono ?_; rintro e w1 ⟨rfl, g1⟩; have G1 := hid (grown_none G0.out g1); have S1Z : Hid (w.heap.size + 1 < w1.heap.size) := (BR.out.kept g1 (by simp)).lt; have S1 := hid (BS.out.kept g1 (by simp)); have Q1 := hid (BR.out.kept g1 (by simp)); clear g1 R1)
    | (go_at_call 33; refine (C2.out _).mono ?_; rintro e w2 ⟨v, rfl, o2, g2⟩; have O2 := hid o2; have G2 := hid (grown_none G1.out g2); have S2 := hid (S1.out.kept g2 (by simp)); have Q2 := hid (Q1.out.kept g2 (by simp)); obtain ⟨va, vb, vc, rfl, _, r1, r2, r3⟩ := O2.out; obtain ⟨p1, k1, rfl⟩ := Pa.owns_slice r1; obtain ⟨p2, k2, rfl⟩ := Pa.owns_slice r2; obtain ⟨p3, k3, rfl⟩ := Pa.owns_slice r3; have V2 := hid (O2.out.pgV.kept (grown_alloc (grown_refl w2 none) (.cells #[.bool p.leaf, .slice p1 p.keys.length k1, .slice p2 p.vals.length k2, .slice p3 p.kids.length k3] 70))); have x0 := (S2.out.alloc (.cells #[.bool p.leaf, .slice p1 p.keys.length k1, .slice p2 p.vals.length k2, .slice p3 p.kids.length k3] 70)).cell 0; have x1 := (S2.out.alloc (.cells #[.bool p.leaf, .slice p1 p.keys.length k1, .slice p2 p.vals.length k2, .slice p3 p.kids.length k3] 70)).cell 1; simp at x0 x1; clear g2 o2 C2 r1 r2 r3)
    | (go_at_call 64; refine (C3.out _ _ V2.out).mono ?_; rintro e w4 ⟨rfl, g4⟩; have G4 := hid (grown_none (grown_alloc G2.out _) g4); have G24 : Hid (w2.grownBy w4 none) := (grown_none (grown_alloc (grown_refl w2 none) _) g4); have Q4 := hid ((Q2.out.alloc _).kept g4 (by simp)); have P4 := hid ((Blk.new w2 70 _).kept g4 (by simp)); have y0 := P4.out.cell 0; have y1 := P4.out.cell 1; have y2 := P4.out.cell 2; have y3 := P4.out.cell 3; have z0 := Q4.out.cell 0; have z1 := Q4.out.cell 1; have z2 := Q4.out.cell 2; have z3 := Q4.out.cell 3; have f0 := Q4.out.frozen 0; have f1 := Q4.out.frozen 1; have f2 := Q4.out.frozen 2; have f3 := Q4.out.frozen 3; simp at y0 y1 y2 y3 z0 z1 z2 z3; clear g4 C3))
  have hz1 : w.heap.size + 1 < w1.heap.size := S1Z.out
  have H5 := grown_set (grown_set (grown_set (grown_set (grown_refl w4 (some (w.heap.size + 1))) 0 (.bool p.leaf)) 1 (.slice p1 p.keys.length k1)) 2 (.slice p2 p.vals.length k2)) 3 (.slice p3 p.kids.length k3)
  have B5 := (((Q4.out.set 0 (.bool p.leaf)).set 1 (.slice p1 p.keys.length k1)).set 2 (.slice p2 p.vals.length k2)).set 3 (.slice p3 p.kids.length k3)
  obtain ⟨a1, a2, a3, e, rf, r1, r2, r3⟩ := O2.out
  injection e with e
  have e' := congrArg Array.toList e
  simp at e'
  obtain ⟨rfl, rfl, rfl⟩ := e'
  have K1 := fun (tt : TypeId) (v : Value) (n : Nat) (xs : List Value) (h : w2.ownsRow w1.heap.size tt 1 v n xs) => Pa.owns_le (Pa.owns_kept (Pa.owns_keptN h G24.out) H5 hz1) (base' := w.heap.size) (by omega)
  refine bodyPost_ret (Pa.results_pg2 Tryz.results42 _ _ (w.heap.size + 1) rfl B5) rfl ?_
  rw [HP.out.1]
  exact ⟨_, rfl, ⟨_, _, _, rfl, rf, K1 _ _ _ _ r1, K1 _ _ _ _ r2, K1 _ _ _ _ r3⟩, grown_through G4.out H5 (Nat.le_succ _)⟩
end Go.Proofs.YtbhmmcelndmijaaGreat
namespace Go.Proofs.YtbhmmcelndmijaaGreat
open Go.RowKit Go.Maps
theorem head_of (c : UInt8) (r : ByteArray) : (⟨#[c]⟩ ++ r : ByteArray).extract 0 1 = ⟨#[c]⟩ := by
  apply bytes_ext
  rw [ByteArray.data_extract, ByteArray.data_append, Array.toList_extract, Array.toList_append]
  simp
theorem tail_of (c : UInt8) (r : ByteArray) : (⟨#[c]⟩ ++ r : ByteArray).extract 1 (r.size + 1) = r := by
  apply bytes_ext
  rw [ByteArray.data_extract, ByteArray.data_append, Array.toList_extract, Array.toList_append]
  simp
  exact List.take_of_length_le (by rw [Array.length_toList]; exact Nat.le_refl _)
/-- What Unframe answers at a place. -/
def Un (s : ByteArray) (p : Nat) (V : ByteArray) (x y : Nat) : Prop := ∀ W, Calls Tryz.prog 87 #[.string s, .int .i64 p] W fun e w' => e = .returned (.tuple #[.string V, .int .i64 x, .int .i64 y]) ∧ W.grownBy w' none
set_option maxRecDepth 100000 in
set_option maxHeartbeats 1000000 in
theorem take_bad (q : Value) (s V : ByteArray) (p x y : Nat) (w : World) (hU : Un s p V x y) (hy : y ≠ 0) :
    Calls Tryz.prog 61 #[q, .string s, .int .i64 p] w fun e w' => e = .returned (.tuple #[.int .i64 0, .bool false]) ∧ w.grownBy w' none := by
  have CU : Hid (∀ W, Calls Tryz.prog 87 #[.string s, .int .i64 p] W fun e w' => e = .returned (.tuple #[.string V, .int .i64 x, .int .i64 y]) ∧ W.grownBy w' none) := hU
  have h1 : ((y : Int) == 0) = false := by simp; exact hy
  have h2 : ((y : Int) != 0) = true := by simp; exact hy
  clear hU hy
  go_enter Tryz.func61, Tryz.ntmps61
  go_wp2_with (go_at_call 87; refine (CU.out _).mono ?_; clear CU; rintro e w1 ⟨rfl, hg⟩; have G1 : Hid (w.grownBy w1 none) := hg; clear hg)
  go_ret2
  exact ⟨rfl, G1.out⟩
set_option maxRecDepth 100000 in
set_option maxHeartbeats 1000000 in
theorem take_mark (base b : Nat) (g : Lg) (s r : ByteArray) (p x : Nat) (w : World) (h : IsLog w base b g) (hl : g.recs.length ≤ 1000000) (hU : Un s p (⟨#[109]⟩ ++ r) x 0) (hr : r.size ≤ 1000000) :
    Calls Tryz.prog 61 #[.pointer (some ⟨b, 0, none⟩), .string s, .int .i64 p] w fun e w' => e = .returned (.tuple #[.int .i64 x, .bool true]) ∧ IsLog w' base b { g with com := g.recs.length, len := x, wait := ⟨#[]⟩, root := r, marked := true } ∧ LT base b w w' := by
  have CU : Hid (∀ W, Calls Tryz.prog 87 #[.string s, .int .i64 p] W fun e w' => e = .returned (.tuple #[.string (⟨#[109]⟩ ++ r), .int .i64 x, .int .i64 0]) ∧ W.grownBy w' none) := hU
  have CM : Hid (∀ W, w.grownBy W none → Calls Tryz.prog 88 #[.pointer (some ⟨b, 0, none⟩), .int .i64 x, .string r] W fun e w' => e = .returned (.tuple #[]) ∧ IsLog w' base b { g with com := g.recs.length, len := x, wait := ⟨#[]⟩, root := r, marked := true } ∧ W.grownBy w' (some b)) := fun W hW => mark_any base b g x r W (h.kept hW) hl
  have hb0 : Hid (base ≤ b) := h.1
  have e1 : (⟨#[109]⟩ ++ r : ByteArray).extract 0 1 = ⟨#[109]⟩ := head_of 109 r
  have e2 : (⟨#[109]⟩ ++ r : ByteArray).extract 1 (r.size + 1) = r := tail_of 109 r
  have e3 : (⟨#[109]⟩ ++ r : ByteArray).size = r.size + 1 := by rw [ByteArray.size_append]; show 1 + _ = _; omega
  have t0 : (⟨#[109]⟩ ++ r : ByteArray).toList = 109 :: r.data.toList := by rw [ByteArray.toList_eq]; simp
  generalize hV : (⟨#[109]⟩ ++ r : ByteArray) = V at *
  have i1 : (V.size : Int) = (r.size : Int) + 1 := by omega
  have i2 : (r.size : Int) ≤ 1000000 := by omega
  have t1 : (V.toList == []) = false := by rw [t0]; rfl
  generalize ({ g with com := g.recs.length, len := x, wait := ⟨#[]⟩, root := r, marked := true } : Lg) = g2 at *
  clear hU h hl hV hr
  go_enter Tryz.func61, Tryz.ntmps61
  go_wp2_with (first
    | (go_at_call 87; refine (CU.out _).mono ?_; clear CU; rintro e w1 ⟨rfl, hg⟩; have G1 : Hid (w.grownBy w1 none) := hg; clear hg)
    | (go_at_call 88; refine (CM.out _ G1.out).mono ?_; rintro e w2 ⟨rfl, hd, hg⟩; have R2 := hid hd; have T2 := hid (LT.trans (LT.of_none G1.out) (LT.of_self hg hb0.out)); clear hd hg))
  go_ret2
  exact ⟨rfl, R2.out, T2.out⟩
theorem info84 : (Tryz.prog.info? 111).map (fun i => (i.zero, i.size, i.bytes)) = some (some (.agg #[.int .i64 0, .string ⟨#[]⟩]), 2, 24) := by kernel_rfl
/-- append of a record, as a step of a region that draws. -/
theorem step_rec {ops : Array Oper} {o : Oper} {a : Act} {w : World} {K : Act → World → Prop} {Q : Exit → Act → World → Prop} {E : Prop} (s x : Operand) (hg : o.guard = none) (ho : o.op = Op.call { callee := Callee.builtin Builtin.append, args := #[s, x], argTypes := #[84, 84] }) (base : Nat) (v : Value) (l : List (Nat × ByteArray)) (p : Nat × ByteArray) (ad : Addr) (cc : Nat)
    (hrow : w.ownsRow base 111 2 v l.length (recsL l)) (hcell : ∀ j u, (recL p)[j]? = some u → w.cell? (ad.add j) = some u) (hl : l.length ≤ 1000000) (hbase : base ≤ w.heap.size) (hs : a.eval s = v) (hx : a.eval x = .slice (some ad) 1 cc)
    (hK : ∀ v' w', w'.ownsRow base 111 2 v' (l ++ [p]).length (recsL (l ++ [p])) → w.grownBy w' v.ownBlock → K (a.put o.dst v') w') :
    if Region.wanted o (yielded ops a.tmps) = true then Oper.wp Tryz.prog o a w K Q else E := by
  have hw : Region.wanted o (yielded ops a.tmps) = true := by simp [Region.wanted, hg]
  rw [if_pos hw]
  obtain ⟨i84, hi, hz0, hz1, hz2⟩ := info_parts info84
  refine wp_append_own w s x 84 ho base 111 i84 _ 2 24 Tryz.underlying84 hi hz0 hz1 hz2 rfl (by decide) v l.length (recsL l) hs hrow ad 1 cc (recL p) hx rfl hcell (fun u hu => ?_) (by unfold maxLen; omega) (by omega) hbase ?_
  · unfold recL at hu
    simp only [List.mem_cons, List.not_mem_nil, or_false] at hu
    rcases hu with rfl | rfl <;> rfl
  · intro v' w' h2 h3 _
    rw [recsL_snoc] at h2
    exact hK v' w' (by rw [List.length_append]; exact h2) h3
theorem add_at (g o j : Nat) : (⟨g, o, none⟩ : Addr).add j = ⟨g, o + j, none⟩ := by
  by_cases h : j = 0
  · subst h; simp [Addr.add]
  · simp [Addr.add, h]
theorem rec_cells (w : World) (n : Nat) (t : ByteArray) : ∀ j u, (recL (n, t))[j]? = some u → (w.alloc (.cells #[.int .i64 n, .string t] 111)).cell? ((⟨w.heap.size, 0, none⟩ : Addr).add j) = some u := by
  intro j u hj
  have B := Blk.new w 111 #[.int .i64 n, .string t]
  rw [add_at, B.cell, Nat.zero_add]
  match j, hj with
  | 0, h => exact h
  | 1, h => exact h
  | k + 2, h => exact absurd h (by simp [recL])
theorem row_other {w : World} {base e size n b : Nat} {v : Value} {xs : List Value} {t : TypeId} {cs : Array Value} {fz : Nat × Nat} (hr : w.ownsRow base e size v n xs) (hb : w.heap[b]? = some (.cells cs t fz)) (ht : t ≠ e) : some b ≠ v.ownBlock := fun e1 => by
  rcases hr.2 with ⟨rfl, _⟩ | ⟨g, cap, cur, rfl, _, hh, _⟩
  · cases e1
  · have : b = g := Option.some.inj e1
    subst this
    rw [hh] at hb
    injection hb with q
    injection q with q1 q2 q3
    exact ht q2.symm
theorem blk_row {w w' : World} {base e size n b : Nat} {v : Value} {xs : List Value} {t : TypeId} {cs : Array Value} (hb : Blk w b t cs) (hr : w.ownsRow base e size v n xs) (ht : t ≠ e) (hg : w.grownBy w' v.ownBlock) : Blk w' b t cs :=
  hb.kept hg (row_other hr hb ht)
theorem row_row {w w' : World} {base e size n e' size' n' : Nat} {v v' : Value} {xs xs' : List Value} (h : w.ownsRow base e' size' v' n' xs') (hr : w.ownsRow base e size v n xs) (ht : e' ≠ e) (hg : w.grownBy w' v.ownBlock) : w'.ownsRow base e' size' v' n' xs' := by
  refine h.kept hg ?_
  rcases h.2 with ⟨rfl, _⟩ | ⟨g, cap, cur, rfl, _, hh, _⟩
  · exact Or.inl rfl
  · exact Or.inr (row_other hr hh ht)
theorem lt_row {w w' : World} {base e size n b : Nat} {v : Value} {xs : List Value} (hr : w.ownsRow base e size v n xs) (he : e = 111 ∨ e = 5) (hg : w.grownBy w' v.ownBlock) : LT base b w w' :=
  LT.of_grown hg (fun i _ hs e1 => by
    rcases hr.2 with ⟨rfl, _⟩ | ⟨g, cap, cur, rfl, hb, hh, _⟩
    · cases e1
    · have : i = g := Option.some.inj e1
      subst this
      rcases hs with hs | ⟨_, hc⟩
      · omega
      · have := hc cur e (0, 0) hh
        rcases he with rfl | rfl
        · exact this.1 rfl
        · exact this.2 rfl)
set_option maxRecDepth 100000 in
set_option maxHeartbeats 2000000 in
theorem take_rec (base b : Nat) (g : Lg) (s r : ByteArray) (p x : Nat) (w : World) (h : IsLog w base b g) (hl : g.recs.length ≤ 1000000) (hU : Un s p (⟨#[100]⟩ ++ r) x 0) (hr : r.size ≤ 1000000) :
    Calls Tryz.prog 61 #[.pointer (some ⟨b, 0, none⟩), .string s, .int .i64 p] w fun e w' => e = .returned (.tuple #[.int .i64 x, .bool true]) ∧ IsLog w' base b { g with recs := g.recs ++ [(p, r)] } ∧ LT base b w w' := by
  have CU : Hid (∀ W, Calls Tryz.prog 87 #[.string s, .int .i64 p] W fun e w' => e = .returned (.tuple #[.string (⟨#[100]⟩ ++ r), .int .i64 x, .int .i64 0]) ∧ W.grownBy w' none) := hU
  have HL : Hid (∀ W, w.grownBy W none → IsLog W base b g) := fun W hW => h.kept hW
  have hb0 : Hid (base ≤ b) := h.1
  have HN : Hid (g.recs.length ≤ 1000000) := hl
  have hbw : Hid (base ≤ w.heap.size) := (by obtain ⟨a, _, _, q, _⟩ := h; have := q.lt; show base ≤ _; omega)
  have e1 : (⟨#[100]⟩ ++ r : ByteArray).extract 0 1 = ⟨#[100]⟩ := head_of 100 r
  have e2 : (⟨#[100]⟩ ++ r : ByteArray).extract 1 (r.size + 1) = r := tail_of 100 r
  have e3 : (⟨#[100]⟩ ++ r : ByteArray).size = r.size + 1 := by rw [ByteArray.size_append]; show 1 + _ = _; omega
  have t0 : (⟨#[100]⟩ ++ r : ByteArray).toList = 100 :: r.data.toList := by rw [ByteArray.toList_eq]; simp
  generalize hV : (⟨#[100]⟩ ++ r : ByteArray) = V at *
  have i1 : (V.size : Int) = (r.size : Int) + 1 := by omega
  have i2 : (r.size : Int) ≤ 1000000 := by omega
  have t1 : (V.toList == []) = false := by rw [t0]; rfl
  have i3 : (1 : Int) ≤ (r.size : Int) + 1 := by omega
  clear hU h hl hV hr
  go_enter Tryz.func61, Tryz.ntmps61
  go_wp2_with (go_at_call 87; refine (CU.out _).mono ?_; clear CU; rintro e w1 ⟨rfl, hg⟩; have G1 : Hid (w.grownBy w1 none) := hg; clear hg)
  obtain ⟨_, vr, vw, hb, hrw, hww⟩ := HL.out _ G1.out
  have HB := hid hb
  have HR := hid hrw
  have HW := hid hww
  obtain ⟨⟨c0, c1, c2, c3, c4, c5, c6⟩, f1, _⟩ := hb.g7
  have c1a : (w1.alloc (.cells #[.int .i64 p, .string r] 111)).cell? ⟨b, 1, none⟩ = some vr := (hb.alloc _).cell 1
  have hw1 : base ≤ w1.heap.size := Nat.le_trans hbw.out G1.out.size
  obtain ⟨pr, cr, rfl, _⟩ := row_form hrw
  clear hb hrw hww c0 c2 c3 c4 c5 c6
  go_region_law (first
    | (refine step_rec (.tmp 32) (.tmp 37) rfl rfl base _ g.recs (p, r) ⟨w1.heap.size, 0, none⟩ 1 (HR.out.alloc _) (rec_cells w1 p r) HN.out (by show base ≤ (w1.alloc (.cells #[.int .i64 p, .string r] 111)).heap.size; rw [World.size_alloc]; omega) rfl rfl ?_; intro v2 u2 h2 hg2; have B2 := hid (blk_row (HB.out.alloc (.cells #[.int .i64 p, .string r] 111)).drew (HR.out.alloc (.cells #[.int .i64 p, .string r] 111)).drew (by decide) hg2); have W2 := hid (row_row (HW.out.alloc (.cells #[.int .i64 p, .string r] 111)).drew (HR.out.alloc (.cells #[.int .i64 p, .string r] 111)).drew (by decide) hg2); have R2 := hid h2; have T2 := hid (LT.trans (LT.of_none (grown_drew (grown_alloc G1.out (.cells #[.int .i64 p, .string r] 111)))) (lt_row (b := b) (HR.out.alloc (.cells #[.int .i64 p, .string r] 111)).drew (Or.inl rfl) hg2)); obtain ⟨p2, c9, rfl, _⟩ := row_form h2; have d1 : u2.cell? ⟨b, 1, none⟩ = some (.slice pr g.recs.length cr) := B2.out.cell 1; have d2 := B2.out.frozen 1; clear h2 hg2))
  all_goals (
    go_wp2
    go_ret2
    have hv : (Value.slice p2 (g.recs ++ [(p, r)]).length c9) = .slice p2 (g.recs.length + 1) c9 := by rw [List.length_append]; rfl
    have q := R2.out
    rw [hv] at q
    refine ⟨rfl, ⟨hb0.out, .slice p2 (g.recs.length + 1) c9, vw, B2.out.set 1 _, ?_, ?_⟩, LT.trans T2.out (LT.of_self (grown_set (grown_refl _ _) 1 _) hb0.out)⟩
    · exact rowG_kept q B2.out (by decide) (grown_set (grown_refl _ _) 1 _)
    · exact rowG_kept W2.out B2.out (by decide) (grown_set (grown_refl _ _) 1 _))
end Go.Proofs.YtbhmmcelndmijaaGreat
