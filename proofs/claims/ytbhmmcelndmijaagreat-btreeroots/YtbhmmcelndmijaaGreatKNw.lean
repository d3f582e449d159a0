/-
  A tree in memory: the page at a place is read, where the log has it and its keys may stand there. A tree in memory: a page is appended to its log. A tree in memory: none, Root, top. Whether a page may have a key and its value: mayBe. A new tree: New.
-/
import Derived.Test.YtbhmmcelndmijaaGreatKPEncDec
import Derived.Test.YtbhmmcelndmijaaGreatKLfile
namespace Go.Proofs.YtbhmmcelndmijaaGreat
open Go.RowKit Go.Maps
/-- A tree of a log. -/
def IsTree (w : World) (b lb : Nat) (root : Int) : Prop := Blk w b 68 #[.pointer (some ⟨lb, 0, none⟩), .int .i64 root]
theorem IsTree.kept {w w' : World} {b lb : Nat} {root : Int} (h : IsTree w b lb root) (hg : w.grownBy w' none) : IsTree w' b lb root := Blk.kept h hg (by simp)
/-- What a log has at a place. -/
structure PageAt (l : List (Nat × ByteArray)) (a : Int) (p : Pa.Pg) : Prop where
  at_ : ∃ s, atR l a = some s ∧ s.size ≤ 2000000 ∧ Pa.decE s = 0 ∧ Pa.decP s = p
  few : p.keys.length ≤ 1000000
set_option maxRecDepth 100000 in
set_option maxHeartbeats 1000000 in
theorem read_page (base b lb : Nat) (g : Lg) (root a : Int) (lo hi : ByteArray) (p : Pa.Pg) (w : World) (hT : IsTree w b lb root) (hL : IsLog w base lb g) (hs : Asc g.recs) (hl : g.recs.length ≤ 1000000) (hP : PageAt g.recs a p) (hH : Holds lo hi p) :
    Calls Tryz.prog 42 #[.pointer (some ⟨b, 0, none⟩), .int .i64 a, .agg #[.string lo, .string hi]] w (Pa.DecPost w p 0) := by
  obtain ⟨⟨s, h1, h2, h3, h4⟩, h5⟩ := hP
  have e1 : readT g.recs a = s := by unfold readT; rw [h1]; rfl
  have e2 : readC g.recs a = 0 := by unfold readC; rw [h1]; rfl
  have R1 : Hid (∀ W, w.grownBy W none → Calls Tryz.prog 32 #[.pointer (some ⟨lb, 0, none⟩), .int .i64 a] W fun e w' => e = .returned (.tuple #[.string s, .int .i64 0]) ∧ W.grownBy w' none) := fun W hW => by
    have C1 := lread_any base lb g a W (hL.kept hW) hs hl
    rw [e1, e2] at C1
    exact C1
  have C2 : Hid (∀ W, Calls Tryz.prog 33 #[.string s] W (Pa.DecPost W p 0)) := fun W => by
    have := Pa.decode_any s W (by omega)
    rw [h3, h4] at this
    exact this
  have C3 : Hid (∀ W v, Pa.PgV W v p → Calls Tryz.prog 64 #[.agg #[.string lo, .string hi], v] W fun e w' => e = .returned (.bool true) ∧ W.grownBy w' none) := fun W v hv => holds_any lo hi p v W hv h5 hH
  have G0 : Hid (w.grownBy ((w.alloc (.cells #[.string lo, .string hi] 76)).alloc (.cells #[.bool false, .slice none 0 0, .slice none 0 0, .slice none 0 0] 70)) none) := grown_alloc (grown_alloc (grown_refl w none) _) _
  have hT2 := hT.kept G0.out
  have c0 := Blk.cell hT2 0
  simp at c0
  have BR : Hid (Blk ((w.alloc (.cells #[.string lo, .string hi] 76)).alloc (.cells #[.bool false, .slice none 0 0, .slice none 0 0, .slice none 0 0] 70)) (w.heap.size + 1) 70 #[.bool false, .slice none 0 0, .slice none 0 0, .slice none 0 0]) := (by
    have := Blk.new (w.alloc (.cells #[.string lo, .string hi] 76)) 70 #[.bool false, .slice none 0 0, .slice none 0 0, .slice none 0 0]
    rw [World.size_alloc] at this
    exact this)
  have BS : Hid (Blk ((w.alloc (.cells #[.string lo, .string hi] 76)).alloc (.cells #[.bool false, .slice none 0 0, .slice none 0 0, .slice none 0 0] 70)) w.heap.size 76 #[.string lo, .string hi]) := (Blk.new w 76 _).alloc _
  obtain ⟨P, hP⟩ : ∃ P, P = Pa.DecPost w p 0 := ⟨_, rfl⟩
  rw [← hP]
  have HP := hid (And.intro hP trivial)
  clear hP hT2 e1 e2 h1 h2 h3 h4 h5 hH hT hL hs hl
  go_enter Tryz.func42, Tryz.ntmps42
  go_wp2_with (first
    | (go_at_call 32; refine (R1.out _ G0.out).mono ?_; rintro e w1 ⟨rfl, g1⟩; have G1 := hid (grown_none G0.out g1); have S1Z : Hid (w.heap.size + 1 < w1.heap.size) := (BR.out.kept g1 (by simp)).lt; have S1 := hid (BS.out.kept g1 (by simp)); have Q1 := hid (BR.out.kept g1 (by simp)); clear g1 R1)
    | (go_at_call 33; refine (C2.out _).mono ?_; rintro e w2 ⟨v, rfl, o2, g2⟩; have O2 := hid o2; have G2 := hid (grown_none G1.out g2); have S2 := hid (S1.out.kept g2 (by simp)); have Q2 := hid (Q1.out.kept g2 (by simp)); obtain ⟨va, vb, vc, rfl, _, r1, r2, r3⟩ := O2.out; obtain ⟨p1, k1, rfl⟩ := Pa.owns_slice r1; obtain ⟨p2, k2, rfl⟩ := Pa.owns_slice r2; obtain ⟨p3, k3, rfl⟩ := Pa.owns_slice r3; have V2 := hid (O2.out.pgV.kept (grown_alloc (grown_refl w2 none) (.cells #[.bool p.leaf, .slice p1 p.keys.length k1, .slice p2 p.vals.length k2, .slice p3 p.kids.length k3] 70))); have x0 := (S2.out.alloc (.cells #[.bool p.leaf, .slice p1 p.keys.length k1, .slice p2 p.vals.length k2, .slice p3 p.kids.length k3] 70)).cell 0; have x1 := (S2.out.alloc (.cells #[.bool p.leaf, .slice p1 p.keys.length k1, .slice p2 p.vals.length k2, .slice p3 p.kids.length k3] 70)).cell 1; simp at x0 x1; clear g2 o2 C2 r1 r2 r3)
    | (go_at_call 64; refine (C3.out _ _ V2.out).mono ?_; rintro e w4 ⟨rfl, g4⟩; have G4 := hid (grown_none (grown_alloc G2.out _) g4); have G24 : Hid (w2.grownBy w4 none) := (grown_none (grown_alloc (grown_refl w2 none) _) g4); have Q4 := hid ((Q2.out.alloc _).kept g4 (by simp)); have P4 := hid ((Blk.new w2 70 _).kept g4 (by simp)); have y0 := P4.out.cell 0; have y1 := P4.out.cell 1; have y2 := P4.out.cell 2; have y3 := P4.out.cell 3; have z0 := Q4.out.cell 0; have z1 := Q4.out.cell 1; have z2 := Q4.out.cell 2; have z3 := Q4.out.cell 3; have f0 := Q4.out.frozen 0; have f1 := Q4.out.frozen 1; have f2 := Q4.out.frozen 2; have f3 := Q4.out.frozen 3; simp at y0 y1 y2 y3 z0 z1 z2 z3; clear g4 C3))
  have hz1 : w.heap.size + 1 < w1.heap.size := S1Z.out
  have H5 := grown_set (grown_set (grown_set (grown_set (grown_refl w4 (some (w.heap.size + 1))) 0 (.bool p.leaf)) 1 (.slice p1 p.keys.length k1)) 2 (.slice p2 p.vals.length k2)) 3 (.slice p3 p.kids.length k3)
  have B5 := (((Q4.out.set 0 (.bool p.leaf)).set 1 (.slice p1 p.keys.length k1)).set 2 (.slice p2 p.vals.length k2)).set 3 (.slice p3 p.kids.length k3)
  obtain ⟨a1, a2, a3, e, rf, r1, r2, r3⟩ := O2.out
  injection e with e
  have e' := congrArg Array.toList e
  simp at e'
  obtain ⟨rfl, rfl, rfl⟩ := e'
  have K1 := fun (tt : TypeId) (v : Value) (n : Nat) (xs : List Value) (h : w2.ownsRow w1.heap.size tt 1 v n xs) => Pa.owns_le (Pa.owns_kept (Pa.owns_keptN h G24.out) H5 hz1) (base' := w.heap.size) (by omega)
  refine bodyPost_ret (Pa.results_pg2 Tryz.results42 _ _ (w.heap.size + 1) rfl B5) rfl ?_
  rw [HP.out.1]
  exact ⟨_, rfl, ⟨_, _, _, rfl, rf, K1 _ _ _ _ r1, K1 _ _ _ _ r2, K1 _ _ _ _ r3⟩, grown_through G4.out H5 (Nat.le_succ _)⟩
end Go.Proofs.YtbhmmcelndmijaaGreat
namespace Go.Proofs.YtbhmmcelndmijaaGreat
open Go.RowKit Go.Maps
/-- A log with a page more. -/
def addG (g : Lg) (p : Pa.Pg) : Lg := { g with recs := g.recs ++ [(g.len + g.wait.size, ⟨(Pa.encL p).toArray⟩)], wait := g.wait ++ Wi.frmS (⟨#[100]⟩ ++ ⟨(Pa.encL p).toArray⟩) }
set_option maxRecDepth 100000 in
set_option maxHeartbeats 1000000 in
theorem add_page (base b lb : Nat) (g : Lg) (root : Int) (p : Pa.Pg) (v : Value) (w : World) (hT : IsTree w b lb root) (hL : IsLog w base lb g) (hl : g.recs.length ≤ 100000) (hw : g.wait.size ≤ 500000000) (hn : g.len ≤ 1000000000) (hv : Pa.PgV w v p) (hf : p.fits) (hm : Pa.mayP p = true) (hz : (Pa.encL p).length ≤ 1048576) :
    Calls Tryz.prog 69 #[.pointer (some ⟨b, 0, none⟩), v] w fun e w' => e = .returned (.tuple #[.int .i64 (g.len + g.wait.size : Nat), .int .i64 0]) ∧ IsLog w' base lb (addG g p) ∧ LT base lb w w' := by
  have C1 : Hid (∀ W, w.grownBy W none → Calls Tryz.prog 97 #[v] W fun e w' => e = .returned (.tuple #[.string ⟨(Pa.encL p).toArray⟩, .int .i64 0]) ∧ W.grownBy w' none) := fun W hW => Pa.encode_ok v p W (hv.kept hW) hf hm
  have C2 : Hid (∀ W, w.grownBy W none → Calls Tryz.prog 98 #[.pointer (some ⟨lb, 0, none⟩), .string ⟨(Pa.encL p).toArray⟩] W fun e w' => e = .returned (.tuple #[.int .i64 (g.len + g.wait.size : Nat), .int .i64 0]) ∧ IsLog w' base lb (addG g p) ∧ LT base lb W w') := fun W hW => lappend_big base lb g _ W (hL.kept hW) hl hw hn (by show (Pa.encL p).toArray.size ≤ _; simpa using hz)
  obtain ⟨va, vb, vc, rfl, ⟨p1, k1, _, _, rfl, _, _⟩, ⟨p2, k2, _, _, rfl, _, _⟩, ⟨p3, k3, _, _, rfl, _, _⟩⟩ := hv
  have HT := hid hT
  generalize addG g p = g2 at *
  generalize g.len + g.wait.size = at_ at *
  generalize (⟨(Pa.encL p).toArray⟩ : ByteArray) = S at *
  have G0 : Hid (w.grownBy (w.alloc (.cells #[.bool p.leaf, .slice p1 p.keys.length k1, .slice p2 p.vals.length k2, .slice p3 p.kids.length k3] 70)) none) := grown_alloc (grown_refl w none) _
  clear hT hL hl hw hn hf hm hz
  go_enter Tryz.func69, Tryz.ntmps69
  go_wp2_with (first
    | (go_at_call 97; refine (C1.out _ G0.out).mono ?_; rintro e w1 ⟨rfl, g1⟩; have G1 := hid (grown_none G0.out g1); have c0 := Blk.cell (HT.out.kept G1.out) 0; simp at c0; clear g1 C1)
    | (go_at_call 98; refine (C2.out _ G1.out).mono ?_; rintro e w2 ⟨rfl, l2, t2⟩; have L2 := hid l2; have T2 := hid (LT.trans (LT.of_none G1.out) t2); clear l2 t2 C2))
  go_ret2
  exact ⟨rfl, L2.out, T2.out⟩
end Go.Proofs.YtbhmmcelndmijaaGreat
namespace Go.Proofs.YtbhmmcelndmijaaGreat
open Go.RowKit Go.Maps
set_option maxRecDepth 100000 in
theorem none_tree (b lb : Nat) (root : Int) (w : World) (hT : IsTree w b lb root) : Calls Tryz.prog 26 #[.pointer (some ⟨b, 0, none⟩)] w fun e w' => e = .returned (.bool false) ∧ w' = w := by
  have c0 := Blk.cell hT 0
  simp at c0
  clear hT
  go_enter Tryz.func26, Tryz.ntmps26
  go_wp2
  go_ret
  exact ⟨rfl, rfl⟩
set_option maxRecDepth 100000 in
theorem root_tree (b lb : Nat) (root : Int) (w : World) (hT : IsTree w b lb root) : Calls Tryz.prog 11 #[.pointer (some ⟨b, 0, none⟩)] w fun e w' => e = .returned (.int .i64 root) ∧ w' = w := by
  have C := hid (none_tree b lb root w hT)
  have c1 := Blk.cell hT 1
  simp at c1
  clear hT
  go_enter Tryz.func11, Tryz.ntmps11
  go_wp2_with (go_at_call 26; refine C.out.mono ?_; rintro e w1 ⟨rfl, hw⟩; have hw2 := hw.symm; clear hw; subst hw2; clear C)
  go_ret
  exact ⟨rfl, rfl⟩
set_option maxRecDepth 100000 in
set_option maxHeartbeats 1000000 in
/-- Without a root: a leaf without keys. -/
theorem top_none (b lb : Nat) (w : World) (hT : IsTree w b lb (-1)) : Calls Tryz.prog 27 #[.pointer (some ⟨b, 0, none⟩)] w (Pa.DecPost w ⟨true, [], [], []⟩ 0) := by
  have c1 := Blk.cell (hT.kept (grown_alloc (grown_refl w none) (.cells #[.bool false, .slice none 0 0, .slice none 0 0, .slice none 0 0] 70))) 1
  simp at c1
  obtain ⟨P, hP⟩ : ∃ P, P = Pa.DecPost w ⟨true, [], [], []⟩ 0 := ⟨_, rfl⟩
  rw [← hP]
  have HP := hid (And.intro hP trivial)
  clear hT hP
  go_enter Tryz.func27, Tryz.ntmps27
  go_wp2
  refine bodyPost_ret (Pa.results_pg2 Tryz.results27 _ _ w.heap.size rfl (Blk.new w 70 _)) rfl ?_
  rw [HP.out.1]
  exact ⟨_, rfl, ⟨_, _, _, rfl, Pa.far_nil _, ⟨rfl, Or.inl ⟨rfl, rfl⟩⟩, ⟨rfl, Or.inl ⟨rfl, rfl⟩⟩, ⟨rfl, Or.inl ⟨rfl, rfl⟩⟩⟩, grown_alloc (grown_refl w none) _⟩
set_option maxRecDepth 100000 in
set_option maxHeartbeats 1000000 in
/-- The root's page. -/
theorem top_some (base b lb : Nat) (g : Lg) (root : Int) (p : Pa.Pg) (w : World) (hT : IsTree w b lb root) (hL : IsLog w base lb g) (hs : Asc g.recs) (hl : g.recs.length ≤ 1000000) (hr : 0 ≤ root) (hP : PageAt g.recs root p) (hH : Holds ⟨#[]⟩ ⟨#[]⟩ p) :
    Calls Tryz.prog 27 #[.pointer (some ⟨b, 0, none⟩)] w (Pa.DecPost w p 0) := by
  have G0 : Hid (w.grownBy (w.alloc (.cells #[.bool false, .slice none 0 0, .slice none 0 0, .slice none 0 0] 70)) none) := grown_alloc (grown_refl w none) _
  have c1 := Blk.cell (hT.kept G0.out) 1
  simp at c1
  have CR := hid (read_page base b lb g root root ⟨#[]⟩ ⟨#[]⟩ p _ (hT.kept G0.out) (hL.kept G0.out) hs hl hP hH)
  have BR := hid (Blk.new w 70 #[.bool false, .slice none 0 0, .slice none 0 0, .slice none 0 0])
  obtain ⟨P, hP'⟩ : ∃ P, P = Pa.DecPost w p 0 := ⟨_, rfl⟩
  rw [← hP']
  have HP := hid (And.intro hP' trivial)
  have n1 : ¬ root = -1 := by omega
  have n2 : (root == -1) = false := by simp; omega
  clear hT hP' hL hs hl hP hH
  go_enter Tryz.func27, Tryz.ntmps27
  go_wp2_with (go_at_call 42; refine CR.out.mono ?_; rintro e w2 ⟨v, rfl, o2, g2⟩; have O2 := hid o2; have G2 := hid (grown_none G0.out g2); have Q2 := hid (BR.out.kept g2 (by simp)); obtain ⟨va, vb, vc, rfl, _, r1, r2, r3⟩ := O2.out; obtain ⟨p1, k1, rfl⟩ := Pa.owns_slice r1; obtain ⟨p2, k2, rfl⟩ := Pa.owns_slice r2; obtain ⟨p3, k3, rfl⟩ := Pa.owns_slice r3; have z0 := Q2.out.cell 0; have z1 := Q2.out.cell 1; have z2 := Q2.out.cell 2; have z3 := Q2.out.cell 3; have f0 := Q2.out.frozen 0; have f1 := Q2.out.frozen 1; have f2 := Q2.out.frozen 2; have f3 := Q2.out.frozen 3; simp at z0 z1 z2 z3; clear g2 o2 CR r1 r2 r3)
  have H5 := grown_set (grown_set (grown_set (grown_set (grown_refl w2 (some w.heap.size)) 0 (.bool p.leaf)) 1 (.slice p1 p.keys.length k1)) 2 (.slice p2 p.vals.length k2)) 3 (.slice p3 p.kids.length k3)
  have B5 := (((Q2.out.set 0 (.bool p.leaf)).set 1 (.slice p1 p.keys.length k1)).set 2 (.slice p2 p.vals.length k2)).set 3 (.slice p3 p.kids.length k3)
  obtain ⟨a1, a2, a3, e, rf, r1, r2, r3⟩ := O2.out
  injection e with e
  have e' := congrArg Array.toList e
  simp at e'
  obtain ⟨rfl, rfl, rfl⟩ := e'
  have K1 := fun (tt : TypeId) (v : Value) (n : Nat) (xs : List Value) (h : w2.ownsRow (w.alloc (.cells #[.bool false, .slice none 0 0, .slice none 0 0, .slice none 0 0] 70)).heap.size tt 1 v n xs) => Pa.owns_le (Pa.owns_kept h H5 (by rw [World.size_alloc]; omega)) (base' := w.heap.size) (by rw [World.size_alloc]; omega)
  refine bodyPost_ret (Pa.results_pg2 Tryz.results27 _ _ w.heap.size rfl B5) rfl ?_
  rw [HP.out.1]
  exact ⟨_, rfl, ⟨_, _, _, rfl, rf, K1 _ _ _ _ r1, K1 _ _ _ _ r2, K1 _ _ _ _ r3⟩, grown_through G2.out H5 (Nat.le_refl _)⟩
end Go.Proofs.YtbhmmcelndmijaaGreat
namespace Go.Proofs.YtbhmmcelndmijaaGreat
open Go.RowKit Go.Maps
def one (k x : ByteArray) : Pa.Pg := ⟨true, [k], [x], []⟩
theorem row_one {w : World} {g : Nat} {k : ByteArray} (h : Blk w g 9 #[.string k]) : Pa.RowV Value.string w (.slice (some ⟨g, 0, none⟩) 1 1) [k] := by
  refine ⟨some ⟨g, 0, none⟩, 1, g, 0, rfl, fun _ => rfl, fun i hi => ?_⟩
  obtain rfl : i = 0 := by simp at hi; omega
  have := h.cell 0
  simpa using this
set_option maxRecDepth 100000 in
set_option maxHeartbeats 1000000 in
theorem mayBe_any (k x : ByteArray) (w : World) : Calls Tryz.prog 30 #[.string k, .string x] w fun e w' => e = .returned (.bool (Pa.mayP (one k x))) ∧ w.grownBy w' none := by
  have G0 : Hid (w.grownBy ((w.alloc (.cells #[.string k] 9)).alloc (.cells #[.string x] 9)) none) := grown_alloc (grown_alloc (grown_refl w none) _) _
  have B2 := Blk.new (w.alloc (.cells #[.string k] 9)) 9 #[.string x]
  rw [World.size_alloc] at B2
  have CC : Hid (Calls Tryz.prog 50 #[.agg #[.bool true, .slice (some ⟨w.heap.size, 0, none⟩) 1 1, .slice (some ⟨w.heap.size + 1, 0, none⟩) 1 1, .slice none 0 0]] ((w.alloc (.cells #[.string k] 9)).alloc (.cells #[.string x] 9)) fun e w' => e = .returned (.int .i64 (Pa.chk (one k x))) ∧ ((w.alloc (.cells #[.string k] 9)).alloc (.cells #[.string x] 9)).grownBy w' none) :=
    Pa.check_any _ (one k x) _ ⟨_, _, _, rfl, row_one ((Blk.new w 9 #[.string k]).alloc _), row_one B2, ⟨none, 0, 0, 0, rfl, fun h => absurd h (by simp [one]), fun i hi => absurd hi (by simp [one])⟩⟩ ⟨by simp [one], by simp [one], by simp [one]⟩
  obtain ⟨c, hc⟩ : ∃ c, Pa.chk (one k x) = c := ⟨_, rfl⟩
  rw [hc] at CC
  unfold Pa.chk at hc
  generalize Pa.mayP (one k x) = m at *
  clear B2
  cases m
  all_goals
    simp at hc
    subst hc
    go_enter Tryz.func30, Tryz.ntmps30
    go_wp2_with (go_at_call 50; refine CC.out.mono ?_; rintro e w2 ⟨rfl, g2⟩; have G2 := hid (grown_none G0.out g2); clear g2 CC)
    go_ret
    exact ⟨rfl, G2.out⟩
end Go.Proofs.YtbhmmcelndmijaaGreat
namespace Go.Proofs.YtbhmmcelndmijaaGreat
open Go.RowKit Go.Maps
/-- What New leaves. -/
def NewPost (w : World) (lb : Nat) (r : Int) (e : Ending) (w' : World) : Prop := ∃ b, e = .returned (.tuple #[.pointer (some ⟨b, 0, none⟩), .int .i64 0]) ∧ w.heap.size ≤ b ∧ IsTree w' b lb r ∧ w.grownBy w' none
set_option maxRecDepth 100000 in
set_option maxHeartbeats 1000000 in
theorem new_by (lb : Nat) (r R : Int) (p : Pa.Pg) (w : World) (hr : (r ≤ -1 ∧ R = -1) ∨ (-1 < r ∧ R = r)) (hC : ∀ W b, IsTree W b lb R → w.grownBy W none → Calls Tryz.prog 27 #[.pointer (some ⟨b, 0, none⟩)] W (Pa.DecPost W p 0)) :
    Calls Tryz.prog 15 #[.pointer (some ⟨lb, 0, none⟩), .int .i64 r] w (NewPost w lb R) := by
  have G0 : Hid (w.grownBy (w.alloc (.cells #[.pointer (some ⟨lb, 0, none⟩), .int .i64 R] 68)) none) := grown_alloc (grown_refl w none) _
  have T0 : Hid (IsTree (w.alloc (.cells #[.pointer (some ⟨lb, 0, none⟩), .int .i64 R] 68)) w.heap.size lb R) := Blk.new w 68 _
  have CT := hid (hC _ _ T0.out G0.out)
  clear hC
  have hm : max r (-1) = R := by omega
  rcases hr with ⟨h, rfl⟩ | ⟨h, rfl⟩
  all_goals
    go_enter Tryz.func15, Tryz.ntmps15
    go_wp2_with (go_at_call 27; refine CT.out.mono ?_; rintro e w2 ⟨v, rfl, o2, g2⟩; have G2 := hid g2; obtain ⟨va, vb, vc, rfl, _, r1, r2, r3⟩ := o2; obtain ⟨p1, k1, rfl⟩ := Pa.owns_slice r1; obtain ⟨p2, k2, rfl⟩ := Pa.owns_slice r2; obtain ⟨p3, k3, rfl⟩ := Pa.owns_slice r3; clear r1 r2 r3 g2 CT)
    go_ret2
    exact ⟨_, rfl, Nat.le_refl _, T0.out.kept (grown_alloc G2.out _), grown_alloc (grown_none G0.out G2.out) _⟩
theorem new_none (lb : Nat) (w : World) : Calls Tryz.prog 15 #[.pointer (some ⟨lb, 0, none⟩), .int .i64 (-1)] w (NewPost w lb (-1)) := new_by lb (-1) (-1) _ w (Or.inl ⟨by decide, rfl⟩) fun W b hT _ => top_none b lb W hT
theorem new_some (base lb : Nat) (g : Lg) (root : Int) (p : Pa.Pg) (w : World) (hL : IsLog w base lb g) (hs : Asc g.recs) (hl : g.recs.length ≤ 1000000) (hr : 0 ≤ root) (hP : PageAt g.recs root p) (hH : Holds ⟨#[]⟩ ⟨#[]⟩ p) :
    Calls Tryz.prog 15 #[.pointer (some ⟨lb, 0, none⟩), .int .i64 root] w (NewPost w lb root) := new_by lb root root p w (Or.inr ⟨by omega, rfl⟩) fun W b hT hg => top_some base b lb g root p W hT (hL.kept hg) hs hl hr hP hH
end Go.Proofs.YtbhmmcelndmijaaGreat
