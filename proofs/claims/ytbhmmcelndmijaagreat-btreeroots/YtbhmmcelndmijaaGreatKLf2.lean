/-
  A leaf with a key's value: leafWith. A leaf with a key that was not there: leafWith.
-/
import Derived.Test.YtbhmmcelndmijaaGreatKNw
import Derived.Test.YtbhmmcelndmijaaGreatSli
namespace Go.Proofs.YtbhmmcelndmijaaGreat
open Go.RowKit Go.Maps
/-- What a change of pages of one's own may turn: rows of texts and of numbers from base on. -/
structure PT (base : Nat) (w w' : World) : Prop where
  os : w'.os = w.os
  tape : w'.tape = w.tape
  output : w'.output = w.output
  size : w.heap.size ≤ w'.heap.size
  keep : ∀ i, i < w.heap.size → (i < base ∨ ∀ cs t fz, w.heap[i]? = some (.cells cs t fz) → t ≠ 9 ∧ t ≠ 3) → w'.heap[i]? = w.heap[i]?
theorem PT.of_none {base : Nat} {w w' : World} (h : w.grownBy w' none) : PT base w w' := ⟨h.os, h.tape, h.output, h.size, fun i hi _ => h.block i hi (by simp)⟩
theorem PT.refl (base : Nat) (w : World) : PT base w w := PT.of_none (grown_refl _ _)
theorem PT.trans {base : Nat} {w w' w'' : World} (h : PT base w w') (k : PT base w' w'') : PT base w w'' :=
  ⟨k.os.trans h.os, k.tape.trans h.tape, k.output.trans h.output, Nat.le_trans h.size k.size, fun i hi hs => by
    have e := h.keep i hi hs
    refine (k.keep i (Nat.lt_of_lt_of_le hi h.size) ?_).trans e
    rcases hs with hs | hc
    · exact Or.inl hs
    · exact Or.inr (fun cs t fz hq => hc cs t fz (by rw [← e]; exact hq))⟩
theorem PT.of_own {base n : Nat} {t : TypeId} {v : Value} {xs : List Value} {w w' : World} (h : w.ownsRow base t 1 v n xs) (ht : t = 9 ∨ t = 3) (hg : w.grownBy w' v.ownBlock) : PT base w w' :=
  ⟨hg.os, hg.tape, hg.output, hg.size, fun i hi hs => hg.block i hi (fun e => by
    rcases h.2 with ⟨rfl, _⟩ | ⟨g, cap, cur, rfl, hb, hh, _⟩
    · cases e
    · have e' : i = g := Option.some.inj e
      subst e'
      rcases hs with hs | hc
      · omega
      · have := hc cur t (0, 0) hh
        rcases ht with rfl | rfl
        · exact this.1 rfl
        · exact this.2 rfl)⟩
theorem PT.mono {base base' : Nat} {w w' : World} (h : PT base w w') (hb : base' ≤ base) : PT base' w w' :=
  ⟨h.os, h.tape, h.output, h.size, fun i hi hs => h.keep i hi (by
    rcases hs with hs | hs
    · exact Or.inl (by omega)
    · exact Or.inr hs)⟩
/-- What is new is one's own. -/
theorem PT.new {base : Nat} {w w' w'' : World} (h : PT base w w') (hw : w'.grownBy w'' none) : PT base w w'' := h.trans (PT.of_none hw)
/-- A row of cells of other types stays. -/
theorem PT.blk {base g : Nat} {t : TypeId} {cs : Array Value} {w w' : World} (h : PT base w w') (hb : Blk w g t cs) (ht : t ≠ 9 ∧ t ≠ 3) : Blk w' g t cs := by
  have hh : w.heap[g]? = some (.cells cs t (0, 0)) := hb
  exact (h.keep g hb.lt (Or.inr (fun cs' t' fz e => by rw [hh] at e; cases e; exact ht))).trans hb
/-- What is new to us may be turned. -/
theorem PT.through {base k : Nat} {w w' w'' : World} (h : PT base w w') (g : w'.grownBy w'' (some k)) (hk : w.heap.size ≤ k) : PT base w w'' :=
  ⟨g.os.trans h.os, g.tape.trans h.tape, g.output.trans h.output, Nat.le_trans h.size g.size, fun i hi hs => (g.block i (Nat.lt_of_lt_of_le hi h.size) (by simp; omega)).trans (h.keep i hi hs)⟩
/-- A row that lies apart stays. -/
theorem row_far {w w' : World} {base e n : Nat} {a b : Value} {xs : List Value} (h : w.ownsRow base e 1 a n xs) (hf : Pa.Far a b) (hg : w.grownBy w' b.ownBlock) : w'.ownsRow base e 1 a n xs :=
  World.ownsRow.kept h hg (by
    cases hq : a.ownBlock with
    | none => exact Or.inl rfl
    | some y => exact Or.inr (fun e => hf y hq e.symm))
/-- A row of cells of another type stays. -/
theorem row_type {w w' : World} {base base' e e' n n' : Nat} {a b : Value} {xs ys : List Value} (h : w.ownsRow base e 1 a n xs) (h' : w.ownsRow base' e' 1 b n' ys) (ht : e ≠ e') (hg : w.grownBy w' b.ownBlock) : w'.ownsRow base e 1 a n xs :=
  row_far h (fun y h1 h2 => by
    rcases h.2 with ⟨rfl, _⟩ | ⟨g, cap, cur, rfl, _, hh, _⟩
    · cases h1
    · rcases h'.2 with ⟨rfl, _⟩ | ⟨g', cap', cur', rfl, _, hh', _⟩
      · cases h2
      · have e1 : g = y := Option.some.inj h1
        have e2 : g' = y := Option.some.inj h2
        subst e1
        subst e2
        rw [hh] at hh'
        cases hh'
        exact ht rfl) hg
def leafP (p : Pa.Pg) (k x : ByteArray) : Pa.Pg :=
  if Pa.findIs p.keys k then { p with vals := p.vals.set (Pa.findN p.keys k) x }
  else { p with keys := p.keys.take (Pa.findN p.keys k) ++ [k] ++ p.keys.drop (Pa.findN p.keys k), vals := p.vals.take (Pa.findN p.keys k) ++ [x] ++ p.vals.drop (Pa.findN p.keys k) }
theorem own_lt {w : World} {base n : Nat} {t : TypeId} {v : Value} {xs : List Value} (h : w.ownsRow base t 1 v n xs) {g : Nat} (e : v.ownBlock = some g) : base ≤ g ∧ g < w.heap.size := h.lt g e
set_option maxRecDepth 100000 in
set_option maxHeartbeats 2000000 in
theorem leafWith_is (base : Nat) (v : Value) (p : Pa.Pg) (k x : ByteArray) (w : World) (h : Pa.PgO w base v p) (hl : p.vals.length = p.keys.length) (hn : p.keys.length ≤ 1000) (hk : p.kids.length ≤ 1000) (his : Pa.findIs p.keys k = true) (hlt : Pa.findN p.keys k < p.keys.length) :
    Calls Tryz.prog 51 #[v, .string k, .string x] w fun e w' => ∃ v', e = .returned v' ∧ Pa.PgO w' base v' (leafP p k x) ∧ PT base w w' := by
  have eP : leafP p k x = { p with vals := p.vals.set (Pa.findN p.keys k) x } := by unfold leafP; rw [if_pos his]
  rw [eP]
  have CF : Hid (∀ W, w.grownBy W none → Calls Tryz.prog 43 #[v, .string k] W fun e w' => e = .returned (.tuple #[.int .i64 (Pa.findN p.keys k), .bool true]) ∧ W.grownBy w' none) := fun W hW => by
    have := Pa.find_any v p k W (h.pgV.kept hW) ⟨by omega, by omega, by omega⟩
    rwa [his] at this
  obtain ⟨a, b, c, rfl, hf, h1, h2, h3⟩ := h
  obtain ⟨pa, ca, rfl⟩ := Pa.owns_slice h1
  obtain ⟨pc, cc, rfl⟩ := Pa.owns_slice h3
  rcases Sl.owns_cases h2 with ⟨_, h0, _⟩ | ⟨g, cap, cur, rfl, hg, hB, hnc, hcm, hs, hx, hxl⟩
  · omega
  have O1 := hid h1
  have O2 := hid h2
  have O3 := hid h3
  have FF := hid hf
  have hgw := hB.lt
  have BG := hid hB
  clear h1 h2 h3 hB his eP
  obtain ⟨m, em⟩ : ∃ m, Pa.findN p.keys k = m := ⟨_, rfl⟩
  rw [em] at CF hlt ⊢
  clear em
  have m0 : (0 : Int) ≤ m := by omega
  have m1 : (m : Int) < p.vals.length := by omega
  have hml : m < p.vals.length := by omega
  have c2 : (Pa.strs p.vals)[m]? = some (.string p.vals[m]) := by unfold Pa.strs; rw [List.getElem?_map, List.getElem?_eq_getElem hml]; rfl
  have G0 : Hid (w.grownBy ((w.alloc (.cells #[.bool p.leaf, .slice pa p.keys.length ca, .slice (some ⟨g, 0, none⟩) p.vals.length cap, .slice pc p.kids.length cc] 70)).alloc (.cells #[.bool false, .slice none 0 0, .slice none 0 0, .slice none 0 0] 70)) none) := grown_alloc (grown_alloc (grown_refl w none) _) _
  have BX : Hid (Blk ((w.alloc (.cells #[.bool p.leaf, .slice pa p.keys.length ca, .slice (some ⟨g, 0, none⟩) p.vals.length cap, .slice pc p.kids.length cc] 70)).alloc (.cells #[.bool false, .slice none 0 0, .slice none 0 0, .slice none 0 0] 70)) w.heap.size 70 #[.bool p.leaf, .slice pa p.keys.length ca, .slice (some ⟨g, 0, none⟩) p.vals.length cap, .slice pc p.kids.length cc]) := (Blk.new w 70 _).alloc _
  have BR : Hid (Blk ((w.alloc (.cells #[.bool p.leaf, .slice pa p.keys.length ca, .slice (some ⟨g, 0, none⟩) p.vals.length cap, .slice pc p.kids.length cc] 70)).alloc (.cells #[.bool false, .slice none 0 0, .slice none 0 0, .slice none 0 0] 70)) (w.heap.size + 1) 70 #[.bool false, .slice none 0 0, .slice none 0 0, .slice none 0 0]) := (by
    have := Blk.new (w.alloc (.cells #[.bool p.leaf, .slice pa p.keys.length ca, .slice (some ⟨g, 0, none⟩) p.vals.length cap, .slice pc p.kids.length cc] 70)) 70 #[.bool false, .slice none 0 0, .slice none 0 0, .slice none 0 0]
    rw [World.size_alloc] at this
    exact this)
  have C2 := hid c2
  clear c2 hs hx hxl hnc hcm hl
  go_enter Tryz.func51, Tryz.ntmps51
  go_wp2_with (first
    | (go_at_call 43; refine (CF.out _ G0.out).mono ?_; rintro e w1 ⟨rfl, g1⟩; have G1 := hid (grown_none G0.out g1); have X1 := hid (BX.out.kept g1 (by simp)); have R1 := hid (BR.out.kept g1 (by simp)); have x0 := X1.out.cell 0; have x1 := X1.out.cell 1; have x2 := X1.out.cell 2; have x3 := X1.out.cell 3; have y2 : w1.cell? ⟨g, m, none⟩ = some (.string p.vals[m]) := ((row_none O2.out G1.out).cellAt m (by omega)).trans C2.out; have f2 : w1.frozen? ⟨g, m, none⟩ = false := (row_none O2.out G1.out).frozenAt m; simp at x0 x1 x2 x3; clear g1 CF)
    | (refine Pa.q_is_store 70 (.tmp 6) (.tmp 21) rfl ?_; refine Pa.store_pg 70 Pa.size25 (w.heap.size + 1) (R1.out.other (a := ⟨g, m, none⟩) (.string x) (by show w.heap.size + 1 ≠ g; omega)) _ _ rfl rfl rfl rfl ?_; intro w5 hb5 hg5; have B5 := hid hb5; have G5 := hid hg5; clear hb5 hg5))
  have K1 : (w1.setCell ⟨g, m, none⟩ (.string x)).ownsRow base 9 1 (.slice (some ⟨g, 0, none⟩) p.vals.length cap) p.vals.length (Pa.strs (p.vals.set m x)) := by
    have := ((row_none O2.out G1.out).stored m (.string x)).1
    unfold Pa.strs at this ⊢
    rw [← List.map_set] at this
    exact this
  have GS : w1.grownBy (w1.setCell ⟨g, m, none⟩ (.string x)) (some g) := grown_set (grown_refl _ _) m _
  have hsz : w1.heap.size = (w1.setCell ⟨g, m, none⟩ (.string x)).heap.size := by simp [World.setCell]
  have A1 := row_far (b := .slice (some ⟨g, 0, none⟩) p.vals.length cap) (row_none O1.out G1.out) FF.out GS
  have A3 := row_type (row_none O3.out G1.out) (row_none O2.out G1.out) (by decide) GS
  have P1 : PT base w (w1.setCell ⟨g, m, none⟩ (.string x)) := (PT.of_none G1.out).trans (PT.of_own (row_none O2.out G1.out) (Or.inl rfl) GS)
  have hb0 : base ≤ w.heap.size := Nat.le_trans hg (Nat.le_of_lt hgw)
  refine bodyPost_ret (Pa.results_pg Tryz.results51 _ _ (w.heap.size + 1) rfl B5.out) rfl ?_
  have far5 : ∀ (e : TypeId) (a : Value) (n : Nat) (xs : List Value), w.ownsRow base e 1 a n xs → ∀ ys, (w1.setCell ⟨g, m, none⟩ (.string x)).ownsRow base e 1 a n ys → w5.ownsRow base e 1 a n ys := fun e a n xs h ys h' =>
    World.ownsRow.kept h' G5.out (by
      cases hq : a.ownBlock with
      | none => exact Or.inl rfl
      | some y => exact Or.inr (fun e => by have := (h.lt y hq).2; have := Option.some.inj e; omega))
  refine ⟨_, rfl, ⟨_, _, _, rfl, FF.out, far5 _ _ _ _ O1.out _ A1, ?_, far5 _ _ _ _ O3.out _ A3⟩, P1.through G5.out (Nat.le_succ _)⟩
  show w5.ownsRow base 9 1 _ (p.vals.set m x).length _
  rw [List.length_set]
  exact far5 _ _ _ _ O2.out _ K1
end Go.Proofs.YtbhmmcelndmijaaGreat
namespace Go.Proofs.YtbhmmcelndmijaaGreat
open Go.RowKit Go.Maps
theorem far_symm {a b : Value} (h : Pa.Far a b) : Pa.Far b a := fun g h1 h2 => h g h2 h1
theorem strs_ins (l : List ByteArray) (i : Nat) (k : ByteArray) : (Pa.strs l).take i ++ [Value.string k] ++ (Pa.strs l).drop i = Pa.strs (l.take i ++ [k] ++ l.drop i) := by
  unfold Pa.strs
  rw [List.map_append, List.map_append, List.map_take, List.map_drop]
  rfl
theorem strs_len (l : List ByteArray) : (Pa.strs l).length = l.length := List.length_map ..
theorem ints_len (l : List Int) : (Pa.ints l).length = l.length := List.length_map ..
/-- A text put into a row of texts of one's own. -/
theorem insT (base i vb : Nat) (v : Value) (l : List ByteArray) (k : ByteArray) (w : World) (h : w.ownsRow base 9 1 v l.length (Pa.strs l)) (hi : i ≤ l.length) (hl : l.length ≤ 1000) (hu : Blk w vb 9 #[.string k]) (hne : v.ownBlock ≠ some vb) (hb : base ≤ w.heap.size) :
    Calls Tryz.prog 73 #[v, .int .i64 i, .slice (some ⟨vb, 0, none⟩) 1 1] w fun e w' => ∃ v', e = .returned v' ∧ w'.ownsRow base 9 1 v' (l.take i ++ [k] ++ l.drop i).length (Pa.strs (l.take i ++ [k] ++ l.drop i)) ∧ w.grownBy w' v.ownBlock ∧ (v'.ownBlock = v.ownBlock ∨ v'.ownBlock = some w.heap.size) := by
  have C := Sl.insstring_any base i vb v (Pa.strs l) [.string k] w (by rw [strs_len]; exact h) (Sl.str_one l) (by rw [strs_len]; exact hi) (by rw [strs_len]; omega) hu (fun u hu => by simp at hu; subst hu; rfl) (Nat.lt_succ_self 0) (by show 1 ≤ 1000000; decide) 1 hne hb
  refine C.mono fun e w' ⟨v', he, ho, hg, hx⟩ => ⟨v', he, ?_, hg, hx⟩
  rw [strs_ins, strs_len] at ho
  exact ho
set_option maxRecDepth 100000 in
set_option maxHeartbeats 2000000 in
theorem leafWith_no (base : Nat) (v : Value) (p : Pa.Pg) (k x : ByteArray) (w : World) (h : Pa.PgO w base v p) (hl : p.vals.length = p.keys.length) (hn : p.keys.length ≤ 1000) (hk : p.kids.length ≤ 1000) (his : Pa.findIs p.keys k = false) (hb : base ≤ w.heap.size) :
    Calls Tryz.prog 51 #[v, .string k, .string x] w fun e w' => ∃ v', e = .returned v' ∧ Pa.PgO w' base v' (leafP p k x) ∧ PT base w w' := by
  have eP : leafP p k x = { p with keys := p.keys.take (Pa.findN p.keys k) ++ [k] ++ p.keys.drop (Pa.findN p.keys k), vals := p.vals.take (Pa.findN p.keys k) ++ [x] ++ p.vals.drop (Pa.findN p.keys k) } := by unfold leafP; rw [if_neg (by rw [his]; decide)]
  rw [eP]
  have CF : Hid (∀ W, w.grownBy W none → Calls Tryz.prog 43 #[v, .string k] W fun e w' => e = .returned (.tuple #[.int .i64 (Pa.findN p.keys k), .bool false]) ∧ W.grownBy w' none) := fun W hW => by
    have := Pa.find_any v p k W (h.pgV.kept hW) ⟨by omega, by omega, by omega⟩
    rwa [his] at this
  obtain ⟨a, b, c, rfl, hf, h1, h2, h3⟩ := h
  obtain ⟨pa, ca, rfl⟩ := Pa.owns_slice h1
  obtain ⟨pb, cb, rfl⟩ := Pa.owns_slice h2
  obtain ⟨pc, cc, rfl⟩ := Pa.owns_slice h3
  have O1 := hid h1
  have O2 := hid h2
  have O3 := hid h3
  have FF := hid hf
  have hmk := Pa.findN_le p.keys k
  clear h1 h2 h3 his eP hf
  obtain ⟨m, em⟩ : ∃ m, Pa.findN p.keys k = m := ⟨_, rfl⟩
  rw [em] at CF hmk ⊢
  clear em
  have CK : Hid (∀ W u vb, W.ownsRow base 9 1 u p.keys.length (Pa.strs p.keys) → Blk W vb 9 #[.string k] → u.ownBlock ≠ some vb → base ≤ W.heap.size → Calls Tryz.prog 73 #[u, .int .i64 m, .slice (some ⟨vb, 0, none⟩) 1 1] W fun e w' => ∃ v', e = .returned v' ∧ w'.ownsRow base 9 1 v' (p.keys.take m ++ [k] ++ p.keys.drop m).length (Pa.strs (p.keys.take m ++ [k] ++ p.keys.drop m)) ∧ W.grownBy w' u.ownBlock ∧ (v'.ownBlock = u.ownBlock ∨ v'.ownBlock = some W.heap.size)) := fun W u vb g1 g2 g3 g4 => insT base m vb u p.keys k W g1 hmk hn g2 g3 g4
  have CV : Hid (∀ W u vb, W.ownsRow base 9 1 u p.vals.length (Pa.strs p.vals) → Blk W vb 9 #[.string x] → u.ownBlock ≠ some vb → base ≤ W.heap.size → Calls Tryz.prog 73 #[u, .int .i64 m, .slice (some ⟨vb, 0, none⟩) 1 1] W fun e w' => ∃ v', e = .returned v' ∧ w'.ownsRow base 9 1 v' (p.vals.take m ++ [x] ++ p.vals.drop m).length (Pa.strs (p.vals.take m ++ [x] ++ p.vals.drop m)) ∧ W.grownBy w' u.ownBlock ∧ (v'.ownBlock = u.ownBlock ∨ v'.ownBlock = some W.heap.size)) := fun W u vb g1 g2 g3 g4 => insT base m vb u p.vals x W g1 (by omega) (by omega) g2 g3 g4
  clear hl hmk
  generalize p.keys.take m ++ [k] ++ p.keys.drop m = K2 at *
  generalize p.vals.take m ++ [x] ++ p.vals.drop m = V2 at *
  have G0 : Hid (w.grownBy ((w.alloc (.cells #[.bool p.leaf, .slice pa p.keys.length ca, .slice pb p.vals.length cb, .slice pc p.kids.length cc] 70)).alloc (.cells #[.bool false, .slice none 0 0, .slice none 0 0, .slice none 0 0] 70)) none) := grown_alloc (grown_alloc (grown_refl w none) _) _
  have BX : Hid (Blk ((w.alloc (.cells #[.bool p.leaf, .slice pa p.keys.length ca, .slice pb p.vals.length cb, .slice pc p.kids.length cc] 70)).alloc (.cells #[.bool false, .slice none 0 0, .slice none 0 0, .slice none 0 0] 70)) w.heap.size 70 #[.bool p.leaf, .slice pa p.keys.length ca, .slice pb p.vals.length cb, .slice pc p.kids.length cc]) := (Blk.new w 70 _).alloc _
  have BR : Hid (Blk ((w.alloc (.cells #[.bool p.leaf, .slice pa p.keys.length ca, .slice pb p.vals.length cb, .slice pc p.kids.length cc] 70)).alloc (.cells #[.bool false, .slice none 0 0, .slice none 0 0, .slice none 0 0] 70)) (w.heap.size + 1) 70 #[.bool false, .slice none 0 0, .slice none 0 0, .slice none 0 0]) := (by
    have := Blk.new (w.alloc (.cells #[.bool p.leaf, .slice pa p.keys.length ca, .slice pb p.vals.length cb, .slice pc p.kids.length cc] 70)) 70 #[.bool false, .slice none 0 0, .slice none 0 0, .slice none 0 0]
    rw [World.size_alloc] at this
    exact this)
  obtain ⟨P, hP⟩ : ∃ P : Ending → World → Prop, P = fun e w' => ∃ v', e = .returned v' ∧ Pa.PgO w' base v' { p with keys := K2, vals := V2 } ∧ PT base w w' := ⟨_, rfl⟩
  rw [← hP]
  have HP := hid (And.intro hP trivial)
  clear hP
  go_enter Tryz.func51, Tryz.ntmps51
  go_wp2_with (first
    | (go_at_call 43; refine (CF.out _ G0.out).mono ?_; rintro e w1 ⟨rfl, g1⟩; have G1 := hid (grown_none G0.out g1); have X1 := hid (BX.out.kept g1 (by simp)); have R1 := hid (BR.out.kept g1 (by simp)); have x0 := X1.out.cell 0; have x1 := X1.out.cell 1; have x2 := X1.out.cell 2; have x3 := X1.out.cell 3; have z1 : ∀ o : Obj, (w1.alloc o).cell? ⟨w.heap.size, 1, none⟩ = some (.slice pa p.keys.length ca) := (fun o => (X1.out.alloc o).cell 1); simp at x0 x1 x2 x3; clear g1 CF))
  have hw1 : w.heap.size + 1 < w1.heap.size := R1.out.lt
  have N1 : Hid (∀ (e : TypeId) (a : Value) (n : Nat) (xs : List Value), w.ownsRow base e 1 a n xs → ∀ g, w.heap.size ≤ g → a.ownBlock ≠ some g) := fun e a n xs h g hg e => by have := (h.lt g e).2; omega
  refine (CK.out _ _ _ (row_none O1.out (grown_alloc G1.out _)) (Blk.new w1 9 _) (N1.out _ _ _ _ O1.out _ (by omega)) (by rw [World.size_alloc]; omega)).mono ?_
  rintro e w2 ⟨u1, rfl, ho2, hg2, hx2⟩
  obtain ⟨qa, da, rfl⟩ := Pa.owns_slice ho2
  have A2 := hid ho2
  have B2 := hid (row_far (row_none O2.out (grown_alloc G1.out (.cells #[.string k] 9))) (far_symm FF.out) hg2)
  have D2 := hid (row_type (row_none O3.out (grown_alloc G1.out (.cells #[.string k] 9))) (row_none O1.out (grown_alloc G1.out (.cells #[.string k] 9))) (by decide) hg2)
  have X2 := hid (blk_row (X1.out.alloc (.cells #[.string k] 9)) (row_none O1.out (grown_alloc G1.out (.cells #[.string k] 9))) (by decide) hg2)
  have R2 := hid (blk_row (R1.out.alloc (.cells #[.string k] 9)) (row_none O1.out (grown_alloc G1.out (.cells #[.string k] 9))) (by decide) hg2)
  have P2 := hid ((PT.of_none (base := base) (grown_alloc G1.out (.cells #[.string k] 9))).trans (PT.of_own (row_none O1.out (grown_alloc G1.out (.cells #[.string k] 9))) (Or.inl rfl) hg2))
  have HX2 := hid hx2
  have hs2 : Hid (w1.heap.size + 1 ≤ w2.heap.size) := by have := hg2.size; rw [World.size_alloc] at this; exact this
  clear ho2 hg2 hx2 x0 x1 x2 x3 z1 CK
  have x1 := X2.out.cell 1
  have f1 := X2.out.frozen 1
  simp at x1
  have X3 := hid (X2.out.set 1 (.slice qa K2.length da))
  have GS : Hid (w2.grownBy (w2.setCell ⟨w.heap.size, 1, none⟩ (.slice qa K2.length da)) (some w.heap.size)) := grown_set (grown_refl _ _) 1 _
  have x2 : (w2.setCell ⟨w.heap.size, 1, none⟩ (.slice qa K2.length da)).cell? ⟨w.heap.size, 2, none⟩ = some (.slice pb p.vals.length cb) := X3.out.cell 2
  go_wp2_with fail
  have hz3 : (w2.setCell ⟨w.heap.size, 1, none⟩ (.slice qa K2.length da)).heap.size = w2.heap.size := by simp [World.setCell]
  have hs2' := hs2.out
  have A3 := hid (rowG_kept A2.out X2.out (by decide) GS.out)
  have B3 := hid (rowG_kept B2.out X2.out (by decide) GS.out)
  have D3 := hid (rowG_kept D2.out X2.out (by decide) GS.out)
  have R3 := hid (R2.out.other (a := ⟨w.heap.size, 1, none⟩) (.slice qa K2.length da) (by show w.heap.size + 1 ≠ w.heap.size; omega))
  have P3 := hid (P2.out.through GS.out (Nat.le_refl _))
  generalize (w2.setCell ⟨w.heap.size, 1, none⟩ (.slice qa K2.length da)) = w3 at *
  clear A2 B2 D2 X2 R2 P2 GS x1 f1
  have BN := hid (Blk.new w3 9 #[.string x])
  rw [hz3] at BN
  refine (CV.out _ _ _ (B3.out.alloc _) BN.out (N1.out _ _ _ _ O2.out _ (by omega)) (by rw [World.size_alloc]; omega)).mono ?_
  rintro e w4 ⟨u2, rfl, ho4, hg4, hx4⟩
  obtain ⟨qb, db, rfl⟩ := Pa.owns_slice ho4
  have FA : Hid (Pa.Far (.slice qa K2.length da) (.slice pb p.vals.length cb)) := fun y e1 e2 => by
    rcases HX2.out with h | h
    · exact FF.out y (by rw [← h]; exact e1) e2
    · rw [h, World.size_alloc] at e1
      have := (O2.out.lt y e2).2
      have := Option.some.inj e1
      omega
  have B4 := hid ho4
  have A4 := hid (row_far (A3.out.alloc (.cells #[.string x] 9)) FA.out hg4)
  have D4 := hid (row_type (D3.out.alloc (.cells #[.string x] 9)) (B3.out.alloc (.cells #[.string x] 9)) (by decide) hg4)
  have X4 := hid (blk_row (X3.out.alloc (.cells #[.string x] 9)) (B3.out.alloc (.cells #[.string x] 9)) (by decide) hg4)
  have R4 := hid (blk_row (R3.out.alloc (.cells #[.string x] 9)) (B3.out.alloc (.cells #[.string x] 9)) (by decide) hg4)
  have P4 := hid ((P3.out.new (grown_alloc (grown_refl _ _) (.cells #[.string x] 9))).trans (PT.of_own (B3.out.alloc (.cells #[.string x] 9)) (Or.inl rfl) hg4))
  have F4 : Hid (Pa.Far (.slice qa K2.length da) (.slice qb V2.length db)) := fun y e1 e2 => by
    rcases hx4 with h | h
    · exact FA.out y e1 (by rw [← h]; exact e2)
    · rw [h, World.size_alloc, hz3] at e2
      have h2 := Option.some.inj e2
      have := (A3.out.lt y e1).2
      rw [hz3] at this
      omega
  clear ho4 hg4 hx4 CV A3 B3 D3 R3 P3 x2 HX2 FA BN X3
  have x0 := X4.out.cell 0
  have x1 := X4.out.cell 1
  have x2 := X4.out.cell 2
  have x3 := X4.out.cell 3
  have f2 := X4.out.frozen 2
  simp at x0 x1 x2 x3
  have X5 := hid (X4.out.set 2 (.slice qb V2.length db))
  have GS : Hid (w4.grownBy (w4.setCell ⟨w.heap.size, 2, none⟩ (.slice qb V2.length db)) (some w.heap.size)) := grown_set (grown_refl _ _) 2 _
  have R5 := hid (R4.out.other (a := ⟨w.heap.size, 2, none⟩) (.slice qb V2.length db) (by show w.heap.size + 1 ≠ w.heap.size; omega))
  go_wp2_with (refine Pa.q_is_store 70 (.tmp 6) (.tmp 36) rfl ?_; refine Pa.store_pg 70 Pa.size25 (w.heap.size + 1) R5.out _ _ rfl rfl rfl rfl ?_; intro w5 hb5 hg5; have B5 := hid hb5; have G5 := hid hg5; clear hb5 hg5)
  refine bodyPost_ret (Pa.results_pg Tryz.results51 _ _ (w.heap.size + 1) rfl B5.out) rfl ?_
  rw [HP.out.1]
  have far5 : ∀ (e : TypeId) (a : Value) (n : Nat) (xs : List Value), e ≠ 70 → w4.ownsRow base e 1 a n xs → w5.ownsRow base e 1 a n xs := fun e a n xs he h => rowG_kept (rowG_kept h X4.out (fun q => he q.symm) GS.out) R5.out (fun q => he q.symm) G5.out
  exact ⟨_, rfl, ⟨_, _, _, rfl, F4.out, far5 _ _ _ _ (by decide) A4.out, far5 _ _ _ _ (by decide) B4.out, far5 _ _ _ _ (by decide) D4.out⟩, (P4.out.through GS.out (Nat.le_refl _)).through G5.out (Nat.le_succ _)⟩
end Go.Proofs.YtbhmmcelndmijaaGreat
