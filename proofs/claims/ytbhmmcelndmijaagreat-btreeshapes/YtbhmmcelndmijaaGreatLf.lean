/-
  A leaf with a key's value: leafWith.
-/
import Derived.Test.YtbhmmcelndmijaaGreatKTr3
import Derived.Test.YtbhmmcelndmijaaGreatSli
namespace Go.Proofs.YtbhmmcelndmijaaGreat
open Go.RowKit Go.Maps
/-- What a change of pages of one's own may turn: rows of texts and of numbers from base on. -/
structure PT (base : Nat) (w w' : World) : Prop where
  os : w'.os = w.os
  tape : w'.tape = w.tape
  output : w'.output = w.output
  size : w.heap.size ≤ w'.heap.size
  keep : ∀ i, i < w.heap.size → (i < base ∨ ∀ cs t fz, w.heap[i]? = some (.cells cs t fz) → t ≠ 9 ∧ t ≠ 3) → w'.heap[i]? = w.heap[i]?
theorem PT.of_none {base : Nat} {w w' : World} (h : w.grownBy w' none) : PT base w w' := ⟨h.os, h.tape, h.output, h.size, fun i hi _ => h.block i hi (by simp)⟩
theorem PT.refl (base : Nat) (w : World) : PT base w w := PT.of_none (grown_refl _ _)
theorem PT.trans {base : Nat} {w w' w'' : World} (h : PT base w w') (k : PT base w' w'') : PT base w w'' :=
  ⟨k.os.trans h.os, k.tape.trans h.tape, k.output.trans h.output, Nat.le_trans h.size k.size, fun i hi hs => by
    have e := h.keep i hi hs
    refine (k.keep i (Nat.lt_of_lt_of_le hi h.size) ?_).trans e
    rcases hs with hs | hc
    · exact Or.inl hs
    · exact Or.inr (fun cs t fz hq => hc cs t fz (by rw [← e]; exact hq))⟩
theorem PT.of_own {base n : Nat} {t : TypeId} {v : Value} {xs : List Value} {w w' : World} (h : w.ownsRow base t 1 v n xs) (ht : t = 9 ∨ t = 3) (hg : w.grownBy w' v.ownBlock) : PT base w w' :=
  ⟨hg.os, hg.tape, hg.output, hg.size, fun i hi hs => hg.block i hi (fun e => by
    rcases h.2 with ⟨rfl, _⟩ | ⟨g, cap, cur, rfl, hb, hh, _⟩
    · cases e
    · have e' : i = g := Option.some.inj e
      subst e'
      rcases hs with hs | hc
      · omega
      · have := hc cur t (0, 0) hh
        rcases ht with rfl | rfl
        · exact this.1 rfl
        · exact this.2 rfl)⟩
theorem PT.mono {base base' : Nat} {w w' : World} (h : PT base w w') (hb : base' ≤ base) : PT base' w w' :=
  ⟨h.os, h.tape, h.output, h.size, fun i hi hs => h.keep i hi (by
    rcases hs with hs | hs
    · exact Or.inl (by omega)
    · exact Or.inr hs)⟩
/-- What is new is one's own. -/
theorem PT.new {base : Nat} {w w' w'' : World} (h : PT base w w') (hw : w'.grownBy w'' none) : PT base w w'' := h.trans (PT.of_none hw)
/-- A row of cells of other types stays. -/
theorem PT.blk {base g : Nat} {t : TypeId} {cs : Array Value} {w w' : World} (h : PT base w w') (hb : Blk w g t cs) (ht : t ≠ 9 ∧ t ≠ 3) : Blk w' g t cs := by
  have hh : w.heap[g]? = some (.cells cs t (0, 0)) := hb
  exact (h.keep g hb.lt (Or.inr (fun cs' t' fz e => by rw [hh] at e; cases e; exact ht))).trans hb
/-- What is new to us may be turned. -/
theorem PT.through {base k : Nat} {w w' w'' : World} (h : PT base w w') (g : w'.grownBy w'' (some k)) (hk : w.heap.size ≤ k) : PT base w w'' :=
  ⟨g.os.trans h.os, g.tape.trans h.tape, g.output.trans h.output, Nat.le_trans h.size g.size, fun i hi hs => (g.block i (Nat.lt_of_lt_of_le hi h.size) (by simp; omega)).trans (h.keep i hi hs)⟩
/-- A row that lies apart stays. -/
theorem row_far {w w' : World} {base e n : Nat} {a b : Value} {xs : List Value} (h : w.ownsRow base e 1 a n xs) (hf : Pa.Far a b) (hg : w.grownBy w' b.ownBlock) : w'.ownsRow base e 1 a n xs :=
  World.ownsRow.kept h hg (by
    cases hq : a.ownBlock with
    | none => exact Or.inl rfl
    | some y => exact Or.inr (fun e => hf y hq e.symm))
/-- A row of cells of another type stays. -/
theorem row_type {w w' : World} {base base' e e' n n' : Nat} {a b : Value} {xs ys : List Value} (h : w.ownsRow base e 1 a n xs) (h' : w.ownsRow base' e' 1 b n' ys) (ht : e ≠ e') (hg : w.grownBy w' b.ownBlock) : w'.ownsRow base e 1 a n xs :=
  row_far h (fun y h1 h2 => by
    rcases h.2 with ⟨rfl, _⟩ | ⟨g, cap, cur, rfl, _, hh, _⟩
    · cases h1
    · rcases h'.2 with ⟨rfl, _⟩ | ⟨g', cap', cur', rfl, _, hh', _⟩
      · cases h2
      · have e1 : g = y := Option.some.inj h1
        have e2 : g' = y := Option.some.inj h2
        subst e1
        subst e2
        rw [hh] at hh'
        cases hh'
        exact ht rfl) hg
def leafP (p : Pa.Pg) (k x : ByteArray) : Pa.Pg :=
  if Pa.findIs p.keys k then { p with vals := p.vals.set (Pa.findN p.keys k) x }
  else { p with keys := p.keys.take (Pa.findN p.keys k) ++ [k] ++ p.keys.drop (Pa.findN p.keys k), vals := p.vals.take (Pa.findN p.keys k) ++ [x] ++ p.vals.drop (Pa.findN p.keys k) }
theorem own_lt {w : World} {base n : Nat} {t : TypeId} {v : Value} {xs : List Value} (h : w.ownsRow base t 1 v n xs) {g : Nat} (e : v.ownBlock = some g) : base ≤ g ∧ g < w.heap.size := h.lt g e
set_option maxRecDepth 100000 in
set_option maxHeartbeats 2000000 in
theorem leafWith_is (base : Nat) (v : Value) (p : Pa.Pg) (k x : ByteArray) (w : World) (h : Pa.PgO w base v p) (hl : p.vals.length = p.keys.length) (hn : p.keys.length ≤ 1000) (hk : p.kids.length ≤ 1000) (his : Pa.findIs p.keys k = true) (hlt : Pa.findN p.keys k < p.keys.length) :
    Calls Tryz.prog 51 #[v, .string k, .string x] w fun e w' => ∃ v', e = .returned v' ∧ Pa.PgO w' base v' (leafP p k x) ∧ PT base w w' := by
  have eP : leafP p k x = { p with vals := p.vals.set (Pa.findN p.keys k) x } := by unfold leafP; rw [if_pos his]
  rw [eP]
  have CF : Hid (∀ W, w.grownBy W none → Calls Tryz.prog 43 #[v, .string k] W fun e w' => e = .returned (.tuple #[.int .i64 (Pa.findN p.keys k), .bool true]) ∧ W.grownBy w' none) := fun W hW => by
    have := Pa.find_any v p k W (h.pgV.kept hW) ⟨by omega, by omega, by omega⟩
    rwa [his] at this
  obtain ⟨a, b, c, rfl, hf, h1, h2, h3⟩ := h
  obtain ⟨pa, ca, rfl⟩ := Pa.owns_slice h1
  obtain ⟨pc, cc, rfl⟩ := Pa.owns_slice h3
  rcases Sl.owns_cases h2 with ⟨_, h0, _⟩ | ⟨g, cap, cur, rfl, hg, hB, hnc, hcm, hs, hx, hxl⟩
  · omega
  have O1 := hid h1
  have O2 := hid h2
  have O3 := hid h3
  have FF := hid hf
  have hgw := hB.lt
  have BG := hid hB
  clear h1 h2 h3 hB his eP
  obtain ⟨m, em⟩ : ∃ m, Pa.findN p.keys k = m := ⟨_, rfl⟩
  rw [em] at CF hlt ⊢
  clear em
  have m0 : (0 : Int) ≤ m := by omega
  have m1 : (m : Int) < p.vals.length := by omega
  have hml : m < p.vals.length := by omega
  have c2 : (Pa.strs p.vals)[m]? = some (.string p.vals[m]) := by unfold Pa.strs; rw [List.getElem?_map, List.getElem?_eq_getElem hml]; rfl
  have G0 : Hid (w.grownBy ((w.alloc (.cells #[.bool p.leaf, .slice pa p.keys.length ca, .slice (some ⟨g, 0, none⟩) p.vals.length cap, .slice pc p.kids.length cc] 70)).alloc (.cells #[.bool false, .slice none 0 0, .slice none 0 0, .slice none 0 0] 70)) none) := grown_alloc (grown_alloc (grown_refl w none) _) _
  have BX : Hid (Blk ((w.alloc (.cells #[.bool p.leaf, .slice pa p.keys.length ca, .slice (some ⟨g, 0, none⟩) p.vals.length cap, .slice pc p.kids.length cc] 70)).alloc (.cells #[.bool false, .slice none 0 0, .slice none 0 0, .slice none 0 0] 70)) w.heap.size 70 #[.bool p.leaf, .slice pa p.keys.length ca, .slice (some ⟨g, 0, none⟩) p.vals.length cap, .slice pc p.kids.length cc]) := (Blk.new w 70 _).alloc _
  have BR : Hid (Blk ((w.alloc (.cells #[.bool p.leaf, .slice pa p.keys.length ca, .slice (some ⟨g, 0, none⟩) p.vals.length cap, .slice pc p.kids.length cc] 70)).alloc (.cells #[.bool false, .slice none 0 0, .slice none 0 0, .slice none 0 0] 70)) (w.heap.size + 1) 70 #[.bool false, .slice none 0 0, .slice none 0 0, .slice none 0 0]) := (by
    have := Blk.new (w.alloc (.cells #[.bool p.leaf, .slice pa p.keys.length ca, .slice (some ⟨g, 0, none⟩) p.vals.length cap, .slice pc p.kids.length cc] 70)) 70 #[.bool false, .slice none 0 0, .slice none 0 0, .slice none 0 0]
    rw [World.size_alloc] at this
    exact this)
  have C2 := hid c2
  clear c2 hs hx hxl hnc hcm hl
  go_enter Tryz.func51, Tryz.ntmps51
  go_wp2_with (first
    | (go_at_call 43; refine (CF.out _ G0.out).mono ?_; rintro e w1 ⟨rfl, g1⟩; have G1 := hid (grown_none G0.out g1); have X1 := hid (BX.out.kept g1 (by simp)); have R1 := hid (BR.out.kept g1 (by simp)); have x0 := X1.out.cell 0; have x1 := X1.out.cell 1; have x2 := X1.out.cell 2; have x3 := X1.out.cell 3; have y2 : w1.cell? ⟨g, m, none⟩ = some (.string p.vals[m]) := ((row_none O2.out G1.out).cellAt m (by omega)).trans C2.out; have f2 : w1.frozen? ⟨g, m, none⟩ = false := (row_none O2.out G1.out).frozenAt m; simp at x0 x1 x2 x3; clear g1 CF)
    | (refine Pa.q_is_store 70 (.tmp 6) (.tmp 21) rfl ?_; refine Pa.store_pg 70 Pa.size25 (w.heap.size + 1) (R1.out.other (a := ⟨g, m, none⟩) (.string x) (by show w.heap.size + 1 ≠ g; omega)) _ _ rfl rfl rfl rfl ?_; intro w5 hb5 hg5; have B5 := hid hb5; have G5 := hid hg5; clear hb5 hg5))
  have K1 : (w1.setCell ⟨g, m, none⟩ (.string x)).ownsRow base 9 1 (.slice (some ⟨g, 0, none⟩) p.vals.length cap) p.vals.length (Pa.strs (p.vals.set m x)) := by
    have := ((row_none O2.out G1.out).stored m (.string x)).1
    unfold Pa.strs at this ⊢
    rw [← List.map_set] at this
    exact this
  have GS : w1.grownBy (w1.setCell ⟨g, m, none⟩ (.string x)) (some g) := grown_set (grown_refl _ _) m _
  have hsz : w1.heap.size = (w1.setCell ⟨g, m, none⟩ (.string x)).heap.size := by simp [World.setCell]
  have A1 := row_far (b := .slice (some ⟨g, 0, none⟩) p.vals.length cap) (row_none O1.out G1.out) FF.out GS
  have A3 := row_type (row_none O3.out G1.out) (row_none O2.out G1.out) (by decide) GS
  have P1 : PT base w (w1.setCell ⟨g, m, none⟩ (.string x)) := (PT.of_none G1.out).trans (PT.of_own (row_none O2.out G1.out) (Or.inl rfl) GS)
  have hb0 : base ≤ w.heap.size := Nat.le_trans hg (Nat.le_of_lt hgw)
  refine bodyPost_ret (Pa.results_pg Tryz.results51 _ _ (w.heap.size + 1) rfl B5.out) rfl ?_
  have far5 : ∀ (e : TypeId) (a : Value) (n : Nat) (xs : List Value), w.ownsRow base e 1 a n xs → ∀ ys, (w1.setCell ⟨g, m, none⟩ (.string x)).ownsRow base e 1 a n ys → w5.ownsRow base e 1 a n ys := fun e a n xs h ys h' =>
    World.ownsRow.kept h' G5.out (by
      cases hq : a.ownBlock with
      | none => exact Or.inl rfl
      | some y => exact Or.inr (fun e => by have := (h.lt y hq).2; have := Option.some.inj e; omega))
  refine ⟨_, rfl, ⟨_, _, _, rfl, FF.out, far5 _ _ _ _ O1.out _ A1, ?_, far5 _ _ _ _ O3.out _ A3⟩, P1.through G5.out (Nat.le_succ _)⟩
  show w5.ownsRow base 9 1 _ (p.vals.set m x).length _
  rw [List.length_set]
  exact far5 _ _ _ _ O2.out _ K1
end Go.Proofs.YtbhmmcelndmijaaGreat
