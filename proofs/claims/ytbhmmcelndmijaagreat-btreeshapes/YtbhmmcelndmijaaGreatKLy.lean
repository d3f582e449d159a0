/-
  A leaf with a key that was not there: leafWith. Parts of rows; a page, a value and a page that are given back. A page is laid: lay, where it is not cut.
-/
import Derived.Test.YtbhmmcelndmijaaGreatLf
import Derived.Test.YtbhmmcelndmijaaGreatKTr3
namespace Go.Proofs.YtbhmmcelndmijaaGreat
open Go.RowKit Go.Maps
theorem far_symm {a b : Value} (h : Pa.Far a b) : Pa.Far b a := fun g h1 h2 => h g h2 h1
theorem strs_ins (l : List ByteArray) (i : Nat) (k : ByteArray) : (Pa.strs l).take i ++ [Value.string k] ++ (Pa.strs l).drop i = Pa.strs (l.take i ++ [k] ++ l.drop i) := by
  unfold Pa.strs
  rw [List.map_append, List.map_append, List.map_take, List.map_drop]
  rfl
theorem strs_len (l : List ByteArray) : (Pa.strs l).length = l.length := List.length_map ..
theorem ints_len (l : List Int) : (Pa.ints l).length = l.length := List.length_map ..
/-- A text put into a row of texts of one's own. -/
theorem insT (base i vb : Nat) (v : Value) (l : List ByteArray) (k : ByteArray) (w : World) (h : w.ownsRow base 9 1 v l.length (Pa.strs l)) (hi : i ≤ l.length) (hl : l.length ≤ 1000) (hu : Blk w vb 9 #[.string k]) (hne : v.ownBlock ≠ some vb) (hb : base ≤ w.heap.size) :
    Calls Tryz.prog 73 #[v, .int .i64 i, .slice (some ⟨vb, 0, none⟩) 1 1] w fun e w' => ∃ v', e = .returned v' ∧ w'.ownsRow base 9 1 v' (l.take i ++ [k] ++ l.drop i).length (Pa.strs (l.take i ++ [k] ++ l.drop i)) ∧ w.grownBy w' v.ownBlock ∧ (v'.ownBlock = v.ownBlock ∨ v'.ownBlock = some w.heap.size) := by
  have C := Sl.insstring_any base i vb v (Pa.strs l) [.string k] w (by rw [strs_len]; exact h) (Sl.str_one l) (by rw [strs_len]; exact hi) (by rw [strs_len]; omega) hu (fun u hu => by simp at hu; subst hu; rfl) (Nat.lt_succ_self 0) (by show 1 ≤ 1000000; decide) 1 hne hb
  refine C.mono fun e w' ⟨v', he, ho, hg, hx⟩ => ⟨v', he, ?_, hg, hx⟩
  rw [strs_ins, strs_len] at ho
  exact ho
set_option maxRecDepth 100000 in
set_option maxHeartbeats 2000000 in
theorem leafWith_no (base : Nat) (v : Value) (p : Pa.Pg) (k x : ByteArray) (w : World) (h : Pa.PgO w base v p) (hl : p.vals.length = p.keys.length) (hn : p.keys.length ≤ 1000) (hk : p.kids.length ≤ 1000) (his : Pa.findIs p.keys k = false) (hb : base ≤ w.heap.size) :
    Calls Tryz.prog 51 #[v, .string k, .string x] w fun e w' => ∃ v', e = .returned v' ∧ Pa.PgO w' base v' (leafP p k x) ∧ PT base w w' := by
  have eP : leafP p k x = { p with keys := p.keys.take (Pa.findN p.keys k) ++ [k] ++ p.keys.drop (Pa.findN p.keys k), vals := p.vals.take (Pa.findN p.keys k) ++ [x] ++ p.vals.drop (Pa.findN p.keys k) } := by unfold leafP; rw [if_neg (by rw [his]; decide)]
  rw [eP]
  have CF : Hid (∀ W, w.grownBy W none → Calls Tryz.prog 43 #[v, .string k] W fun e w' => e = .returned (.tuple #[.int .i64 (Pa.findN p.keys k), .bool false]) ∧ W.grownBy w' none) := fun W hW => by
    have := Pa.find_any v p k W (h.pgV.kept hW) ⟨by omega, by omega, by omega⟩
    rwa [his] at this
  obtain ⟨a, b, c, rfl, hf, h1, h2, h3⟩ := h
  obtain ⟨pa, ca, rfl⟩ := Pa.owns_slice h1
  obtain ⟨pb, cb, rfl⟩ := Pa.owns_slice h2
  obtain ⟨pc, cc, rfl⟩ := Pa.owns_slice h3
  have O1 := hid h1
  have O2 := hid h2
  have O3 := hid h3
  have FF := hid hf
  have hmk := Pa.findN_le p.keys k
  clear h1 h2 h3 his eP hf
  obtain ⟨m, em⟩ : ∃ m, Pa.findN p.keys k = m := ⟨_, rfl⟩
  rw [em] at CF hmk ⊢
  clear em
  have CK : Hid (∀ W u vb, W.ownsRow base 9 1 u p.keys.length (Pa.strs p.keys) → Blk W vb 9 #[.string k] → u.ownBlock ≠ some vb → base ≤ W.heap.size → Calls Tryz.prog 73 #[u, .int .i64 m, .slice (some ⟨vb, 0, none⟩) 1 1] W fun e w' => ∃ v', e = .returned v' ∧ w'.ownsRow base 9 1 v' (p.keys.take m ++ [k] ++ p.keys.drop m).length (Pa.strs (p.keys.take m ++ [k] ++ p.keys.drop m)) ∧ W.grownBy w' u.ownBlock ∧ (v'.ownBlock = u.ownBlock ∨ v'.ownBlock = some W.heap.size)) := fun W u vb g1 g2 g3 g4 => insT base m vb u p.keys k W g1 hmk hn g2 g3 g4
  have CV : Hid (∀ W u vb, W.ownsRow base 9 1 u p.vals.length (Pa.strs p.vals) → Blk W vb 9 #[.string x] → u.ownBlock ≠ some vb → base ≤ W.heap.size → Calls Tryz.prog 73 #[u, .int .i64 m, .slice (some ⟨vb, 0, none⟩) 1 1] W fun e w' => ∃ v', e = .returned v' ∧ w'.ownsRow base 9 1 v' (p.vals.take m ++ [x] ++ p.vals.drop m).length (Pa.strs (p.vals.take m ++ [x] ++ p.vals.drop m)) ∧ W.grownBy w' u.ownBlock ∧ (v'.ownBlock = u.ownBlock ∨ v'.ownBlock = some W.heap.size)) := fun W u vb g1 g2 g3 g4 => insT base m vb u p.vals x W g1 (by omega) (by omega) g2 g3 g4
  clear hl hmk
  generalize p.keys.take m ++ [k] ++ p.keys.drop m = K2 at *
  generalize p.vals.take m ++ [x] ++ p.vals.drop m = V2 at *
  have G0 : Hid (w.grownBy ((w.alloc (.cells #[.bool p.leaf, .slice pa p.keys.length ca, .slice pb p.vals.length cb, .slice pc p.kids.length cc] 70)).alloc (.cells #[.bool false, .slice none 0 0, .slice none 0 0, .slice none 0 0] 70)) none) := grown_alloc (grown_alloc (grown_refl w none) _) _
  have BX : Hid (Blk ((w.alloc (.cells #[.bool p.leaf, .slice pa p.keys.length ca, .slice pb p.vals.length cb, .slice pc p.kids.length cc] 70)).alloc (.cells #[.bool false, .slice none 0 0, .slice none 0 0, .slice none 0 0] 70)) w.heap.size 70 #[.bool p.leaf, .slice pa p.keys.length ca, .slice pb p.vals.length cb, .slice pc p.kids.length cc]) := (Blk.new w 70 _).alloc _
  have BR : Hid (Blk ((w.alloc (.cells #[.bool p.leaf, .slice pa p.keys.length ca, .slice pb p.vals.length cb, .slice pc p.kids.length cc] 70)).alloc (.cells #[.bool false, .slice none 0 0, .slice none 0 0, .slice none 0 0] 70)) (w.heap.size + 1) 70 #[.bool false, .slice none 0 0, .slice none 0 0, .slice none 0 0]) := (by
    have := Blk.new (w.alloc (.cells #[.bool p.leaf, .slice pa p.keys.length ca, .slice pb p.vals.length cb, .slice pc p.kids.length cc] 70)) 70 #[.bool false, .slice none 0 0, .slice none 0 0, .slice none 0 0]
    rw [World.size_alloc] at this
    exact this)
  obtain ⟨P, hP⟩ : ∃ P : Ending → World → Prop, P = fun e w' => ∃ v', e = .returned v' ∧ Pa.PgO w' base v' { p with keys := K2, vals := V2 } ∧ PT base w w' := ⟨_, rfl⟩
  rw [← hP]
  have HP := hid (And.intro hP trivial)
  clear hP
  go_enter Tryz.func51, Tryz.ntmps51
  go_wp2_with (first
    | (go_at_call 43; refine (CF.out _ G0.out).mono ?_; rintro e w1 ⟨rfl, g1⟩; have G1 := hid (grown_none G0.out g1); have X1 := hid (BX.out.kept g1 (by simp)); have R1 := hid (BR.out.kept g1 (by simp)); have x0 := X1.out.cell 0; have x1 := X1.out.cell 1; have x2 := X1.out.cell 2; have x3 := X1.out.cell 3; have z1 : ∀ o : Obj, (w1.alloc o).cell? ⟨w.heap.size, 1, none⟩ = some (.slice pa p.keys.length ca) := (fun o => (X1.out.alloc o).cell 1); simp at x0 x1 x2 x3; clear g1 CF))
  have hw1 : w.heap.size + 1 < w1.heap.size := R1.out.lt
  have N1 : Hid (∀ (e : TypeId) (a : Value) (n : Nat) (xs : List Value), w.ownsRow base e 1 a n xs → ∀ g, w.heap.size ≤ g → a.ownBlock ≠ some g) := fun e a n xs h g hg e => by have := (h.lt g e).2; omega
  refine (CK.out _ _ _ (row_none O1.out (grown_alloc G1.out _)) (Blk.new w1 9 _) (N1.out _ _ _ _ O1.out _ (by omega)) (by rw [World.size_alloc]; omega)).mono ?_
  rintro e w2 ⟨u1, rfl, ho2, hg2, hx2⟩
  obtain ⟨qa, da, rfl⟩ := Pa.owns_slice ho2
  have A2 := hid ho2
  have B2 := hid (row_far (row_none O2.out (grown_alloc G1.out (.cells #[.string k] 9))) (far_symm FF.out) hg2)
  have D2 := hid (row_type (row_none O3.out (grown_alloc G1.out (.cells #[.string k] 9))) (row_none O1.out (grown_alloc G1.out (.cells #[.string k] 9))) (by decide) hg2)
  have X2 := hid (blk_row (X1.out.alloc (.cells #[.string k] 9)) (row_none O1.out (grown_alloc G1.out (.cells #[.string k] 9))) (by decide) hg2)
  have R2 := hid (blk_row (R1.out.alloc (.cells #[.string k] 9)) (row_none O1.out (grown_alloc G1.out (.cells #[.string k] 9))) (by decide) hg2)
  have P2 := hid ((PT.of_none (base := base) (grown_alloc G1.out (.cells #[.string k] 9))).trans (PT.of_own (row_none O1.out (grown_alloc G1.out (.cells #[.string k] 9))) (Or.inl rfl) hg2))
  have HX2 := hid hx2
  have hs2 : Hid (w1.heap.size + 1 ≤ w2.heap.size) := by have := hg2.size; rw [World.size_alloc] at this; exact this
  clear ho2 hg2 hx2 x0 x1 x2 x3 z1 CK
  have x1 := X2.out.cell 1
  have f1 := X2.out.frozen 1
  simp at x1
  have X3 := hid (X2.out.set 1 (.slice qa K2.length da))
  have GS : Hid (w2.grownBy (w2.setCell ⟨w.heap.size, 1, none⟩ (.slice qa K2.length da)) (some w.heap.size)) := grown_set (grown_refl _ _) 1 _
  have x2 : (w2.setCell ⟨w.heap.size, 1, none⟩ (.slice qa K2.length da)).cell? ⟨w.heap.size, 2, none⟩ = some (.slice pb p.vals.length cb) := X3.out.cell 2
  go_wp2_with fail
  have hz3 : (w2.setCell ⟨w.heap.size, 1, none⟩ (.slice qa K2.length da)).heap.size = w2.heap.size := by simp [World.setCell]
  have hs2' := hs2.out
  have A3 := hid (rowG_kept A2.out X2.out (by decide) GS.out)
  have B3 := hid (rowG_kept B2.out X2.out (by decide) GS.out)
  have D3 := hid (rowG_kept D2.out X2.out (by decide) GS.out)
  have R3 := hid (R2.out.other (a := ⟨w.heap.size, 1, none⟩) (.slice qa K2.length da) (by show w.heap.size + 1 ≠ w.heap.size; omega))
  have P3 := hid (P2.out.through GS.out (Nat.le_refl _))
  generalize (w2.setCell ⟨w.heap.size, 1, none⟩ (.slice qa K2.length da)) = w3 at *
  clear A2 B2 D2 X2 R2 P2 GS x1 f1
  have BN := hid (Blk.new w3 9 #[.string x])
  rw [hz3] at BN
  refine (CV.out _ _ _ (B3.out.alloc _) BN.out (N1.out _ _ _ _ O2.out _ (by omega)) (by rw [World.size_alloc]; omega)).mono ?_
  rintro e w4 ⟨u2, rfl, ho4, hg4, hx4⟩
  obtain ⟨qb, db, rfl⟩ := Pa.owns_slice ho4
  have FA : Hid (Pa.Far (.slice qa K2.length da) (.slice pb p.vals.length cb)) := fun y e1 e2 => by
    rcases HX2.out with h | h
    · exact FF.out y (by rw [← h]; exact e1) e2
    · rw [h, World.size_alloc] at e1
      have := (O2.out.lt y e2).2
      have := Option.some.inj e1
      omega
  have B4 := hid ho4
  have A4 := hid (row_far (A3.out.alloc (.cells #[.string x] 9)) FA.out hg4)
  have D4 := hid (row_type (D3.out.alloc (.cells #[.string x] 9)) (B3.out.alloc (.cells #[.string x] 9)) (by decide) hg4)
  have X4 := hid (blk_row (X3.out.alloc (.cells #[.string x] 9)) (B3.out.alloc (.cells #[.string x] 9)) (by decide) hg4)
  have R4 := hid (blk_row (R3.out.alloc (.cells #[.string x] 9)) (B3.out.alloc (.cells #[.string x] 9)) (by decide) hg4)
  have P4 := hid ((P3.out.new (grown_alloc (grown_refl _ _) (.cells #[.string x] 9))).trans (PT.of_own (B3.out.alloc (.cells #[.string x] 9)) (Or.inl rfl) hg4))
  have F4 : Hid (Pa.Far (.slice qa K2.length da) (.slice qb V2.length db)) := fun y e1 e2 => by
    rcases hx4 with h | h
    · exact FA.out y e1 (by rw [← h]; exact e2)
    · rw [h, World.size_alloc, hz3] at e2
      have h2 := Option.some.inj e2
      have := (A3.out.lt y e1).2
      rw [hz3] at this
      omega
  clear ho4 hg4 hx4 CV A3 B3 D3 R3 P3 x2 HX2 FA BN X3
  have x0 := X4.out.cell 0
  have x1 := X4.out.cell 1
  have x2 := X4.out.cell 2
  have x3 := X4.out.cell 3
  have f2 := X4.out.frozen 2
  simp at x0 x1 x2 x3
  have X5 := hid (X4.out.set 2 (.slice qb V2.length db))
  have GS : Hid (w4.grownBy (w4.setCell ⟨w.heap.size, 2, none⟩ (.slice qb V2.length db)) (some w.heap.size)) := grown_set (grown_refl _ _) 2 _
  have R5 := hid (R4.out.other (a := ⟨w.heap.size, 2, none⟩) (.slice qb V2.length db) (by show w.heap.size + 1 ≠ w.heap.size; omega))
  go_wp2_with (refine Pa.q_is_store 70 (.tmp 6) (.tmp 36) rfl ?_; refine Pa.store_pg 70 Pa.size25 (w.heap.size + 1) R5.out _ _ rfl rfl rfl rfl ?_; intro w5 hb5 hg5; have B5 := hid hb5; have G5 := hid hg5; clear hb5 hg5)
  refine bodyPost_ret (Pa.results_pg Tryz.results51 _ _ (w.heap.size + 1) rfl B5.out) rfl ?_
  rw [HP.out.1]
  have far5 : ∀ (e : TypeId) (a : Value) (n : Nat) (xs : List Value), e ≠ 70 → w4.ownsRow base e 1 a n xs → w5.ownsRow base e 1 a n xs := fun e a n xs he h => rowG_kept (rowG_kept h X4.out (fun q => he q.symm) GS.out) R5.out (fun q => he q.symm) G5.out
  exact ⟨_, rfl, ⟨_, _, _, rfl, F4.out, far5 _ _ _ _ (by decide) A4.out, far5 _ _ _ _ (by decide) B4.out, far5 _ _ _ _ (by decide) D4.out⟩, (P4.out.through GS.out (Nat.le_refl _)).through G5.out (Nat.le_succ _)⟩
end Go.Proofs.YtbhmmcelndmijaaGreat
namespace Go.Proofs.YtbhmmcelndmijaaGreat
open Go.RowKit Go.Maps
/-- The halves of a page, and the key between them. -/
def cutA (p : Pa.Pg) : Pa.Pg := if p.leaf then ⟨true, p.keys.take (p.keys.length / 2), p.vals.take (p.keys.length / 2), []⟩ else ⟨false, p.keys.take (p.keys.length / 2), [], p.kids.take (p.keys.length / 2 + 1)⟩
def cutB (p : Pa.Pg) : Pa.Pg := if p.leaf then ⟨true, p.keys.drop (p.keys.length / 2), p.vals.drop (p.keys.length / 2), []⟩ else ⟨false, p.keys.drop (p.keys.length / 2 + 1), [], p.kids.drop (p.keys.length / 2 + 1)⟩
def cutK (p : Pa.Pg) : ByteArray := p.keys.getD (p.keys.length / 2) ⟨#[]⟩
/-- A slice reads as a list, and its cells lie in a block of a type. -/
def RowT {α : Type} (t : TypeId) (enc : α → Value) (w : World) (v : Value) (l : List α) : Prop := ∃ (pa : Option Addr) (cap g o : Nat), v = .slice pa l.length cap ∧ (0 < l.length → pa = some ⟨g, o, none⟩ ∧ ∃ cur, Blk w g t cur ∧ ∀ i, (h : i < l.length) → cur[o + i]? = some (enc l[i]))
theorem RowT.rowV {α : Type} {t : TypeId} {enc : α → Value} {w : World} {v : Value} {l : List α} (h : RowT t enc w v l) : Pa.RowV enc w v l := by
  obtain ⟨pa, cap, g, o, rfl, h⟩ := h
  refine ⟨pa, cap, g, o, rfl, fun h0 => (h h0).1, fun i hi => ?_⟩
  obtain ⟨_, cur, hb, hc⟩ := h (by omega)
  exact (hb.cell (o + i)).trans (hc i hi)
theorem RowT.of_blk {α : Type} {t : TypeId} {enc : α → Value} {w w' : World} {v : Value} {l : List α} (h : RowT t enc w v l) (hk : ∀ g cur, Blk w g t cur → Blk w' g t cur) : RowT t enc w' v l := by
  obtain ⟨pa, cap, g, o, rfl, h⟩ := h
  refine ⟨pa, cap, g, o, rfl, fun h0 => ?_⟩
  obtain ⟨e, cur, hb, hc⟩ := h h0
  exact ⟨e, cur, hk _ _ hb, hc⟩
theorem rowT_take {α : Type} {enc : α → Value} {w : World} {g n k cap : Nat} {t : TypeId} {cur : Array Value} {l : List α} (hb : Blk w g t cur) (hx : cur.toList.take n = l.map enc) (hk : k ≤ l.length) : RowT t enc w (.slice (some ⟨g, 0, none⟩) k cap) (l.take k) := by
  have e : (l.take k).length = k := by rw [List.length_take]; omega
  refine ⟨some ⟨g, 0, none⟩, cap, g, 0, by rw [e], fun _ => ⟨rfl, cur, hb, fun i hi => ?_⟩⟩
  rw [Nat.zero_add, List.getElem_take]
  have hi' : i < l.length := by omega
  exact Sl.take_get hx (by rw [List.getElem?_map, List.getElem?_eq_getElem hi']; rfl)
theorem rowT_drop {α : Type} {enc : α → Value} {w : World} {g n k m cap : Nat} {t : TypeId} {cur : Array Value} {l : List α} (hb : Blk w g t cur) (hx : cur.toList.take n = l.map enc) (hm : m = l.length - k) : RowT t enc w (.slice (some ⟨g, k, none⟩) m cap) (l.drop k) := by
  have e : (l.drop k).length = m := by rw [List.length_drop, hm]
  refine ⟨some ⟨g, k, none⟩, cap, g, k, by rw [e], fun _ => ⟨rfl, cur, hb, fun i hi => ?_⟩⟩
  rw [List.getElem_drop]
  have hi' : k + i < l.length := by rw [List.length_drop] at hi; omega
  exact Sl.take_get hx (by rw [List.getElem?_map, List.getElem?_eq_getElem hi']; rfl)
theorem rowT_nil {α : Type} {t : TypeId} {enc : α → Value} {w : World} : RowT t enc w (.slice none 0 0) ([] : List α) := ⟨none, 0, 0, 0, rfl, fun h => absurd h (by simp)⟩
theorem rowT_owns {α : Type} {t : TypeId} {enc : α → Value} {w : World} {base : Nat} {v : Value} {l : List α} (h : w.ownsRow base t 1 v l.length (l.map enc)) : RowT t enc w v l := by
  rcases Sl.owns_cases h with ⟨rfl, e, _⟩ | ⟨g, cap, cur, rfl, _, hB, _, _, _, hx, _⟩
  · exact ⟨none, 0, 0, 0, by rw [e], fun h0 => absurd h0 (by omega)⟩
  · refine ⟨_, cap, g, 0, rfl, fun _ => ⟨rfl, cur, hB, fun i hi => ?_⟩⟩
    rw [Nat.zero_add]
    exact Sl.take_get hx (by rw [List.getElem?_map, List.getElem?_eq_getElem hi]; rfl)
/-- A page as a value whose rows lie in blocks of their types. -/
def PgT (w : World) (v : Value) (p : Pa.Pg) : Prop := ∃ a b c, v = .agg #[.bool p.leaf, a, b, c] ∧ RowT 9 Value.string w a p.keys ∧ RowT 9 Value.string w b p.vals ∧ RowT 3 (Value.int .i64) w c p.kids
theorem PgT.pgV {w : World} {v : Value} {p : Pa.Pg} (h : PgT w v p) : Pa.PgV w v p := by
  obtain ⟨a, b, c, rfl, h1, h2, h3⟩ := h
  exact ⟨a, b, c, rfl, h1.rowV, h2.rowV, h3.rowV⟩
theorem PgT.of_blk {w w' : World} {v : Value} {p : Pa.Pg} (h : PgT w v p) (hk : ∀ g t cur, t = 9 ∨ t = 3 → Blk w g t cur → Blk w' g t cur) : PgT w' v p := by
  obtain ⟨a, b, c, rfl, h1, h2, h3⟩ := h
  exact ⟨a, b, c, rfl, h1.of_blk fun g cur => hk g 9 cur (Or.inl rfl), h2.of_blk fun g cur => hk g 9 cur (Or.inl rfl), h3.of_blk fun g cur => hk g 3 cur (Or.inr rfl)⟩
theorem PgT.kept {w w' : World} {v : Value} {p : Pa.Pg} (h : PgT w v p) (hg : w.grownBy w' none) : PgT w' v p := h.of_blk fun _ _ _ _ hb => hb.kept hg (by simp)
theorem pgT_owns {w : World} {base : Nat} {v : Value} {p : Pa.Pg} (h : Pa.PgO w base v p) : PgT w v p := by
  obtain ⟨a, b, c, rfl, _, h1, h2, h3⟩ := h
  exact ⟨a, b, c, rfl, rowT_owns h1, rowT_owns h2, rowT_owns h3⟩
theorem LT.blk {base b g : Nat} {t : TypeId} {cs : Array Value} {w w' : World} (h : LT base b w w') (hb : Blk w g t cs) (ht : t ≠ 111 ∧ t ≠ 5) (hn : g ≠ b) : Blk w' g t cs := by
  have e : w.heap[g]? = some (.cells cs t (0, 0)) := hb
  have := h.keep g hb.lt (Or.inr ⟨hn, fun cs' t' fz e' => by rw [e] at e'; injection e' with e'; injection e' with _ e2 _; subst e2; exact ht⟩)
  show w'.heap[g]? = _
  rw [this]
  exact e
theorem results_pg3 {fn : Func} {p u q : Tmp} (h : fn.results = #[.cell p 70, .tmp u, .cell q 70]) (tmps : Array Value) (w : World) (g1 g2 : Nat) {a b c d x y z v : Value} (hp : tmps.getD p undef = .pointer (some ⟨g1, 0, none⟩)) (hq : tmps.getD q undef = .pointer (some ⟨g2, 0, none⟩)) (h1 : Blk w g1 70 #[a, b, c, d]) (h2 : Blk w g2 70 #[x, y, z, v]) :
    (results fn tmps).run Tryz.prog w = .ok (.tuple #[.agg #[a, b, c, d], tmps.getD u undef, .agg #[x, y, z, v]]) w := by
  have e1 := run_loadVar_row (P := Tryz.prog) w g1 70 70 #[a, b, c, d] (0, 0) _ h1 Tryz.underlying70 rfl Pa.size25
  have e2 := run_loadVar_row (P := Tryz.prog) w g2 70 70 #[x, y, z, v] (0, 0) _ h2 Tryz.underlying70 rfl Pa.size25
  have hp' : tmps[p]?.getD undef = .pointer (some ⟨g1, 0, none⟩) := by simpa using hp
  have hq' : tmps[q]?.getD undef = .pointer (some ⟨g2, 0, none⟩) := by simpa using hq
  simp [results, h, hp', hq', asAddr, e1, e2, Sem.run_bind, Result.andThen]
theorem wrapEq (x : Int) : IntKind.i64.wrap x = wrap64 x := by rw [IntKind.wrap_i64]; unfold wrap64; rfl
theorem blk_store4 {w : World} {g : Nat} {x y z q : Value} (a b c d : Value) (h : Blk w g 70 #[x, y, z, q]) : Blk ((((w.setCell ⟨g, 0, none⟩ a).setCell ⟨g, 1, none⟩ b).setCell ⟨g, 2, none⟩ c).setCell ⟨g, 3, none⟩ d) g 70 #[a, b, c, d] := by
  have := (((h.set 0 a).set 1 b).set 2 c).set 3 d
  simpa using this
theorem blk_far4 {w : World} {g g' : Nat} {t : TypeId} {cs : Array Value} (a b c d : Value) (h : Blk w g t cs) (hn : g ≠ g') : Blk ((((w.setCell ⟨g', 0, none⟩ a).setCell ⟨g', 1, none⟩ b).setCell ⟨g', 2, none⟩ c).setCell ⟨g', 3, none⟩ d) g t cs :=
  Blk.other (Blk.other (Blk.other (Blk.other h _ hn) _ hn) _ hn) _ hn
theorem grown_store4 {w0 w : World} {g : Nat} {r : Option Nat} (a b c d : Value) (h : w0.grownBy w r) (hg : w0.heap.size ≤ g) : w0.grownBy ((((w.setCell ⟨g, 0, none⟩ a).setCell ⟨g, 1, none⟩ b).setCell ⟨g, 2, none⟩ c).setCell ⟨g, 3, none⟩ d) r :=
  grown_set_new (grown_set_new (grown_set_new (grown_set_new h _ hg) _ hg) _ hg) _ hg
end Go.Proofs.YtbhmmcelndmijaaGreat
namespace Go.Proofs.YtbhmmcelndmijaaGreat
open Go.RowKit Go.Maps
/-- What lay leaves: the keys between the pages, their places. -/
def LayPost (w : World) (base lb : Nat) (g : Lg) (ks : List ByteArray) (is : List Int) (e : Ending) (w' : World) : Prop := ∃ vk vi, e = .returned (.tuple #[vk, vi, .int .i64 0]) ∧ w'.ownsRow w.heap.size 9 1 vk ks.length (Pa.strs ks) ∧ w'.ownsRow w.heap.size 3 1 vi is.length (Pa.ints is) ∧ IsLog w' base lb g ∧ LT base lb w w'
set_option maxRecDepth 100000 in
set_option maxHeartbeats 1000000 in
theorem lay_one (base b lb : Nat) (g : Lg) (root : Int) (p : Pa.Pg) (v : Value) (w : World) (hT : IsTree w b lb root) (hL : IsLog w base lb g) (hl : g.recs.length ≤ 100000) (hw : g.wait.size ≤ 500000000) (hn : g.len ≤ 1000000000) (hv : PgT w v p) (hf : p.fits) (hm : Pa.mayP p = true) (hz : (Pa.encL p).length ≤ 1048576) (h8 : p.keys.length ≤ 8) :
    Calls Tryz.prog 49 #[.pointer (some ⟨b, 0, none⟩), v] w (LayPost w base lb (addG g p) [] [(g.len + g.wait.size : Nat)]) := by
  have C1 : Hid (∀ W, w.grownBy W none → Calls Tryz.prog 69 #[.pointer (some ⟨b, 0, none⟩), v] W fun e w' => e = .returned (.tuple #[.int .i64 (g.len + g.wait.size : Nat), .int .i64 0]) ∧ IsLog w' base lb (addG g p) ∧ LT base lb W w') := fun W hW => add_page base b lb g root p v W (hT.kept hW) (hL.kept hW) hl hw hn (hv.pgV.kept hW) hf hm hz
  obtain ⟨va, vb, vc, rfl, ⟨p1, k1, _, _, rfl, _⟩, ⟨p2, k2, _, _, rfl, _⟩, ⟨p3, k3, _, _, rfl, _⟩⟩ := hv
  generalize addG g p = g2 at *
  generalize g.len + g.wait.size = at_ at *
  have i8 : (p.keys.length : Int) ≤ 8 := by omega
  have G0 : Hid (w.grownBy (w.alloc (.cells #[.bool p.leaf, .slice p1 p.keys.length k1, .slice p2 p.vals.length k2, .slice p3 p.kids.length k3] 70)) none) := grown_alloc (grown_refl w none) _
  clear hT hL hl hw hn hf hm hz h8
  go_enter Tryz.func49, Tryz.ntmps49
  go_wp2_with (first
    | (go_at_call 69; refine (C1.out _ G0.out).mono ?_; rintro e w2 ⟨rfl, l2, t2⟩; have L2 := hid l2; have T2 := hid (LT.trans (LT.of_none G0.out) t2); clear l2 t2 C1))
  refine bodyPost_ret (results_tmp3 Tryz.results49 _ _ _) rfl ?_
  refine ⟨_, _, rfl, World.ownsRow_nil _ _ _ _, ?_, L2.out.kept (grown_alloc (grown_refl _ _) _), T2.out.trans (LT.of_none (grown_alloc (grown_refl _ _) _))⟩
  exact World.ownsRow_lit (base := w.heap.size) (e := 3) (size := 1) w2 #[.int .i64 at_] 1 T2.out.size (by decide) rfl
end Go.Proofs.YtbhmmcelndmijaaGreat
