/-
  A leaf without a key: leafWithout. Two pages in one: joined.
-/
import Derived.Test.YtbhmmcelndmijaaGreatKLf2
import Derived.Test.YtbhmmcelndmijaaGreatKAp
namespace Go.Proofs.YtbhmmcelndmijaaGreat
open Go.RowKit Go.Maps
def leafD (p : Pa.Pg) (k : ByteArray) : Pa.Pg :=
  if Pa.findIs p.keys k then { p with keys := p.keys.take (Pa.findN p.keys k) ++ p.keys.drop (Pa.findN p.keys k + 1), vals := p.vals.take (Pa.findN p.keys k) ++ p.vals.drop (Pa.findN p.keys k + 1) } else p
set_option maxRecDepth 100000 in
set_option maxHeartbeats 2000000 in
theorem leafWithout_no (base : Nat) (v : Value) (p : Pa.Pg) (k : ByteArray) (w : World) (h : Pa.PgO w base v p) (hl : p.vals.length = p.keys.length) (hn : p.keys.length ≤ 1000) (hk : p.kids.length ≤ 1000) (his : Pa.findIs p.keys k = false) :
    Calls Tryz.prog 46 #[v, .string k] w fun e w' => ∃ v', e = .returned (.tuple #[v', .bool false]) ∧ Pa.PgO w' base v' p ∧ PT base w w' := by
  have CF : Hid (∀ W, w.grownBy W none → Calls Tryz.prog 43 #[v, .string k] W fun e w' => e = .returned (.tuple #[.int .i64 (Pa.findN p.keys k), .bool false]) ∧ W.grownBy w' none) := fun W hW => by
    have := Pa.find_any v p k W (h.pgV.kept hW) ⟨by omega, by omega, by omega⟩
    rwa [his] at this
  obtain ⟨a, b, c, rfl, hf, h1, h2, h3⟩ := h
  obtain ⟨pa, ca, rfl⟩ := Pa.owns_slice h1
  obtain ⟨pb, cb, rfl⟩ := Pa.owns_slice h2
  obtain ⟨pc, cc, rfl⟩ := Pa.owns_slice h3
  have O1 := hid h1
  have O2 := hid h2
  have O3 := hid h3
  have FF := hid hf
  clear h1 h2 h3 his hf hl
  generalize Pa.findN p.keys k = m at *
  have G0 : Hid (w.grownBy ((w.alloc (.cells #[.bool p.leaf, .slice pa p.keys.length ca, .slice pb p.vals.length cb, .slice pc p.kids.length cc] 70)).alloc (.cells #[.bool false, .slice none 0 0, .slice none 0 0, .slice none 0 0] 70)) none) := grown_alloc (grown_alloc (grown_refl w none) _) _
  have BX : Hid (Blk ((w.alloc (.cells #[.bool p.leaf, .slice pa p.keys.length ca, .slice pb p.vals.length cb, .slice pc p.kids.length cc] 70)).alloc (.cells #[.bool false, .slice none 0 0, .slice none 0 0, .slice none 0 0] 70)) w.heap.size 70 #[.bool p.leaf, .slice pa p.keys.length ca, .slice pb p.vals.length cb, .slice pc p.kids.length cc]) := (Blk.new w 70 _).alloc _
  have BR : Hid (Blk ((w.alloc (.cells #[.bool p.leaf, .slice pa p.keys.length ca, .slice pb p.vals.length cb, .slice pc p.kids.length cc] 70)).alloc (.cells #[.bool false, .slice none 0 0, .slice none 0 0, .slice none 0 0] 70)) (w.heap.size + 1) 70 #[.bool false, .slice none 0 0, .slice none 0 0, .slice none 0 0]) := (by
    have := Blk.new (w.alloc (.cells #[.bool p.leaf, .slice pa p.keys.length ca, .slice pb p.vals.length cb, .slice pc p.kids.length cc] 70)) 70 #[.bool false, .slice none 0 0, .slice none 0 0, .slice none 0 0]
    rw [World.size_alloc] at this
    exact this)
  obtain ⟨P, hP⟩ : ∃ P : Ending → World → Prop, P = fun e w' => ∃ v', e = .returned (.tuple #[v', .bool false]) ∧ Pa.PgO w' base v' p ∧ PT base w w' := ⟨_, rfl⟩
  rw [← hP]
  have HP := hid (And.intro hP trivial)
  clear hP
  go_enter Tryz.func46, Tryz.ntmps46
  go_wp2_with (first
    | (go_at_call 43; refine (CF.out _ G0.out).mono ?_; rintro e w1 ⟨rfl, g1⟩; have G1 := hid (grown_none G0.out g1); have X1 := hid (BX.out.kept g1 (by simp)); have R1 := hid (BR.out.kept g1 (by simp)); have x0 := X1.out.cell 0; have x1 := X1.out.cell 1; have x2 := X1.out.cell 2; have x3 := X1.out.cell 3; simp at x0 x1 x2 x3; clear g1 CF)
    | (refine Pa.q_is_store 70 (.tmp 4) (.tmp 29) rfl ?_; refine Pa.store_pg 70 Pa.size25 (w.heap.size + 1) R1.out _ _ rfl rfl rfl rfl ?_; intro w5 hb5 hg5; have B5 := hid hb5; have G5 := hid hg5; clear hb5 hg5))
  refine bodyPost_ret (Pa.results_pg2 Tryz.results46 _ _ (w.heap.size + 1) rfl B5.out) rfl ?_
  rw [HP.out.1]
  have far5 : ∀ (e : TypeId) (a : Value) (n : Nat) (xs : List Value), e ≠ 70 → w1.ownsRow base e 1 a n xs → w5.ownsRow base e 1 a n xs := fun e a n xs he h => rowG_kept h R1.out (fun q => he q.symm) G5.out
  exact ⟨_, rfl, ⟨_, _, _, rfl, FF.out, far5 _ _ _ _ (by decide) (row_none O1.out G1.out), far5 _ _ _ _ (by decide) (row_none O2.out G1.out), far5 _ _ _ _ (by decide) (row_none O3.out G1.out)⟩, (PT.of_none G1.out).through G5.out (Nat.le_succ _)⟩
set_option maxRecDepth 100000 in
set_option maxHeartbeats 2000000 in
theorem leafWithout_is (base : Nat) (v : Value) (p : Pa.Pg) (k : ByteArray) (w : World) (h : Pa.PgO w base v p) (hl : p.vals.length = p.keys.length) (hn : p.keys.length ≤ 1000) (hk : p.kids.length ≤ 1000) (his : Pa.findIs p.keys k = true) (hlt : Pa.findN p.keys k < p.keys.length) :
    Calls Tryz.prog 46 #[v, .string k] w fun e w' => ∃ v', e = .returned (.tuple #[v', .bool true]) ∧ Pa.PgO w' base v' (leafD p k) ∧ PT base w w' := by
  have eP : leafD p k = { p with keys := p.keys.take (Pa.findN p.keys k) ++ p.keys.drop (Pa.findN p.keys k + 1), vals := p.vals.take (Pa.findN p.keys k) ++ p.vals.drop (Pa.findN p.keys k + 1) } := by unfold leafD; rw [if_pos his]
  rw [eP]
  have CF : Hid (∀ W, w.grownBy W none → Calls Tryz.prog 43 #[v, .string k] W fun e w' => e = .returned (.tuple #[.int .i64 (Pa.findN p.keys k), .bool true]) ∧ W.grownBy w' none) := fun W hW => by
    have := Pa.find_any v p k W (h.pgV.kept hW) ⟨by omega, by omega, by omega⟩
    rwa [his] at this
  obtain ⟨a, b, c, rfl, hf, h1, h2, h3⟩ := h
  obtain ⟨pa, ca, rfl⟩ := Pa.owns_slice h1
  obtain ⟨pb, cb, rfl⟩ := Pa.owns_slice h2
  obtain ⟨pc, cc, rfl⟩ := Pa.owns_slice h3
  have O1 := hid h1
  have O2 := hid h2
  have O3 := hid h3
  have FF := hid hf
  clear h1 h2 h3 his eP hf
  obtain ⟨m, em⟩ : ∃ m, Pa.findN p.keys k = m := ⟨_, rfl⟩
  rw [em] at CF hlt ⊢
  clear em
  have CK : Hid (∀ W u, W.ownsRow base 9 1 u p.keys.length (Pa.strs p.keys) → Calls Tryz.prog 65 #[u, .int .i64 m, .int .i64 (m + 1 : Nat)] W fun e w' => ∃ v', e = .returned v' ∧ w'.ownsRow base 9 1 v' (p.keys.take m ++ p.keys.drop (m + 1)).length (Pa.strs (p.keys.take m ++ p.keys.drop (m + 1))) ∧ W.grownBy w' u.ownBlock ∧ v'.ownBlock = u.ownBlock) := fun W u g1 => Sl.delstring_any base m u p.keys W g1 hlt
  have CV : Hid (∀ W u, W.ownsRow base 9 1 u p.vals.length (Pa.strs p.vals) → Calls Tryz.prog 65 #[u, .int .i64 m, .int .i64 (m + 1 : Nat)] W fun e w' => ∃ v', e = .returned v' ∧ w'.ownsRow base 9 1 v' (p.vals.take m ++ p.vals.drop (m + 1)).length (Pa.strs (p.vals.take m ++ p.vals.drop (m + 1))) ∧ W.grownBy w' u.ownBlock ∧ v'.ownBlock = u.ownBlock) := fun W u g1 => Sl.delstring_any base m u p.vals W g1 (by omega)
  have m0 : (0 : Int) ≤ m := by omega
  have m1 : (m : Int) ≤ 1000 := by omega
  clear hl hlt
  generalize p.keys.take m ++ p.keys.drop (m + 1) = K2 at *
  generalize p.vals.take m ++ p.vals.drop (m + 1) = V2 at *
  have G0 : Hid (w.grownBy ((w.alloc (.cells #[.bool p.leaf, .slice pa p.keys.length ca, .slice pb p.vals.length cb, .slice pc p.kids.length cc] 70)).alloc (.cells #[.bool false, .slice none 0 0, .slice none 0 0, .slice none 0 0] 70)) none) := grown_alloc (grown_alloc (grown_refl w none) _) _
  have BX : Hid (Blk ((w.alloc (.cells #[.bool p.leaf, .slice pa p.keys.length ca, .slice pb p.vals.length cb, .slice pc p.kids.length cc] 70)).alloc (.cells #[.bool false, .slice none 0 0, .slice none 0 0, .slice none 0 0] 70)) w.heap.size 70 #[.bool p.leaf, .slice pa p.keys.length ca, .slice pb p.vals.length cb, .slice pc p.kids.length cc]) := (Blk.new w 70 _).alloc _
  have BR : Hid (Blk ((w.alloc (.cells #[.bool p.leaf, .slice pa p.keys.length ca, .slice pb p.vals.length cb, .slice pc p.kids.length cc] 70)).alloc (.cells #[.bool false, .slice none 0 0, .slice none 0 0, .slice none 0 0] 70)) (w.heap.size + 1) 70 #[.bool false, .slice none 0 0, .slice none 0 0, .slice none 0 0]) := (by
    have := Blk.new (w.alloc (.cells #[.bool p.leaf, .slice pa p.keys.length ca, .slice pb p.vals.length cb, .slice pc p.kids.length cc] 70)) 70 #[.bool false, .slice none 0 0, .slice none 0 0, .slice none 0 0]
    rw [World.size_alloc] at this
    exact this)
  obtain ⟨P, hP⟩ : ∃ P : Ending → World → Prop, P = fun e w' => ∃ v', e = .returned (.tuple #[v', .bool true]) ∧ Pa.PgO w' base v' { p with keys := K2, vals := V2 } ∧ PT base w w' := ⟨_, rfl⟩
  rw [← hP]
  have HP := hid (And.intro hP trivial)
  clear hP
  go_enter Tryz.func46, Tryz.ntmps46
  go_wp2_with (first
    | (go_at_call 43; refine (CF.out _ G0.out).mono ?_; rintro e w1 ⟨rfl, g1⟩; have G1 := hid (grown_none G0.out g1); have X1 := hid (BX.out.kept g1 (by simp)); have R1 := hid (BR.out.kept g1 (by simp)); have x0 := X1.out.cell 0; have x1 := X1.out.cell 1; have x2 := X1.out.cell 2; have x3 := X1.out.cell 3; simp at x0 x1 x2 x3; clear g1 CF))
  refine Pa.calls_at (args := #[.slice pa p.keys.length ca, .int .i64 m, .int .i64 (m + 1 : Nat)]) (by rw [Int.natCast_add]; rfl) ?_
  refine (CK.out _ _ (row_none O1.out G1.out)).mono ?_
  rintro e w2 ⟨u1, rfl, ho2, hg2, hx2⟩
  obtain ⟨qa, da, rfl⟩ := Pa.owns_slice ho2
  have A2 := hid ho2
  have B2 := hid (row_far (row_none O2.out G1.out) (far_symm FF.out) hg2)
  have D2 := hid (row_type (row_none O3.out G1.out) (row_none O1.out G1.out) (by decide) hg2)
  have X2 := hid (blk_row X1.out (row_none O1.out G1.out) (by decide) hg2)
  have R2 := hid (blk_row R1.out (row_none O1.out G1.out) (by decide) hg2)
  have P2 := hid ((PT.of_none (base := base) G1.out).trans (PT.of_own (row_none O1.out G1.out) (Or.inl rfl) hg2))
  have FA : Hid (Pa.Far (.slice qa K2.length da) (.slice pb p.vals.length cb)) := fun y e1 e2 => FF.out y (by rw [← hx2]; exact e1) e2
  clear ho2 hg2 hx2 x0 x1 x2 x3 CK
  have x1 := X2.out.cell 1
  have f1 := X2.out.frozen 1
  simp at x1
  have X3 := hid (X2.out.set 1 (.slice qa K2.length da))
  have GS : Hid (w2.grownBy (w2.setCell ⟨w.heap.size, 1, none⟩ (.slice qa K2.length da)) (some w.heap.size)) := grown_set (grown_refl _ _) 1 _
  have x2 : (w2.setCell ⟨w.heap.size, 1, none⟩ (.slice qa K2.length da)).cell? ⟨w.heap.size, 2, none⟩ = some (.slice pb p.vals.length cb) := X3.out.cell 2
  go_wp2_with fail
  refine Pa.calls_at (args := #[.slice pb p.vals.length cb, .int .i64 m, .int .i64 (m + 1 : Nat)]) (by rw [Int.natCast_add]; rfl) ?_
  have A3 := hid (rowG_kept A2.out X2.out (by decide) GS.out)
  have B3 := hid (rowG_kept B2.out X2.out (by decide) GS.out)
  have D3 := hid (rowG_kept D2.out X2.out (by decide) GS.out)
  have R3 := hid (R2.out.other (a := ⟨w.heap.size, 1, none⟩) (.slice qa K2.length da) (by show w.heap.size + 1 ≠ w.heap.size; omega))
  have P3 := hid (P2.out.through GS.out (Nat.le_refl _))
  generalize (w2.setCell ⟨w.heap.size, 1, none⟩ (.slice qa K2.length da)) = w3 at *
  clear A2 B2 D2 X2 R2 P2 GS x1 f1
  refine (CV.out _ _ B3.out).mono ?_
  rintro e w4 ⟨u2, rfl, ho4, hg4, hx4⟩
  obtain ⟨qb, db, rfl⟩ := Pa.owns_slice ho4
  have B4 := hid ho4
  have A4 := hid (row_far A3.out FA.out hg4)
  have D4 := hid (row_type D3.out B3.out (by decide) hg4)
  have X4 := hid (blk_row X3.out B3.out (by decide) hg4)
  have R4 := hid (blk_row R3.out B3.out (by decide) hg4)
  have P4 := hid (P3.out.trans (PT.of_own B3.out (Or.inl rfl) hg4))
  have F4 : Hid (Pa.Far (.slice qa K2.length da) (.slice qb V2.length db)) := fun y e1 e2 => FA.out y e1 (by rw [← hx4]; exact e2)
  clear ho4 hg4 hx4 CV A3 B3 D3 R3 P3 x2 FA X3
  have x0 := X4.out.cell 0
  have x1 := X4.out.cell 1
  have x2 := X4.out.cell 2
  have x3 := X4.out.cell 3
  have f2 := X4.out.frozen 2
  simp at x0 x1 x2 x3
  have X5 := hid (X4.out.set 2 (.slice qb V2.length db))
  have GS : Hid (w4.grownBy (w4.setCell ⟨w.heap.size, 2, none⟩ (.slice qb V2.length db)) (some w.heap.size)) := grown_set (grown_refl _ _) 2 _
  have R5 := hid (R4.out.other (a := ⟨w.heap.size, 2, none⟩) (.slice qb V2.length db) (by show w.heap.size + 1 ≠ w.heap.size; omega))
  go_wp2_with (refine Pa.q_is_store 70 (.tmp 4) (.tmp 29) rfl ?_; refine Pa.store_pg 70 Pa.size25 (w.heap.size + 1) R5.out _ _ rfl rfl rfl rfl ?_; intro w5 hb5 hg5; have B5 := hid hb5; have G5 := hid hg5; clear hb5 hg5)
  refine bodyPost_ret (Pa.results_pg2 Tryz.results46 _ _ (w.heap.size + 1) rfl B5.out) rfl ?_
  rw [HP.out.1]
  have far5 : ∀ (e : TypeId) (a : Value) (n : Nat) (xs : List Value), e ≠ 70 → w4.ownsRow base e 1 a n xs → w5.ownsRow base e 1 a n xs := fun e a n xs he h => rowG_kept (rowG_kept h X4.out (fun q => he q.symm) GS.out) R5.out (fun q => he q.symm) G5.out
  exact ⟨_, rfl, ⟨_, _, _, rfl, F4.out, far5 _ _ _ _ (by decide) A4.out, far5 _ _ _ _ (by decide) B4.out, far5 _ _ _ _ (by decide) D4.out⟩, (P4.out.through GS.out (Nat.le_refl _)).through G5.out (Nat.le_succ _)⟩
end Go.Proofs.YtbhmmcelndmijaaGreat
namespace Go.Proofs.YtbhmmcelndmijaaGreat
open Go.RowKit Go.Maps
set_option maxRecDepth 100000 in
set_option maxHeartbeats 4000000 in
theorem joined_leaf (base base' : Nat) (a1 b1 c1 a2 b2 c2 : Value) (p q : Pa.Pg) (k : ByteArray) (w : World) (f0 : Pa.Far a1 b1) (f1 : Pa.Far a1 a2) (f2 : Pa.Far a1 b2) (f3 : Pa.Far b1 b2)
    (h1 : w.ownsRow base 9 1 a1 p.keys.length (Pa.strs p.keys)) (h2 : w.ownsRow base 9 1 b1 p.vals.length (Pa.strs p.vals)) (h3 : w.ownsRow base 3 1 c1 p.kids.length (Pa.ints p.kids))
    (h4 : w.ownsRow base' 9 1 a2 q.keys.length (Pa.strs q.keys)) (h5 : w.ownsRow base' 9 1 b2 q.vals.length (Pa.strs q.vals)) (h6 : w.ownsRow base' 3 1 c2 q.kids.length (Pa.ints q.kids))
    (hb : base ≤ w.heap.size) (hs : p.keys.length ≤ 1000 ∧ p.vals.length ≤ 1000 ∧ p.kids.length ≤ 1001 ∧ q.keys.length ≤ 1000 ∧ q.vals.length ≤ 1000 ∧ q.kids.length ≤ 1001) (hf : p.leaf = true) :
    Calls Tryz.prog 66 #[.agg #[.bool p.leaf, a1, b1, c1], .string k, .agg #[.bool q.leaf, a2, b2, c2]] w fun e w' => ∃ u, e = .returned u ∧ Pa.PgO w' base u (joinP p k q) ∧ PT base w w' := by
  obtain ⟨pa1, ca1, rfl⟩ := Pa.owns_slice h1
  obtain ⟨pb1, cb1, rfl⟩ := Pa.owns_slice h2
  obtain ⟨pc1, cc1, rfl⟩ := Pa.owns_slice h3
  obtain ⟨pa2, ca2, rfl⟩ := Pa.owns_slice h4
  obtain ⟨pb2, cb2, rfl⟩ := Pa.owns_slice h5
  obtain ⟨pc2, cc2, rfl⟩ := Pa.owns_slice h6
  obtain ⟨KL, eK⟩ : ∃ KL, p.keys ++ q.keys = KL := ⟨_, rfl⟩
  obtain ⟨VL, eV⟩ : ∃ VL, p.vals ++ q.vals = VL := ⟨_, rfl⟩
  obtain ⟨DL, eD⟩ : ∃ DL, p.kids ++ q.kids = DL := ⟨_, rfl⟩
  have HJ : Hid (joinP p k q = ⟨true, KL, VL, DL⟩) := by show _ = _; unfold joinP; rw [hf, eV, eD, if_pos rfl, eK]
  rw [hf]
  have EK := hid eK
  have EV := hid eV
  have ED := hid eD
  have HS := hid hs
  have HB := hid hb
  have G0 : Hid (w.grownBy ((((w.alloc (.cells #[.bool true, .slice pa1 p.keys.length ca1, .slice pb1 p.vals.length cb1, .slice pc1 p.kids.length cc1] 70)).alloc (.cells #[.bool q.leaf, .slice pa2 q.keys.length ca2, .slice pb2 q.vals.length cb2, .slice pc2 q.kids.length cc2] 70)).alloc (.cells #[.bool false, .slice none 0 0, .slice none 0 0, .slice none 0 0] 70)).alloc (.cells #[.bool true, .slice pa1 p.keys.length ca1, .slice none 0 0, .slice none 0 0] 70)) none) := grown_alloc (grown_alloc (grown_alloc (grown_alloc (grown_refl _ _) _) _) _) _
  have A0 := hid (row_none h1 G0.out)
  have B0 := hid (row_none h2 G0.out)
  have C0 := hid (row_none h3 G0.out)
  have K0 := hid (row_none h4 G0.out)
  have V0 := hid (row_none h5 G0.out)
  have D0 := hid (row_none h6 G0.out)
  have LA : Hid (∀ y, (Value.slice pa1 p.keys.length ca1).ownBlock = some y → y < w.heap.size) := fun y e => (h1.lt y e).2
  have LB : Hid (∀ y, (Value.slice pb1 p.vals.length cb1).ownBlock = some y → y < w.heap.size) := fun y e => (h2.lt y e).2
  have F0 := hid f0
  have F1 := hid f1
  have F2 := hid f2
  have F3 := hid f3
  have P0 := hid (PT.of_none (base := base) G0.out)
  have X0 := hid (((((Blk.new w 70 #[.bool true, .slice pa1 p.keys.length ca1, .slice pb1 p.vals.length cb1, .slice pc1 p.kids.length cc1]).alloc (.cells #[.bool q.leaf, .slice pa2 q.keys.length ca2, .slice pb2 q.vals.length cb2, .slice pc2 q.kids.length cc2] 70)).alloc (.cells #[.bool false, .slice none 0 0, .slice none 0 0, .slice none 0 0] 70)).alloc (.cells #[.bool true, .slice pa1 p.keys.length ca1, .slice none 0 0, .slice none 0 0] 70)))
  have Y0 := hid ((((Blk.new (w.alloc (.cells #[.bool true, .slice pa1 p.keys.length ca1, .slice pb1 p.vals.length cb1, .slice pc1 p.kids.length cc1] 70)) 70 #[.bool q.leaf, .slice pa2 q.keys.length ca2, .slice pb2 q.vals.length cb2, .slice pc2 q.kids.length cc2]).alloc (.cells #[.bool false, .slice none 0 0, .slice none 0 0, .slice none 0 0] 70)).alloc (.cells #[.bool true, .slice pa1 p.keys.length ca1, .slice none 0 0, .slice none 0 0] 70)))
  have R0 := hid ((Blk.new ((w.alloc (.cells #[.bool true, .slice pa1 p.keys.length ca1, .slice pb1 p.vals.length cb1, .slice pc1 p.kids.length cc1] 70)).alloc (.cells #[.bool q.leaf, .slice pa2 q.keys.length ca2, .slice pb2 q.vals.length cb2, .slice pc2 q.kids.length cc2] 70)) 70 #[.bool false, .slice none 0 0, .slice none 0 0, .slice none 0 0]).alloc (.cells #[.bool true, .slice pa1 p.keys.length ca1, .slice none 0 0, .slice none 0 0] 70))
  have S0 := hid ((Blk.new (((w.alloc (.cells #[.bool true, .slice pa1 p.keys.length ca1, .slice pb1 p.vals.length cb1, .slice pc1 p.kids.length cc1] 70)).alloc (.cells #[.bool q.leaf, .slice pa2 q.keys.length ca2, .slice pb2 q.vals.length cb2, .slice pc2 q.kids.length cc2] 70)).alloc (.cells #[.bool false, .slice none 0 0, .slice none 0 0, .slice none 0 0] 70)) 70 #[.bool true, .slice pa1 p.keys.length ca1, .slice none 0 0, .slice none 0 0]))
  rw [World.size_alloc] at Y0
  rw [World.size_alloc, World.size_alloc] at R0
  rw [World.size_alloc, World.size_alloc, World.size_alloc] at S0
  clear h1 h2 h3 h4 h5 h6 f0 f1 f2 f3 hs hf hb eK eV eD
  go_enter Tryz.func66, Tryz.ntmps66
  go_wp2_with (first
    | (at_builtin; refine append_strs base base' p.keys q.keys _ _ A0.out K0.out (by have := HS.out; omega) (Nat.le_trans HB.out G0.out.size) (.tmp 23) (.tmp 25) rfl rfl rfl rfl ?_; intro v2 w2 h2 hg2 hx2; rw [EK.out] at h2; obtain ⟨pa, ca, rfl⟩ := Pa.owns_slice h2; have A2 := hid h2; have HX2 := hid hx2; have X2 := hid (blk_row X0.out A0.out (by decide) hg2); have Y2 := hid (blk_row Y0.out A0.out (by decide) hg2); have R2 := hid (blk_row R0.out A0.out (by decide) hg2); have S2 := hid (blk_row S0.out A0.out (by decide) hg2); have B2 := hid (row_far B0.out (far_symm F0.out) hg2); have V2 := hid (row_far V0.out (far_symm F2.out) hg2); have C2 := hid (row_type C0.out A0.out (by decide) hg2); have D2 := hid (row_type D0.out A0.out (by decide) hg2); have P2 := hid (P0.out.trans (PT.of_own A0.out (Or.inl rfl) hg2)); have GW2 : Hid (w.heap.size + 4 ≤ w2.heap.size) := Blk.lt S2.out; have GS2 : Hid (w2.grownBy (w2.setCell ⟨w.heap.size + 1 + 1 + 1, 1, none⟩ (.slice pa KL.length ca)) (some (w.heap.size + 1 + 1 + 1))) := grown_set (grown_refl _ _) 1 _; have S3 := hid (S2.out.set 1 (.slice pa KL.length ca)); simp at S3; have X3 := hid (X2.out.other (a := ⟨w.heap.size + 1 + 1 + 1, 1, none⟩) (.slice pa KL.length ca) (by show _ ≠ w.heap.size + 1 + 1 + 1; omega)); have Y3 := hid (Y2.out.other (a := ⟨w.heap.size + 1 + 1 + 1, 1, none⟩) (.slice pa KL.length ca) (by show _ ≠ w.heap.size + 1 + 1 + 1; omega)); have R3 := hid (R2.out.other (a := ⟨w.heap.size + 1 + 1 + 1, 1, none⟩) (.slice pa KL.length ca) (by show _ ≠ w.heap.size + 1 + 1 + 1; omega)); have A3 := hid (rowG_kept A2.out S2.out (by decide) GS2.out); have B3 := hid (rowG_kept B2.out S2.out (by decide) GS2.out); have V3 := hid (rowG_kept V2.out S2.out (by decide) GS2.out); have C3 := hid (rowG_kept C2.out S2.out (by decide) GS2.out); have D3 := hid (rowG_kept D2.out S2.out (by decide) GS2.out); have P3 := hid (P2.out.through GS2.out (by omega)); have x0 := X2.out.cell 0; have x1 := X2.out.cell 1; have x2 := X2.out.cell 2; have x3 := X2.out.cell 3; have y0 := Y2.out.cell 0; have y1 := Y2.out.cell 1; have y2 := Y2.out.cell 2; have y3 := Y2.out.cell 3; have s0 := S2.out.cell 0; have s1 := S2.out.cell 1; have s2 := S2.out.cell 2; have s3 := S2.out.cell 3; have z0 := S2.out.frozen 0; have z1 := S2.out.frozen 1; have z2 := S2.out.frozen 2; have z3 := S2.out.frozen 3; simp at x0 x1 x2 x3 y0 y1 y2 y3 s0 s1 s2 s3; clear h2 hg2 hx2; have FA := hid (far_grown F0.out HX2.out (fun y e => Nat.lt_of_lt_of_le (LB.out y e) G0.out.size)))
    | (at_builtin; refine append_strs base base' p.vals q.vals _ _ B3.out V3.out (by have := HS.out; omega) (Nat.le_trans HB.out P3.out.size) (.tmp 29) (.tmp 31) rfl rfl rfl rfl ?_; intro v4 w4 h4 hg4 hx4; rw [EV.out] at h4; obtain ⟨pb, cb, rfl⟩ := Pa.owns_slice h4; have B4 := hid h4; have HX4 := hid hx4; have X4 := hid (blk_row X3.out B3.out (by decide) hg4); have Y4 := hid (blk_row Y3.out B3.out (by decide) hg4); have R4 := hid (blk_row R3.out B3.out (by decide) hg4); have S4 := hid (blk_row S3.out B3.out (by decide) hg4); have A4 := hid (row_far A3.out FA.out hg4); have C4 := hid (row_type C3.out B3.out (by decide) hg4); have D4 := hid (row_type D3.out B3.out (by decide) hg4); have P4 := hid (P3.out.trans (PT.of_own B3.out (Or.inl rfl) hg4)); have GW4 : Hid (w.heap.size + 4 ≤ w4.heap.size) := Blk.lt S4.out; have GS4 : Hid (w4.grownBy (w4.setCell ⟨w.heap.size + 1 + 1 + 1, 2, none⟩ (.slice pb VL.length cb)) (some (w.heap.size + 1 + 1 + 1))) := grown_set (grown_refl _ _) 2 _; have S5 := hid (S4.out.set 2 (.slice pb VL.length cb)); simp at S5; have X5 := hid (X4.out.other (a := ⟨w.heap.size + 1 + 1 + 1, 2, none⟩) (.slice pb VL.length cb) (by show _ ≠ w.heap.size + 1 + 1 + 1; omega)); have Y5 := hid (Y4.out.other (a := ⟨w.heap.size + 1 + 1 + 1, 2, none⟩) (.slice pb VL.length cb) (by show _ ≠ w.heap.size + 1 + 1 + 1; omega)); have R5 := hid (R4.out.other (a := ⟨w.heap.size + 1 + 1 + 1, 2, none⟩) (.slice pb VL.length cb) (by show _ ≠ w.heap.size + 1 + 1 + 1; omega)); have B5 := hid (rowG_kept B4.out S4.out (by decide) GS4.out); have A5 := hid (rowG_kept A4.out S4.out (by decide) GS4.out); have C5 := hid (rowG_kept C4.out S4.out (by decide) GS4.out); have D5 := hid (rowG_kept D4.out S4.out (by decide) GS4.out); have P5 := hid (P4.out.through GS4.out (by omega)); have x0 := X4.out.cell 0; have x1 := X4.out.cell 1; have x2 := X4.out.cell 2; have x3 := X4.out.cell 3; have y0 := Y4.out.cell 0; have y1 := Y4.out.cell 1; have y2 := Y4.out.cell 2; have y3 := Y4.out.cell 3; have s0 := S4.out.cell 0; have s1 := S4.out.cell 1; have s2 := S4.out.cell 2; have s3 := S4.out.cell 3; have z0 := S4.out.frozen 0; have z1 := S4.out.frozen 1; have z2 := S4.out.frozen 2; have z3 := S4.out.frozen 3; simp at x0 x1 x2 x3 y0 y1 y2 y3 s0 s1 s2 s3; clear h4 hg4 hx4; have FB := hid (far_symm (far_grown (far_symm FA.out) HX4.out (fun y e => (A3.out.lt y e).2))))
    | (at_builtin; refine append_ints base base' p.kids q.kids _ _ C5.out D5.out (by have := HS.out; omega) (Nat.le_trans HB.out P5.out.size) (.tmp 35) (.tmp 37) rfl rfl rfl rfl ?_; intro v6 w6 h6 hg6 hx6; rw [ED.out] at h6; obtain ⟨pc, cc, rfl⟩ := Pa.owns_slice h6; have C6 := hid h6; have HX6 := hid hx6; have X6 := hid (blk_row X5.out C5.out (by decide) hg6); have Y6 := hid (blk_row Y5.out C5.out (by decide) hg6); have R6 := hid (blk_row R5.out C5.out (by decide) hg6); have S6 := hid (blk_row S5.out C5.out (by decide) hg6); have A6 := hid (row_type A5.out C5.out (by decide) hg6); have B6 := hid (row_type B5.out C5.out (by decide) hg6); have P6 := hid (P5.out.trans (PT.of_own C5.out (Or.inr rfl) hg6)); have GW6 : Hid (w.heap.size + 4 ≤ w6.heap.size) := Blk.lt S6.out; have GS6 : Hid (w6.grownBy (w6.setCell ⟨w.heap.size + 1 + 1 + 1, 3, none⟩ (.slice pc DL.length cc)) (some (w.heap.size + 1 + 1 + 1))) := grown_set (grown_refl _ _) 3 _; have S7 := hid (S6.out.set 3 (.slice pc DL.length cc)); simp at S7; have X7 := hid (X6.out.other (a := ⟨w.heap.size + 1 + 1 + 1, 3, none⟩) (.slice pc DL.length cc) (by show _ ≠ w.heap.size + 1 + 1 + 1; omega)); have Y7 := hid (Y6.out.other (a := ⟨w.heap.size + 1 + 1 + 1, 3, none⟩) (.slice pc DL.length cc) (by show _ ≠ w.heap.size + 1 + 1 + 1; omega)); have R7 := hid (R6.out.other (a := ⟨w.heap.size + 1 + 1 + 1, 3, none⟩) (.slice pc DL.length cc) (by show _ ≠ w.heap.size + 1 + 1 + 1; omega)); have C7 := hid (rowG_kept C6.out S6.out (by decide) GS6.out); have A7 := hid (rowG_kept A6.out S6.out (by decide) GS6.out); have B7 := hid (rowG_kept B6.out S6.out (by decide) GS6.out); have P7 := hid (P6.out.through GS6.out (by omega)); have x0 := X6.out.cell 0; have x1 := X6.out.cell 1; have x2 := X6.out.cell 2; have x3 := X6.out.cell 3; have y0 := Y6.out.cell 0; have y1 := Y6.out.cell 1; have y2 := Y6.out.cell 2; have y3 := Y6.out.cell 3; have s0 := S6.out.cell 0; have s1 := S6.out.cell 1; have s2 := S6.out.cell 2; have s3 := S6.out.cell 3; have z0 := S6.out.frozen 0; have z1 := S6.out.frozen 1; have z2 := S6.out.frozen 2; have z3 := S6.out.frozen 3; simp at x0 x1 x2 x3 y0 y1 y2 y3 s0 s1 s2 s3; clear h6 hg6 hx6)
    | (refine Pa.q_is_store 70 (.tmp 6) (.tmp 40) rfl ?_; refine Pa.store_pg 70 Pa.size25 (w.heap.size + 1 + 1) R7.out _ _ rfl rfl rfl rfl ?_; intro w99 hb8 hg8; have BZ := hid hb8; have GZ := hid hg8; clear hb8 hg8))
  refine bodyPost_ret (Pa.results_pg Tryz.results66 _ _ (w.heap.size + 1 + 1) rfl BZ.out) rfl ?_
  rw [HJ.out]
  exact ⟨_, rfl, ⟨_, _, _, rfl, FB.out, rowG_kept A7.out R7.out (by decide) GZ.out, rowG_kept B7.out R7.out (by decide) GZ.out, rowG_kept C7.out R7.out (by decide) GZ.out⟩, P7.out.through GZ.out (by omega)⟩
end Go.Proofs.YtbhmmcelndmijaaGreat
