/-
  Decode: the page of bytes.
-/
import Derived.Test.YtbhmmcelndmijaaGreatPTake
namespace Go.Proofs.YtbhmmcelndmijaaGreat.Pa
open Go.RowKit
def bolR (r : Rs) : Rs := ⟨bolS r.s r.e, takeA r.s r.a 1, bolE r.s r.e⟩
def oneR (r : Rs) : Rs := ⟨takeS r.s r.e 1, takeA r.s r.a 1, takeE r.s r.e 1⟩
def oneN (r : Rs) : Nat := leT (takeV r.s 1) (takeV r.s 1).size
/-- The page that a reader has, and the reader behind it. -/
def takeP (r : Rs) : Pg × Rs :=
  let n := oneN (bolR r)
  let k := txtsN 64 (oneR (bolR r)) n
  if bolN r.s = 1 then (⟨true, k.1, (txtsN 8192 k.2 n).1, []⟩, (txtsN 8192 k.2 n).2) else (⟨false, k.1, [], (cntsN 2147483647 k.2 (n + 1)).1⟩, (cntsN 2147483647 k.2 (n + 1)).2)
theorem bolR_room (r : Rs) : (bolR r).room ≤ r.room := by
  have h1 := take_room r.s r.a r.e 1
  have h2 := failS_size (takeS r.s r.e 1) (takeE r.s r.e 1) (bolF r.s)
  unfold Rs.room bolR bolS
  simp only
  omega
theorem oneR_room (r : Rs) : (oneR r).room ≤ r.room := take_room r.s r.a r.e 1
theorem oneN_lt (r : Rs) : oneN r < 256 := bolN_lt r.s
/-- Two rows do not share their cells. -/
def Far (a b : Value) : Prop := ∀ g, a.ownBlock = some g → b.ownBlock ≠ some g
theorem far_nil (a : Value) : Far a (.slice none 0 0) := fun _ _ e => by cases e
theorem far_of {w w' : World} {base B n m : Nat} {t t' : TypeId} {a b : Value} {xs ys : List Value} (h1 : w.ownsRow base t 1 a n xs) (h2 : w'.ownsRow B t' 1 b m ys) (hB : w.heap.size ≤ B) : Far a b := fun g e1 e2 => by
  have := (h1.lt g e1).2
  have := (h2.lt g e2).1
  omega
/-- A page whose slices are rows of one's own; keys and values lie apart. -/
def PgO (w : World) (base : Nat) (v : Value) (p : Pg) : Prop := ∃ a b c, v = .agg #[.bool p.leaf, a, b, c] ∧ Far a b ∧ w.ownsRow base 9 1 a p.keys.length (strs p.keys) ∧ w.ownsRow base 9 1 b p.vals.length (strs p.vals) ∧ w.ownsRow base 3 1 c p.kids.length (ints p.kids)
theorem PgO.pgV {w : World} {base : Nat} {v : Value} {p : Pg} (h : PgO w base v p) : PgV w v p := by
  obtain ⟨a, b, c, rfl, _, h1, h2, h3⟩ := h
  exact ⟨a, b, c, rfl, RowV.owns h1, RowV.owns h2, RowV.owns h3⟩
theorem owns_kept {w w' : World} {base n b : Nat} {t : TypeId} {v : Value} {xs : List Value} (h : w.ownsRow base t 1 v n xs) (hg : w.grownBy w' (some b)) (hb : b < base) : w'.ownsRow base t 1 v n xs :=
  h.kept hg (by cases hv : v.ownBlock with | none => exact Or.inl rfl | some g => exact Or.inr (fun e => by have := (h.lt g hv).1; have := Option.some.inj e; omega))
theorem owns_keptN {w w' : World} {base n : Nat} {t : TypeId} {v : Value} {xs : List Value} (h : w.ownsRow base t 1 v n xs) (hg : w.grownBy w' none) : w'.ownsRow base t 1 v n xs :=
  h.kept hg (by cases v.ownBlock with | none => exact Or.inl rfl | some g => exact Or.inr (by simp))
theorem PgO.kept {w w' : World} {base b : Nat} {v : Value} {p : Pg} (h : PgO w base v p) (hg : w.grownBy w' (some b)) (hb : b < base) : PgO w' base v p := by
  obtain ⟨a, c, d, rfl, hf, h1, h2, h3⟩ := h
  exact ⟨a, c, d, rfl, hf, owns_kept h1 hg hb, owns_kept h2 hg hb, owns_kept h3 hg hb⟩
theorem PgO.keptN {w w' : World} {base : Nat} {v : Value} {p : Pg} (h : PgO w base v p) (hg : w.grownBy w' none) : PgO w' base v p := by
  obtain ⟨a, c, d, rfl, hf, h1, h2, h3⟩ := h
  exact ⟨a, c, d, rfl, hf, owns_keptN h1 hg, owns_keptN h2 hg, owns_keptN h3 hg⟩
theorem owns_slice {w : World} {base n : Nat} {t : TypeId} {v : Value} {xs : List Value} (h : w.ownsRow base t 1 v n xs) : ∃ pa cap, v = .slice pa n cap := by
  rcases h.2 with ⟨rfl, rfl⟩ | ⟨g, cap, cur, rfl, _⟩
  · exact ⟨_, _, rfl⟩
  · exact ⟨_, _, rfl⟩
theorem owns_le {w : World} {base base' n : Nat} {t : TypeId} {v : Value} {xs : List Value} (h : w.ownsRow base t 1 v n xs) (hb : base' ≤ base) : w.ownsRow base' t 1 v n xs := by
  refine ⟨h.1, ?_⟩
  rcases h.2 with h2 | ⟨g, cap, cur, e, hg, h3⟩
  · exact Or.inl h2
  · exact Or.inr ⟨g, cap, cur, e, Nat.le_trans hb hg, h3⟩
theorem size25 : (Tryz.prog.info? 70).map (·.size) = some 4 := by kernel_rfl
/-- A page stored whole into a block of its own. -/
theorem store_pg {ops : Array Oper} {rest : List Oper} {o : Oper} {a : Act} {w : World} {Q : Exit → Act → World → Prop} (ty : TypeId) (hi : (Tryz.prog.info? ty).map (·.size) = some 4) (g : Nat) {x0 x1 x2 x3 : Value} {l : Bool} {pa pb pc : Option Addr} {n1 n2 n3 ca cb cc : Nat} (hg : Blk w g ty #[x0, x1, x2, x3]) (x y : Operand)
    (hgd : o.guard = none) (ho : o.op = .store ty x y) (hx : a.eval x = .pointer (some ⟨g, 0, none⟩)) (hy : a.eval y = .agg #[.bool l, .slice pa n1 ca, .slice pb n2 cb, .slice pc n3 cc])
    (h : ∀ w', Blk w' g ty #[.bool l, .slice pa n1 ca, .slice pb n2 cb, .slice pc n3 cc] → w.grownBy w' (some g) → wpList Tryz.prog ops Q rest (a.put o.dst undef) w') : wpList Tryz.prog ops Q (o :: rest) a w :=
  wpList_store_row hgd ty x y ho g _ hx hy ty _ hg hi rfl (by simp [Value.oneCell']) (h _ (setRow_blk hg _) (setRow_grown w g _))
theorem results_pg {fn : Func} {p : Tmp} (h : fn.results = #[.cell p 70]) (tmps : Array Value) (w : World) (g : Nat) {x y z u : Value} (hp : tmps.getD p undef = .pointer (some ⟨g, 0, none⟩)) (hg : Blk w g 70 #[x, y, z, u]) : (results fn tmps).run Tryz.prog w = .ok (.agg #[x, y, z, u]) w :=
  results_cell_row h _ _ g 70 _ (0, 0) _ hp hg Tryz.underlying70 rfl size25
def TakePost (w : World) (b : Nat) (p : Pg) (r : Rs) (e : Ending) (w' : World) : Prop := ∃ v, e = .returned v ∧ PgO w' w.heap.size v p ∧ Rd w' b r ∧ w.grownBy w' (some b)
theorem Rd.alloc {w : World} {b : Nat} {r : Rs} (h : Rd w b r) (o : Obj) : Rd (w.alloc o) b r := Blk.alloc h o
theorem calls_at {P : Program} {f : Nat} {args args' : Array Value} {w : World} {Q : Ending → World → Prop} (h : args' = args) (c : Calls P f args w Q) : Calls P f args' w Q := h ▸ c
set_option maxRecDepth 100000 in
set_option maxHeartbeats 1000000 in
theorem take_leaf (b : Nat) (r : Rs) (w : World) (h : Rd w b r) (hr : (r.room : Int) ≤ 9223372036854775807) (hl : bolN r.s = 1) :
    Calls Tryz.prog 56 #[.pointer (some ⟨b, 0, none⟩)] w (TakePost w b (takeP r).1 (takeP r).2) := by
  have H : Hid (Rd w b r) := h
  have hbl : b < w.heap.size := Blk.lt h
  have C1 : Hid (∀ W, Rd W b r → Calls Tryz.prog 75 #[.pointer (some ⟨b, 0, none⟩)] W fun e w' => e = .returned (.bool true) ∧ Rd w' b (bolR r) ∧ W.grownBy w' (some b)) := fun W hW => by
    have := rbool_any b r.s r.a r.e W hW (by unfold Rs.room at hr; omega)
    rw [hl] at this
    exact this
  have m1 := bolR_room r
  have C2 : Hid (∀ W, Rd W b (bolR r) → Calls Tryz.prog 76 #[.pointer (some ⟨b, 0, none⟩), .int .i64 1] W fun e w' => e = .returned (.int .u64 ((oneN (bolR r) : Nat) : Int)) ∧ Rd w' b (oneR (bolR r)) ∧ W.grownBy w' (some b)) := fun W hW => rnumber_any b _ _ _ 1 W hW (by unfold Rs.room at *; omega) (by omega)
  have m2 := oneR_room (bolR r)
  have hn := oneN_lt (bolR r)
  have C3 : Hid (∀ W, Rd W b (oneR (bolR r)) → Calls Tryz.prog 77 #[.pointer (some ⟨b, 0, none⟩), .int .i64 (oneN (bolR r)), .int .i64 64] W (TxPost W b (txtsN 64 (oneR (bolR r)) (oneN (bolR r))).1 (txtsN 64 (oneR (bolR r)) (oneN (bolR r))).2)) := fun W hW => texts_any b _ _ 64 W hW (by omega) (by omega) (by omega)
  have m3 := txtsN_room 64 (oneR (bolR r)) (oneN (bolR r))
  have C4 : Hid (∀ W, Rd W b (txtsN 64 (oneR (bolR r)) (oneN (bolR r))).2 → Calls Tryz.prog 77 #[.pointer (some ⟨b, 0, none⟩), .int .i64 (oneN (bolR r)), .int .i64 8192] W (TxPost W b (txtsN 8192 (txtsN 64 (oneR (bolR r)) (oneN (bolR r))).2 (oneN (bolR r))).1 (txtsN 8192 (txtsN 64 (oneR (bolR r)) (oneN (bolR r))).2 (oneN (bolR r))).2)) := fun W hW => texts_any b _ _ 8192 W hW (by omega) (by omega) (by omega)
  have et : takeP r = (⟨true, (txtsN 64 (oneR (bolR r)) (oneN (bolR r))).1, (txtsN 8192 (txtsN 64 (oneR (bolR r)) (oneN (bolR r))).2 (oneN (bolR r))).1, []⟩, (txtsN 8192 (txtsN 64 (oneR (bolR r)) (oneN (bolR r))).2 (oneN (bolR r))).2) := by
    unfold takeP
    simp only [hl, if_true]
  rw [et]
  simp only
  have l1 := txtsN_len 64 (oneR (bolR r)) (oneN (bolR r))
  have l2 := txtsN_len 8192 (txtsN 64 (oneR (bolR r)) (oneN (bolR r))).2 (oneN (bolR r))
  clear h et m1 m2 m3 hr
  generalize (txtsN 8192 (txtsN 64 (oneR (bolR r)) (oneN (bolR r))).2 (oneN (bolR r))) = K2 at *
  generalize (txtsN 64 (oneR (bolR r)) (oneN (bolR r))) = K1 at *
  generalize oneN (bolR r) = n at *
  generalize oneR (bolR r) = r2 at *
  generalize bolR r = r1 at *
  obtain ⟨ks, r3⟩ := K1
  obtain ⟨vs, r4⟩ := K2
  simp only at *
  obtain ⟨P, hP⟩ : ∃ P, P = TakePost w b ⟨true, ks, vs, []⟩ r4 := ⟨_, rfl⟩
  rw [← hP]
  have HP := hid hP
  clear hP
  have n0 : (0 : Int) ≤ n := by omega
  have n1 : (n : Int) < 256 := by omega
  have nw : IntKind.i64.wrap (n : Int) = n := by simp [IntKind.wrap, IntKind.bits, IntKind.signed]; omega
  go_enter Tryz.func56, Tryz.ntmps56
  go_wp2_with (first
    | (go_at_call 75; refine (C1.out _ (H.out.alloc _)).mono ?_; rintro e w1 ⟨rfl, hrd, hg⟩; have R1 : Hid (Rd w1 b r1) := hrd; have G1 : Hid (w.grownBy w1 (some b)) := grown_trans (grown_alloc (grown_refl _ _) _) hg; have B1 : Hid (Blk w1 w.heap.size 70 #[.bool false, .slice none 0 0, .slice none 0 0, .slice none 0 0]) := (Blk.new w 70 _).kept hg (by simp; omega); clear hrd hg C1 H)
    | (go_at_call 76; refine (C2.out _ (R1.out.alloc _)).mono ?_; rintro e w2 ⟨rfl, hrd, hg⟩; have R2 : Hid (Rd w2 b r2) := hrd; have B2 : Hid (Blk w2 w.heap.size 70 #[.bool false, .slice none 0 0, .slice none 0 0, .slice none 0 0]) := (B1.out.alloc _).kept hg (by simp; omega); have hw1 : w.heap.size < w1.heap.size := B1.out.lt; have P2 : Hid (Blk w2 w1.heap.size 70 #[.bool true, .slice none 0 0, .slice none 0 0, .slice none 0 0]) := (Blk.new w1 70 _).kept hg (by simp; omega); have G2 : Hid (w.grownBy w2 (some b)) := grown_trans (grown_alloc G1.out _) hg; clear hrd hg C2 R1 B1 G1)
    | (go_at_call 77; refine calls_at (args := #[.pointer (some ⟨b, 0, none⟩), .int .i64 n, .int .i64 64]) rfl ?_; refine (C3.out _ R2.out).mono ?_; rintro e w3 ⟨v, rfl, hown, hrd, hg⟩; have R3 : Hid (Rd w3 b r3) := hrd; have B3 : Hid (Blk w3 w.heap.size 70 #[.bool false, .slice none 0 0, .slice none 0 0, .slice none 0 0]) := B2.out.kept hg (by simp; omega); have P3 : Hid (Blk w3 w1.heap.size 70 #[.bool true, .slice none 0 0, .slice none 0 0, .slice none 0 0]) := P2.out.kept hg (by simp; omega); have G3 : Hid (w.grownBy w3 (some b)) := grown_trans G2.out hg; rw [l1] at hown; obtain ⟨pa, ca, rfl⟩ := owns_slice hown; have O3 : Hid (w3.ownsRow (w1.heap.size + 1) 9 1 (.slice pa n ca) n (strs ks)) := owns_le hown P2.out.lt; have c0 := P3.out.cell 0; have c1 := P3.out.cell 1; have f1 := P3.out.frozen 1; simp at c0 c1; clear hrd hg C3 R2 B2 G2 P2 hown))
  refine calls_at (args := #[.pointer (some ⟨b, 0, none⟩), .int .i64 n, .int .i64 8192]) rfl ?_
  refine (C4.out _ (Blk.other R3.out _ (by show b ≠ w1.heap.size; omega))).mono ?_
  rintro e w4 ⟨v, rfl, hown, hrd, hg⟩
  have R4 : Hid (Rd w4 b r4) := hrd
  have B4 : Hid (Blk w4 w.heap.size 70 #[.bool false, .slice none 0 0, .slice none 0 0, .slice none 0 0]) := (B3.out.other _ (by show w.heap.size ≠ w1.heap.size; omega)).kept hg (by simp; omega)
  have P4 : Hid (Blk w4 w1.heap.size 70 #[.bool true, .slice pa n ca, .slice none 0 0, .slice none 0 0]) := (P3.out.set 1 _).kept hg (by simp; omega)
  have G4 : Hid (w.grownBy w4 (some b)) := grown_trans (grown_set_new G3.out _ (by show w.heap.size ≤ w1.heap.size; omega)) hg
  rw [l2] at hown
  obtain ⟨pb, cb, rfl⟩ := owns_slice hown
  have O4 : Hid (w4.ownsRow (w1.heap.size + 1) 9 1 (.slice pa n ca) n (strs ks)) := owns_kept (ownsRow_setCell_below O3.out (a := ⟨w1.heap.size, 1, none⟩) (Nat.lt_succ_self _) (.slice pa n ca)) hg (by omega)
  have F4 : Hid (Far (.slice pa n ca) (.slice pb n cb)) := far_of O3.out hown (by simp [World.setCell])
  have Q4 : Hid (w4.ownsRow (w1.heap.size + 1) 9 1 (.slice pb n cb) n (strs vs)) := owns_le hown (by have := P3.out.lt; show w1.heap.size + 1 ≤ _; simp [World.setCell]; omega)
  have d0 := P4.out.cell 0
  have d1 := P4.out.cell 1
  have d2 := P4.out.cell 2
  have d3 := P4.out.cell 3
  have f2 := P4.out.frozen 2
  have g0 := B4.out.frozen 0
  have g1 := B4.out.frozen 1
  have g2 := B4.out.frozen 2
  have g3 := B4.out.frozen 3
  simp at d0 d1 d2 d3
  clear hrd hg C4 R3 B3 G3 P3 hown O3 c0 c1 f1
  go_wp2_with (refine q_is_store 70 (.tmp 2) (.tmp 26) rfl ?_; refine store_pg 70 size25 w.heap.size (B4.out.other (a := ⟨w1.heap.size, 2, none⟩) (.slice pb n cb) (by show w.heap.size ≠ w1.heap.size; omega)) _ _ rfl rfl rfl rfl ?_; intro w5 hb5 hg5; have B5 : Hid (Blk w5 w.heap.size 70 #[.bool true, .slice pa n ca, .slice pb n cb, .slice none 0 0]) := hb5; have G5 : Hid ((w4.setCell ⟨w1.heap.size, 2, none⟩ (.slice pb n cb)).grownBy w5 (some w.heap.size)) := hg5; clear hb5 hg5 B4)
  refine bodyPost_ret (results_pg Tryz.results56 _ _ w.heap.size rfl B5.out) rfl ?_
  rw [HP.out]
  have O5 : w5.ownsRow w.heap.size 9 1 (.slice pa n ca) n (strs ks) := owns_le (owns_kept (ownsRow_setCell_below O4.out (a := ⟨w1.heap.size, 2, none⟩) (Nat.lt_succ_self _) (.slice pb n cb)) G5.out (by omega)) (by omega)
  have Q5 : w5.ownsRow w.heap.size 9 1 (.slice pb n cb) n (strs vs) := owns_le (owns_kept (ownsRow_setCell_below Q4.out (a := ⟨w1.heap.size, 2, none⟩) (Nat.lt_succ_self _) (.slice pb n cb)) G5.out (by omega)) (by omega)
  refine ⟨_, rfl, ⟨_, _, _, rfl, F4.out, ?_, ?_, World.ownsRow_nil _ _ _ _⟩, ?_, ?_⟩
  · show w5.ownsRow w.heap.size 9 1 _ ks.length _
    rw [l1]; exact O5
  · show w5.ownsRow w.heap.size 9 1 _ vs.length _
    rw [l2]; exact Q5
  · exact Blk.kept (Blk.other R4.out (a := ⟨w1.heap.size, 2, none⟩) (.slice pb n cb) (by show b ≠ w1.heap.size; omega)) G5.out (by simp; omega)
  · exact grown_ob' (grown_set_new G4.out (a := ⟨w1.heap.size, 2, none⟩) (.slice pb n cb) (by show w.heap.size ≤ w1.heap.size; omega)) G5.out (fun x e => by have := Option.some.inj e; omega)
set_option maxRecDepth 100000 in
set_option maxHeartbeats 1000000 in
theorem take_kids (b : Nat) (r : Rs) (w : World) (h : Rd w b r) (hr : (r.room : Int) ≤ 9223372036854775807) (hl : bolN r.s ≠ 1) :
    Calls Tryz.prog 56 #[.pointer (some ⟨b, 0, none⟩)] w (TakePost w b (takeP r).1 (takeP r).2) := by
  have H : Hid (Rd w b r) := h
  have hbl : b < w.heap.size := Blk.lt h
  have C1 : Hid (∀ W, Rd W b r → Calls Tryz.prog 75 #[.pointer (some ⟨b, 0, none⟩)] W fun e w' => e = .returned (.bool false) ∧ Rd w' b (bolR r) ∧ W.grownBy w' (some b)) := fun W hW => by
    have := rbool_any b r.s r.a r.e W hW (by unfold Rs.room at hr; omega)
    rw [show ((bolN r.s : Int) == 1) = false by simp; omega] at this
    exact this
  have m1 := bolR_room r
  have C2 : Hid (∀ W, Rd W b (bolR r) → Calls Tryz.prog 76 #[.pointer (some ⟨b, 0, none⟩), .int .i64 1] W fun e w' => e = .returned (.int .u64 ((oneN (bolR r) : Nat) : Int)) ∧ Rd w' b (oneR (bolR r)) ∧ W.grownBy w' (some b)) := fun W hW => rnumber_any b _ _ _ 1 W hW (by unfold Rs.room at *; omega) (by omega)
  have m2 := oneR_room (bolR r)
  have hn := oneN_lt (bolR r)
  have C3 : Hid (∀ W, Rd W b (oneR (bolR r)) → Calls Tryz.prog 77 #[.pointer (some ⟨b, 0, none⟩), .int .i64 (oneN (bolR r)), .int .i64 64] W (TxPost W b (txtsN 64 (oneR (bolR r)) (oneN (bolR r))).1 (txtsN 64 (oneR (bolR r)) (oneN (bolR r))).2)) := fun W hW => texts_any b _ _ 64 W hW (by omega) (by omega) (by omega)
  have m3 := txtsN_room 64 (oneR (bolR r)) (oneN (bolR r))
  have C4 : Hid (∀ W, Rd W b (txtsN 64 (oneR (bolR r)) (oneN (bolR r))).2 → Calls Tryz.prog 78 #[.pointer (some ⟨b, 0, none⟩), .int .i64 ((oneN (bolR r) + 1 : Nat) : Int)] W (NuPost W b (cntsN 2147483647 (txtsN 64 (oneR (bolR r)) (oneN (bolR r))).2 (oneN (bolR r) + 1)).1 (cntsN 2147483647 (txtsN 64 (oneR (bolR r)) (oneN (bolR r))).2 (oneN (bolR r) + 1)).2)) := fun W hW => places_any b _ _ W hW (by omega) (by omega)
  have et : takeP r = (⟨false, (txtsN 64 (oneR (bolR r)) (oneN (bolR r))).1, [], (cntsN 2147483647 (txtsN 64 (oneR (bolR r)) (oneN (bolR r))).2 (oneN (bolR r) + 1)).1⟩, (cntsN 2147483647 (txtsN 64 (oneR (bolR r)) (oneN (bolR r))).2 (oneN (bolR r) + 1)).2) := by
    unfold takeP
    simp only [hl, if_false]
  rw [et]
  simp only
  have l1 := txtsN_len 64 (oneR (bolR r)) (oneN (bolR r))
  have l2 := cntsN_len 2147483647 (txtsN 64 (oneR (bolR r)) (oneN (bolR r))).2 (oneN (bolR r) + 1)
  clear h et m1 m2 m3 hr
  generalize (cntsN 2147483647 (txtsN 64 (oneR (bolR r)) (oneN (bolR r))).2 (oneN (bolR r) + 1)) = K2 at *
  generalize (txtsN 64 (oneR (bolR r)) (oneN (bolR r))) = K1 at *
  generalize oneN (bolR r) = n at *
  generalize oneR (bolR r) = r2 at *
  generalize bolR r = r1 at *
  obtain ⟨ks, r3⟩ := K1
  obtain ⟨vs, r4⟩ := K2
  simp only at *
  obtain ⟨P, hP⟩ : ∃ P, P = TakePost w b ⟨false, ks, [], vs⟩ r4 := ⟨_, rfl⟩
  rw [← hP]
  have HP := hid hP
  clear hP
  have n0 : (0 : Int) ≤ n := by omega
  have n1 : (n : Int) < 256 := by omega
  have nw : IntKind.i64.wrap (n : Int) = n := by simp [IntKind.wrap, IntKind.bits, IntKind.signed]; omega
  go_enter Tryz.func56, Tryz.ntmps56
  go_wp2_with (first
    | (go_at_call 75; refine (C1.out _ (H.out.alloc _)).mono ?_; rintro e w1 ⟨rfl, hrd, hg⟩; have R1 : Hid (Rd w1 b r1) := hrd; have G1 : Hid (w.grownBy w1 (some b)) := grown_trans (grown_alloc (grown_refl _ _) _) hg; have B1 : Hid (Blk w1 w.heap.size 70 #[.bool false, .slice none 0 0, .slice none 0 0, .slice none 0 0]) := (Blk.new w 70 _).kept hg (by simp; omega); clear hrd hg C1 H)
    | (go_at_call 76; refine (C2.out _ (R1.out.alloc _)).mono ?_; rintro e w2 ⟨rfl, hrd, hg⟩; have R2 : Hid (Rd w2 b r2) := hrd; have B2 : Hid (Blk w2 w.heap.size 70 #[.bool false, .slice none 0 0, .slice none 0 0, .slice none 0 0]) := (B1.out.alloc _).kept hg (by simp; omega); have hw1 : w.heap.size < w1.heap.size := B1.out.lt; have P2 : Hid (Blk w2 w1.heap.size 70 #[.bool false, .slice none 0 0, .slice none 0 0, .slice none 0 0]) := (Blk.new w1 70 _).kept hg (by simp; omega); have G2 : Hid (w.grownBy w2 (some b)) := grown_trans (grown_alloc G1.out _) hg; clear hrd hg C2 R1 B1 G1)
    | (go_at_call 77; refine calls_at (args := #[.pointer (some ⟨b, 0, none⟩), .int .i64 n, .int .i64 64]) rfl ?_; refine (C3.out _ R2.out).mono ?_; rintro e w3 ⟨v, rfl, hown, hrd, hg⟩; have R3 : Hid (Rd w3 b r3) := hrd; have B3 : Hid (Blk w3 w.heap.size 70 #[.bool false, .slice none 0 0, .slice none 0 0, .slice none 0 0]) := B2.out.kept hg (by simp; omega); have P3 : Hid (Blk w3 w1.heap.size 70 #[.bool false, .slice none 0 0, .slice none 0 0, .slice none 0 0]) := P2.out.kept hg (by simp; omega); have G3 : Hid (w.grownBy w3 (some b)) := grown_trans G2.out hg; rw [l1] at hown; obtain ⟨pa, ca, rfl⟩ := owns_slice hown; have O3 : Hid (w3.ownsRow (w1.heap.size + 1) 9 1 (.slice pa n ca) n (strs ks)) := owns_le hown P2.out.lt; have c0 := P3.out.cell 0; have c1 := P3.out.cell 1; have f1 := P3.out.frozen 1; simp at c0 c1; clear hrd hg C3 R2 B2 G2 P2 hown))
  refine calls_at (args := #[.pointer (some ⟨b, 0, none⟩), .int .i64 ((n + 1 : Nat) : Int)]) (by rw [Int.natCast_add]; rfl) ?_
  refine (C4.out _ (Blk.other R3.out _ (by show b ≠ w1.heap.size; omega))).mono ?_
  rintro e w4 ⟨v, rfl, hown, hrd, hg⟩
  have R4 : Hid (Rd w4 b r4) := hrd
  have B4 : Hid (Blk w4 w.heap.size 70 #[.bool false, .slice none 0 0, .slice none 0 0, .slice none 0 0]) := (B3.out.other _ (by show w.heap.size ≠ w1.heap.size; omega)).kept hg (by simp; omega)
  have P4 : Hid (Blk w4 w1.heap.size 70 #[.bool false, .slice pa n ca, .slice none 0 0, .slice none 0 0]) := (P3.out.set 1 _).kept hg (by simp; omega)
  have G4 : Hid (w.grownBy w4 (some b)) := grown_trans (grown_set_new G3.out _ (by show w.heap.size ≤ w1.heap.size; omega)) hg
  rw [l2] at hown
  obtain ⟨pb, cb, rfl⟩ := owns_slice hown
  have O4 : Hid (w4.ownsRow (w1.heap.size + 1) 9 1 (.slice pa n ca) n (strs ks)) := owns_kept (ownsRow_setCell_below O3.out (a := ⟨w1.heap.size, 1, none⟩) (Nat.lt_succ_self _) (.slice pa n ca)) hg (by omega)
  have Q4 : Hid (w4.ownsRow (w1.heap.size + 1) 3 1 (.slice pb (n + 1) cb) (n + 1) (ints vs)) := owns_le hown (by have := P3.out.lt; show w1.heap.size + 1 ≤ _; simp [World.setCell]; omega)
  have d0 := P4.out.cell 0
  have d1 := P4.out.cell 1
  have d2 := P4.out.cell 2
  have d3 := P4.out.cell 3
  have f2 := P4.out.frozen 3
  have g0 := B4.out.frozen 0
  have g1 := B4.out.frozen 1
  have g2 := B4.out.frozen 2
  have g3 := B4.out.frozen 3
  simp at d0 d1 d2 d3
  clear hrd hg C4 R3 B3 G3 P3 hown O3 c0 c1 f1
  go_wp2_with (refine q_is_store 70 (.tmp 2) (.tmp 26) rfl ?_; refine store_pg 70 size25 w.heap.size (B4.out.other (a := ⟨w1.heap.size, 3, none⟩) (.slice pb (n + 1) cb) (by show w.heap.size ≠ w1.heap.size; omega)) _ _ rfl rfl rfl rfl ?_; intro w5 hb5 hg5; have B5 : Hid (Blk w5 w.heap.size 70 #[.bool false, .slice pa n ca, .slice none 0 0, .slice pb (n + 1) cb]) := hb5; have G5 : Hid ((w4.setCell ⟨w1.heap.size, 3, none⟩ (.slice pb (n + 1) cb)).grownBy w5 (some w.heap.size)) := hg5; clear hb5 hg5 B4)
  refine bodyPost_ret (results_pg Tryz.results56 _ _ w.heap.size rfl B5.out) rfl ?_
  rw [HP.out]
  have O5 : w5.ownsRow w.heap.size 9 1 (.slice pa n ca) n (strs ks) := owns_le (owns_kept (ownsRow_setCell_below O4.out (a := ⟨w1.heap.size, 3, none⟩) (Nat.lt_succ_self _) (.slice pb (n + 1) cb)) G5.out (by omega)) (by omega)
  have Q5 : w5.ownsRow w.heap.size 3 1 (.slice pb (n + 1) cb) (n + 1) (ints vs) := owns_le (owns_kept (ownsRow_setCell_below Q4.out (a := ⟨w1.heap.size, 3, none⟩) (Nat.lt_succ_self _) (.slice pb (n + 1) cb)) G5.out (by omega)) (by omega)
  refine ⟨_, rfl, ⟨_, _, _, rfl, far_nil _, ?_, World.ownsRow_nil _ _ _ _, ?_⟩, ?_, ?_⟩
  · show w5.ownsRow w.heap.size 9 1 _ ks.length _
    rw [l1]; exact O5
  · show w5.ownsRow w.heap.size 3 1 _ vs.length _
    rw [l2]; exact Q5
  · exact Blk.kept (Blk.other R4.out (a := ⟨w1.heap.size, 3, none⟩) (.slice pb (n + 1) cb) (by show b ≠ w1.heap.size; omega)) G5.out (by simp; omega)
  · exact grown_ob' (grown_set_new G4.out (a := ⟨w1.heap.size, 3, none⟩) (.slice pb (n + 1) cb) (by show w.heap.size ≤ w1.heap.size; omega)) G5.out (fun x e => by have := Option.some.inj e; omega)
end Go.Proofs.YtbhmmcelndmijaaGreat.Pa
