/-
  Clone: a page whose lists are its own.
-/
import Derived.Test.YtomknaendicpkaaDec
namespace Go.Proofs.Ytomknaendicpkaa
open Go.RowKit
def ClS (w : World) (l : List ByteArray) (e : Ending) (w' : World) : Prop := ∃ v, e = .returned v ∧ w'.ownsRow w.heap.size 9 1 v l.length (strs l) ∧ w.grownBy w' none
def ClI (w : World) (l : List Int) (e : Ending) (w' : World) : Prop := ∃ v, e = .returned v ∧ w'.ownsRow w.heap.size 3 1 v l.length (ints l) ∧ w.grownBy w' none
set_option maxRecDepth 100000 in
set_option maxHeartbeats 1000000 in
theorem cloneS_any (a : Value) (l : List ByteArray) (w : World) (h : RowV Value.string w a l) (hl : l.length ≤ 1000) : Calls Try.prog 39 #[a] w (ClS w l) := by
  obtain ⟨pa, ca, ga, oa, rfl, pA, cA⟩ := h
  obtain ⟨P, hP⟩ : ∃ P, P = ClS w l := ⟨_, rfl⟩
  rw [← hP]
  have HP := hid hP
  clear hP
  cases pa with
  | none =>
    have e : l = [] := by
      cases l with
      | nil => rfl
      | cons x r => exact absurd (pA (by simp)) (by simp)
    subst e
    have F : P (.returned (.slice none 0 0)) w := by rw [HP.out]; exact ⟨_, rfl, World.ownsRow_nil _ _ _ _, grown_refl _ _⟩
    have q22 : ∀ (w : World) (a : Option Addr) (n c n' c' : Nat), (binOp .eql 22 (.slice a n c) (.slice none n' c')).run Try.prog w = .ok (.bool a.isNone) w := fun w a n c n' c' => Lib.run_eql_slice_nil w _ _ a n c n' c' Try.underlying22
    have FH := hid F
    clear F cA pA HP
    go_enter Try.func39, Try.ntmps39
    go_wp2
    exact FH.out
  | some ad =>
    have q22 : ∀ (w : World) (a : Option Addr) (n c n' c' : Nat), (binOp .eql 22 (.slice a n c) (.slice none n' c')).run Try.prog w = .ok (.bool a.isNone) w := fun w a n c n' c' => Lib.run_eql_slice_nil w _ _ a n c n' c' Try.underlying22
    have hnews : Hid (∀ j u, (strs l)[j]? = some u → (w.alloc (.cells #[] 9)).cell? (ad.add j) = some u) := fun j u hj => by
      unfold strs at hj
      have hjl : j < l.length := by
        by_cases hx : j < l.length
        · exact hx
        · rw [List.getElem?_eq_none (by simp; omega)] at hj; cases hj
      have had := Option.some.inj (pA (by omega))
      rw [List.getElem?_map, List.getElem?_eq_getElem hjl] at hj
      simp at hj
      rw [had, Addr.add_lit, ← hj]
      exact cell_kept (grown_alloc (grown_refl _ _) _) (cA j hjl)
    have hone : ∀ u ∈ strs l, u.oneCell' = true := by
      intro u hu
      unfold strs at hu
      obtain ⟨x, _, rfl⟩ := List.mem_map.mp hu
      rfl
    have HO := hid hone
    have LN : (strs l).length = l.length * 1 := by simp [strs]
    obtain ⟨i9, hi, hz0, hz1, hz2⟩ := info_parts info9
    clear cA pA hone
    go_enter Try.func39, Try.ntmps39
    go_wp2_with (at_builtin; refine wpList_append_own _ rfl _ _ 22 rfl w.heap.size 9 i9 _ 1 16 Try.underlying22 hi hz0 hz1 hz2 rfl (by decide) _ _ _ rfl (World.ownsRow_made w #[] 0 (Nat.le_refl _) (Nat.zero_le _) (by simp)) ad l.length ca (strs l) rfl ?qc1 ?qc2 ?qc3 ?qc4 ?qc5 ?qc6 ?_)
    case qc1 => exact LN
    case qc2 => exact hnews.out
    case qc3 => exact HO.out
    case qc4 => unfold maxLen; omega
    case qc5 => omega
    case qc6 => simp
    intro v' w1 hown hgrow _
    have F : P (.returned v') w1 := by
      rw [HP.out]
      refine ⟨v', rfl, by simpa using hown, ?_⟩
      exact grown_ob' (grown_alloc (grown_refl _ none) _) hgrow (fun x e => by simp [Value.ownBlock] at e; omega)
    have FH := hid F
    clear F hown hgrow
    go_wp2
    exact FH.out
set_option maxRecDepth 100000 in
set_option maxHeartbeats 1000000 in
theorem cloneI_any (a : Value) (l : List Int) (w : World) (h : RowV (Value.int .i64) w a l) (hl : l.length ≤ 1000) : Calls Try.prog 40 #[a] w (ClI w l) := by
  obtain ⟨pa, ca, ga, oa, rfl, pA, cA⟩ := h
  obtain ⟨P, hP⟩ : ∃ P, P = ClI w l := ⟨_, rfl⟩
  rw [← hP]
  have HP := hid hP
  clear hP
  cases pa with
  | none =>
    have e : l = [] := by
      cases l with
      | nil => rfl
      | cons x r => exact absurd (pA (by simp)) (by simp)
    subst e
    have F : P (.returned (.slice none 0 0)) w := by rw [HP.out]; exact ⟨_, rfl, World.ownsRow_nil _ _ _ _, grown_refl _ _⟩
    have q23 : ∀ (w : World) (a : Option Addr) (n c n' c' : Nat), (binOp .eql 23 (.slice a n c) (.slice none n' c')).run Try.prog w = .ok (.bool a.isNone) w := fun w a n c n' c' => Lib.run_eql_slice_nil w _ _ a n c n' c' Try.underlying23
    have FH := hid F
    clear F cA pA HP
    go_enter Try.func40, Try.ntmps40
    go_wp2
    exact FH.out
  | some ad =>
    have q23 : ∀ (w : World) (a : Option Addr) (n c n' c' : Nat), (binOp .eql 23 (.slice a n c) (.slice none n' c')).run Try.prog w = .ok (.bool a.isNone) w := fun w a n c n' c' => Lib.run_eql_slice_nil w _ _ a n c n' c' Try.underlying23
    have hnews : Hid (∀ j u, (ints l)[j]? = some u → (w.alloc (.cells #[] 3)).cell? (ad.add j) = some u) := fun j u hj => by
      unfold ints at hj
      have hjl : j < l.length := by
        by_cases hx : j < l.length
        · exact hx
        · rw [List.getElem?_eq_none (by simp; omega)] at hj; cases hj
      have had := Option.some.inj (pA (by omega))
      rw [List.getElem?_map, List.getElem?_eq_getElem hjl] at hj
      simp at hj
      rw [had, Addr.add_lit, ← hj]
      exact cell_kept (grown_alloc (grown_refl _ _) _) (cA j hjl)
    have hone : ∀ u ∈ ints l, u.oneCell' = true := by
      intro u hu
      unfold ints at hu
      obtain ⟨x, _, rfl⟩ := List.mem_map.mp hu
      rfl
    have HO := hid hone
    have LN : (ints l).length = l.length * 1 := by simp [ints]
    obtain ⟨i3, hi, hz0, hz1, hz2⟩ := info_parts info3
    clear cA pA hone
    go_enter Try.func40, Try.ntmps40
    go_wp2_with (at_builtin; refine wpList_append_own _ rfl _ _ 23 rfl w.heap.size 3 i3 _ 1 8 Try.underlying23 hi hz0 hz1 hz2 rfl (by decide) _ _ _ rfl (World.ownsRow_made w #[] 0 (Nat.le_refl _) (Nat.zero_le _) (by simp)) ad l.length ca (ints l) rfl ?qc1 ?qc2 ?qc3 ?qc4 ?qc5 ?qc6 ?_)
    case qc1 => exact LN
    case qc2 => exact hnews.out
    case qc3 => exact HO.out
    case qc4 => unfold maxLen; omega
    case qc5 => omega
    case qc6 => simp
    intro v' w1 hown hgrow _
    have F : P (.returned v') w1 := by
      rw [HP.out]
      refine ⟨v', rfl, by simpa using hown, ?_⟩
      exact grown_ob' (grown_alloc (grown_refl _ none) _) hgrow (fun x e => by simp [Value.ownBlock] at e; omega)
    have FH := hid F
    clear F hown hgrow
    go_wp2
    exact FH.out
/-- A page of one's own, its lists in blocks apart. -/
def ClP (w : World) (p : Pg) (e : Ending) (w' : World) : Prop := ∃ a b c, e = .returned (.agg #[.bool p.leaf, a, b, c]) ∧ w'.ownsRow w.heap.size 9 1 a p.keys.length (strs p.keys) ∧ w'.ownsRow w.heap.size 9 1 b p.vals.length (strs p.vals) ∧ w'.ownsRow w.heap.size 3 1 c p.kids.length (ints p.kids) ∧ w.grownBy w' none ∧ ∀ g, a.ownBlock = some g → b.ownBlock ≠ some g ∧ c.ownBlock ≠ some g
set_option maxRecDepth 100000 in
set_option maxHeartbeats 2000000 in
theorem clone_pg (v : Value) (p : Pg) (w : World) (h : PgV w v p) (h1 : p.keys.length ≤ 1000) (h2 : p.vals.length ≤ 1000) (h3 : p.kids.length ≤ 1000) : Calls Try.prog 17 #[v] w (ClP w p) := by
  obtain ⟨a, b, c, rfl, ha, hb, hc⟩ := h
  obtain ⟨P, hP⟩ : ∃ P, P = ClP w p := ⟨_, rfl⟩
  rw [← hP]
  have HP := hid hP
  clear hP
  have CA : Hid (∀ W, w.grownBy W none → Calls Try.prog 39 #[a] W (ClS W p.keys)) := fun W hW => cloneS_any a _ W (ha.kept hW) h1
  have CB : Hid (∀ W, w.grownBy W none → Calls Try.prog 39 #[b] W (ClS W p.vals)) := fun W hW => cloneS_any b _ W (hb.kept hW) h2
  have CC : Hid (∀ W, w.grownBy W none → Calls Try.prog 40 #[c] W (ClI W p.kids)) := fun W hW => cloneI_any c _ W (hc.kept hW) h3
  obtain ⟨pa, ca, ga, oa, rfl, -, -⟩ := ha
  obtain ⟨pb, cb, gb, ob, rfl, -, -⟩ := hb
  obtain ⟨pc, cc, gc, oc, rfl, -, -⟩ := hc
  obtain ⟨lf, ks, vs, kd⟩ := p
  simp only at *
  obtain ⟨n1, hn1⟩ : ∃ n, ks.length = n := ⟨_, rfl⟩
  obtain ⟨n2, hn2⟩ : ∃ n, vs.length = n := ⟨_, rfl⟩
  obtain ⟨n3, hn3⟩ : ∃ n, kd.length = n := ⟨_, rfl⟩
  rw [hn1, hn2, hn3]
  rw [hn1] at CA
  rw [hn2] at CB
  rw [hn3] at CC
  have N1 := hid hn1
  have N2 := hid hn2
  have N3 := hid hn3
  clear hn1 hn2 hn3 h1 h2 h3
  go_enter Try.func17, Try.ntmps17
  go_wp2_with (go_at_call 39; refine (CA.out _ (grown_alloc (grown_alloc (grown_refl _ _) _) _)).mono ?_; rintro e w1 ⟨v1, rfl, ho1, hg1⟩; rw [N1.out] at ho1; obtain ⟨qa, da, rfl⟩ := owns_slice ho1; have G1 : Hid (w.grownBy w1 none) := grown_none (grown_alloc (grown_alloc (grown_refl _ _) _) _) hg1; have P1 : Hid (Blk w1 w.heap.size 25 #[.bool lf, .slice pa n1 ca, .slice pb n2 cb, .slice pc n3 cc]) := ((Blk.new w 25 _).alloc _).kept hg1 (by simp); have R1 : Hid (Blk w1 (w.heap.size + 1) 25 #[.bool false, .slice none 0 0, .slice none 0 0, .slice none 0 0]) := (Blk.new2 w _ 25 _).kept hg1 (by simp); have O1 : Hid (w1.ownsRow (w.heap.size + 2) 9 1 (.slice qa n1 da) n1 (strs ks)) := owns_le ho1 (by simp); have c1 := P1.out.cell 1; have f1 := P1.out.frozen 1; have c2 := P1.out.cell 2; simp at c1 c2; clear ho1 hg1 CA)
  refine (CB.out _ (grown_set_new G1.out (a := ⟨w.heap.size, 1, none⟩) _ (Nat.le_refl _))).mono ?_
  rintro e w2 ⟨v2, rfl, ho2, hg2⟩
  rw [N2.out] at ho2
  obtain ⟨qb, db, rfl⟩ := owns_slice ho2
  have G2 : Hid (w.grownBy w2 none) := grown_none (grown_set_new G1.out (a := ⟨w.heap.size, 1, none⟩) _ (Nat.le_refl _)) hg2
  have P2 : Hid (Blk w2 w.heap.size 25 #[.bool lf, .slice qa n1 da, .slice pb n2 cb, .slice pc n3 cc]) := (P1.out.set 1 _).kept hg2 (by simp)
  have R2 : Hid (Blk w2 (w.heap.size + 1) 25 #[.bool false, .slice none 0 0, .slice none 0 0, .slice none 0 0]) := (R1.out.other _ (by show w.heap.size + 1 ≠ w.heap.size; omega)).kept hg2 (by simp)
  have O2 : Hid (w2.ownsRow (w.heap.size + 2) 9 1 (.slice qa n1 da) n1 (strs ks)) := owns_keptN (ownsRow_setCell_below O1.out (a := ⟨w.heap.size, 1, none⟩) (by show w.heap.size < _; omega) _) hg2
  have hz1 : w.heap.size + 2 ≤ w1.heap.size := R1.out.lt
  have Q2 : Hid (w2.ownsRow w1.heap.size 9 1 (.slice qb n2 db) n2 (strs vs)) := owns_le ho2 (by simp [World.setCell])
  have K1 : Hid (∀ g, (Value.slice qa n1 da).ownBlock = some g → g < w1.heap.size) := fun g hg => (O1.out.lt g hg).2
  have hz2 : w1.heap.size ≤ w2.heap.size := by have := hg2.size; simpa [World.setCell] using this
  clear c1 f1 c2 ho2 hg2 CB O1 P1 R1 G1
  have c2 := P2.out.cell 2
  have f2 := P2.out.frozen 2
  have c3 := P2.out.cell 3
  simp at c2 c3
  go_wp2_with (first | (go_at_call 40; refine (CC.out _ (grown_set_new G2.out (a := ⟨w.heap.size, 2, none⟩) _ (Nat.le_refl _))).mono ?_; rintro e w3 ⟨v3, rfl, ho3, hg3⟩; rw [N3.out] at ho3; obtain ⟨qc, dc, rfl⟩ := owns_slice ho3; have G3 : Hid (w.grownBy w3 none) := grown_none (grown_set_new G2.out (a := ⟨w.heap.size, 2, none⟩) _ (Nat.le_refl _)) hg3; have P3 : Hid (Blk w3 w.heap.size 25 #[.bool lf, .slice qa n1 da, .slice qb n2 db, .slice pc n3 cc]) := (P2.out.set 2 _).kept hg3 (by simp); have R3 : Hid (Blk w3 (w.heap.size + 1) 25 #[.bool false, .slice none 0 0, .slice none 0 0, .slice none 0 0]) := (R2.out.other _ (by show w.heap.size + 1 ≠ w.heap.size; omega)).kept hg3 (by simp); have O3 : Hid (w3.ownsRow (w.heap.size + 2) 9 1 (.slice qa n1 da) n1 (strs ks)) := owns_keptN (ownsRow_setCell_below O2.out (a := ⟨w.heap.size, 2, none⟩) (by show w.heap.size < _; omega) _) hg3; have Q3 : Hid (w3.ownsRow w1.heap.size 9 1 (.slice qb n2 db) n2 (strs vs)) := owns_keptN (ownsRow_setCell_below Q2.out (a := ⟨w.heap.size, 2, none⟩) (by show w.heap.size < _; omega) _) hg3; have U3 : Hid (w3.ownsRow w1.heap.size 3 1 (.slice qc n3 dc) n3 (ints kd)) := owns_le ho3 (by simp [World.setCell]; omega); have d0 := P3.out.cell 0; have d1 := P3.out.cell 1; have d2 := P3.out.cell 2; have d3 := P3.out.cell 3; have f3 := P3.out.frozen 3; simp at d0 d1 d2 d3; clear c2 f2 c3 ho3 hg3 CC O2 P2 R2 G2 Q2) | (refine q_is_store 25 (.tmp 2) (.tmp 15) rfl ?_; refine store_pg 25 size25 (w.heap.size + 1) (R3.out.other (a := ⟨w.heap.size, 3, none⟩) (.slice qc n3 dc) (by show w.heap.size + 1 ≠ w.heap.size; omega)) _ _ rfl rfl rfl rfl ?_; intro w5 hb5 hg5; have B5 : Hid (Blk w5 (w.heap.size + 1) 25 #[.bool lf, .slice qa n1 da, .slice qb n2 db, .slice qc n3 dc]) := hb5; have G5 : Hid ((w3.setCell ⟨w.heap.size, 3, none⟩ (.slice qc n3 dc)).grownBy w5 (some (w.heap.size + 1))) := hg5; clear hb5 hg5 R3))
  refine bodyPost_ret (results_pg Try.results17 _ _ (w.heap.size + 1) rfl B5.out) rfl ?_
  rw [HP.out]
  refine ⟨_, _, _, rfl, ?_, ?_, ?_, grown_through (grown_set_new G3.out (a := ⟨w.heap.size, 3, none⟩) _ (Nat.le_refl _)) G5.out (by omega), fun g hg => ⟨fun e => ?_, fun e => ?_⟩⟩
  · show w5.ownsRow w.heap.size 9 1 _ ks.length _
    rw [N1.out]
    exact owns_le (owns_kept (ownsRow_setCell_below O3.out (a := ⟨w.heap.size, 3, none⟩) (by show w.heap.size < _; omega) _) G5.out (by omega)) (by omega)
  · show w5.ownsRow w.heap.size 9 1 _ vs.length _
    rw [N2.out]
    exact owns_le (owns_kept (ownsRow_setCell_below Q3.out (a := ⟨w.heap.size, 3, none⟩) (by show w.heap.size < _; omega) _) G5.out (by omega)) (by omega)
  · show w5.ownsRow w.heap.size 3 1 _ kd.length _
    rw [N3.out]
    exact owns_le (owns_kept (ownsRow_setCell_below U3.out (a := ⟨w.heap.size, 3, none⟩) (by show w.heap.size < _; omega) _) G5.out (by omega)) (by omega)
  · have x1 := K1.out g hg
    have x2 := (Q3.out.lt g e).1
    omega
  · have x1 := K1.out g hg
    have x2 := (U3.out.lt g e).1
    omega
end Go.Proofs.Ytomknaendicpkaa
