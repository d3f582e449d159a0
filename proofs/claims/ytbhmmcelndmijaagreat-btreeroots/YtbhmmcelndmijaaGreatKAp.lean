/-
  Parts of rows; a page, a value and a page that are given back. A page is laid: lay, where it is not cut. append of a row to a row of one's own, and where what comes of it lies.
-/
import Derived.Test.YtbhmmcelndmijaaGreatKLf2
import Derived.Test.YtbhmmcelndmijaaGreatKNw
import Derived.Laws.AppendOwnNone
namespace Go.Proofs.YtbhmmcelndmijaaGreat
open Go.RowKit Go.Maps
/-- The halves of a page, and the key between them. -/
def cutA (p : Pa.Pg) : Pa.Pg := if p.leaf then ⟨true, p.keys.take (p.keys.length / 2), p.vals.take (p.keys.length / 2), []⟩ else ⟨false, p.keys.take (p.keys.length / 2), [], p.kids.take (p.keys.length / 2 + 1)⟩
def cutB (p : Pa.Pg) : Pa.Pg := if p.leaf then ⟨true, p.keys.drop (p.keys.length / 2), p.vals.drop (p.keys.length / 2), []⟩ else ⟨false, p.keys.drop (p.keys.length / 2 + 1), [], p.kids.drop (p.keys.length / 2 + 1)⟩
def cutK (p : Pa.Pg) : ByteArray := p.keys.getD (p.keys.length / 2) ⟨#[]⟩
/-- A slice reads as a list, and its cells lie in a block of a type. -/
def RowT {α : Type} (t : TypeId) (enc : α → Value) (w : World) (v : Value) (l : List α) : Prop := ∃ (pa : Option Addr) (cap g o : Nat), v = .slice pa l.length cap ∧ (0 < l.length → pa = some ⟨g, o, none⟩ ∧ ∃ cur, Blk w g t cur ∧ ∀ i, (h : i < l.length) → cur[o + i]? = some (enc l[i]))
theorem RowT.rowV {α : Type} {t : TypeId} {enc : α → Value} {w : World} {v : Value} {l : List α} (h : RowT t enc w v l) : Pa.RowV enc w v l := by
  obtain ⟨pa, cap, g, o, rfl, h⟩ := h
  refine ⟨pa, cap, g, o, rfl, fun h0 => (h h0).1, fun i hi => ?_⟩
  obtain ⟨_, cur, hb, hc⟩ := h (by omega)
  exact (hb.cell (o + i)).trans (hc i hi)
theorem RowT.of_blk {α : Type} {t : TypeId} {enc : α → Value} {w w' : World} {v : Value} {l : List α} (h : RowT t enc w v l) (hk : ∀ g cur, Blk w g t cur → Blk w' g t cur) : RowT t enc w' v l := by
  obtain ⟨pa, cap, g, o, rfl, h⟩ := h
  refine ⟨pa, cap, g, o, rfl, fun h0 => ?_⟩
  obtain ⟨e, cur, hb, hc⟩ := h h0
  exact ⟨e, cur, hk _ _ hb, hc⟩
theorem rowT_take {α : Type} {enc : α → Value} {w : World} {g n k cap : Nat} {t : TypeId} {cur : Array Value} {l : List α} (hb : Blk w g t cur) (hx : cur.toList.take n = l.map enc) (hk : k ≤ l.length) : RowT t enc w (.slice (some ⟨g, 0, none⟩) k cap) (l.take k) := by
  have e : (l.take k).length = k := by rw [List.length_take]; omega
  refine ⟨some ⟨g, 0, none⟩, cap, g, 0, by rw [e], fun _ => ⟨rfl, cur, hb, fun i hi => ?_⟩⟩
  rw [Nat.zero_add, List.getElem_take]
  have hi' : i < l.length := by omega
  exact Sl.take_get hx (by rw [List.getElem?_map, List.getElem?_eq_getElem hi']; rfl)
theorem rowT_drop {α : Type} {enc : α → Value} {w : World} {g n k m cap : Nat} {t : TypeId} {cur : Array Value} {l : List α} (hb : Blk w g t cur) (hx : cur.toList.take n = l.map enc) (hm : m = l.length - k) : RowT t enc w (.slice (some ⟨g, k, none⟩) m cap) (l.drop k) := by
  have e : (l.drop k).length = m := by rw [List.length_drop, hm]
  refine ⟨some ⟨g, k, none⟩, cap, g, k, by rw [e], fun _ => ⟨rfl, cur, hb, fun i hi => ?_⟩⟩
  rw [List.getElem_drop]
  have hi' : k + i < l.length := by rw [List.length_drop] at hi; omega
  exact Sl.take_get hx (by rw [List.getElem?_map, List.getElem?_eq_getElem hi']; rfl)
theorem rowT_nil {α : Type} {t : TypeId} {enc : α → Value} {w : World} : RowT t enc w (.slice none 0 0) ([] : List α) := ⟨none, 0, 0, 0, rfl, fun h => absurd h (by simp)⟩
theorem rowT_owns {α : Type} {t : TypeId} {enc : α → Value} {w : World} {base : Nat} {v : Value} {l : List α} (h : w.ownsRow base t 1 v l.length (l.map enc)) : RowT t enc w v l := by
  rcases Sl.owns_cases h with ⟨rfl, e, _⟩ | ⟨g, cap, cur, rfl, _, hB, _, _, _, hx, _⟩
  · exact ⟨none, 0, 0, 0, by rw [e], fun h0 => absurd h0 (by omega)⟩
  · refine ⟨_, cap, g, 0, rfl, fun _ => ⟨rfl, cur, hB, fun i hi => ?_⟩⟩
    rw [Nat.zero_add]
    exact Sl.take_get hx (by rw [List.getElem?_map, List.getElem?_eq_getElem hi]; rfl)
/-- A page as a value whose rows lie in blocks of their types. -/
def PgT (w : World) (v : Value) (p : Pa.Pg) : Prop := ∃ a b c, v = .agg #[.bool p.leaf, a, b, c] ∧ RowT 9 Value.string w a p.keys ∧ RowT 9 Value.string w b p.vals ∧ RowT 3 (Value.int .i64) w c p.kids
theorem PgT.pgV {w : World} {v : Value} {p : Pa.Pg} (h : PgT w v p) : Pa.PgV w v p := by
  obtain ⟨a, b, c, rfl, h1, h2, h3⟩ := h
  exact ⟨a, b, c, rfl, h1.rowV, h2.rowV, h3.rowV⟩
theorem PgT.of_blk {w w' : World} {v : Value} {p : Pa.Pg} (h : PgT w v p) (hk : ∀ g t cur, t = 9 ∨ t = 3 → Blk w g t cur → Blk w' g t cur) : PgT w' v p := by
  obtain ⟨a, b, c, rfl, h1, h2, h3⟩ := h
  exact ⟨a, b, c, rfl, h1.of_blk fun g cur => hk g 9 cur (Or.inl rfl), h2.of_blk fun g cur => hk g 9 cur (Or.inl rfl), h3.of_blk fun g cur => hk g 3 cur (Or.inr rfl)⟩
theorem PgT.kept {w w' : World} {v : Value} {p : Pa.Pg} (h : PgT w v p) (hg : w.grownBy w' none) : PgT w' v p := h.of_blk fun _ _ _ _ hb => hb.kept hg (by simp)
theorem pgT_owns {w : World} {base : Nat} {v : Value} {p : Pa.Pg} (h : Pa.PgO w base v p) : PgT w v p := by
  obtain ⟨a, b, c, rfl, _, h1, h2, h3⟩ := h
  exact ⟨a, b, c, rfl, rowT_owns h1, rowT_owns h2, rowT_owns h3⟩
theorem LT.blk {base b g : Nat} {t : TypeId} {cs : Array Value} {w w' : World} (h : LT base b w w') (hb : Blk w g t cs) (ht : t ≠ 111 ∧ t ≠ 5) (hn : g ≠ b) : Blk w' g t cs := by
  have e : w.heap[g]? = some (.cells cs t (0, 0)) := hb
  have := h.keep g hb.lt (Or.inr ⟨hn, fun cs' t' fz e' => by rw [e] at e'; injection e' with e'; injection e' with _ e2 _; subst e2; exact ht⟩)
  show w'.heap[g]? = _
  rw [this]
  exact e
theorem results_pg3 {fn : Func} {p u q : Tmp} (h : fn.results = #[.cell p 70, .tmp u, .cell q 70]) (tmps : Array Value) (w : World) (g1 g2 : Nat) {a b c d x y z v : Value} (hp : tmps.getD p undef = .pointer (some ⟨g1, 0, none⟩)) (hq : tmps.getD q undef = .pointer (some ⟨g2, 0, none⟩)) (h1 : Blk w g1 70 #[a, b, c, d]) (h2 : Blk w g2 70 #[x, y, z, v]) :
    (results fn tmps).run Tryz.prog w = .ok (.tuple #[.agg #[a, b, c, d], tmps.getD u undef, .agg #[x, y, z, v]]) w := by
  have e1 := run_loadVar_row (P := Tryz.prog) w g1 70 70 #[a, b, c, d] (0, 0) _ h1 Tryz.underlying70 rfl Pa.size25
  have e2 := run_loadVar_row (P := Tryz.prog) w g2 70 70 #[x, y, z, v] (0, 0) _ h2 Tryz.underlying70 rfl Pa.size25
  have hp' : tmps[p]?.getD undef = .pointer (some ⟨g1, 0, none⟩) := by simpa using hp
  have hq' : tmps[q]?.getD undef = .pointer (some ⟨g2, 0, none⟩) := by simpa using hq
  simp [results, h, hp', hq', asAddr, e1, e2, Sem.run_bind, Result.andThen]
theorem wrapEq (x : Int) : IntKind.i64.wrap x = wrap64 x := by rw [IntKind.wrap_i64]; unfold wrap64; rfl
theorem blk_store4 {w : World} {g : Nat} {x y z q : Value} (a b c d : Value) (h : Blk w g 70 #[x, y, z, q]) : Blk ((((w.setCell ⟨g, 0, none⟩ a).setCell ⟨g, 1, none⟩ b).setCell ⟨g, 2, none⟩ c).setCell ⟨g, 3, none⟩ d) g 70 #[a, b, c, d] := by
  have := (((h.set 0 a).set 1 b).set 2 c).set 3 d
  simpa using this
theorem blk_far4 {w : World} {g g' : Nat} {t : TypeId} {cs : Array Value} (a b c d : Value) (h : Blk w g t cs) (hn : g ≠ g') : Blk ((((w.setCell ⟨g', 0, none⟩ a).setCell ⟨g', 1, none⟩ b).setCell ⟨g', 2, none⟩ c).setCell ⟨g', 3, none⟩ d) g t cs :=
  Blk.other (Blk.other (Blk.other (Blk.other h _ hn) _ hn) _ hn) _ hn
theorem grown_store4 {w0 w : World} {g : Nat} {r : Option Nat} (a b c d : Value) (h : w0.grownBy w r) (hg : w0.heap.size ≤ g) : w0.grownBy ((((w.setCell ⟨g, 0, none⟩ a).setCell ⟨g, 1, none⟩ b).setCell ⟨g, 2, none⟩ c).setCell ⟨g, 3, none⟩ d) r :=
  grown_set_new (grown_set_new (grown_set_new (grown_set_new h _ hg) _ hg) _ hg) _ hg
end Go.Proofs.YtbhmmcelndmijaaGreat
namespace Go.Proofs.YtbhmmcelndmijaaGreat
open Go.RowKit Go.Maps
/-- What lay leaves: the keys between the pages, their places. -/
def LayPost (w : World) (base lb : Nat) (g : Lg) (ks : List ByteArray) (is : List Int) (e : Ending) (w' : World) : Prop := ∃ vk vi, e = .returned (.tuple #[vk, vi, .int .i64 0]) ∧ w'.ownsRow w.heap.size 9 1 vk ks.length (Pa.strs ks) ∧ w'.ownsRow w.heap.size 3 1 vi is.length (Pa.ints is) ∧ IsLog w' base lb g ∧ LT base lb w w'
set_option maxRecDepth 100000 in
set_option maxHeartbeats 1000000 in
theorem lay_one (base b lb : Nat) (g : Lg) (root : Int) (p : Pa.Pg) (v : Value) (w : World) (hT : IsTree w b lb root) (hL : IsLog w base lb g) (hl : g.recs.length ≤ 100000) (hw : g.wait.size ≤ 500000000) (hn : g.len ≤ 1000000000) (hv : PgT w v p) (hf : p.fits) (hm : Pa.mayP p = true) (hz : (Pa.encL p).length ≤ 1048576) (h8 : p.keys.length ≤ 8) :
    Calls Tryz.prog 49 #[.pointer (some ⟨b, 0, none⟩), v] w (LayPost w base lb (addG g p) [] [(g.len + g.wait.size : Nat)]) := by
  have C1 : Hid (∀ W, w.grownBy W none → Calls Tryz.prog 69 #[.pointer (some ⟨b, 0, none⟩), v] W fun e w' => e = .returned (.tuple #[.int .i64 (g.len + g.wait.size : Nat), .int .i64 0]) ∧ IsLog w' base lb (addG g p) ∧ LT base lb W w') := fun W hW => add_page base b lb g root p v W (hT.kept hW) (hL.kept hW) hl hw hn (hv.pgV.kept hW) hf hm hz
  obtain ⟨va, vb, vc, rfl, ⟨p1, k1, _, _, rfl, _⟩, ⟨p2, k2, _, _, rfl, _⟩, ⟨p3, k3, _, _, rfl, _⟩⟩ := hv
  generalize addG g p = g2 at *
  generalize g.len + g.wait.size = at_ at *
  have i8 : (p.keys.length : Int) ≤ 8 := by omega
  have G0 : Hid (w.grownBy (w.alloc (.cells #[.bool p.leaf, .slice p1 p.keys.length k1, .slice p2 p.vals.length k2, .slice p3 p.kids.length k3] 70)) none) := grown_alloc (grown_refl w none) _
  clear hT hL hl hw hn hf hm hz h8
  go_enter Tryz.func49, Tryz.ntmps49
  go_wp2_with (first
    | (go_at_call 69; refine (C1.out _ G0.out).mono ?_; rintro e w2 ⟨rfl, l2, t2⟩; have L2 := hid l2; have T2 := hid (LT.trans (LT.of_none G0.out) t2); clear l2 t2 C1))
  refine bodyPost_ret (results_tmp3 Tryz.results49 _ _ _) rfl ?_
  refine ⟨_, _, rfl, World.ownsRow_nil _ _ _ _, ?_, L2.out.kept (grown_alloc (grown_refl _ _) _), T2.out.trans (LT.of_none (grown_alloc (grown_refl _ _) _))⟩
  exact World.ownsRow_lit (base := w.heap.size) (e := 3) (size := 1) w2 #[.int .i64 at_] 1 T2.out.size (by decide) rfl
end Go.Proofs.YtbhmmcelndmijaaGreat
namespace Go.Proofs.YtbhmmcelndmijaaGreat
open Go.RowKit Go.Maps
/-- Two pages in one. -/
def joinP (p : Pa.Pg) (k : ByteArray) (q : Pa.Pg) : Pa.Pg := ⟨p.leaf, (if p.leaf then p.keys else p.keys ++ [k]) ++ q.keys, p.vals ++ q.vals, p.kids ++ q.kids⟩
theorem append_where {P : Program} {w : World} (base : Nat) (t ty e : TypeId) (i : TypeInfo) (z : Value) (bytes : Nat) (ht : P.underlying t = some (.slice e)) (hi : P.info? e = some i) (hz : i.zero = some z) (hsize : i.size = 1) (hby : i.bytes = bytes) (hzs : z.cells.size = 1)
    (v : Value) (n : Nat) (xs : List Value) (hown : w.ownsRow base e 1 v n xs) (b2 : Nat) (u : Value) (m : Nat) (news : List Value) (hu : w.ownsRow b2 e 1 u m news) (h1 : ∀ u ∈ news, u.oneCell' = true)
    (h63 : n + m ≤ 10000000) (hb : bytes ≤ 1000) (hbase : base ≤ w.heap.size) :
    ∃ v' w', (Builtin.append_ #[t, t] ty #[v, u]).run P w = .ok v' w' ∧ w'.ownsRow base e 1 v' (n + m) (xs ++ news) ∧ w.grownBy w' v.ownBlock ∧ (v'.ownBlock = v.ownBlock ∨ v'.ownBlock = some w.heap.size) := by
  have hbytes : (n + m) * bytes ≤ 140737488355328 := Nat.le_trans (Nat.mul_le_mul h63 hb) (by decide)
  rcases Sl.owns_cases hu with ⟨rfl, rfl, rfl⟩ | ⟨g2, c2, cur2, rfl, _, hB2, hn2, hc2, hs2, hx2, hl2⟩
  · exact ⟨v, w, run_append_owned_none w base t ty e i 1 ht hi v n xs hown, by rw [Nat.add_zero, List.append_nil]; exact hown, ⟨rfl, rfl, rfl, Nat.le_refl _, fun _ _ _ => rfl⟩, Or.inl rfl⟩
  have hnews : ∀ j q, news[j]? = some q → w.cell? ((⟨g2, 0, none⟩ : Addr).add j) = some q := fun j q hj => by
    have := hB2.cell j
    rw [Addr.add_lit, Nat.zero_add]
    exact this.trans (Sl.take_get hx2 hj)
  have hl : news.length = m * 1 := by omega
  obtain ⟨v', w', hr, h2, h3, h4⟩ := run_append_own (P := P) w base t ty e i z 1 bytes ht hi hz hsize hby hzs (by decide) v n xs hown ⟨g2, 0, none⟩ m c2 news hl hnews h1 (by unfold maxLen; omega) hbytes hbase
  refine ⟨v', w', hr, h2, h3, ?_⟩
  subst hby
  rcases Sl.owns_cases hown with ⟨rfl, rfl, rfl⟩ | ⟨g, cap, cur, rfl, hg, hB, hn, hc, hs, hx, hl1⟩
  · by_cases hm : m = 0
    · exact Or.inl (by rw [h4.mpr ⟨rfl, hm⟩])
    · have e0 := run_append_nil (P := P) w t ty e i z ht hi hz ⟨g2, 0, none⟩ m c2 news (by rw [hsize]; exact hl) hnews (by omega) (by omega) (by have hb' := hbytes; simp only [Nat.zero_add] at hb'; omega)
      rw [e0] at hr
      injection hr with e1 e2
      subst e1
      exact Or.inr rfl
  · by_cases hroom : n + m ≤ cap
    · have e0 := run_append_room (P := P) w t ty e i ht hi g n cap cur hB ⟨g2, 0, none⟩ m c2 news (by rw [hsize]; exact hl) hnews h1 hroom (by rw [hsize]; omega)
      rw [e0] at hr
      injection hr with e1 e2
      subst e1
      exact Or.inl rfl
    · have holds : ∀ j q, xs[j]? = some q → w.cell? ((⟨g, 0, none⟩ : Addr).add j) = some q := hown.cells (g := g) rfl
      have e0 := run_append_grow (P := P) w t ty e i z ht hi hz ⟨g, 0, none⟩ n cap xs (by rw [hsize]; omega) holds ⟨g2, 0, none⟩ m c2 news (by rw [hsize]; exact hl) hnews (by omega) (by omega) (growslice_fits (by omega) hbytes)
      rw [e0] at hr
      injection hr with e1 e2
      subst e1
      exact Or.inr rfl
theorem far_grown {a a' b : Value} {N : Nat} (hf : Pa.Far a b) (hx : a'.ownBlock = a.ownBlock ∨ a'.ownBlock = some N) (hb : ∀ y, b.ownBlock = some y → y < N) : Pa.Far a' b := fun y e1 e2 => by
  rcases hx with h | h
  · exact hf y (by rw [← h]; exact e1) e2
  · rw [h] at e1
    have := hb y e2
    have := Option.some.inj e1
    omega
/-- append of a row to a row of one's own, as a step. -/
theorem append_strs {ops : Array Oper} {rest : List Oper} {o : Oper} {a : Act} {w : World} {Q : Exit → Act → World → Prop} (base b2 : Nat) (l m : List ByteArray) (v u : Value) (hrow : w.ownsRow base 9 1 v l.length (Pa.strs l)) (hu : w.ownsRow b2 9 1 u m.length (Pa.strs m)) (hk : l.length + m.length ≤ 10000000) (hbase : base ≤ w.heap.size) (s x : Operand)
    (hgd : o.guard = none) (ho : o.op = .call { callee := .builtin .append, args := #[s, x], argTypes := #[48, 48] }) (hs : a.eval s = v) (hx : a.eval x = u)
    (h : ∀ v' w', w'.ownsRow base 9 1 v' (l ++ m).length (Pa.strs (l ++ m)) → w.grownBy w' v.ownBlock → (v'.ownBlock = v.ownBlock ∨ v'.ownBlock = some w.heap.size) → wpList Tryz.prog ops Q rest (a.put o.dst v') w') : wpList Tryz.prog ops Q (o :: rest) a w := by
  obtain ⟨i3, hi3, hz0, hz1, hz2⟩ := info_parts Pa.info9
  have h1 : ∀ q ∈ Pa.strs m, q.oneCell' = true := fun q hq => by
    unfold Pa.strs at hq
    obtain ⟨t, _, rfl⟩ := List.mem_map.mp hq
    rfl
  obtain ⟨v', w', hr, h2, h3, h4⟩ := append_where (P := Tryz.prog) base 48 o.type 9 i3 _ 16 Tryz.underlying48 hi3 hz0 hz1 hz2 rfl v l.length (Pa.strs l) hrow b2 u m.length (Pa.strs m) hu h1 hk (by decide) hbase
  refine wpList_plain hgd fun K hK => ?_
  unfold Oper.wp execOp
  simp only [ho, resolve, invoke, builtin, Sem.run_bind, Sem.run_pure, Result.andThen_ok, List.map_toArray, List.map_cons, List.map_nil, hs, hx, hr]
  refine hK _ _ (h v' w' ?_ h3 h4)
  rw [List.length_append]
  unfold Pa.strs at h2 ⊢
  rw [List.map_append]
  exact h2
theorem append_ints {ops : Array Oper} {rest : List Oper} {o : Oper} {a : Act} {w : World} {Q : Exit → Act → World → Prop} (base b2 : Nat) (l m : List Int) (v u : Value) (hrow : w.ownsRow base 3 1 v l.length (Pa.ints l)) (hu : w.ownsRow b2 3 1 u m.length (Pa.ints m)) (hk : l.length + m.length ≤ 10000000) (hbase : base ≤ w.heap.size) (s x : Operand)
    (hgd : o.guard = none) (ho : o.op = .call { callee := .builtin .append, args := #[s, x], argTypes := #[44, 44] }) (hs : a.eval s = v) (hx : a.eval x = u)
    (h : ∀ v' w', w'.ownsRow base 3 1 v' (l ++ m).length (Pa.ints (l ++ m)) → w.grownBy w' v.ownBlock → (v'.ownBlock = v.ownBlock ∨ v'.ownBlock = some w.heap.size) → wpList Tryz.prog ops Q rest (a.put o.dst v') w') : wpList Tryz.prog ops Q (o :: rest) a w := by
  obtain ⟨i3, hi3, hz0, hz1, hz2⟩ := info_parts Pa.info3
  have h1 : ∀ q ∈ Pa.ints m, q.oneCell' = true := fun q hq => by
    unfold Pa.ints at hq
    obtain ⟨t, _, rfl⟩ := List.mem_map.mp hq
    rfl
  obtain ⟨v', w', hr, h2, h3, h4⟩ := append_where (P := Tryz.prog) base 44 o.type 3 i3 _ 8 Tryz.underlying44 hi3 hz0 hz1 hz2 rfl v l.length (Pa.ints l) hrow b2 u m.length (Pa.ints m) hu h1 hk (by decide) hbase
  refine wpList_plain hgd fun K hK => ?_
  unfold Oper.wp execOp
  simp only [ho, resolve, invoke, builtin, Sem.run_bind, Sem.run_pure, Result.andThen_ok, List.map_toArray, List.map_cons, List.map_nil, hs, hx, hr]
  refine hK _ _ (h v' w' ?_ h3 h4)
  rw [List.length_append]
  unfold Pa.ints at h2 ⊢
  rw [List.map_append]
  exact h2
end Go.Proofs.YtbhmmcelndmijaaGreat
