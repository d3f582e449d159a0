/-
  A row of the document's changes: what append makes of it. Helpers for the way of Change that is taken: append of a row of changes, of any slice of them.
-/
import Derived.Test.YtoenddcdafnmiaaKRcrash
import Derived.Test.YtoenddcdafnmiaaKPut
import Derived.Deep.RegionLaw
import Derived.Laws.AppendOwnNone
namespace Go.Proofs.Ytoenddcdafnmiaa
open Go.RowKit Go.Maps
def chgsL (l : List Chg) : List Value := l.flatMap Chg.refs
theorem chgsL_len (l : List Chg) : (chgsL l).length = l.length * 5 := by
  induction l with
  | nil => rfl
  | cons c r ih =>
    unfold chgsL at ih ⊢
    rw [List.flatMap_cons, List.length_append, ih, List.length_cons]
    show 5 + _ = _
    omega
theorem chgsL_app (l m : List Chg) : chgsL (l ++ m) = chgsL l ++ chgsL m := by
  unfold chgsL
  rw [List.flatMap_append]
theorem chgsL_at : ∀ (l : List Chg) (k i : Nat) (h : k < l.length), i < 5 → (chgsL l)[k * 5 + i]? = (l[k]).refs[i]?
  | [], k, _, h, _ => absurd h (Nat.not_lt_zero _)
  | c :: r, 0, i, _, hi => by
    unfold chgsL
    rw [List.flatMap_cons, List.getElem?_append_left (by show 0 * 5 + i < 5; omega)]
    simp
  | c :: r, k + 1, i, h, hi => by
    have ih := chgsL_at r k i (by simpa using h) hi
    unfold chgsL at ih ⊢
    rw [List.flatMap_cons, List.getElem?_append_right (by show 5 ≤ _; omega), show (k + 1) * 5 + i - c.refs.length = k * 5 + i from by show (k + 1) * 5 + i - 5 = _; omega]
    exact ih
theorem chgsL_one (l : List Chg) : ∀ u ∈ chgsL l, u.oneCell' = true := by
  intro u hu
  unfold chgsL at hu
  rw [List.mem_flatMap] at hu
  obtain ⟨c, _, hc⟩ := hu
  unfold Chg.refs at hc
  simp only [List.mem_cons, List.not_mem_nil, or_false] at hc
  rcases hc with rfl | rfl | rfl | rfl | rfl <;> rfl
theorem info69 : (Try.prog.info? 69).map (fun i => (i.zero, i.size, i.bytes)) = some (some (.agg #[.int .i64 0, .string ⟨#[]⟩, .string ⟨#[]⟩, .string ⟨#[]⟩, .int .i64 0]), 5, 64) := by kernel_rfl
theorem chgs_cells {w : World} {l : List Chg} {g o : Nat} (h0 : ∀ i, (h : i < l.length) → ∀ j, j < 5 → w.cell? ⟨g, o + i * 5 + j, none⟩ = l[i].refs[j]?) :
    ∀ j u, (chgsL l)[j]? = some u → w.cell? ((⟨g, o, none⟩ : Addr).add j) = some u := by
  intro j u hj
  have hlt : j < l.length * 5 := by
    rw [← chgsL_len]
    by_cases h : j < (chgsL l).length
    · exact h
    · rw [List.getElem?_eq_none (by omega)] at hj; cases hj
  rw [add_at]
  have hk : j / 5 < l.length := by omega
  have hat := chgsL_at l (j / 5) (j % 5) hk (Nat.mod_lt _ (by decide))
  have hc : j / 5 * 5 + j % 5 = j := by omega
  have := h0 (j / 5) hk (j % 5) (Nat.mod_lt _ (by decide))
  rw [Nat.add_assoc, hc] at this
  rw [hc] at hat
  rw [this, ← hat, hj]
theorem chgs_of_row {w : World} {base : Nat} {v : Value} {l : List Chg} (h : w.ownsRow base 69 5 v l.length (chgsL l)) : ChgsV w v l := by
  have h' := h
  rcases h'.2 with ⟨rfl, hn⟩ | ⟨g, cap, cur, rfl, _, _, hc, hmx, _⟩
  · exact Or.inl ⟨rfl, List.eq_nil_of_length_eq_zero hn⟩
  · refine Or.inr ⟨cap, g, 0, rfl, hc, hmx, fun i hi j hj => ?_⟩
    rw [Nat.zero_add, h.cellAt (i * 5 + j) (by omega), chgsL_at l i j hi hj]
theorem crow_empty (w : World) : (w.alloc (.cells #[] 69)).ownsRow w.heap.size 69 5 (.slice (some ⟨w.heap.size, 0, none⟩) 0 0) ([] : List Chg).length (chgsL []) := ⟨rfl, Or.inr ⟨w.heap.size, 0, #[], rfl, Nat.le_refl _, heap_alloc_new w _, Nat.le_refl _, Nat.zero_le _, rfl, rfl⟩⟩
/-- append of changes, as a step of a region that draws. -/
theorem step_chgs {ops : Array Oper} {o : Oper} {a : Act} {w : World} {K : Act → World → Prop} {Q : Exit → Act → World → Prop} {E : Prop} (base : Nat) (v : Value) (xs l2 : List Chg) (g oo k cap : Nat) (s x : Operand)
    (hrow : w.ownsRow base 69 5 v xs.length (chgsL xs)) (hk : k = l2.length) (hx : ChgsV w (.slice (some ⟨g, oo, none⟩) k cap) l2) (hlen : xs.length + l2.length ≤ 1000000) (hbase : base ≤ w.heap.size)
    (hg : o.guard = none) (ho : o.op = Op.call { callee := Callee.builtin Builtin.append, args := #[s, x], argTypes := #[26, 26] }) (hs : a.eval s = v) (hxv : a.eval x = .slice (some ⟨g, oo, none⟩) k cap)
    (hK : ∀ v' w', w'.ownsRow base 69 5 v' (xs ++ l2).length (chgsL (xs ++ l2)) → w.grownBy w' v.ownBlock → K (a.put o.dst v') w') :
    if Region.wanted o (yielded ops a.tmps) = true then Oper.wp Try.prog o a w K Q else E := by
  have hw : Region.wanted o (yielded ops a.tmps) = true := by simp [Region.wanted, hg]
  rw [if_pos hw]
  obtain ⟨i69, hi, hz0, hz1, hz2⟩ := info_parts info69
  rcases hx with ⟨e, _⟩ | ⟨cap', g', o', e, hc, _, h0⟩
  · cases e
  · cases e
    refine wp_append_own w s x 26 ho base 69 i69 _ 5 64 Try.underlying26 hi hz0 hz1 hz2 rfl (by decide) v xs.length (chgsL xs) hs hrow ⟨g, oo, none⟩ _ cap (chgsL l2) hxv (by rw [chgsL_len]) (chgs_cells h0) (chgsL_one l2) (by unfold maxLen; omega) (by omega) hbase ?_
    intro v' w' h2 h3 _
    rw [← chgsL_app, ← List.length_append] at h2
    exact hK v' w' h2 h3
end Go.Proofs.Ytoenddcdafnmiaa
namespace Go.Proofs.Ytoenddcdafnmiaa
open Go.RowKit Go.Maps
theorem step_chgsV {ops : Array Oper} {o : Oper} {a : Act} {w : World} {K : Act → World → Prop} {Q : Exit → Act → World → Prop} {E : Prop} (s x : Operand) (hg : o.guard = none) (ho : o.op = Op.call { callee := Callee.builtin Builtin.append, args := #[s, x], argTypes := #[26, 26] }) (base : Nat) (v vx : Value) (xs l2 : List Chg)
    (hrow : w.ownsRow base 69 5 v xs.length (chgsL xs)) (hx : ChgsV w vx l2) (hlen : xs.length + l2.length ≤ 1000000) (hbase : base ≤ w.heap.size)
    (hs : a.eval s = v) (hxv : a.eval x = vx)
    (hK : ∀ v' w', w'.ownsRow base 69 5 v' (xs ++ l2).length (chgsL (xs ++ l2)) → w.grownBy w' v.ownBlock → K (a.put o.dst v') w') :
    if Region.wanted o (yielded ops a.tmps) = true then Oper.wp Try.prog o a w K Q else E := by
  rcases hx with ⟨rfl, rfl⟩ | ⟨cap, g, oo, rfl, hc, hm, h0⟩
  · have hw : Region.wanted o (yielded ops a.tmps) = true := by simp [Region.wanted, hg]
    rw [if_pos hw]
    obtain ⟨i69, hi, hz0, hz1, hz2⟩ := info_parts info69
    have hrun := run_append_owned_none (P := Try.prog) (w := w) base 26 o.type 69 i69 5 Try.underlying26 hi v xs.length (chgsL xs) hrow
    unfold Oper.wp
    simp [execOp, ho, resolve, invoke, builtin, hs, hxv, hrun, Result.andThen]
    exact hK v w (by rw [List.append_nil]; exact hrow) (grown_refl _ _)
  · exact step_chgs base v xs l2 g oo l2.length cap s x hrow rfl (Or.inr ⟨cap, g, oo, rfl, hc, hm, h0⟩) hlen hbase hg ho hs hxv hK
theorem chgs_one (w : World) (c : Chg) : ChgsV (w.alloc (.cells #[.int .i64 c.kind, .string c.name, .string c.to, .string c.bytes, .int .i64 c.n] 69)) (.slice (some ⟨w.heap.size, 0, none⟩) 1 1) [c] := by
  have B := Blk.new w 69 #[.int .i64 c.kind, .string c.name, .string c.to, .string c.bytes, .int .i64 c.n]
  refine Or.inr ⟨1, w.heap.size, 0, rfl, Nat.le_refl _, by unfold maxLen; decide, fun i hi j hj => ?_⟩
  have hi' : i = 0 := by simpa using hi
  subst hi'
  rw [B.cell, Nat.zero_mul, Nat.zero_add]
  match j, hj with
  | 0, _ => rfl
  | 1, _ => rfl
  | 2, _ => rfl
  | 3, _ => rfl
  | 4, _ => rfl
theorem chgs_two (w : World) (c : Chg) : ChgsV (((w.alloc (.cells #[] 69)).alloc (.cells #[.int .i64 c.kind, .string c.name, .string c.to, .string c.bytes, .int .i64 c.n] 69)).drew) (.slice (some ⟨w.heap.size + 1, 0, none⟩) 1 1) [c] := by
  have h := (chgs_one (w.alloc (.cells #[] 69)) c).kept (grown_drew (grown_refl _ _))
  rw [World.size_alloc] at h
  exact h
theorem crow_two (w : World) (o : Obj) : (((w.alloc o).alloc (.cells #[] 69)).drew).ownsRow (w.heap.size + 1) 69 5 (.slice (some ⟨w.heap.size + 1, 0, none⟩) 0 0) ([] : List Chg).length (chgsL []) := by
  have h := crow_empty (w.alloc o)
  rw [World.size_alloc] at h
  exact h
theorem ChgsV.through {w w' : World} {g o n c : Nat} {cs : List Chg} {row : Option Nat} (h : ChgsV w (.slice (some ⟨g, o, none⟩) n c) cs) (hg : w.grownBy w' row) (hn : some g ≠ row) : ChgsV w' (.slice (some ⟨g, o, none⟩) n c) cs := by
  rcases h with ⟨e, _⟩ | ⟨cap, g', o', e, hcap, hmx, h0⟩
  · cases e
  injection e with e1 e2 e3
  injection e1 with e1
  injection e1 with e4 e5
  subst e2; subst e3; subst e4; subst e5
  refine Or.inr ⟨c, g, o, rfl, hcap, hmx, fun i hi j hj => ?_⟩
  obtain ⟨u, hu⟩ := refs_some cs[i] hj
  have hc := h0 i hi j hj
  rw [hu] at hc ⊢
  have hb := hg.block g (World.block_lt_of_cell? _ _ hc) hn
  rw [← hc]
  simp only [World.cell?, hb]
theorem Blk.drewN {w : World} {b : Nat} {t : TypeId} {cs : Array Value} (h : Blk w b t cs) (n : Nat) : Blk (w.drewN n) b t cs := h
theorem size_drew (w : World) : w.drew.heap.size = w.heap.size := rfl
theorem crow_base {w : World} {base base' n : Nat} {v : Value} {xs : List Value} (h : w.ownsRow base 69 5 v n xs) (hb : base' ≤ base) : w.ownsRow base' 69 5 v n xs := by
  obtain ⟨h1, h2⟩ := h
  refine ⟨h1, ?_⟩
  rcases h2 with h2 | ⟨g, cap, cur, e, hg, r⟩
  · exact Or.inl h2
  · exact Or.inr ⟨g, cap, cur, e, Nat.le_trans hb hg, r⟩
theorem Blk.keptA {X u : World} {b blk : Nat} {t : TypeId} {cs : Array Value} (h : Blk X b t cs) (hg : X.grownBy u (Value.slice (some ⟨blk, 0, none⟩) 0 0).ownBlock) (hn : b < blk) : Blk u b t cs :=
  h.kept hg (fun e => by have hx : b = blk := Option.some.inj e; omega)
theorem Blk.keptR {X u : World} {b base n : Nat} {v : Value} {xs : List Value} {t : TypeId} {cs : Array Value} (h : Blk X b t cs) (hg : X.grownBy u v.ownBlock) (hr : X.ownsRow base 69 5 v n xs) (hb : b < base) : Blk u b t cs :=
  h.kept hg (fun e => by have := (hr.lt b e.symm).1; omega)
theorem crow_grown {w w1 w2 : World} {base : Nat} {v : Value} {n : Nat} {xs : List Value} (h : w.grownBy w1 none) (hr : w1.ownsRow base 69 5 v n xs) (hb : w.heap.size ≤ base) (hg : w1.grownBy w2 v.ownBlock) : w.grownBy w2 none := grown_ob h hg (fun x e => Nat.le_trans hb (hr.lt x e).1)
theorem crow_shape {w : World} {base n : Nat} {v : Value} {xs : List Value} (h : w.ownsRow base 69 5 v n xs) : ∃ pa m c, v = .slice pa m c := by
  rcases h.2 with ⟨rfl, _⟩ | ⟨g, cap, cur, rfl, _⟩
  · exact ⟨_, _, _, rfl⟩
  · exact ⟨_, _, _, rfl⟩
theorem crow_off {w : World} {base n b : Nat} {v : Value} {xs : List Value} (h : w.ownsRow base 69 5 v n xs) (hb : b < base) : Off v b := by
  intro g o k c e _ hg
  subst hg
  rcases h.2 with ⟨rfl, _⟩ | ⟨g', cap, cur, rfl, hl, _⟩
  · cases e
  · injection e with e1 e2 e3
    injection e1 with e1
    injection e1 with e4 e5
    omega
end Go.Proofs.Ytoenddcdafnmiaa
