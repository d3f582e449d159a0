/-
  The checker: signs, conversions, as what the model makes of nodes; know, forget. The checker: know. The checker: forget. The checker: define, returned, callsAlone.
-/
import Derived.Test.YtajoncmmdeahnaaGreatDoorKCi
import Derived.Laws.AppendOwnNone
import Derived.OwnWalk
namespace Go.Proofs.YtajoncmmdeahnaaGreatDoor
open Go.RowKit
namespace Ck
theorem AnP.ck {b : Bool} {m : Nat} {t : Int} {X : Xc} {F : Fn} {st : Cs} {w w' : World} {e : Ending} (h : AnP b m t w e w') (hC : CkA w X F st) : CkP iK X F w (if b = true then .ok (t, st) else .error (some m)) e w' := by
  obtain ⟨h1, h2⟩ := h
  cases b with
  | true =>
    rw [if_pos rfl] at h1 ⊢
    exact ⟨_, h1, rfl, hC.kept h2, FrC.nil h2⟩
  | false =>
    rw [if_neg (by decide)] at h1 ⊢
    exact ⟨h1, FrC.nil h2⟩
theorem need_then (b : Bool) (t : Int) (st : Cs) : (needC b >>= fun _ => (pure t : Ck Int)) st = if b = true then .ok (t, st) else .error (some 122) := by
  cases b <;> rfl
theorem bytes_of {s : ByteArray} {l : List UInt8} (h : (s.data.toList == l) = true) : s = ⟨l.toArray⟩ := by
  rw [beq_iff_eq] at h
  apply Lw.bytes_ext
  rw [h]
theorem sgK_le (l : List UInt8) : sgK l ≤ 5 := by
  unfold sgK
  repeat' split
  all_goals decide
section
variable (n : Nd) (p : Option Addr) (c : Nat) (P : Nat → Prop) {X : Xc} {F : Fn} {st : Cs} (w : World) (hC : CkA w X F st) (hk : KsV w P (.slice p n.kids.length c) n.kids)
include hC hk
theorem ahead_any : Calls Tryz.prog 214 #[.agg #[.int .i64 n.kind, .int .i64 n.ty, .string n.txt, .int .i64 n.num, .slice p n.kids.length c]] w (CkP iK X F w (aheadC n st)) := by
  unfold aheadC
  by_cases h1 : n.kids.length = 1
  · rw [if_neg (fun h => h h1)]
    obtain ⟨g, rfl, _, c1⟩ := kid_at hk 0 (by omega)
    rw [← kidT_at (ks := n.kids) (i := 0) (by omega)] at c1
    rw [h1]
    by_cases h2 : (n.txt.data.toList == [45]) = true
    · rw [if_pos h2, need_then, bytes_of h2]
      exact (ahead_minus n.kind n.ty n.num g c _ w c1).mono fun e w' h => h.ck hC
    · rw [if_neg h2]
      by_cases h3 : (n.txt.data.toList == [33]) = true
      · rw [if_pos h3, need_then, bytes_of h3]
        exact (ahead_not n.kind n.ty n.num g c _ w c1).mono fun e w' h => h.ck hC
      · rw [if_neg h3]
        rw [Bool.not_eq_true, ← ByteArray.toList_eq] at h2 h3
        exact (ahead_none n.kind n.ty n.txt n.num g c _ w c1 h2 h3).mono fun e w' h => h.ck hC
  · rw [if_pos h1]
    exact (wrong214 n.kind n.ty n.txt n.num p n.kids.length c w h1).mono fun e w' h => h.ck hC
theorem between_any : Calls Tryz.prog 215 #[.agg #[.int .i64 n.kind, .int .i64 n.ty, .string n.txt, .int .i64 n.num, .slice p n.kids.length c]] w (CkP iK X F w (betweenC n st)) := by
  unfold betweenC
  by_cases h1 : n.kids.length = 2
  · rw [if_neg (fun h => h h1)]
    obtain ⟨g, rfl, _, c1⟩ := kid_at hk 0 (by omega)
    obtain ⟨g', e, _, c6⟩ := kid_at hk 1 (by omega)
    injection e with e
    injection e with e
    subst e
    rw [← kidT_at (ks := n.kids) (i := 0) (by omega)] at c1
    rw [← kidT_at (ks := n.kids) (i := 1) (by omega)] at c6
    rw [h1]
    have h := bet_any n.kind n.ty n.txt n.num g c _ _ w c1 c6
    have hj := sgK_le n.txt.data.toList
    generalize sgK n.txt.data.toList = j at *
    generalize kidT n.kids 0 = t0 at *
    generalize kidT n.kids 1 = t1 at *
    refine h.mono fun e w' h => ?_
    match j, h, hj with
    | 0, h, _ => exact h.ck hC
    | 1, h, _ =>
      show CkP iK X F w ((needC (t0 == t1 && numT t0) >>= fun _ => (pure t0 : Ck Int)) st) e w'
      rw [need_then]
      exact h.ck hC
    | 2, h, _ =>
      show CkP iK X F w ((needC (t0 == t1 && t0 == 1) >>= fun _ => (pure t0 : Ck Int)) st) e w'
      rw [need_then]
      exact h.ck hC
    | 3, h, _ =>
      show CkP iK X F w ((needC (t0 == t1 && numT t0) >>= fun _ => (pure 3 : Ck Int)) st) e w'
      rw [need_then]
      exact h.ck hC
    | 4, h, _ =>
      show CkP iK X F w ((needC (t0 == t1) >>= fun _ => (pure 3 : Ck Int)) st) e w'
      rw [need_then]
      exact h.ck hC
    | 5, h, _ =>
      show CkP iK X F w ((needC (t0 == t1 && t0 == 3) >>= fun _ => (pure 3 : Ck Int)) st) e w'
      rw [need_then]
      exact h.ck hC
    | j + 6, h, hj => exact absurd hj (by omega)
  · rw [if_pos h1]
    exact (wrong215 n.kind n.ty n.txt n.num p n.kids.length c w h1).mono fun e w' h => h.ck hC
theorem converted_any : Calls Tryz.prog 216 #[.agg #[.int .i64 n.kind, .int .i64 n.ty, .string n.txt, .int .i64 n.num, .slice p n.kids.length c]] w (CkP iK X F w (convertedC n st)) := by
  unfold convertedC
  by_cases h1 : n.kids.length ≠ 1 ∨ numT n.ty = false
  · rw [if_pos h1]
    exact (conv_wrong n.kind n.ty n.txt n.num p n.kids.length c w h1).mono fun e w' h => h.ck hC
  · rw [if_neg h1, need_then]
    have h2 : n.kids.length = 1 := Classical.byContradiction fun h => h1 (Or.inl h)
    have h3 : numT n.ty = true := by
      cases h : numT n.ty with
      | true => rfl
      | false => exact absurd (Or.inr h) h1
    obtain ⟨g, rfl, _, c1⟩ := kid_at hk 0 (by omega)
    rw [← kidT_at (ks := n.kids) (i := 0) (by omega)] at c1
    rw [h2]
    exact (conv_one n.kind n.ty n.txt n.num g c _ w h3 c1).mono fun e w' h => h.ck hC
end
end Ck
end Go.Proofs.YtajoncmmdeahnaaGreatDoor
namespace Go.Proofs.YtajoncmmdeahnaaGreatDoor
open Go.RowKit
namespace Ck
theorem row_block {w : World} {base n : Nat} {v : Value} {xs : List Value} (h : w.ownsRow base 9 1 v n xs) : ∀ r, v.ownBlock = some r → base ≤ r ∧ StrRow w r := fun r hr => by
  rcases h.2 with ⟨rfl, _⟩ | ⟨g, cap, cur, rfl, h1, h2, _⟩
  · cases hr
  · have e : g = r := Option.some.inj hr
    subst e
    exact ⟨h1, cur, h2⟩
theorem CkR.vars_set {w w' : World} {X : Xc} {F : Fn} {st : Cs} {pv : Value} (h : CkR w X F st pv) (hg : w.grownBy w' (some X.mv)) (f : Fm) (hf : Mp.MapR w' X.mv (st.ops + 1) (iM f)) : CkR w' X F { st with vars := f, ops := st.ops + 1 } pv := by
  have hb := h.ok.bv
  have hl := h.ok.lb
  refine ⟨h.ok, h.blk.kept hg (fun e => h.vars.ne h.blk (Option.some.inj e)), FnsR.frc h (FrC.of hg (fun r e => by injection e with e; exact Or.inr (Or.inl e.symm))), hf, (h.tak.kept hg (fun e => h.ok.vt (Option.some.inj e).symm)).more (Nat.le_succ _), ?_, h.short, h.gl.keptR hg (fun k e => by injection e with e; omega)⟩
  refine h.row.kept hg ?_
  cases hv : pv.ownBlock with
  | none => exact Or.inl rfl
  | some r =>
    refine Or.inr (fun e => ?_)
    obtain ⟨_, cs, hs⟩ := row_block h.row r hv
    exact h.vars.ne hs (Option.some.inj e)
theorem FnsR.setc {w : World} {X : Xc} {F : Fn} {cs : Array Value} (hf : FnsR w X F) (hB : Blk w X.c 101 cs) (j : Nat) (v : Value) : FnsR (w.setCell ⟨X.c, j, none⟩ v) X F := by
  obtain ⟨n, f, h1, h2⟩ := hf
  refine FnsR.kept ⟨n, f, h1, h2⟩ (heap_setCell_other _ _ _ _ (fun e => h1.ne hB e.symm)) (fun g cs' _ hB' => (heap_setCell_other _ _ _ _ (fun e => ?_)).trans hB')
  have e : g = X.c := e
  subst e
  have e1 : w.heap[X.c]? = some (.cells cs' 3 (0, 0)) := hB'
  unfold Blk at hB
  rw [e1] at hB
  injection hB with hB
  injection hB with _ hB
  exact absurd hB (by decide)
theorem CkR.push {w w' : World} {X : Xc} {F : Fn} {st : Cs} {pv v' : Value} (s : ByteArray) (h : CkR w X F st pv) (hg : w.grownBy w' pv.ownBlock) (hr : w'.ownsRow X.base 9 1 v' (st.pass.length + 1) (st.pass.map Value.string ++ [.string s])) (hs : s.size ≤ 1000000) :
    CkR (w'.setCell ⟨X.c, 2, none⟩ v') X F { st with pass := st.pass ++ [s] } v' ∧ FrC X w (w'.setCell ⟨X.c, 2, none⟩ v') := by
  have hbc := h.ok.bc
  have hl := h.ok.lb
  have hf : FrC X w w' := FrC.of hg (fun r e => Or.inr (Or.inr (Or.inr (row_block h.row r e))))
  have ncr : ∀ (x : Nat), (∀ cs, ¬ Blk w x 9 cs) → some x ≠ pv.ownBlock := fun x hx e => by
    obtain ⟨_, cs, hs⟩ := row_block h.row x e.symm
    exact hx cs hs
  have B1 : Blk w' X.c 101 _ := h.blk.kept hg (ncr _ (fun cs hs => by
    have e1 := h.blk
    unfold Blk at e1 hs
    rw [e1] at hs
    injection hs with hs
    injection hs with _ hs
    exact absurd hs (by decide)))
  have V1 := h.vars.kept hg (ncr _ (fun cs hs => h.vars.ne hs rfl))
  have T1 := h.tak.kept hg (ncr _ (fun cs hs => h.tak.ne hs rfl))
  have gC := grown_set (grown_refl w' (some X.c)) 2 v'
  refine ⟨⟨h.ok, by have := B1.set 2 v'; simpa using this, (FnsR.frc h hf).setc B1 2 v', V1.kept gC (fun e => V1.ne B1 (Option.some.inj e).symm), T1.kept gC (fun e => T1.ne B1 (Option.some.inj e).symm), ?_, ?_, ?_⟩, hf.trans (FrC.c gC)⟩
  · show World.ownsRow _ _ _ _ _ (st.pass ++ [s]).length _
    rw [List.length_append, List.map_append]
    refine World.ownsRow.kept hr gC ?_
    cases hv : v'.ownBlock with
    | none => exact Or.inl rfl
    | some r =>
      refine Or.inr (fun e => ?_)
      obtain ⟨_, cs, hs⟩ := row_block hr r hv
      have e2 : r = X.c := Option.some.inj e
      subst e2
      unfold Blk at B1 hs
      rw [B1] at hs
      injection hs with hs
      injection hs with _ hs
      exact absurd hs (by decide)
  · intro x hx
    rcases List.mem_append.1 hx with hx | hx
    · exact h.short x hx
    · rw [List.mem_singleton] at hx
      rw [hx]; exact hs
  · refine (h.gl.below (fun i hi hi2 => hf.low h.ok i (by omega) hi2)).keptR gC (fun k e => by injection e with e; omega)
theorem blk_push {w w' : World} {X : Xc} {F : Fn} {st : Cs} {pv : Value} {ob : Obj} (h : CkR w X F st pv) (hg : (w.alloc ob).grownBy w' pv.ownBlock) : Blk w' X.c 101 #[.map (some X.mf), .map (some X.mv), pv, .map (some X.mt), .int .i64 st.gl, .int .i64 st.bo, .int .i64 st.no, .bool st.te, .int .i64 st.an] := by
  have h2 := h.kept (grown_alloc (grown_refl w none) ob)
  refine h2.blk.kept hg (fun e => ?_)
  obtain ⟨_, cs, hs⟩ := row_block h2.row X.c e.symm
  have e1 := h2.blk
  unfold Blk at e1 hs
  rw [e1] at hs
  injection hs with hs
  injection hs with _ hs
  exact absurd hs (by decide)
theorem info9 : (Tryz.prog.info? 9).map (fun i => (i.zero, i.size, i.bytes)) = some (some (.string ⟨#[]⟩), 1, 16) := by kernel_rfl
section
variable {ops : Array Oper} {rest : List Oper} {o : Oper} {a : Act} {Q : Exit → Act → World → Prop} {w : World}
theorem append_s9 (base : Nat) (v : Value) (l : List Value) (t : ByteArray) (ad : Addr) (cc : Nat) (hrow : w.ownsRow base 9 1 v l.length l) (hcell : w.cell? ad = some (.string t)) (hl : l.length ≤ 1000000) (hbase : base ≤ w.heap.size) (s x : Operand)
    (hgd : o.guard = none) (ho : o.op = .call { callee := .builtin .append, args := #[s, x], argTypes := #[23, 23] }) (hs : a.eval s = v) (hx : a.eval x = .slice (some ad) 1 cc)
    (h : ∀ v' w', w'.ownsRow base 9 1 v' (l.length + 1) (l ++ [.string t]) → w.grownBy w' v.ownBlock → wpList Tryz.prog ops Q rest (a.put o.dst v') w') : wpList Tryz.prog ops Q (o :: rest) a w := by
  obtain ⟨i9, hi, hz0, hz1, hz2⟩ := info_parts info9
  refine wpList_append_own w hgd s x 23 ho base 9 i9 _ 1 16 Tryz.underlying23 hi hz0 hz1 hz2 rfl (by decide) v l.length l hs hrow ad 1 cc [.string t] hx rfl (fun j u hj => ?_) (fun u hu => ?_) (by unfold maxLen; omega) (by omega) hbase ?_
  · rcases j with _ | j
    · have e : Value.string t = u := Option.some.inj hj
      have e2 : ad.add 0 = ad := rfl
      rw [e2, ← e]
      exact hcell
    · exact absurd hj (by simp)
  · rw [List.mem_singleton] at hu
    rw [hu]; rfl
  · intro v' w' h2 h3 _
    exact h v' w' h2 h3
end
set_option maxRecDepth 100000 in
set_option maxHeartbeats 2000000 in
theorem know_any (s : ByteArray) (t : Int) {X : Xc} {F : Fn} {st : Cs} (w : World) (hC : CkA w X F st) (hx : knowC s t st ≠ .error none) :
    Calls Tryz.prog 179 #[.pointer (some ⟨X.c, 0, none⟩), .string s, .int .i64 t] w (CkP uK X F w (knowC s t st)) := by
  obtain ⟨pv, hR⟩ := hC
  unfold knowC at hx ⊢
  by_cases hs : 1000000 < s.size ∨ 1000000 ≤ st.ops ∨ 1000000 ≤ st.pass.length
  · rw [if_pos hs] at hx
    exact absurd rfl hx
  rw [if_neg hs] at hx ⊢
  have hs1 : s.size ≤ 1000000 := Nat.le_of_not_lt (fun h => hs (Or.inl h))
  have hs2 : st.ops < 1000000 := Nat.lt_of_not_le (fun h => hs (Or.inr (Or.inl h)))
  have hs3 : st.pass.length < 1000000 := Nat.lt_of_not_le (fun h => hs (Or.inr (Or.inr h)))
  have L := hR.vars.look Tryz.underlying99 (zero3 w) s (Nat.le_trans hs1 maxLen_ge)
  have SZ := hid (Nat.le_trans hs1 maxLen_ge)
  have SO := hid (Nat.lt_of_lt_of_le hs2 maxLen_ge)
  unfold iM at L
  have c1 := hR.blk.cell 1
  simp at c1
  have HR := hid hR
  have C97 : Hid (Calls Tryz.prog 97 #[.int .i64 (120 : Nat)] w fun e w' => e = .panicked (RjV 120) ∧ w' = w) := hid (reject_any 120 w)
  have LS := hid (And.intro hs1 (Nat.le_of_lt hs3))
  clear hR hx hs hs1 hs2 hs3
  cases hv : st.vars s with
  | some t0 =>
    rw [hv] at L
    simp only [Option.map_some, Option.getD_some, Option.isSome_some] at L
    clear hv
    go_enter Tryz.func179, Tryz.ntmps179
    go_wp2_with (go_at_call 97; refine C97.out.mono ?_; rintro e w1 ⟨rfl, hw⟩; replace hw := hw.symm; subst hw; clear C97)
    exact ⟨rfl, rfl, FrC.refl _ _⟩
  | none =>
    rw [hv] at L
    simp only [Option.map_none, Option.getD_none, Option.isSome_none] at L
    clear hv C97
    obtain ⟨pa, cap, rfl⟩ := HR.out.form
    go_enter Tryz.func179, Tryz.ntmps179
    go_wp2_with (first
      | (at_mapUpdate; refine Mp.at_store HR.out.vars Tryz.underlying99 SO.out s SZ.out (.int .i64 t) _ _ _ rfl rfl rfl rfl rfl ?_; intro w1 hm hg; have R1 := hid (HR.out.vars_set hg (Mp.upd st.vars s t) (hm.congr (fun x => by unfold iM Mp.upd; cases Mp.same x s <;> rfl))); have F1 : Hid (FrC X w w1) := hid (FrC.of hg (fun r e => by injection e with e; exact Or.inr (Or.inl e.symm))); have c2 := R1.out.blk.cell 2; simp at c2; have f2 := R1.out.blk.frozen 2; clear hm hg L c1)
      | (at_builtin; refine append_s9 X.base _ (st.pass.map Value.string) s ⟨w1.heap.size, 0, none⟩ 1 (by have h := (R1.out.kept (grown_alloc (grown_refl w1 none) (.cells #[.string s] 9))).row; rw [List.length_map]; exact h) ((Blk.new w1 9 #[.string s]).cell 0) (by rw [List.length_map]; exact LS.out.2) (by rw [World.size_alloc]; have := R1.out.ok.bc; have := R1.out.blk.lt; omega) _ _ rfl rfl rfl rfl ?_; intro v3 w3 hr hg; rw [List.length_map] at hr; have PU := hid ((R1.out.kept (grown_alloc (grown_refl w1 none) (.cells #[.string s] 9))).push s hg hr LS.out.1); have F3 := hid (F1.out.trans (FrC.nil (grown_alloc (grown_refl w1 none) (.cells #[.string s] 9)))); obtain ⟨p3, c3, e3, _⟩ := Lw.row_form hr; subst e3; have B3 := blk_push R1.out hg; have d2 := B3.cell 2; simp at d2; have f3 := B3.frozen 2; clear hr hg B3))
    go_end0
    exact ⟨_, rfl, rfl, ⟨_, PU.out.1⟩, F3.out.trans PU.out.2⟩
end Ck
end Go.Proofs.YtajoncmmdeahnaaGreatDoor
namespace Go.Proofs.YtajoncmmdeahnaaGreatDoor
open Go.RowKit
namespace Ck
theorem drops_snoc (s : ByteArray) : ∀ (l : List ByteArray) (f : Fm), drops f (l ++ [s]) = Mp.del (drops f l) s
  | [], _ => rfl
  | x :: r, f => drops_snoc s r (Mp.del f x)
theorem row_cut {w : World} {base n cap : Nat} {pa : Option Addr} {xs : List Value} (h : w.ownsRow base 9 1 (.slice pa n cap) n xs) (k : Nat) (hk : k ≤ n) : w.ownsRow base 9 1 (.slice pa k cap) k (xs.take k) := by
  obtain ⟨h1, h2⟩ := h
  refine ⟨by rw [List.length_take, h1]; omega, ?_⟩
  rcases h2 with ⟨e, h3⟩ | ⟨g, cap', cur, e, hb, hg, hn, hc, hs, hx⟩
  · left
    injection e with e1 e2 e3
    subst e1; subst e3
    refine ⟨by rw [show k = 0 by omega], by omega⟩
  · right
    injection e with e1 e2 e3
    subst e1; subst e3
    refine ⟨g, cap, cur, rfl, hb, hg, by omega, hc, hs, ?_⟩
    rw [← hx, List.take_take]
    congr 1
    omega
theorem CkR.vars_drop {w w' : World} {X : Xc} {F : Fn} {st : Cs} {pv : Value} (h : CkR w X F st pv) (hg : w.grownBy w' (some X.mv)) (f : Fm) (hf : Mp.MapR w' X.mv st.ops (iM f)) : CkR w' X F { st with vars := f } pv := by
  have h2 := h.vars_set hg f (hf.more (Nat.le_succ _))
  exact ⟨h2.ok, h2.blk, h2.fns, hf, h.tak.kept hg (fun e => h.ok.vt (Option.some.inj e).symm), h2.row, h2.short, h2.gl⟩
theorem row_cell {w : World} {base n cap g : Nat} {l : List ByteArray} (h : w.ownsRow base 9 1 (.slice (some ⟨g, 0, none⟩) n cap) n (l.map Value.string)) (i : Nat) (hi : i < l.length) : w.cell? ⟨g, i, none⟩ = some (.string l[i]) := by
  have h1 := h.cellAt (g := g) i (by have := h.1; rw [List.length_map] at this; omega)
  rw [h1, List.getElem?_map, List.getElem?_eq_getElem hi]
  rfl
theorem CkR.cut {w : World} {X : Xc} {F : Fn} {st : Cs} {pa : Option Addr} {n cap : Nat} (h : CkR w X F st (.slice pa n cap)) (k : Nat) (hk : k ≤ st.pass.length) :
    CkR (w.setCell ⟨X.c, 2, none⟩ (.slice pa k cap)) X F { st with pass := st.pass.take k } (.slice pa k cap) ∧ FrC X w (w.setCell ⟨X.c, 2, none⟩ (.slice pa k cap)) := by
  have hbc := h.ok.bc
  have hl := h.ok.lb
  have gC := grown_set (grown_refl w (some X.c)) 2 (.slice pa k cap)
  have hn : n = st.pass.length := by
    obtain ⟨pa', cap', e, _⟩ := Lw.row_form h.row
    injection e
  subst hn
  have hr := row_cut h.row k hk
  refine ⟨⟨h.ok, by have := h.blk.set 2 (.slice pa k cap); simpa using this, h.fns.setc h.blk 2 _, h.vars.kept gC (fun e => h.vars.ne h.blk (Option.some.inj e).symm), h.tak.kept gC (fun e => h.tak.ne h.blk (Option.some.inj e).symm), ?_, fun x hx => h.short x (List.mem_of_mem_take hx), h.gl.keptR gC (fun k e => by injection e with e; omega)⟩, FrC.c gC⟩
  show World.ownsRow _ _ _ _ _ (st.pass.take k).length _
  rw [List.length_take, Nat.min_eq_left hk, List.map_take]
  refine World.ownsRow.kept hr gC ?_
  cases hv : (Value.slice pa k cap).ownBlock with
  | none => exact Or.inl rfl
  | some r =>
    refine Or.inr (fun e => ?_)
    obtain ⟨_, cs, hs⟩ := row_block hr r hv
    have e2 : r = X.c := Option.some.inj e
    subst e2
    have B1 := h.blk
    unfold Blk at B1 hs
    rw [B1] at hs
    injection hs with hs
    injection hs with _ hs
    exact absurd hs (by decide)
set_option maxRecDepth 100000 in
set_option maxHeartbeats 4000000 in
theorem forget_any (k : Nat) {X : Xc} {F : Fn} {st : Cs} (w : World) (hC : CkA w X F st) (hx : forgetC k st ≠ .error none) :
    Calls Tryz.prog 140 #[.pointer (some ⟨X.c, 0, none⟩), .int .i64 k] w (CkP uK X F w (forgetC k st)) := by
  obtain ⟨pv, hR⟩ := hC
  unfold forgetC at hx ⊢
  by_cases hk : st.pass.length < k
  · rw [if_pos hk] at hx
    exact absurd rfl hx
  rw [if_neg hk]
  clear hx
  obtain ⟨pa, cap, rfl, hcap, hmax, hnil⟩ := Lw.row_form hR.row
  have c2 := hR.blk.cell 2
  simp at c2
  have HR := hid hR
  have hpa : ∀ i, i < st.pass.length → ∃ g, pa = some ⟨g, 0, none⟩ := fun i hi => by
    rcases hR.row.2 with ⟨e, h0⟩ | ⟨g, cap', cur, e, _⟩
    · omega
    · injection e with e1
      exact ⟨g, e1⟩
  have HP := hid hpa
  obtain ⟨n, hn⟩ : ∃ n, st.pass.length = n := ⟨_, rfl⟩
  have HN := hid (And.intro hn trivial)
  rw [hn] at c2 hk hcap
  have k0 : (0 : Int) ≤ k := by omega
  have k1 : (k : Int) ≤ n := by omega
  have k2 : (k : Int) ≤ cap := by omega
  have k3 : (n : Int) ≤ cap := by omega
  clear hR hpa hn
  by_cases hkn : n = k
  · have hz : st.pass.drop k = [] := by
      rw [List.drop_eq_nil_of_le]
      have := HN.out.1
      omega
    have ht : st.pass.take k = st.pass := List.take_of_length_le (by have := HN.out.1; omega)
    have HT : Hid (st.pass.take n = st.pass ∧ True) := hid ⟨List.take_of_length_le (by have := HN.out.1; omega), trivial⟩
    rw [hz, ht]
    subst hkn
    have D0 : Hid (drops st.vars [] = st.vars ∧ True) := hid ⟨rfl, trivial⟩
    have R0 : Hid (CkR w X F st (.slice pa n cap)) := by have h := HR.out; rw [HN.out.1] at h; exact hid h
    have f2 := R0.out.blk.frozen 2
    clear hz ht HR
    go_enter Tryz.func140, Tryz.ntmps140
    go_wp2_with fail
    all_goals
      go_loopw [13] (fun i wr => i = .int .i64 0 ∧ wr = w) (fun _ _ => 0)
      case atStart => exact ⟨rfl, rfl⟩
      case round =>
        obtain ⟨rfl, hw⟩ := hrel
        replace hw := hw.symm
        subst hw
        have RC := hid (R0.out.cut n (by have := HN.out.1; omega))
        go_wp2_with fail
        go_end0
        obtain ⟨q1, q2⟩ := RC.out
        rw [HT.out.1] at q1
        first
          | exact ⟨_, rfl, rfl, ⟨_, q1⟩, q2⟩
          | (have h9 : cap = n := by assumption
             rw [h9] at q1 q2
             exact ⟨_, rfl, rfl, ⟨_, q1⟩, q2⟩)
  · obtain ⟨g, rfl⟩ := HP.out k (by have := HN.out.1; omega)
    have hc0 : ¬ cap = k := by omega
    have hc1 : ¬ (cap : Int) = k := by omega
    obtain ⟨m, hm⟩ : ∃ m, n - k = m := ⟨_, rfl⟩
    have HM := hid (And.intro hm trivial)
    have m9 : (m : Int) ≤ 9223372036854775807 := by have : cap ≤ 9223372036854775807 := hmax; omega
    have R0 : Hid (CkR w X F st (.slice (some ⟨g, 0, none⟩) n cap)) := by have h := HR.out; rw [HN.out.1] at h; exact hid h
    have HL : Hid ((st.pass.drop k).length = m ∧ True) := hid ⟨by rw [List.length_drop]; have := HN.out.1; omega, trivial⟩
    obtain ⟨D, hD⟩ : ∃ D, st.pass.drop k = D := ⟨_, rfl⟩
    have HD := hid (And.intro hD trivial)
    rw [hD] at HL
    rw [hD]
    clear hD HR hkn
    go_enter Tryz.func140, Tryz.ntmps140
    go_wp2_with fail
    go_loopw [13, 5] (fun i nm wr => ∃ (j : Nat), i = .int .i64 j ∧ j ≤ m ∧ CkR wr X F { st with vars := drops st.vars (D.take j) } (.slice (some ⟨g, 0, none⟩) n cap) ∧ FrC X w wr) (fun i _ _ => m - (intOf i).toNat)
    case atStart => exact ⟨0, rfl, Nat.zero_le _, R0.out, FrC.refl _ _⟩
    case round =>
      obtain ⟨j, rfl, hj, hR, hF⟩ := hrel
      have RR := hid hR
      have FF := hid hF
      have j0 : (0 : Int) ≤ j := by omega
      clear hR hF R0
      by_cases hlt : j < m
      · have j1 : (j : Int) < m := by omega
        have hjD : j < D.length := by have := HL.out.1; omega
        have hkp : k + j < st.pass.length := by have := HN.out.1; have := HM.out.1; omega
        have eD : st.pass[k + j] = D[j] := by
          have := HD.out.1
          subst this
          rw [List.getElem_drop]
        have cc : wr.cell? ⟨g, k + j, none⟩ = some (.string D[j]) := by
          have h := RR.out.row
          have hn := HN.out.1
          have h2 : wr.ownsRow X.base 9 1 (.slice (some ⟨g, 0, none⟩) n cap) n (st.pass.map Value.string) := by rw [← hn]; rw [← hn] at h; exact h
          have h3 := row_cell h2 (k + j) hkp
          rw [eD] at h3
          exact h3
        have SZ := hid (Nat.le_trans (RR.out.short _ (List.getElem_mem hkp)) maxLen_ge)
        rw [eD] at SZ
        have ET := hid (And.intro (List.take_succ_eq_append_getElem hjD) trivial)
        have c1 := RR.out.blk.cell 1
        simp at c1
        generalize D[j] = dj at *
        have HJ := hid (And.intro hlt hjD)
        clear eD
        go_wp2_with (at_delete; refine Mp.at_drop RR.out.vars Tryz.underlying99 dj SZ.out _ _ rfl rfl rfl rfl ?_; intro w1 hm hg; have R1 := hid (RR.out.vars_drop hg (Mp.del (drops st.vars (D.take j)) dj) (hm.congr (fun x => by unfold iM Mp.del; cases Mp.same x dj <;> rfl))); have F1 : Hid (FrC X wr w1) := hid (FrC.of hg (fun r e => by injection e with e; exact Or.inr (Or.inl e.symm))); clear hm hg)
        go_round
        case rel => exact ⟨j + 1, by go_num, by have h9 := HJ.out.1; omega, by rw [ET.out.1, drops_snoc]; exact R1.out, FF.out.trans F1.out⟩
        case measure => have h9 := HJ.out.1; simp [intOf]; omega
      · have j1 : ¬ (j : Int) < m := by omega
        have e : D.take j = D := List.take_of_length_le (by have := HL.out.1; omega)
        have RC := hid (RR.out.cut k (by have h1 := HN.out.1; show k ≤ st.pass.length; omega))
        rw [e] at RC
        have c2 := RR.out.blk.cell 2
        simp at c2
        have f2 := RR.out.blk.frozen 2
        clear e
        go_wp2_with fail
        go_end0
        exact ⟨_, rfl, rfl, ⟨_, RC.out.1⟩, FF.out.trans RC.out.2⟩
end Ck
end Go.Proofs.YtajoncmmdeahnaaGreatDoor
namespace Go.Proofs.YtajoncmmdeahnaaGreatDoor
open Go.RowKit
namespace Ck
theorem fits_ne (n : Nd) (t : Int) (st : Cs) : fitsC n t st ≠ .error none := by
  unfold fitsC
  by_cases h : n.kids.length = 1 ∧ kidT n.kids 0 ≠ t
  · rw [if_pos h]
    intro e
    have e2 : (Except.error (some 122) : Rk Unit) = .error none := e
    injection e2 with e2
    cases e2
  · rw [if_neg h]
    intro e
    cases e
section
variable (n : Nd) (p : Option Addr) (c : Nat) (P : Nat → Prop) {X : Xc} {F : Fn} {st : Cs} (w : World) (hC : CkA w X F st) (hk : KsV w P (.slice p n.kids.length c) n.kids)
include hC hk
set_option maxRecDepth 100000 in
set_option maxHeartbeats 1000000 in
theorem define_any (hx : defineC n st ≠ .error none) : Calls Tryz.prog 248 #[.pointer (some ⟨X.c, 0, none⟩), .agg #[.int .i64 n.kind, .int .i64 n.ty, .string n.txt, .int .i64 n.num, .slice p n.kids.length c]] w (CkP uK X F w (defineC n st)) := by
  unfold defineC at hx ⊢
  have C179 : Hid (∀ W, w.grownBy W none → Calls Tryz.prog 179 #[.pointer (some ⟨X.c, 0, none⟩), .string n.txt, .int .i64 (if n.kids.length = 0 then 0 else kidT n.kids 0)] W (CkP uK X F W (knowC n.txt (if n.kids.length = 0 then 0 else kidT n.kids 0) st))) := fun W hW => know_any _ _ W (hC.kept hW) hx
  have HX := hid hx
  by_cases h0 : n.kids.length = 0
  · rw [if_pos h0] at C179 HX ⊢
    have e0 : decide ((0 : Int) < (n.kids.length : Int)) = false := by rw [decide_eq_false_iff_not]; omega
    rw [h0] at e0 ⊢
    clear hx hk hC
    generalize knowC n.txt 0 st = K at *
    go_enter Tryz.func248, Tryz.ntmps248
    go_wp2_with (go_at_call 179; refine (C179.out _ (grown_alloc (grown_refl w none) _)).mono ?_; intro e w1 hh; rcases CkP.cases hh HX.out with ⟨m, hz, rfl, hF⟩ | ⟨a, s2, v, hz, rfl, hv, hA, hF⟩; (case inl => exact ⟨rfl, by rw [hz]; exact ⟨rfl, (FrC.nil (grown_alloc (grown_refl w none) _)).trans hF⟩⟩); have hv' : v = _ := hv; subst hv'; have HZ := hid (And.intro hz trivial); have HA := hid hA; have HF := hid ((FrC.nil (grown_alloc (grown_refl w none) _)).trans hF); clear hz hA hF hh)
    go_end0
    rw [HZ.out.1]
    exact ⟨_, rfl, rfl, HA.out, HF.out⟩
  · rw [if_neg h0] at C179 HX ⊢
    obtain ⟨g, rfl, c0, c1⟩ := kid_at hk 0 (by omega)
    clear c0
    rw [← kidT_at (ks := n.kids) (i := 0) (by omega)] at c1
    have e0 : decide ((0 : Int) < (n.kids.length : Int)) = true := by rw [decide_eq_true_eq]; omega
    have e1 : (0 : Int) < (n.kids.length : Int) := by omega
    have d1 := keep_al c1 (.cells #[.int .i64 n.kind, .int .i64 n.ty, .string n.txt, .int .i64 n.num, .slice (some ⟨g, 0, none⟩) n.kids.length c] 27)
    have hg := cell_lt c1
    have hne : g ≠ w.heap.size := by omega
    clear hx hk hC h0
    generalize n.kids.length = l at *
    generalize kidT n.kids 0 = t0 at *
    generalize knowC n.txt t0 st = K at *
    go_enter Tryz.func248, Tryz.ntmps248
    go_wp2_with (go_at_call 179; refine (C179.out _ (grown_alloc (grown_refl w none) _)).mono ?_; intro e w1 hh; rcases CkP.cases hh HX.out with ⟨m, hz, rfl, hF⟩ | ⟨a, s2, v, hz, rfl, hv, hA, hF⟩; (case inl => exact ⟨rfl, by rw [hz]; exact ⟨rfl, (FrC.nil (grown_alloc (grown_refl w none) _)).trans hF⟩⟩); have hv' : v = _ := hv; subst hv'; have HZ := hid (And.intro hz trivial); have HA := hid hA; have HF := hid ((FrC.nil (grown_alloc (grown_refl w none) _)).trans hF); clear hz hA hF hh)
    go_end0
    rw [HZ.out.1]
    exact ⟨_, rfl, rfl, HA.out, HF.out⟩
theorem returned_any : Calls Tryz.prog 249 #[.pointer (some ⟨X.c, 0, none⟩), .agg #[.int .i64 n.kind, .int .i64 n.ty, .string n.txt, .int .i64 n.num, .slice p n.kids.length c]] w (CkP uK X F w (returnedC n st)) := by
  unfold returnedC
  obtain ⟨pv, hR⟩ := hC
  have c7 := (hR.blk.alloc (.cells #[.int .i64 n.kind, .int .i64 n.ty, .string n.txt, .int .i64 n.num, .slice p n.kids.length c] 27)).cell 7
  have c8 := (hR.blk.alloc (.cells #[.int .i64 n.kind, .int .i64 n.ty, .string n.txt, .int .i64 n.num, .slice p n.kids.length c] 27)).cell 8
  simp at c7 c8
  have hcl := hR.blk.lt
  have C97 : Hid (∀ W, Calls Tryz.prog 97 #[.int .i64 (124 : Nat)] W fun e w' => e = .panicked (RjV 124) ∧ w' = W) := fun W => reject_any 124 W
  have C135 : Hid (∀ W, w.grownBy W none → Calls Tryz.prog 135 #[.agg #[.int .i64 n.kind, .int .i64 n.ty, .string n.txt, .int .i64 n.num, .slice p n.kids.length c], .int .i64 st.an] W (CkP uK X F W (fitsC n st.an st))) := fun W hW => fits_any n p c st.an P W ⟨pv, hR.kept hW⟩ (hk.kept hW)
  have hne : X.c ≠ w.heap.size := by omega
  clear hk hR
  cases ht : st.te with
  | true =>
    rw [ht] at c7
    rw [if_pos rfl]
    clear C135 c8 ht
    go_enter Tryz.func249, Tryz.ntmps249
    go_wp2_with (go_at_call 97; refine (C97.out _).mono ?_; rintro e w1 ⟨rfl, hw⟩; replace hw := hw.symm; subst hw; clear C97)
    exact ⟨rfl, rfl, FrC.nil (grown_alloc (grown_refl w none) _)⟩
  | false =>
    rw [ht] at c7
    rw [if_neg (by decide)]
    have HX : Hid (fitsC n st.an st ≠ .error none) := hid (fits_ne n st.an st)
    generalize fitsC n st.an st = K at *
    clear ht C97
    have GD := hid (grown_drew (grown_alloc (grown_refl w none) (.cells #[.int .i64 n.kind, .int .i64 n.ty, .string n.txt, .int .i64 n.num, .slice p n.kids.length c] 27)))
    go_enter Tryz.func249, Tryz.ntmps249
    go_wp2_with fail
    go_region_law (go_simp; go_at_call 135; refine (C135.out _ GD.out).mono ?_; intro e w1 hh; rcases CkP.cases hh HX.out with ⟨m, hz, rfl, hF⟩ | ⟨a, s2, v, hz, rfl, hv, hA, hF⟩; (case inl => exact ⟨rfl, by rw [hz]; exact ⟨rfl, (FrC.nil GD.out).trans hF⟩⟩); have hv' : v = _ := hv; subst hv'; have HZ := hid (And.intro hz trivial); have HA := hid hA; have HF := hid ((FrC.nil GD.out).trans hF); clear hz hA hF hh)
    all_goals
      go_wp2_with fail
      go_end0
      rw [HZ.out.1]
      exact ⟨_, rfl, rfl, HA.out, HF.out⟩
end
end Ck
end Go.Proofs.YtajoncmmdeahnaaGreatDoor
