/-
  The law's own model: few, frame, rows of records, same.
-/
import Derived.Test.YtddnjlnnkeiplaaKLrun
import Derived.Laws.OwnMore
namespace Go.Proofs.Ytddnjlnnkeiplaa
open Go.RowKit Go.Maps
def fewS (s : ByteArray) : ByteArray := if 300 < s.size then s.extract 0 300 else s
theorem fewS_size (s : ByteArray) : (fewS s).size ≤ 300 := by
  unfold fewS
  split
  · rw [ByteArray.size_extract]; omega
  · omega
set_option maxRecDepth 100000 in
theorem few_any (s : ByteArray) (w : World) : Calls Try.prog 14 #[.string s] w fun e w' => e = .returned (.string (fewS s)) ∧ w' = w := by
  unfold fewS
  by_cases h : 300 < s.size
  · rw [if_pos h]
    have h1 : (300 : Int) < s.size := by omega
    have h2 : (300 : Int) ≤ s.size := by omega
    clear h
    go_enter Try.func14, Try.ntmps14
    go_wp2
    go_ret
    exact ⟨rfl, rfl⟩
  · rw [if_neg h]
    have h1 : ¬ (300 : Int) < s.size := by omega
    clear h
    go_enter Try.func14, Try.ntmps14
    go_wp2
    go_ret
    exact ⟨rfl, rfl⟩
set_option maxRecDepth 100000 in
theorem lframe_any (s : ByteArray) (w : World) (hs : s.size ≤ 3000) : Calls Try.prog 23 #[.string s] w fun e w' => e = .returned (.int .i64 (s.size + 9 : Nat)) ∧ w.grownBy w' none := by
  have hz : (⟨#[100]⟩ ++ s : ByteArray).size = 1 + s.size := by rw [ByteArray.size_append]; rfl
  have C : Hid (∀ W, Calls Try.prog 28 #[.string (⟨#[100]⟩ ++ s)] W fun e w' => e = .returned (.string (Wi.frmS (⟨#[100]⟩ ++ s))) ∧ W.grownBy w' none) := fun W => Wi.refFrame_any _ W (by omega)
  have hf : (Wi.frmS (⟨#[100]⟩ ++ s)).size = s.size + 9 := by rw [Wi.frmS_size, hz]; omega
  have i5 : ¬ 9223372036854775807 < 1 + s.size := by omega
  have i6 : (s.size : Int) ≤ 3000 := by omega
  generalize Wi.frmS (⟨#[100]⟩ ++ s) = F at *
  have hf2 : (F.size : Int) = ((s.size + 9 : Nat) : Int) := by rw [hf]
  have HF := hid hf2
  clear hf hf2 hz hs
  go_enter Try.func23, Try.ntmps23
  go_wp2_with (go_at_call 28; refine (C.out _).mono ?_; rintro e w1 ⟨rfl, g1⟩; have G1 := hid g1; clear g1 C)
  go_ret
  rw [← HF.out]
  exact ⟨rfl, G1.out⟩
theorem info49 : (Try.prog.info? 49).map (fun i => (i.zero, i.size, i.bytes)) = some (some (.agg #[.int .i64 0, .string ⟨#[]⟩]), 2, 24) := by kernel_rfl
theorem recsL_app (l m : List (Nat × ByteArray)) : recsL l ++ recsL m = recsL (l ++ m) := by
  unfold recsL
  rw [List.flatMap_append]
theorem recsL_one (l : List (Nat × ByteArray)) : ∀ u ∈ recsL l, u.oneCell' = true := by
  intro u hu
  unfold recsL at hu
  obtain ⟨p, _, hp⟩ := List.mem_flatMap.1 hu
  unfold recL at hp
  simp only [List.mem_cons, List.not_mem_nil, or_false] at hp
  rcases hp with rfl | rfl <;> rfl
/-- A row of the law's own records. -/
def Recs (w : World) (base : Nat) (v : Value) (l : List (Nat × ByteArray)) : Prop := w.ownsRow base 49 2 v l.length (recsL l)
theorem recs_new (w : World) (base : Nat) (hb : base ≤ w.heap.size) : Recs (w.alloc (.cells #[] 49)) base (.slice (some ⟨w.heap.size, 0, none⟩) 0 0) [] :=
  ⟨rfl, Or.inr ⟨w.heap.size, 0, #[], rfl, hb, Blk.new w 49 _, Nat.le_refl _, Nat.zero_le _, rfl, rfl⟩⟩
theorem recs_nil (w : World) (base : Nat) : Recs w base (.slice none 0 0) [] := ⟨rfl, Or.inl ⟨rfl, rfl⟩⟩
theorem run_recs {w : World} {base base' : Nat} {v u : Value} {l m : List (Nat × ByteArray)} (ty : TypeId) (hv : Recs w base v l) (hu : Recs w base' u m) (hl : l.length + m.length ≤ 1000000) (hb : base ≤ w.heap.size) :
    ∃ v' w', (Builtin.append_ #[30, 30] ty #[v, u]).run Try.prog w = .ok v' w' ∧ Recs w' base v' (l ++ m) ∧ w.grownBy w' v.ownBlock := by
  obtain ⟨i49, hi, hz0, hz1, hz2⟩ := info_parts info49
  have hu0 : w.ownsRow base' 49 2 u m.length (recsL m) := hu
  rcases hu.2 with ⟨rfl, hm⟩ | ⟨g, cap, cur, rfl, _⟩
  · have e : m = [] := List.eq_nil_of_length_eq_zero hm
    subst e
    refine ⟨v, w, run_append_owned_none w base 30 ty 49 i49 2 Try.underlying30 hi v l.length (recsL l) hv, ?_, grown_refl _ _⟩
    rw [List.append_nil]
    exact hv
  · obtain ⟨v', w', h1, h2, h3, _⟩ := run_append_own (P := Try.prog) (w := w) base 30 ty 49 i49 _ 2 24 Try.underlying30 hi hz0 hz1 hz2 rfl (by decide) v l.length (recsL l) hv ⟨g, 0, none⟩ m.length cap (recsL m) (recsL_len m) (fun j x hj => by
      have hlt : j < m.length * 2 := by
        rw [← recsL_len]
        by_cases e : j < (recsL m).length
        · exact e
        · rw [List.getElem?_eq_none (by omega)] at hj
          cases hj
      rw [add_at, Nat.zero_add, hu0.cellAt j hlt, hj]) (recsL_one m) (by unfold maxLen; omega) (by omega) hb
    refine ⟨v', w', h1, ?_, h3⟩
    unfold Recs
    rw [List.length_append, ← recsL_app]
    exact h2
/-- append of records, as a step of a region that draws. -/
theorem step_recs {ops : Array Oper} {o : Oper} {a : Act} {w : World} {K : Act → World → Prop} {Q : Exit → Act → World → Prop} {E : Prop} (s x : Operand) (hg : o.guard = none) (ho : o.op = Op.call { callee := Callee.builtin Builtin.append, args := #[s, x], argTypes := #[30, 30] }) (base base' : Nat) (v u : Value) (l m : List (Nat × ByteArray))
    (hv : Recs w base v l) (hu : Recs w base' u m) (hl : l.length + m.length ≤ 1000000) (hb : base ≤ w.heap.size) (hs : a.eval s = v) (hx : a.eval x = u)
    (hK : ∀ v' w', Recs w' base v' (l ++ m) → w.grownBy w' v.ownBlock → K (a.put o.dst v') w') :
    if Region.wanted o (yielded ops a.tmps) = true then Oper.wp Try.prog o a w K Q else E := by
  have hw : Region.wanted o (yielded ops a.tmps) = true := by simp [Region.wanted, hg]
  rw [if_pos hw]
  obtain ⟨v', w', hr, h2, h3⟩ := run_recs o.type hv hu hl hb
  unfold Oper.wp execOp
  simp only [ho, resolve, invoke, builtin, Sem.run_bind, Sem.run_pure, Result.andThen_ok, List.map_toArray, List.map_cons, List.map_nil, hs, hx, hr]
  exact hK v' w' h2 h3
theorem Recs.none {w w' : World} {base : Nat} {v : Value} {l : List (Nat × ByteArray)} (h : Recs w base v l) (hg : w.grownBy w' none) : Recs w' base v l := row_none h hg
theorem Recs.form {w : World} {base : Nat} {v : Value} {l : List (Nat × ByteArray)} (h : Recs w base v l) : ∃ pa c, v = .slice pa l.length c := by
  obtain ⟨pa, c, rfl, _⟩ := row_form h
  exact ⟨pa, c, rfl⟩
theorem Recs.low {w w' : World} {B base : Nat} {v : Value} {l : List (Nat × ByteArray)} (h : Recs w base v l) (hT : Low B w w') : Recs w' base v l := row_same h (fun g cur hg => hT.keep g (heap_lt hg) (Or.inr ⟨cur, 49, (0, 0), hg, by decide, by decide, by decide, by decide, by decide⟩))
/-- Behind an append of others' records. -/
theorem Recs.far {w w' : World} {base : Nat} {v u : Value} {l : List (Nat × ByteArray)} (h : Recs w base v l) (hg : w.grownBy w' u.ownBlock) (hn : ∀ g, v.ownBlock = some g → u.ownBlock ≠ some g) : Recs w' base v l := by
  refine World.ownsRow.kept h hg ?_
  cases hq : v.ownBlock with
  | none => exact Or.inl rfl
  | some g => exact Or.inr (fun e => hn g hq e.symm)
theorem recs_cell {w : World} {base : Nat} {pa : Option Addr} {c : Nat} {l : List (Nat × ByteArray)} (h : Recs w base (.slice pa l.length c) l) (k : Nat) (hk : k < l.length) : ∃ g, pa = some ⟨g, 0, none⟩ ∧ w.cell? ⟨g, k * 2, none⟩ = some (.int .i64 l[k].1) ∧ w.cell? ⟨g, k * 2 + 1, none⟩ = some (.string l[k].2) := by
  have h0 : w.ownsRow base 49 2 (.slice pa l.length c) l.length (recsL l) := h
  rcases h.2 with ⟨_, e⟩ | ⟨g, cap, cur, e, _⟩
  · omega
  · injection e with e1 e2 e3
    subst e1
    obtain ⟨q1, q2⟩ := recsL_get l k hk
    refine ⟨g, rfl, ?_, ?_⟩
    · rw [h0.cellAt (k * 2) (by omega), q1]
    · rw [h0.cellAt (k * 2 + 1) (by omega), q2]
set_option maxRecDepth 100000 in
theorem llen_any (base b : Nat) (g : Lg) (w : World) (h : IsLog w base b g) : Calls Try.prog 36 #[.pointer (some ⟨b, 0, none⟩)] w fun e w' => e = .returned (.int .i64 g.len) ∧ w' = w := by
  obtain ⟨h0, vr, vw, hb, _, _⟩ := h
  obtain ⟨⟨c0, c1, c2, c3, c4, c5, c6⟩, _⟩ := hb.g7
  clear hb c0 c1 c2 c4 c5 c6
  go_enter Try.func36, Try.ntmps36
  go_wp2
  go_ret
  exact ⟨rfl, rfl⟩
set_option maxRecDepth 100000 in
theorem lwaits_any (base b : Nat) (g : Lg) (w : World) (h : IsLog w base b g) : Calls Try.prog 37 #[.pointer (some ⟨b, 0, none⟩)] w fun e w' => e = .returned (.int .i64 g.wait.size) ∧ w' = w := by
  obtain ⟨h0, vr, vw, hb, _, hw⟩ := h
  obtain ⟨⟨c0, c1, c2, c3, c4, c5, c6⟩, _⟩ := hb.g7
  obtain ⟨pw, cw, rfl, _⟩ := row_form hw
  clear hb c0 c1 c2 c3 c5 c6 hw
  go_enter Try.func37, Try.ntmps37
  go_wp2
  go_ret
  exact ⟨rfl, rfl⟩
end Go.Proofs.Ytddnjlnnkeiplaa
