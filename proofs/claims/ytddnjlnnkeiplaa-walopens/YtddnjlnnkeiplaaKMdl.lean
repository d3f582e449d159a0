/-
  load, whatever the bytes: all up to the last marker that is whole. The law's own model: few, frame, rows of records, same.
-/
import Derived.Test.YtddnjlnnkeiplaaKPars
import Derived.Test.YtddnjlnnkeiplaaKXDel
import Derived.Laws.OwnMore
namespace Go.Proofs.Ytddnjlnnkeiplaa
open Go.RowKit Go.Maps
def runG (s : ByteArray) : Nat → Nat → Lg → Lg
  | 0, _, g => g
  | f + 1, p, g => match stepG s p g with
    | none => g
    | some (x, g') => runG s f x g'
theorem runG_stable (s : ByteArray) : ∀ (f f' p : Nat) (g : Lg), p ≤ s.size → s.size + 1 - p ≤ f → s.size + 1 - p ≤ f' → runG s f p g = runG s f' p g
  | 0, _, p, g, hp, h1, _ => by omega
  | f + 1, 0, p, g, hp, _, h2 => by omega
  | f + 1, f' + 1, p, g, hp, h1, h2 => by
    unfold runG
    cases hq : stepG s p g with
    | none => rfl
    | some y =>
      obtain ⟨x, g'⟩ := y
      have hx := stepG_lt hp hq
      exact runG_stable s f f' x g' hx.2.1 (by omega) (by omega)
/-- What holds of a log that is being read. -/
structure Inv (s : ByteArray) (p : Nat) (g : Lg) : Prop where
  com : g.com ≤ g.recs.length
  few : g.recs.length ≤ p
  wait : g.wait = ⟨#[]⟩
  len : g.len ≤ s.size
  asc : Asc g.recs
  low : ∀ r ∈ g.recs, r.1 < p
theorem asc_snoc {l : List (Nat × ByteArray)} {q : Nat × ByteArray} (h : Asc l) (hq : ∀ r ∈ l, r.1 < q.1) : Asc (l ++ [q]) := by
  intro i j hj hi
  rw [List.length_append, List.length_singleton] at hj
  by_cases e : j < l.length
  · rw [List.getElem_append_left (by omega), List.getElem_append_left e]
    exact h i j e hi
  · obtain rfl : j = l.length := by omega
    rw [List.getElem_append_left hi, List.getElem_concat_length rfl]
    exact hq _ (List.getElem_mem _)
theorem Inv.step {s : ByteArray} {p x : Nat} {g g' : Lg} (h : Inv s p g) (hp : p ≤ s.size) (hq : stepG s p g = some (x, g')) : Inv s x g' := by
  have hx := stepG_lt hp hq
  unfold stepG at hq
  split at hq
  · cases hq
  · rename_i c r hv
    have hk := unX_le s p hp (unV_ok hv)
    split at hq
    · simp only [Option.some.injEq, Prod.mk.injEq] at hq
      obtain ⟨rfl, rfl⟩ := hq
      have a1 := h.com
      have a2 := h.few
      refine ⟨?_, ?_, h.wait, h.len, asc_snoc h.asc h.low, ?_⟩
      · show g.com ≤ (g.recs ++ [_]).length
        rw [List.length_append]
        omega
      · show (g.recs ++ [_]).length ≤ unX s p
        rw [List.length_append, List.length_singleton]
        omega
      · intro r' hr'
        rcases List.mem_append.1 hr' with h1 | h1
        · have := h.low r' h1
          omega
        · rw [List.mem_singleton.1 h1]
          show p < unX s p
          omega
    · split at hq
      · simp only [Option.some.injEq, Prod.mk.injEq] at hq
        obtain ⟨rfl, rfl⟩ := hq
        have a2 := h.few
        have a3 : g.recs.length ≤ unX s p := by omega
        have a4 : p < unX s p := by omega
        have a5 := hk.1
        have a6 := h.asc
        have a7 := h.low
        clear hk h hx hv
        generalize unX s p = X at *
        exact ⟨Nat.le_refl g.recs.length, a3, rfl, a5, a6, fun r' hr' => Nat.lt_trans (a7 r' hr') a4⟩
      · cases hq
theorem Inv.run {s : ByteArray} : ∀ (f : Nat) {p : Nat} {g : Lg}, Inv s p g → p ≤ s.size → ∃ p', p' ≤ s.size ∧ Inv s p' (runG s f p g) ∧ (runG s f p g).d = g.d
  | 0, p, g, h, hp => ⟨p, hp, h, rfl⟩
  | f + 1, p, g, h, hp => by
    unfold runG
    cases hq : stepG s p g with
    | none => exact ⟨p, hp, h, rfl⟩
    | some y =>
      obtain ⟨x, g'⟩ := y
      have hx := stepG_lt hp hq
      obtain ⟨p', h1, h2, h3⟩ := Inv.run f (h.step hp hq) hx.2.1
      exact ⟨p', h1, h2, h3.trans hx.2.2.2⟩
theorem inv_new (s : ByteArray) (d : Nat) : Inv s 0 (newL d) := ⟨Nat.le_refl _, Nat.le_refl _, rfl, Nat.zero_le _, fun i j hj => absurd hj (Nat.not_lt_zero _), fun r hr => by cases hr⟩
theorem take_cases {base b : Nat} {w w' : World} {o : Option (Nat × Lg)} {g : Lg} {e : Ending} (h : TakePost base b w o g e w') : LT base b w w' ∧ ((o = none ∧ e = .returned (.tuple #[.int .i64 0, .bool false]) ∧ IsLog w' base b g) ∨ ∃ x g', o = some (x, g') ∧ e = .returned (.tuple #[.int .i64 x, .bool true]) ∧ IsLog w' base b g') := by
  cases o with
  | none => exact ⟨h.1, Or.inl ⟨rfl, h.2⟩⟩
  | some y => exact ⟨h.1, Or.inr ⟨y.1, y.2, rfl, h.2⟩⟩
/-- The log that a file's bytes give. -/
def parseG (s : ByteArray) (d : Nat) : Lg := runG s (s.size + 1) 0 (newL d)
def loadG (s : ByteArray) (d : Nat) : Lg := dropG (parseG s d)
set_option maxRecDepth 100000 in
set_option maxHeartbeats 1000000 in
theorem load_any (base b d : Nat) (s : ByteArray) (w : World) (h : IsLog w base b (newL d)) (hs : s.size ≤ 4500) :
    Calls Try.prog 40 #[.pointer (some ⟨b, 0, none⟩), .string s] w fun e w' => e = .returned (.tuple #[]) ∧ IsLog w' base b (loadG s d) ∧ LT base b w w' := by
  obtain ⟨pF, hpF, hIF, _⟩ := Inv.run (s.size + 1) (inv_new s d) (Nat.zero_le _)
  have HD : Hid (∀ W, IsLog W base b (parseG s d) → Calls Try.prog 12 #[.pointer (some ⟨b, 0, none⟩)] W fun e w' => (∃ m : Nat, e = .returned (.int .i64 m)) ∧ IsLog w' base b (loadG s d) ∧ LT base b W w') := fun W hW => by
    refine (drop_any base b (parseG s d) W hW hIF.com ?_ ?_).mono ?_
    · have := hIF.few
      show (runG s (s.size + 1) 0 (newL d)).recs.length ≤ _
      omega
    · have e : (parseG s d).wait = ⟨#[]⟩ := hIF.wait
      rw [e]
      decide
    · rintro e w' ⟨he, hi, ht⟩
      exact ⟨⟨_, he⟩, hi, ht⟩
  have HS : Hid (∀ p g W, IsLog W base b g → Inv s p g → p ≤ s.size → Calls Try.prog 61 #[.pointer (some ⟨b, 0, none⟩), .string s, .int .i64 p] W (TakePost base b W (stepG s p g) g)) := fun p g W hW hI hp => take_all base b g s p W hW (by have := hI.few; omega) hs hp
  have HL := hid h
  have HI := hid (inv_new s d)
  have H0 : Hid (runG s (s.size + 1 - 0) 0 (newL d) = parseG s d) := rfl
  clear h hs hIF hpF
  generalize loadG s d = gF at *
  generalize parseG s d = gP at *
  go_enter Try.func40, Try.ntmps40
  go_wp2
  go_loopw [4, 5] (fun a r wr => LT base b w wr ∧ ((∃ (p : Nat) (g : Lg), a = .int .i64 p ∧ r = .bool true ∧ p ≤ s.size ∧ Inv s p g ∧ IsLog wr base b g ∧ runG s (s.size + 1 - p) p g = gP) ∨ (a = .int .i64 0 ∧ r = .bool false ∧ IsLog wr base b gP))) (fun a r _ => left s.size a r)
  case atStart => exact ⟨LT.refl _ _ _, Or.inl ⟨0, _, rfl, rfl, Nat.zero_le _, HI.out, HL.out, H0.out⟩⟩
  case round =>
    obtain ⟨hlt, hcase⟩ := hrel
    have T0 := hid hlt
    rcases hcase with ⟨p, g, rfl, rfl, hp, hI, hlog, hrun⟩ | ⟨rfl, rfl, hlog⟩
    · have CE := hid (HS.out p g _ hlog hI hp)
      have RUN := hid hrun
      have INV := hid hI
      clear HS HD HL HI H0 hlt hlog hrun hI
      go_wp2_with (go_at_call 61; refine CE.out.mono ?_; intro e w2 hpost; obtain ⟨ht2, hst2⟩ := take_cases hpost; have T2 := hid (LT.trans T0.out ht2); clear ht2 CE hpost; rcases hst2 with ⟨hst, rfl, hl2⟩ | ⟨x, g', hst, rfl, hl2⟩ <;> have L2 := hid hl2 <;> have ST := hid hst <;> clear hl2 hst)
      · refine ⟨⟨T2.out, Or.inr ⟨rfl, rfl, ?_⟩⟩, ?_⟩
        · have e := RUN.out
          have e2 : s.size + 1 - p = (s.size - p) + 1 := by omega
          rw [e2] at e
          unfold runG at e
          rw [ST.out] at e
          rw [← e]
          exact L2.out
        · show 0 < s.size + 1 - (intOf (.int .i64 p)).toNat
          simp [intOf]
          omega
      · have hx := stepG_lt hp ST.out
        refine ⟨⟨T2.out, Or.inl ⟨x, g', rfl, rfl, hx.2.1, INV.out.step hp ST.out, L2.out, ?_⟩⟩, ?_⟩
        · have e := RUN.out
          have e2 : s.size + 1 - p = (s.size - p) + 1 := by omega
          rw [e2] at e
          unfold runG at e
          rw [ST.out] at e
          rw [← e]
          exact runG_stable s _ _ x g' hx.2.1 (Nat.le_refl _) (by omega)
        · show s.size + 1 - (intOf (.int .i64 x)).toNat < s.size + 1 - (intOf (.int .i64 p)).toNat
          simp [intOf]
          omega
    · have CE := hid (HD.out _ hlog)
      clear HS HD HL HI H0 hlt hlog
      go_wp2_with (go_at_call 12; refine CE.out.mono ?_; rintro e w2 ⟨⟨m, rfl⟩, hl2, ht2⟩; have L2 := hid hl2; have T2 := hid (LT.trans T0.out ht2); clear hl2 ht2 CE)
      first
      | exact bodyPost_end (results_none rfl _ _ _) rfl ⟨rfl, L2.out, T2.out⟩
      | exact bodyPost_ret (results_none rfl _ _ _) rfl ⟨rfl, L2.out, T2.out⟩
end Go.Proofs.Ytddnjlnnkeiplaa
namespace Go.Proofs.Ytddnjlnnkeiplaa
open Go.RowKit Go.Maps
def fewS (s : ByteArray) : ByteArray := if 300 < s.size then s.extract 0 300 else s
theorem fewS_size (s : ByteArray) : (fewS s).size ≤ 300 := by
  unfold fewS
  split
  · rw [ByteArray.size_extract]; omega
  · omega
set_option maxRecDepth 100000 in
theorem few_any (s : ByteArray) (w : World) : Calls Try.prog 14 #[.string s] w fun e w' => e = .returned (.string (fewS s)) ∧ w' = w := by
  unfold fewS
  by_cases h : 300 < s.size
  · rw [if_pos h]
    have h1 : (300 : Int) < s.size := by omega
    have h2 : (300 : Int) ≤ s.size := by omega
    clear h
    go_enter Try.func14, Try.ntmps14
    go_wp2
    go_ret
    exact ⟨rfl, rfl⟩
  · rw [if_neg h]
    have h1 : ¬ (300 : Int) < s.size := by omega
    clear h
    go_enter Try.func14, Try.ntmps14
    go_wp2
    go_ret
    exact ⟨rfl, rfl⟩
set_option maxRecDepth 100000 in
theorem lframe_any (s : ByteArray) (w : World) (hs : s.size ≤ 3000) : Calls Try.prog 23 #[.string s] w fun e w' => e = .returned (.int .i64 (s.size + 9 : Nat)) ∧ w.grownBy w' none := by
  have hz : (⟨#[100]⟩ ++ s : ByteArray).size = 1 + s.size := by rw [ByteArray.size_append]; rfl
  have C : Hid (∀ W, Calls Try.prog 28 #[.string (⟨#[100]⟩ ++ s)] W fun e w' => e = .returned (.string (Wi.frmS (⟨#[100]⟩ ++ s))) ∧ W.grownBy w' none) := fun W => Wi.refFrame_any _ W (by omega)
  have hf : (Wi.frmS (⟨#[100]⟩ ++ s)).size = s.size + 9 := by rw [Wi.frmS_size, hz]; omega
  have i5 : ¬ 9223372036854775807 < 1 + s.size := by omega
  have i6 : (s.size : Int) ≤ 3000 := by omega
  generalize Wi.frmS (⟨#[100]⟩ ++ s) = F at *
  have hf2 : (F.size : Int) = ((s.size + 9 : Nat) : Int) := by rw [hf]
  have HF := hid hf2
  clear hf hf2 hz hs
  go_enter Try.func23, Try.ntmps23
  go_wp2_with (go_at_call 28; refine (C.out _).mono ?_; rintro e w1 ⟨rfl, g1⟩; have G1 := hid g1; clear g1 C)
  go_ret
  rw [← HF.out]
  exact ⟨rfl, G1.out⟩
theorem info49 : (Try.prog.info? 49).map (fun i => (i.zero, i.size, i.bytes)) = some (some (.agg #[.int .i64 0, .string ⟨#[]⟩]), 2, 24) := by kernel_rfl
theorem recsL_app (l m : List (Nat × ByteArray)) : recsL l ++ recsL m = recsL (l ++ m) := by
  unfold recsL
  rw [List.flatMap_append]
theorem recsL_one (l : List (Nat × ByteArray)) : ∀ u ∈ recsL l, u.oneCell' = true := by
  intro u hu
  unfold recsL at hu
  obtain ⟨p, _, hp⟩ := List.mem_flatMap.1 hu
  unfold recL at hp
  simp only [List.mem_cons, List.not_mem_nil, or_false] at hp
  rcases hp with rfl | rfl <;> rfl
/-- A row of the law's own records. -/
def Recs (w : World) (base : Nat) (v : Value) (l : List (Nat × ByteArray)) : Prop := w.ownsRow base 49 2 v l.length (recsL l)
theorem recs_new (w : World) (base : Nat) (hb : base ≤ w.heap.size) : Recs (w.alloc (.cells #[] 49)) base (.slice (some ⟨w.heap.size, 0, none⟩) 0 0) [] :=
  ⟨rfl, Or.inr ⟨w.heap.size, 0, #[], rfl, hb, Blk.new w 49 _, Nat.le_refl _, Nat.zero_le _, rfl, rfl⟩⟩
theorem recs_nil (w : World) (base : Nat) : Recs w base (.slice none 0 0) [] := ⟨rfl, Or.inl ⟨rfl, rfl⟩⟩
theorem run_recs {w : World} {base base' : Nat} {v u : Value} {l m : List (Nat × ByteArray)} (ty : TypeId) (hv : Recs w base v l) (hu : Recs w base' u m) (hl : l.length + m.length ≤ 1000000) (hb : base ≤ w.heap.size) :
    ∃ v' w', (Builtin.append_ #[30, 30] ty #[v, u]).run Try.prog w = .ok v' w' ∧ Recs w' base v' (l ++ m) ∧ w.grownBy w' v.ownBlock := by
  obtain ⟨i49, hi, hz0, hz1, hz2⟩ := info_parts info49
  have hu0 : w.ownsRow base' 49 2 u m.length (recsL m) := hu
  rcases hu.2 with ⟨rfl, hm⟩ | ⟨g, cap, cur, rfl, _⟩
  · have e : m = [] := List.eq_nil_of_length_eq_zero hm
    subst e
    refine ⟨v, w, run_append_owned_none w base 30 ty 49 i49 2 Try.underlying30 hi v l.length (recsL l) hv, ?_, grown_refl _ _⟩
    rw [List.append_nil]
    exact hv
  · obtain ⟨v', w', h1, h2, h3, _⟩ := run_append_own (P := Try.prog) (w := w) base 30 ty 49 i49 _ 2 24 Try.underlying30 hi hz0 hz1 hz2 rfl (by decide) v l.length (recsL l) hv ⟨g, 0, none⟩ m.length cap (recsL m) (recsL_len m) (fun j x hj => by
      have hlt : j < m.length * 2 := by
        rw [← recsL_len]
        by_cases e : j < (recsL m).length
        · exact e
        · rw [List.getElem?_eq_none (by omega)] at hj
          cases hj
      rw [add_at, Nat.zero_add, hu0.cellAt j hlt, hj]) (recsL_one m) (by unfold maxLen; omega) (by omega) hb
    refine ⟨v', w', h1, ?_, h3⟩
    unfold Recs
    rw [List.length_append, ← recsL_app]
    exact h2
/-- append of records, as a step of a region that draws. -/
theorem step_recs {ops : Array Oper} {o : Oper} {a : Act} {w : World} {K : Act → World → Prop} {Q : Exit → Act → World → Prop} {E : Prop} (s x : Operand) (hg : o.guard = none) (ho : o.op = Op.call { callee := Callee.builtin Builtin.append, args := #[s, x], argTypes := #[30, 30] }) (base base' : Nat) (v u : Value) (l m : List (Nat × ByteArray))
    (hv : Recs w base v l) (hu : Recs w base' u m) (hl : l.length + m.length ≤ 1000000) (hb : base ≤ w.heap.size) (hs : a.eval s = v) (hx : a.eval x = u)
    (hK : ∀ v' w', Recs w' base v' (l ++ m) → w.grownBy w' v.ownBlock → K (a.put o.dst v') w') :
    if Region.wanted o (yielded ops a.tmps) = true then Oper.wp Try.prog o a w K Q else E := by
  have hw : Region.wanted o (yielded ops a.tmps) = true := by simp [Region.wanted, hg]
  rw [if_pos hw]
  obtain ⟨v', w', hr, h2, h3⟩ := run_recs o.type hv hu hl hb
  unfold Oper.wp execOp
  simp only [ho, resolve, invoke, builtin, Sem.run_bind, Sem.run_pure, Result.andThen_ok, List.map_toArray, List.map_cons, List.map_nil, hs, hx, hr]
  exact hK v' w' h2 h3
theorem Recs.none {w w' : World} {base : Nat} {v : Value} {l : List (Nat × ByteArray)} (h : Recs w base v l) (hg : w.grownBy w' none) : Recs w' base v l := row_none h hg
theorem Recs.form {w : World} {base : Nat} {v : Value} {l : List (Nat × ByteArray)} (h : Recs w base v l) : ∃ pa c, v = .slice pa l.length c := by
  obtain ⟨pa, c, rfl, _⟩ := row_form h
  exact ⟨pa, c, rfl⟩
theorem Recs.low {w w' : World} {B base : Nat} {v : Value} {l : List (Nat × ByteArray)} (h : Recs w base v l) (hT : Low B w w') : Recs w' base v l := row_same h (fun g cur hg => hT.keep g (heap_lt hg) (Or.inr ⟨cur, 49, (0, 0), hg, by decide, by decide, by decide, by decide, by decide⟩))
/-- Behind an append of others' records. -/
theorem Recs.far {w w' : World} {base : Nat} {v u : Value} {l : List (Nat × ByteArray)} (h : Recs w base v l) (hg : w.grownBy w' u.ownBlock) (hn : ∀ g, v.ownBlock = some g → u.ownBlock ≠ some g) : Recs w' base v l := by
  refine World.ownsRow.kept h hg ?_
  cases hq : v.ownBlock with
  | none => exact Or.inl rfl
  | some g => exact Or.inr (fun e => hn g hq e.symm)
theorem recs_cell {w : World} {base : Nat} {pa : Option Addr} {c : Nat} {l : List (Nat × ByteArray)} (h : Recs w base (.slice pa l.length c) l) (k : Nat) (hk : k < l.length) : ∃ g, pa = some ⟨g, 0, none⟩ ∧ w.cell? ⟨g, k * 2, none⟩ = some (.int .i64 l[k].1) ∧ w.cell? ⟨g, k * 2 + 1, none⟩ = some (.string l[k].2) := by
  have h0 : w.ownsRow base 49 2 (.slice pa l.length c) l.length (recsL l) := h
  rcases h.2 with ⟨_, e⟩ | ⟨g, cap, cur, e, _⟩
  · omega
  · injection e with e1 e2 e3
    subst e1
    obtain ⟨q1, q2⟩ := recsL_get l k hk
    refine ⟨g, rfl, ?_, ?_⟩
    · rw [h0.cellAt (k * 2) (by omega), q1]
    · rw [h0.cellAt (k * 2 + 1) (by omega), q2]
set_option maxRecDepth 100000 in
theorem llen_any (base b : Nat) (g : Lg) (w : World) (h : IsLog w base b g) : Calls Try.prog 36 #[.pointer (some ⟨b, 0, none⟩)] w fun e w' => e = .returned (.int .i64 g.len) ∧ w' = w := by
  obtain ⟨h0, vr, vw, hb, _, _⟩ := h
  obtain ⟨⟨c0, c1, c2, c3, c4, c5, c6⟩, _⟩ := hb.g7
  clear hb c0 c1 c2 c4 c5 c6
  go_enter Try.func36, Try.ntmps36
  go_wp2
  go_ret
  exact ⟨rfl, rfl⟩
set_option maxRecDepth 100000 in
theorem lwaits_any (base b : Nat) (g : Lg) (w : World) (h : IsLog w base b g) : Calls Try.prog 37 #[.pointer (some ⟨b, 0, none⟩)] w fun e w' => e = .returned (.int .i64 g.wait.size) ∧ w' = w := by
  obtain ⟨h0, vr, vw, hb, _, hw⟩ := h
  obtain ⟨⟨c0, c1, c2, c3, c4, c5, c6⟩, _⟩ := hb.g7
  obtain ⟨pw, cw, rfl, _⟩ := row_form hw
  clear hb c0 c1 c2 c3 c5 c6 hw
  go_enter Try.func37, Try.ntmps37
  go_wp2
  go_ret
  exact ⟨rfl, rfl⟩
end Go.Proofs.Ytddnjlnnkeiplaa
