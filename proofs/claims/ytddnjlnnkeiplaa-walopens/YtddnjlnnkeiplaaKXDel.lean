/-
  Drop, whatever waits. slices.Delete of a plan's only fall.
-/
import Derived.Test.YtddnjlnnkeiplaaKLdrop
import Derived.Test.YtddnjlnnkeiplaaKLapp
import Derived.Lib.SliceRun
namespace Go.Proofs.Ytddnjlnnkeiplaa
open Go.RowKit Go.Maps
def zeroL (n : Nat) : List Value := (Builtin.zeroCells (Value.agg #[.int .i64 0, .string ⟨#[]⟩]).cells n).toList
theorem zeroL_len (n : Nat) : (zeroL n).length = n * 2 := by simp [zeroL, Builtin.zeroCells, Value.cells]
theorem zeroL_one (n : Nat) : ∀ v ∈ zeroL n, v.oneCell' = true := by
  intro v hv
  simp [zeroL, Builtin.zeroCells, Value.cells] at hv
  obtain ⟨i, _, rfl⟩ := hv
  have : i % 2 = 0 ∨ i % 2 = 1 := by omega
  rcases this with h | h <;> simp [h] <;> rfl
theorem run_clear2 (w : World) (b o n c : Nat) (hn : 0 < n) (hc : ∀ j, j < n * 2 → (w.cell? ⟨b, o + j, none⟩).isSome = true) (hf : ∀ j, j < n * 2 → w.frozen? ⟨b, o + j, none⟩ = false) :
    (Builtin.clear_ #[74] 0 #[.slice (some ⟨b, o, none⟩) n c]).run Try.prog w = .ok (.tuple #[]) (w.setCells b o (zeroL n)) := by
  have hst := run_storeCells_cells (P := Try.prog) b o (zeroL n) 0 w (by rw [zeroL_len]; simpa using hc) (by rw [zeroL_len]; simpa using hf) (zeroL_one n)
  simp only [Nat.add_zero] at hst
  obtain ⟨m, rfl⟩ : ∃ m, n = m + 1 := ⟨n - 1, by omega⟩
  unfold zeroL at hst ⊢
  simp [Builtin.clear_, run_underlying Try.underlying74, hst]
theorem setCells_blk (q : Nat) (t : TypeId) : ∀ (vs : List Value) (o : Nat) (w : World) (cur : Array Value), Blk w q t cur → ∃ cur', Blk (w.setCells q o vs) q t cur' ∧ cur'.size = cur.size ∧ (∀ i, i < o → cur'[i]? = cur[i]?) ∧ w.grownBy (w.setCells q o vs) (some q)
  | [], o, w, cur, h => ⟨cur, h, rfl, fun _ _ => rfl, grown_refl _ _⟩
  | v :: vs, o, w, cur, h => by
    obtain ⟨cur', h1, h2, h3, h4⟩ := setCells_blk q t vs (o + 1) (w.setCell ⟨q, o, none⟩ v) _ (h.set o v)
    refine ⟨cur', h1, by rw [h2]; simp, fun i hi => ?_, World.grownBy.andThen (grown_set (grown_refl w (some q)) o v) h4 (fun j e => Or.inr e)⟩
    rw [h3 i (by omega)]
    rw [Array.getElem?_setIfInBounds]
    rw [if_neg (by omega)]
theorem far_ne' {w : World} {i b : Nat} {t T : TypeId} {cs cs' : Array Value} {fz : Nat × Nat} (hi : w.heap[i]? = some (.cells cs t fz)) (hb : Blk w b T cs') (ht : t ≠ T) : i ≠ b := fun e => by
  subst e
  have hb' : w.heap[i]? = some (.cells cs' T (0, 0)) := hb
  rw [hi] at hb'
  injection hb' with q
  injection q with q1 q2 q3
  exact ht q2
theorem step_clear2 {ops : Array Oper} {o : Oper} {a : Act} {w : World} {K : Act → World → Prop} {Q : Exit → Act → World → Prop} {E : Prop} (x : Operand) (b oo n c : Nat) (hg : o.guard = none) (ho : o.op = Op.call { callee := Callee.builtin Builtin.clear, args := #[x], argTypes := #[74] }) (ht : o.type = 0) (hx : a.eval x = .slice (some ⟨b, oo, none⟩) n c) (hn : 0 < n)
    (hc : ∀ j, j < n * 2 → (w.cell? ⟨b, oo + j, none⟩).isSome = true) (hf : ∀ j, j < n * 2 → w.frozen? ⟨b, oo + j, none⟩ = false)
    (hK : K (a.put o.dst (.tuple #[])) (w.setCells b oo (zeroL n))) : if Region.wanted o (yielded ops a.tmps) = true then Oper.wp Try.prog o a w K Q else E := by
  have hw : Region.wanted o (yielded ops a.tmps) = true := by simp [Region.wanted, hg]
  rw [if_pos hw]
  have hrun := run_clear2 w b oo n c hn hc hf
  unfold Oper.wp
  simp [execOp, ho, ht, resolve, invoke, builtin, hx, hrun, Result.andThen]
  exact hK
/-- A log behind a Drop. -/
def dropG (g : Lg) : Lg := { g with recs := g.recs.take g.com, wait := ⟨#[]⟩ }
theorem recsL_take (l : List (Nat × ByteArray)) (n : Nat) (h : n ≤ l.length) : (recsL l).take (n * 2) = recsL (l.take n) := by
  induction l generalizing n with
  | nil =>
    obtain rfl : n = 0 := by simpa using h
    rfl
  | cons p r ih =>
    cases n with
    | zero => rfl
    | succ n =>
      have e : recsL (p :: r) = .int .i64 p.1 :: .string p.2 :: recsL r := by
        unfold recsL
        rw [List.flatMap_cons]
        rfl
      have e2 : recsL ((p :: r).take (n + 1)) = .int .i64 p.1 :: .string p.2 :: recsL (r.take n) := by
        rw [List.take_succ_cons]
        unfold recsL
        rw [List.flatMap_cons]
        rfl
      rw [e, e2, show (n + 1) * 2 = n * 2 + 1 + 1 by omega, List.take_succ_cons, List.take_succ_cons, ih n (by simpa using h)]
set_option maxRecDepth 100000 in
set_option maxHeartbeats 2000000 in
theorem drop_some (base b : Nat) (g : Lg) (w : World) (h : IsLog w base b g) (hc : g.com < g.recs.length) (hl : g.recs.length ≤ 1000000) (hwl : g.wait.size ≤ 1000000000) :
    Calls Try.prog 12 #[.pointer (some ⟨b, 0, none⟩)] w fun e w' => e = .returned (.int .i64 g.wait.size) ∧ IsLog w' base b (dropG g) ∧ LT base b w w' := by
  obtain ⟨h0, vr, vw, hb, hr, hw⟩ := h
  have hr0 := hr
  rcases hr.2 with ⟨rfl, hz⟩ | ⟨q, cap, cur, rfl, hq, hh, hcap, hm, hsz, htk⟩
  · omega
  have hqb : q ≠ b := far_ne' hh hb (by decide)
  have hBq : Blk w q 84 cur := hh
  obtain ⟨cur', hB2, hz2, hk2, hg2⟩ := setCells_blk q 84 (zeroL (g.recs.length - g.com)) (g.com * 2) w.drew cur hBq.drew
  have HC : Hid (∀ j, j < (g.recs.length - g.com) * 2 → (w.drew.cell? ⟨q, g.com * 2 + j, none⟩).isSome = true) := fun j hj => by
    have e : w.drew.cell? ⟨q, g.com * 2 + j, none⟩ = cur[g.com * 2 + j]? := hBq.cell _
    rw [e, Array.getElem?_eq_getElem (by omega)]
    rfl
  have HF : Hid (∀ j, j < (g.recs.length - g.com) * 2 → w.drew.frozen? ⟨q, g.com * 2 + j, none⟩ = false) := fun j hj => hBq.frozen _
  have HN : Hid (0 < g.recs.length - g.com) := (by show 0 < _; omega)
  obtain ⟨pw, cw, rfl, _⟩ := row_form hw
  obtain ⟨⟨c0, c1, c2, c3, c4, c5, c6⟩, f1, f2, f3, f4, f5, f6⟩ := hb.g7
  have hll : (g.recs.length : Int) ≤ 1000000 := by omega
  have hwi : (g.wait.size : Int) ≤ 1000000000 := by omega
  have i1 : (g.recs.length : Int) ≤ cap := by omega
  have i2 : (cap : Int) ≤ 9223372036854775807 := by unfold maxLen at hm; omega
  have i0 : (0 : Int) ≤ g.com := by omega
  have i3 : (g.com : Int) < g.recs.length := by omega
  have i4 : (g.com : Int) ≤ g.recs.length := by omega
  have i5 : ¬ cap = g.com := by omega
  have i6 : ¬ g.com = cap := by omega
  have i7 : (g.com : Int) ≤ cap := by omega
  have B2 := hid (hb.drew.kept hg2 (fun e => hqb (Option.some.inj e).symm))
  have G2 : Hid (w.grownBy (w.drew.setCells q (g.com * 2) (zeroL (g.recs.length - g.com))) (some q)) := hid (World.grownBy.andThen (grown_drew (grown_refl w (some q))) hg2 (fun j e => Or.inr e))
  have FIN : Hid (∀ v : Value, v = .slice (some ⟨q, 0, none⟩) g.com cap → IsLog (((w.drew.setCells q (g.com * 2) (zeroL (g.recs.length - g.com))).drew.setCell ⟨b, 1, none⟩ v).setCell ⟨b, 4, none⟩ (.slice none 0 0)) base b (dropG g) ∧ LT base b w (((w.drew.setCells q (g.com * 2) (zeroL (g.recs.length - g.com))).drew.setCell ⟨b, 1, none⟩ v).setCell ⟨b, 4, none⟩ (.slice none 0 0))) := fun v hv => by
    subst hv
    have GF := grown_set (grown_set (grown_drew (grown_refl (w.drew.setCells q (g.com * 2) (zeroL (g.recs.length - g.com))) (some b))) 1 (.slice (some ⟨q, 0, none⟩) g.com cap)) 4 (.slice none 0 0)
    have e1 : (g.recs.take g.com).length = g.com := by rw [List.length_take]; omega
    have R2 : (w.drew.setCells q (g.com * 2) (zeroL (g.recs.length - g.com))).ownsRow base 84 2 (.slice (some ⟨q, 0, none⟩) g.com cap) (g.recs.take g.com).length (recsL (g.recs.take g.com)) := by
      rw [e1]
      refine ⟨by rw [recsL_len, e1], Or.inr ⟨q, cap, cur', rfl, hq, hB2, by omega, hm, by rw [hz2]; exact hsz, ?_⟩⟩
      rw [← recsL_take _ _ (by omega), ← htk, List.take_take, Nat.min_eq_left (by omega)]
      apply List.ext_getElem?
      intro i
      by_cases hi : i < g.com * 2
      · rw [List.getElem?_take_of_lt hi, List.getElem?_take_of_lt hi, Array.getElem?_toList, Array.getElem?_toList, hk2 i hi]
      · rw [List.getElem?_eq_none (by rw [List.length_take]; omega), List.getElem?_eq_none (by rw [List.length_take]; omega)]
    refine ⟨⟨h0, .slice (some ⟨q, 0, none⟩) g.com cap, .slice none 0 0, (B2.out.drew.set 1 _).set 4 _, rowG_kept R2 B2.out (by decide) GF, ⟨rfl, Or.inl ⟨rfl, rfl⟩⟩⟩, LT.trans (LT.of_grown G2.out (fun i hi hs e => ?_)) (LT.of_self GF h0)⟩
    have e' := Option.some.inj e
    subst e'
    rcases hs with hs | ⟨_, hs⟩
    · omega
    · exact (hs _ _ _ hh).1 rfl
  clear hwl hl hcap hm hb hr hr0 hw hh hBq hB2 hz2 hk2 hg2 hsz htk
  obtain ⟨W2, hW2⟩ : ∃ W2, W2 = w.drew.setCells q (g.com * 2) (zeroL (g.recs.length - g.com)) := ⟨_, rfl⟩
  rw [← hW2] at B2 FIN
  obtain ⟨⟨e0, e1, e2, e3, e4, e5, e6⟩, k1, k2, k3, k4, k5, k6⟩ := B2.out.g7
  have HW2 := hid hW2
  clear hW2 G2
  generalize g.recs.length = L at *
  go_enter Try.func12, Try.ntmps12
  go_wp2_with fail
  go_region_law (refine step_clear2 (.tmp 19) q (g.com * 2) (L - g.com) _ rfl rfl rfl rfl HN.out HC.out HF.out ?_; rw [← HW2.out])
  all_goals (
    go_wp2_with fail
    go_region_law (fail)
    all_goals (
      go_wp2
      go_ret
      exact ⟨rfl, FIN.out _ rfl⟩))
theorem drop_any (base b : Nat) (g : Lg) (w : World) (h : IsLog w base b g) (hc : g.com ≤ g.recs.length) (hl : g.recs.length ≤ 1000000) (hwl : g.wait.size ≤ 1000000) :
    Calls Try.prog 12 #[.pointer (some ⟨b, 0, none⟩)] w fun e w' => e = .returned (.int .i64 g.wait.size) ∧ IsLog w' base b (dropG g) ∧ LT base b w w' := by
  by_cases e : g.com = g.recs.length
  · refine (drop_full base b g w h e hl hwl).mono ?_
    rintro r w' ⟨hr, hi, hg⟩
    have ed : dropG g = { g with wait := ⟨#[]⟩ } := by
      unfold dropG
      rw [e, List.take_length]
    rw [ed, e]
    refine ⟨hr, ?_, LT.of_self hg h.1⟩
    rw [← e]
    exact hi
  · exact drop_some base b g w h (by omega) hl (by omega)
end Go.Proofs.Ytddnjlnnkeiplaa
namespace Go.Proofs.Ytddnjlnnkeiplaa.X
open Go.RowKit Go.Maps
theorem run_app0 (a x : Addr) (c c' : Nat) (w : World) : (Builtin.append_ #[55, 55] 55 #[.slice (some a) 0 c, .slice (some x) 0 c']).run Try.prog w = .ok (.slice (some a) 0 c) w := by kernel_rfl
theorem step_app0 {ops : Array Oper} {o : Oper} {a : Act} {w : World} {K : Act → World → Prop} {Q : Exit → Act → World → Prop} {E : Prop} (s x : Operand) (p q : Addr) (c c' : Nat) (hg : o.guard = none) (ho : o.op = Op.call { callee := Callee.builtin Builtin.append, args := #[s, x], argTypes := #[55, 55] }) (ht : o.type = 55) (hs : a.eval s = .slice (some p) 0 c) (hx : a.eval x = .slice (some q) 0 c')
    (hK : K (a.put o.dst (.slice (some p) 0 c)) w) : if Region.wanted o (yielded ops a.tmps) = true then Oper.wp Try.prog o a w K Q else E := by
  have hw : Region.wanted o (yielded ops a.tmps) = true := by simp [Region.wanted, hg]
  rw [if_pos hw]
  have hrun := run_app0 p q c c' w
  unfold Oper.wp
  simp [execOp, ho, ht, resolve, invoke, builtin, hs, hx, hrun, Result.andThen]
  exact hK
def zero3 : List Value := (Builtin.zeroCells (Value.agg #[.int .i64 0, .int .i64 0, .int .i64 0]).cells 1).toList
theorem zero3_len : zero3.length = 3 := by simp [zero3, Builtin.zeroCells, Value.cells]
theorem run_clear3 (w : World) (b c : Nat) (hc : ∀ j, j < 3 → (w.cell? ⟨b, j, none⟩).isSome = true) (hf : ∀ j, j < 3 → w.frozen? ⟨b, j, none⟩ = false) :
    (Builtin.clear_ #[55] 0 #[.slice (some ⟨b, 0, none⟩) 1 c]).run Try.prog w = .ok (.tuple #[]) (w.setCells b 0 zero3) := by
  have hst := run_storeCells_cells (P := Try.prog) b 0 zero3 0 w (by rw [zero3_len]; simpa using hc) (by rw [zero3_len]; simpa using hf) (by
    intro v hv
    simp [zero3, Builtin.zeroCells, Value.cells] at hv
    obtain ⟨i, hi, rfl⟩ := hv
    have : i = 0 ∨ i = 1 ∨ i = 2 := by omega
    rcases this with rfl | rfl | rfl <;> rfl)
  simp only [Nat.add_zero] at hst
  unfold zero3 at hst ⊢
  simp [Builtin.clear_, run_underlying Try.underlying55, hst]
theorem step_clear3 {ops : Array Oper} {o : Oper} {a : Act} {w : World} {K : Act → World → Prop} {Q : Exit → Act → World → Prop} {E : Prop} (x : Operand) (b c : Nat) (hg : o.guard = none) (ho : o.op = Op.call { callee := Callee.builtin Builtin.clear, args := #[x], argTypes := #[55] }) (ht : o.type = 0) (hx : a.eval x = .slice (some ⟨b, 0, none⟩) 1 c)
    (hc : ∀ j, j < 3 → (w.cell? ⟨b, j, none⟩).isSome = true) (hf : ∀ j, j < 3 → w.frozen? ⟨b, j, none⟩ = false)
    (hK : K (a.put o.dst (.tuple #[])) (w.setCells b 0 zero3)) : if Region.wanted o (yielded ops a.tmps) = true then Oper.wp Try.prog o a w K Q else E := by
  have hw : Region.wanted o (yielded ops a.tmps) = true := by simp [Region.wanted, hg]
  rw [if_pos hw]
  have hrun := run_clear3 w b c hc hf
  unfold Oper.wp
  simp [execOp, ho, ht, resolve, invoke, builtin, hx, hrun, Result.andThen]
  exact hK
set_option maxRecDepth 100000 in
set_option maxHeartbeats 4000000 in
theorem delete_one (g cc : Nat) (cs : Array Value) (w : World) (hg : Blk w g 35 cs) (hs : cs.size = cc * 3) (hc : 0 < cc) (hm : cc ≤ 9223372036854775807) :
    Calls Try.prog 74 #[.slice (some ⟨g, 0, none⟩) 1 cc, .int .i64 0, .int .i64 1] w fun e w' => e = .returned (.slice (some ⟨g, 0, none⟩) 0 cc) ∧ (∃ cs', Blk w' g 35 cs' ∧ cs'.size = cc * 3) ∧ w.grownBy w' (some g) := by
  have hlt : ∀ j, j < 3 → j < cs.size := fun j hj => by omega
  have C3 : ∀ j, j < 3 → (w.drew.cell? ⟨g, j, none⟩).isSome = true := fun j hj => by
    have h := hg.cell j
    have e : w.drew.cell? ⟨g, j, none⟩ = w.cell? ⟨g, j, none⟩ := rfl
    rw [e, h, Array.getElem?_eq_getElem (hlt j hj)]
    rfl
  have F3 : ∀ j, j < 3 → w.drew.frozen? ⟨g, j, none⟩ = false := fun j hj => hg.drew.frozen j
  have hcl := run_clear3 w.drew g cc C3 F3
  obtain ⟨cs', hb1, hb2, _, hb4⟩ := setCells_blk g 35 zero3 0 w.drew cs hg.drew
  have R1 := hid hb1
  have R2 := hid (And.intro (hb2.trans hs) trivial)
  have R3 : Hid (w.grownBy (w.drew.setCells g 0 zero3) (some g)) := hid (grown_of_drew hb4)
  generalize w.drew.setCells g 0 zero3 = w9 at *
  clear hb1 hb2 hb4 C3 F3 hlt hs
  have HG := hid hg
  clear hg
  by_cases h1 : cc = 1
  · subst h1
    clear hc hm
    go_enter Try.func74, Try.ntmps74
    go_wp2_with fail
    go_region_law (refine step_app0 (.tmp 22) (.tmp 25) _ _ _ _ rfl rfl rfl rfl rfl ?_)
    all_goals (
      go_wp2_with fail
      go_ret
      exact ⟨rfl, ⟨cs', R1.out, R2.out.1⟩, R3.out⟩)
  · have i1 : (1 : Int) ≤ (cc : Int) := by omega
    have i2 : (cc : Int) ≤ 9223372036854775807 := by omega
    have n1 : 1 ≤ cc := hc
    have h2 : ¬ (cc : Int) = 1 := by omega
    have h3 : cc - 1 ≠ 0 := by omega
    clear hc hm
    go_enter Try.func74, Try.ntmps74
    go_wp2_with fail
    go_region_law (refine step_app0 (.tmp 22) (.tmp 25) _ _ _ _ rfl rfl rfl rfl rfl ?_)
    all_goals (
      go_wp2_with fail
      go_ret
      exact ⟨rfl, ⟨cs', R1.out, R2.out.1⟩, R3.out⟩)
end Go.Proofs.Ytddnjlnnkeiplaa.X
