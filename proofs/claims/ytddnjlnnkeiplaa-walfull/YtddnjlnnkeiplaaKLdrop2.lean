/-
  Open: what a disk holds, whose power is on and whose changes do not fail. Drop, whatever waits.
-/
import Derived.Test.YtddnjlnnkeiplaaKXLput
import Derived.Test.YtddnjlnnkeiplaaKLopen
import Derived.Lib.SliceRun
namespace Go.Proofs.Ytddnjlnnkeiplaa.X
open Go.RowKit Go.Maps
variable {xt : Xt}
def OpenPost (xt : Xt) (base d : Nat) (w : World) (g' : Lg) (cut : Nat) (k' : Dk) (e : Ending) (w' : World) : Prop :=
  ∃ b, e = .returned (.tuple #[.pointer (some ⟨b, 0, none⟩), .int .i64 cut, .int .i64 0]) ∧ w.heap.size ≤ b ∧ IsLog w' base b g' ∧ IsDisk xt w' base d k' ∧ Low base w w'
set_option maxRecDepth 100000 in
set_option maxHeartbeats 4000000 in
theorem open_any (base d : Nat) (k : Dk) (g' : Lg) (w : World) (hd : IsDisk xt w base d k) (hdd : k.dead = false) (hS : Small k) (hS1 : Small (nextD k remC)) (hP : xt.pp = none ∧ xt.pn = 0 ∧ xt.pc = 0) (hZ : sizeF k.now ≤ 1000000000) (hZ1 : sizeF (nextD k remC).now ≤ 1000000000)
    (hld : ∀ W b, IsLog W base b (newL d) → Calls Try.prog 40 #[.pointer (some ⟨b, 0, none⟩), .string (readS (nextD k remC).now ⟨#[108, 111, 103]⟩)] W fun e w' => e = .returned (.tuple #[]) ∧ IsLog w' base b g' ∧ LT base b W w')
    (hn : g'.len ≤ (readS (nextD k remC).now ⟨#[108, 111, 103]⟩).size) (hz : (readS (nextD k remC).now ⟨#[108, 111, 103]⟩).size ≤ 1000000) (hf : Fits (doF (nextD k remC).now (cutC g'.len)) 1000000) :
    Calls Try.prog 10 #[.pointer (some ⟨d, 0, none⟩)] w (OpenPost xt base d w g' ((readS (nextD k remC).now ⟨#[108, 111, 103]⟩).size - g'.len) (openD k ((readS (nextD k remC).now ⟨#[108, 111, 103]⟩).size - g'.len) g'.len)) := by
  have hd1 := next_dead k remC hdd
  have C1 : Hid (Calls Try.prog 39 #[.pointer (some ⟨d, 0, none⟩), .string ⟨#[108, 111, 103, 46, 110, 101, 119]⟩] w fun e w' => e = .returned (.int .i64 (ansF k remC : Nat)) ∧ IsDisk xt w' base d (nextD k remC) ∧ Tend base d w w') := by
    have := remove_all base d k _ w hd hS fine_rem hP hZ
    rw [ans_old xt k _ (by decide), next_old xt k _ (by decide)] at this
    exact this
  have C2 : Hid (∀ W, IsDisk xt W base d (nextD k remC) → Calls Try.prog 32 #[.pointer (some ⟨d, 0, none⟩), .string ⟨#[108, 111, 103]⟩] W fun e w' => e = .returned (.tuple #[.string (readS (nextD k remC).now ⟨#[108, 111, 103]⟩), .int .i64 (readE (nextD k remC).now ⟨#[108, 111, 103]⟩)]) ∧ W.grownBy w' none) := fun W hW => read_any base d _ _ W hW hd1 log_name (by decide)
  have C4 : Hid (0 < (readS (nextD k remC).now ⟨#[108, 111, 103]⟩).size - g'.len → ∀ W, IsDisk xt W base d (nextD k remC) → Calls Try.prog 41 #[.pointer (some ⟨d, 0, none⟩), .string ⟨#[108, 111, 103]⟩, .int .i64 g'.len] W fun e w' => e = .returned (.int .i64 0) ∧ IsDisk xt w' base d (stepD (nextD k remC) (cutC g'.len)) ∧ Tend base d W w') := fun h0 W hW => by
    have ha := cut_ans (nextD k remC) g'.len hd1 (by omega) hn
    have := truncate_all base d (nextD k remC) ⟨#[108, 111, 103]⟩ g'.len W hW hS1 (fine_cut g'.len (by omega)) hP hZ1
    rw [ans_old xt _ _ (by show 1 < 4; decide), next_old xt _ _ (by show 1 < 4; decide)] at this
    have en : nextD (nextD k remC) (cutC g'.len) = stepD (nextD k remC) (cutC g'.len) := by rw [nextD, if_pos ha]
    change Calls Try.prog 41 _ W fun e w' => e = .returned (.int .i64 (ansF (nextD k remC) (cutC g'.len) : Nat)) ∧ IsDisk xt w' base d (nextD (nextD k remC) (cutC g'.len)) ∧ Tend base d W w' at this
    rw [ha, en] at this
    exact this
  have C5 : Hid (∀ W, IsDisk xt W base d (stepD (nextD k remC) (cutC g'.len)) → Calls Try.prog 31 #[.pointer (some ⟨d, 0, none⟩)] W fun e w' => e = .returned (.int .i64 0) ∧ IsDisk xt w' base d (syncD (stepD (nextD k remC) (cutC g'.len))) ∧ W.grownBy w' (some d)) := fun W hW => sync_any base d _ W hW hd1 hf
  have C6 : Hid (∀ W, IsDisk xt W base d (nextD k remC) → Calls Try.prog 31 #[.pointer (some ⟨d, 0, none⟩)] W fun e w' => e = .returned (.int .i64 0) ∧ IsDisk xt w' base d (syncD (nextD k remC)) ∧ W.grownBy w' (some d)) := fun W hW => sync_any base d _ W hW hd1 hS1.now
  have C3 := hid hld
  have hbd : base ≤ d := hd.1
  have hdw := hd.lt
  have BD := hid hd.blk
  have ra := rem_ans k hdd
  have rb := readE_two (nextD k remC).now ⟨#[108, 111, 103]⟩
  have eD : openD k ((readS (nextD k remC).now ⟨#[108, 111, 103]⟩).size - g'.len) g'.len = syncD (if 0 < (readS (nextD k remC).now ⟨#[108, 111, 103]⟩).size - g'.len then stepD (nextD k remC) (cutC g'.len) else nextD k remC) := rfl
  rw [eD]
  clear eD hd hdd hS hS1 hld hf hd1 hZ hZ1 hP
  generalize readE (nextD k remC).now ⟨#[108, 111, 103]⟩ = y at *
  generalize readS (nextD k remC).now ⟨#[108, 111, 103]⟩ = s at *
  generalize ansF k remC = x at *
  generalize stepD (nextD k remC) (cutC g'.len) = k2 at *
  generalize nextD k remC = k1 at *
  have s0 : (s.size : Int) ≤ 1000000 := by omega
  have n0 : (g'.len : Int) ≤ 1000000 := by omega
  obtain ⟨c, hc⟩ : ∃ c : Nat, c = s.size - g'.len := ⟨_, rfl⟩
  have HC : Hid ((s.size : Int) - (g'.len : Int) = (c : Int)) := (by show (s.size : Int) - (g'.len : Int) = (c : Int); omega)
  rw [← hc]
  rw [← hc] at C4
  have hbw : base ≤ w.heap.size := by omega
  rcases ra with rfl | rfl <;> rcases rb with rfl | rfl <;> by_cases hcut : 0 < c
  all_goals (
    first | rw [if_pos hcut] | rw [if_neg hcut]
    try have y1 : (0 : Int) < (s.size : Int) - (g'.len : Int) := by omega
    try have y1 : ¬ (0 : Int) < (s.size : Int) - (g'.len : Int) := by omega
    have HCUT := hid hcut
    clear hcut hc hn hz
    go_enter Try.func10, Try.ntmps10
    go_wp2_with (first
      | (go_at_call 39; refine C1.out.mono ?_; rintro e w1 ⟨rfl, h1, t1⟩; have D1 := hid h1; have T1 := hid (Low.of_tend (base := base) t1 BD.out); clear h1 t1 C1 BD)
      | (go_at_call 32; refine (C2.out _ D1.out).mono ?_; rintro e w2 ⟨rfl, g2⟩; have D2 := hid (D1.out.kept g2); have T2 := hid (Low.trans T1.out (Low.of_none g2)); have hw2 : w.heap.size ≤ w2.heap.size := T2.out.size; clear g2 C2)
      | (go_at_call 40; refine (C3.out _ w2.heap.size (newL_is (by omega))).mono ?_; rintro e w3 ⟨rfl, l3, t3⟩; have L3 := hid l3; have D3 := hid (IsDisk.keptL (D2.out.kept (grown_alloc (grown_refl _ _) _)) (Blk.new w2 77 _) t3); have T3 := hid (Low.trans T2.out (Low.trans (Low.of_none (grown_alloc (grown_refl _ _) _)) (Low.of_lt t3 ⟨_, Blk.new w2 77 _⟩))); obtain ⟨_, vr1, vw1, hb1, _, _⟩ := L3.out; have e3 := hb1.g7.1.2.2.2.1; clear hb1 l3 t3 C3)
      | (go_at_call 41; refine (C4.out HCUT.out _ D3.out).mono ?_; rintro e w4 ⟨rfl, d4, t4⟩; have D4 := hid d4; obtain ⟨cd, hcd⟩ := D3.out.blk; have L4 := hid (L3.out.keptD hcd t4); have T4 := hid (Low.trans T3.out (Low.of_tend (base := base) t4 ⟨_, hcd⟩)); clear hcd d4 t4 C4)
      | (go_at_call 31; refine (C5.out _ D4.out).mono ?_; rintro e w5 ⟨rfl, d5, g5⟩; have D5 := hid d5; obtain ⟨cd, hcd⟩ := D4.out.blk; have L5 := hid (L4.out.keptD hcd (Tend.of_self (base := base) g5 hbd)); have T5 := hid (Low.trans T4.out (Low.of_tend (Tend.of_self (base := base) g5 hbd) ⟨_, hcd⟩)); clear hcd d5 g5 C5)
      | (go_at_call 31; refine (C6.out _ D3.out).mono ?_; rintro e w5 ⟨rfl, d5, g5⟩; have D5 := hid d5; obtain ⟨cd, hcd⟩ := D3.out.blk; have L5 := hid (L3.out.keptD hcd (Tend.of_self (base := base) g5 hbd)); have T5 := hid (Low.trans T3.out (Low.of_tend (Tend.of_self (base := base) g5 hbd) ⟨_, hcd⟩)); clear hcd d5 g5 C6))
    go_ret3
    exact ⟨w2.heap.size, (by rw [HC.out]; rfl), hw2, L5.out, D5.out, T5.out⟩)
set_option maxRecDepth 100000 in
set_option maxHeartbeats 1000000 in
/-- A dead disk is not opened. -/
theorem open_dead (base d : Nat) (k : Dk) (w : World) (hd : IsDisk xt w base d k) (hdd : k.dead = true) (hS : Small k) (hP : xt.pp = none ∧ xt.pn = 0 ∧ xt.pc = 0) (hZ : sizeF k.now ≤ 1000000000) :
    Calls Try.prog 10 #[.pointer (some ⟨d, 0, none⟩)] w fun e w' => e = .returned (.tuple #[.pointer none, .int .i64 0, .int .i64 7]) ∧ Low base w w' := by
  have ea : ansF k remC = 7 := by unfold ansF; rw [hdd]; rfl
  have C1 : Hid (Calls Try.prog 39 #[.pointer (some ⟨d, 0, none⟩), .string ⟨#[108, 111, 103, 46, 110, 101, 119]⟩] w fun e w' => e = .returned (.int .i64 7) ∧ Tend base d w w') := (remove_all base d k _ w hd hS fine_rem hP hZ).mono (fun e w' h => by
    rw [ans_old xt k _ (by decide), next_old xt k _ (by decide)] at h
    have h' : e = .returned (.int .i64 (ansF k remC : Nat)) ∧ IsDisk xt w' base d (nextD k remC) ∧ Tend base d w w' := h
    rw [ea] at h'
    exact ⟨h'.1, h'.2.2⟩)
  have BD := hid hd.blk
  clear hd hdd hS ea hP hZ
  go_enter Try.func10, Try.ntmps10
  go_wp2_with (go_at_call 39; refine C1.out.mono ?_; rintro e w1 ⟨rfl, t1⟩; have T1 := hid (Low.of_tend (base := base) t1 BD.out); clear t1 C1 BD)
  go_ret3
  exact ⟨rfl, T1.out⟩
end Go.Proofs.Ytddnjlnnkeiplaa.X
namespace Go.Proofs.Ytddnjlnnkeiplaa
open Go.RowKit Go.Maps
def zeroL (n : Nat) : List Value := (Builtin.zeroCells (Value.agg #[.int .i64 0, .string ⟨#[]⟩]).cells n).toList
theorem zeroL_len (n : Nat) : (zeroL n).length = n * 2 := by simp [zeroL, Builtin.zeroCells, Value.cells]
theorem zeroL_one (n : Nat) : ∀ v ∈ zeroL n, v.oneCell' = true := by
  intro v hv
  simp [zeroL, Builtin.zeroCells, Value.cells] at hv
  obtain ⟨i, _, rfl⟩ := hv
  have : i % 2 = 0 ∨ i % 2 = 1 := by omega
  rcases this with h | h <;> simp [h] <;> rfl
theorem run_clear2 (w : World) (b o n c : Nat) (hn : 0 < n) (hc : ∀ j, j < n * 2 → (w.cell? ⟨b, o + j, none⟩).isSome = true) (hf : ∀ j, j < n * 2 → w.frozen? ⟨b, o + j, none⟩ = false) :
    (Builtin.clear_ #[74] 0 #[.slice (some ⟨b, o, none⟩) n c]).run Try.prog w = .ok (.tuple #[]) (w.setCells b o (zeroL n)) := by
  have hst := run_storeCells_cells (P := Try.prog) b o (zeroL n) 0 w (by rw [zeroL_len]; simpa using hc) (by rw [zeroL_len]; simpa using hf) (zeroL_one n)
  simp only [Nat.add_zero] at hst
  obtain ⟨m, rfl⟩ : ∃ m, n = m + 1 := ⟨n - 1, by omega⟩
  unfold zeroL at hst ⊢
  simp [Builtin.clear_, run_underlying Try.underlying74, hst]
theorem setCells_blk (q : Nat) (t : TypeId) : ∀ (vs : List Value) (o : Nat) (w : World) (cur : Array Value), Blk w q t cur → ∃ cur', Blk (w.setCells q o vs) q t cur' ∧ cur'.size = cur.size ∧ (∀ i, i < o → cur'[i]? = cur[i]?) ∧ w.grownBy (w.setCells q o vs) (some q)
  | [], o, w, cur, h => ⟨cur, h, rfl, fun _ _ => rfl, grown_refl _ _⟩
  | v :: vs, o, w, cur, h => by
    obtain ⟨cur', h1, h2, h3, h4⟩ := setCells_blk q t vs (o + 1) (w.setCell ⟨q, o, none⟩ v) _ (h.set o v)
    refine ⟨cur', h1, by rw [h2]; simp, fun i hi => ?_, World.grownBy.andThen (grown_set (grown_refl w (some q)) o v) h4 (fun j e => Or.inr e)⟩
    rw [h3 i (by omega)]
    rw [Array.getElem?_setIfInBounds]
    rw [if_neg (by omega)]
theorem far_ne' {w : World} {i b : Nat} {t T : TypeId} {cs cs' : Array Value} {fz : Nat × Nat} (hi : w.heap[i]? = some (.cells cs t fz)) (hb : Blk w b T cs') (ht : t ≠ T) : i ≠ b := fun e => by
  subst e
  have hb' : w.heap[i]? = some (.cells cs' T (0, 0)) := hb
  rw [hi] at hb'
  injection hb' with q
  injection q with q1 q2 q3
  exact ht q2
theorem step_clear2 {ops : Array Oper} {o : Oper} {a : Act} {w : World} {K : Act → World → Prop} {Q : Exit → Act → World → Prop} {E : Prop} (x : Operand) (b oo n c : Nat) (hg : o.guard = none) (ho : o.op = Op.call { callee := Callee.builtin Builtin.clear, args := #[x], argTypes := #[74] }) (ht : o.type = 0) (hx : a.eval x = .slice (some ⟨b, oo, none⟩) n c) (hn : 0 < n)
    (hc : ∀ j, j < n * 2 → (w.cell? ⟨b, oo + j, none⟩).isSome = true) (hf : ∀ j, j < n * 2 → w.frozen? ⟨b, oo + j, none⟩ = false)
    (hK : K (a.put o.dst (.tuple #[])) (w.setCells b oo (zeroL n))) : if Region.wanted o (yielded ops a.tmps) = true then Oper.wp Try.prog o a w K Q else E := by
  have hw : Region.wanted o (yielded ops a.tmps) = true := by simp [Region.wanted, hg]
  rw [if_pos hw]
  have hrun := run_clear2 w b oo n c hn hc hf
  unfold Oper.wp
  simp [execOp, ho, ht, resolve, invoke, builtin, hx, hrun, Result.andThen]
  exact hK
/-- A log behind a Drop. -/
def dropG (g : Lg) : Lg := { g with recs := g.recs.take g.com, wait := ⟨#[]⟩ }
theorem recsL_take (l : List (Nat × ByteArray)) (n : Nat) (h : n ≤ l.length) : (recsL l).take (n * 2) = recsL (l.take n) := by
  induction l generalizing n with
  | nil =>
    obtain rfl : n = 0 := by simpa using h
    rfl
  | cons p r ih =>
    cases n with
    | zero => rfl
    | succ n =>
      have e : recsL (p :: r) = .int .i64 p.1 :: .string p.2 :: recsL r := by
        unfold recsL
        rw [List.flatMap_cons]
        rfl
      have e2 : recsL ((p :: r).take (n + 1)) = .int .i64 p.1 :: .string p.2 :: recsL (r.take n) := by
        rw [List.take_succ_cons]
        unfold recsL
        rw [List.flatMap_cons]
        rfl
      rw [e, e2, show (n + 1) * 2 = n * 2 + 1 + 1 by omega, List.take_succ_cons, List.take_succ_cons, ih n (by simpa using h)]
set_option maxRecDepth 100000 in
set_option maxHeartbeats 2000000 in
theorem drop_some (base b : Nat) (g : Lg) (w : World) (h : IsLog w base b g) (hc : g.com < g.recs.length) (hl : g.recs.length ≤ 1000000) (hwl : g.wait.size ≤ 1000000000) :
    Calls Try.prog 12 #[.pointer (some ⟨b, 0, none⟩)] w fun e w' => e = .returned (.int .i64 g.wait.size) ∧ IsLog w' base b (dropG g) ∧ LT base b w w' := by
  obtain ⟨h0, vr, vw, hb, hr, hw⟩ := h
  have hr0 := hr
  rcases hr.2 with ⟨rfl, hz⟩ | ⟨q, cap, cur, rfl, hq, hh, hcap, hm, hsz, htk⟩
  · omega
  have hqb : q ≠ b := far_ne' hh hb (by decide)
  have hBq : Blk w q 84 cur := hh
  obtain ⟨cur', hB2, hz2, hk2, hg2⟩ := setCells_blk q 84 (zeroL (g.recs.length - g.com)) (g.com * 2) w.drew cur hBq.drew
  have HC : Hid (∀ j, j < (g.recs.length - g.com) * 2 → (w.drew.cell? ⟨q, g.com * 2 + j, none⟩).isSome = true) := fun j hj => by
    have e : w.drew.cell? ⟨q, g.com * 2 + j, none⟩ = cur[g.com * 2 + j]? := hBq.cell _
    rw [e, Array.getElem?_eq_getElem (by omega)]
    rfl
  have HF : Hid (∀ j, j < (g.recs.length - g.com) * 2 → w.drew.frozen? ⟨q, g.com * 2 + j, none⟩ = false) := fun j hj => hBq.frozen _
  have HN : Hid (0 < g.recs.length - g.com) := (by show 0 < _; omega)
  obtain ⟨pw, cw, rfl, _⟩ := row_form hw
  obtain ⟨⟨c0, c1, c2, c3, c4, c5, c6⟩, f1, f2, f3, f4, f5, f6⟩ := hb.g7
  have hll : (g.recs.length : Int) ≤ 1000000 := by omega
  have hwi : (g.wait.size : Int) ≤ 1000000000 := by omega
  have i1 : (g.recs.length : Int) ≤ cap := by omega
  have i2 : (cap : Int) ≤ 9223372036854775807 := by unfold maxLen at hm; omega
  have i0 : (0 : Int) ≤ g.com := by omega
  have i3 : (g.com : Int) < g.recs.length := by omega
  have i4 : (g.com : Int) ≤ g.recs.length := by omega
  have i5 : ¬ cap = g.com := by omega
  have i6 : ¬ g.com = cap := by omega
  have i7 : (g.com : Int) ≤ cap := by omega
  have B2 := hid (hb.drew.kept hg2 (fun e => hqb (Option.some.inj e).symm))
  have G2 : Hid (w.grownBy (w.drew.setCells q (g.com * 2) (zeroL (g.recs.length - g.com))) (some q)) := hid (World.grownBy.andThen (grown_drew (grown_refl w (some q))) hg2 (fun j e => Or.inr e))
  have FIN : Hid (∀ v : Value, v = .slice (some ⟨q, 0, none⟩) g.com cap → IsLog (((w.drew.setCells q (g.com * 2) (zeroL (g.recs.length - g.com))).drew.setCell ⟨b, 1, none⟩ v).setCell ⟨b, 4, none⟩ (.slice none 0 0)) base b (dropG g) ∧ LT base b w (((w.drew.setCells q (g.com * 2) (zeroL (g.recs.length - g.com))).drew.setCell ⟨b, 1, none⟩ v).setCell ⟨b, 4, none⟩ (.slice none 0 0))) := fun v hv => by
    subst hv
    have GF := grown_set (grown_set (grown_drew (grown_refl (w.drew.setCells q (g.com * 2) (zeroL (g.recs.length - g.com))) (some b))) 1 (.slice (some ⟨q, 0, none⟩) g.com cap)) 4 (.slice none 0 0)
    have e1 : (g.recs.take g.com).length = g.com := by rw [List.length_take]; omega
    have R2 : (w.drew.setCells q (g.com * 2) (zeroL (g.recs.length - g.com))).ownsRow base 84 2 (.slice (some ⟨q, 0, none⟩) g.com cap) (g.recs.take g.com).length (recsL (g.recs.take g.com)) := by
      rw [e1]
      refine ⟨by rw [recsL_len, e1], Or.inr ⟨q, cap, cur', rfl, hq, hB2, by omega, hm, by rw [hz2]; exact hsz, ?_⟩⟩
      rw [← recsL_take _ _ (by omega), ← htk, List.take_take, Nat.min_eq_left (by omega)]
      apply List.ext_getElem?
      intro i
      by_cases hi : i < g.com * 2
      · rw [List.getElem?_take_of_lt hi, List.getElem?_take_of_lt hi, Array.getElem?_toList, Array.getElem?_toList, hk2 i hi]
      · rw [List.getElem?_eq_none (by rw [List.length_take]; omega), List.getElem?_eq_none (by rw [List.length_take]; omega)]
    refine ⟨⟨h0, .slice (some ⟨q, 0, none⟩) g.com cap, .slice none 0 0, (B2.out.drew.set 1 _).set 4 _, rowG_kept R2 B2.out (by decide) GF, ⟨rfl, Or.inl ⟨rfl, rfl⟩⟩⟩, LT.trans (LT.of_grown G2.out (fun i hi hs e => ?_)) (LT.of_self GF h0)⟩
    have e' := Option.some.inj e
    subst e'
    rcases hs with hs | ⟨_, hs⟩
    · omega
    · exact (hs _ _ _ hh).1 rfl
  clear hwl hl hcap hm hb hr hr0 hw hh hBq hB2 hz2 hk2 hg2 hsz htk
  obtain ⟨W2, hW2⟩ : ∃ W2, W2 = w.drew.setCells q (g.com * 2) (zeroL (g.recs.length - g.com)) := ⟨_, rfl⟩
  rw [← hW2] at B2 FIN
  obtain ⟨⟨e0, e1, e2, e3, e4, e5, e6⟩, k1, k2, k3, k4, k5, k6⟩ := B2.out.g7
  have HW2 := hid hW2
  clear hW2 G2
  generalize g.recs.length = L at *
  go_enter Try.func12, Try.ntmps12
  go_wp2_with fail
  go_region_law (refine step_clear2 (.tmp 19) q (g.com * 2) (L - g.com) _ rfl rfl rfl rfl HN.out HC.out HF.out ?_; rw [← HW2.out])
  all_goals (
    go_wp2_with fail
    go_region_law (fail)
    all_goals (
      go_wp2
      go_ret
      exact ⟨rfl, FIN.out _ rfl⟩))
theorem drop_any (base b : Nat) (g : Lg) (w : World) (h : IsLog w base b g) (hc : g.com ≤ g.recs.length) (hl : g.recs.length ≤ 1000000) (hwl : g.wait.size ≤ 1000000) :
    Calls Try.prog 12 #[.pointer (some ⟨b, 0, none⟩)] w fun e w' => e = .returned (.int .i64 g.wait.size) ∧ IsLog w' base b (dropG g) ∧ LT base b w w' := by
  by_cases e : g.com = g.recs.length
  · refine (drop_full base b g w h e hl hwl).mono ?_
    rintro r w' ⟨hr, hi, hg⟩
    have ed : dropG g = { g with wait := ⟨#[]⟩ } := by
      unfold dropG
      rw [e, List.take_length]
    rw [ed, e]
    refine ⟨hr, ?_, LT.of_self hg h.1⟩
    rw [← e]
    exact hi
  · exact drop_some base b g w h (by omega) hl (by omega)
end Go.Proofs.Ytddnjlnnkeiplaa
