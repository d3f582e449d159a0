/-
  Drop where every record is committed. load: frames are taken one behind the other, up to the first one that is not right. Open: what a disk holds, whose power is on and whose changes do not fail.
-/
import Derived.Test.YtbhmmcelndmijaaGreatKLg
import Derived.Deep.RegionLaw
import Derived.Test.YtbhmmcelndmijaaGreatKLtake
import Derived.Test.YtbhmmcelndmijaaGreatKLcom
namespace Go.Proofs.YtbhmmcelndmijaaGreat
open Go.RowKit Go.Maps
theorem run_clear0 (pa : Option Addr) (c : Nat) (w : World) : (Builtin.clear_ #[84] 0 #[.slice pa 0 c]).run Tryz.prog w = .ok (.tuple #[]) w := by
  cases pa <;> kernel_rfl
theorem step_clear0 {ops : Array Oper} {o : Oper} {a : Act} {w : World} {K : Act → World → Prop} {Q : Exit → Act → World → Prop} {E : Prop} (x : Operand) (pa : Option Addr) (c : Nat) (hg : o.guard = none) (ho : o.op = Op.call { callee := Callee.builtin Builtin.clear, args := #[x], argTypes := #[84] }) (ht : o.type = 0) (hx : a.eval x = .slice pa 0 c)
    (hK : K (a.put o.dst (.tuple #[])) w) : if Region.wanted o (yielded ops a.tmps) = true then Oper.wp Tryz.prog o a w K Q else E := by
  have hw : Region.wanted o (yielded ops a.tmps) = true := by simp [Region.wanted, hg]
  rw [if_pos hw]
  have hrun := run_clear0 pa c w
  unfold Oper.wp
  simp [execOp, ho, ht, resolve, invoke, builtin, hx, hrun, Result.andThen]
  exact hK
set_option maxRecDepth 100000 in
set_option maxHeartbeats 2000000 in
theorem drop_full (base b : Nat) (g : Lg) (w : World) (h : IsLog w base b g) (hc : g.com = g.recs.length) (hl : g.recs.length ≤ 1000000) (hwl : g.wait.size ≤ 1000000) :
    Calls Tryz.prog 62 #[.pointer (some ⟨b, 0, none⟩)] w fun e w' => e = .returned (.int .i64 g.wait.size) ∧ IsLog w' base b { g with wait := ⟨#[]⟩ } ∧ w.grownBy w' (some b) := by
  obtain ⟨h0, vr, vw, hb, hr, hw⟩ := h
  have FINAL : Hid (IsLog ((w.setCell ⟨b, 1, none⟩ vr).setCell ⟨b, 4, none⟩ (.slice none 0 0)) base b { g with wait := ⟨#[]⟩ } ∧ w.grownBy ((w.setCell ⟨b, 1, none⟩ vr).setCell ⟨b, 4, none⟩ (.slice none 0 0)) (some b)) := by
    have GF := grown_set (grown_set (grown_refl w (some b)) 1 vr) 4 (.slice none 0 0)
    refine ⟨⟨h0, vr, .slice none 0 0, ?_, rowG_kept hr hb (by decide) GF, ⟨rfl, Or.inl ⟨rfl, rfl⟩⟩⟩, GF⟩
    exact (hb.set 1 vr).set 4 (.slice none 0 0)
  rw [hc] at hb
  obtain ⟨pw, cw, rfl, _⟩ := row_form hw
  obtain ⟨⟨c0, c1, c2, c3, c4, c5, c6⟩, f1, f2, f3, f4, f5, f6⟩ := hb.g7
  have hll : (g.recs.length : Int) ≤ 1000000 := by omega
  have hwi : (g.wait.size : Int) ≤ 1000000 := by omega
  rcases hr.2 with ⟨rfl, hz⟩ | ⟨q, cap, cur, rfl, hq, hh, hcap, hm, hrest⟩
  · clear hb hr hw
    rw [hz] at c2
    clear hll hc hl hwl
    go_enter Tryz.func62, Tryz.ntmps62
    go_wp2_with fail
    go_region_law (refine step_clear0 (.tmp 19) _ _ rfl rfl rfl rfl ?_)
    all_goals (
      go_wp2_with fail
      go_region_law (fail)
      all_goals (
        go_wp2
        go_ret
        exact ⟨rfl, FINAL.out.1.drew.drew, grown_drew (grown_drew FINAL.out.2)⟩))
  · clear hb hr hw hrest hh hl hwl
    have i1 : (g.recs.length : Int) ≤ cap := by omega
    have i2 : (cap : Int) ≤ 9223372036854775807 := by unfold maxLen at hm; omega
    have i0 : (0 : Int) ≤ g.recs.length := by omega
    clear hc hm hq
    by_cases hx : g.recs.length = cap
    · subst hx
      generalize g.recs.length = L at *
      clear hcap
      go_enter Tryz.func62, Tryz.ntmps62
      go_wp2_with fail
      go_region_law (refine step_clear0 (.tmp 19) _ _ rfl rfl rfl rfl ?_)
      all_goals (
        go_wp2_with fail
        go_region_law (fail)
        all_goals (
          go_wp2
          go_ret
          exact ⟨rfl, FINAL.out.1.drew.drew, grown_drew (grown_drew FINAL.out.2)⟩))
    · have i3 : (g.recs.length : Int) < cap := by omega
      have i4 : ¬ cap = g.recs.length := by omega
      have i5 : ¬ g.recs.length = cap := by omega
      generalize g.recs.length = L at *
      go_enter Tryz.func62, Tryz.ntmps62
      go_wp2_with fail
      go_region_law (refine step_clear0 (.tmp 19) _ _ rfl rfl rfl rfl ?_)
      all_goals (
        go_wp2_with fail
        go_region_law (fail)
        all_goals (
          go_wp2
          go_ret
          exact ⟨rfl, FINAL.out.1.drew.drew, grown_drew (grown_drew FINAL.out.2)⟩))
end Go.Proofs.YtbhmmcelndmijaaGreat
namespace Go.Proofs.YtbhmmcelndmijaaGreat
open Go.RowKit Go.Maps
def left (z : Nat) : Value → Value → Nat
  | at_, .bool true => z + 1 - (intOf at_).toNat
  | _, _ => 0
set_option maxRecDepth 100000 in
set_option maxHeartbeats 1000000 in
theorem load_seq (base b : Nat) (s : ByteArray) (n : Nat) (A : Nat → Nat) (R : Nat → Bool) (G : Nat → Lg) (g' : Lg) (w : World) (h : IsLog w base b (G 0)) (hA : A 0 = 0) (hR : ∀ k, k < n → R k = true) (hR0 : R 0 = true) (hRn : R n = false) (hz : ∀ k, A k ≤ s.size)
    (hinc : ∀ k, k < n → R (k + 1) = true → A k < A (k + 1))
    (step : ∀ k, k < n → ∀ W, IsLog W base b (G k) → Calls Tryz.prog 61 #[.pointer (some ⟨b, 0, none⟩), .string s, .int .i64 (A k)] W fun e w' => e = .returned (.tuple #[.int .i64 (A (k + 1)), .bool (R (k + 1))]) ∧ IsLog w' base b (G (k + 1)) ∧ LT base b W w')
    (hD : ∀ W, IsLog W base b (G n) → Calls Tryz.prog 62 #[.pointer (some ⟨b, 0, none⟩)] W fun e w' => (∃ m : Nat, e = .returned (.int .i64 m)) ∧ IsLog w' base b g' ∧ LT base b W w') :
    Calls Tryz.prog 37 #[.pointer (some ⟨b, 0, none⟩), .string s] w fun e w' => e = .returned (.tuple #[]) ∧ IsLog w' base b g' ∧ LT base b w w' := by
  have HS := hid step
  have HD := hid hD
  have HI := hid hinc
  have HZ := hid hz
  have HR := hid hR
  have HL := hid h
  have HN : Hid (R n = false) := hRn
  have HA : Hid (A 0 = 0) := hA
  have H0 : Hid (R 0 = true) := hR0
  clear step hD hinc hz hR h hRn hA hR0
  go_enter Tryz.func37, Tryz.ntmps37
  go_wp2
  go_loopw [4, 5] (fun a r wr => ∃ k : Nat, k ≤ n ∧ a = .int .i64 (A k) ∧ r = .bool (R k) ∧ IsLog wr base b (G k) ∧ LT base b w wr) (fun a r _ => left s.size a r)
  case atStart => exact ⟨0, Nat.zero_le _, by rw [HA.out]; rfl, by rw [H0.out], HL.out, LT.refl _ _ _⟩
  case round =>
    obtain ⟨k, hk, rfl, rfl, hlog, hlt⟩ := hrel
    by_cases hkn : k < n
    · have r1 := HR.out k hkn
      have CE := hid (HS.out k hkn _ hlog)
      have z1 := HZ.out k
      have z2 := HZ.out (k + 1)
      have I1 := hid (HI.out k hkn)
      have LT1 := hid hlt
      clear HS HD HI HZ HR hlog hlt HL HN HA H0
      rw [r1]
      generalize A k = x at *
      generalize hy : A (k + 1) = y at *
      generalize hr2 : R (k + 1) = r2 at *
      go_wp2_with (go_at_call 61; refine CE.out.mono ?_; rintro e w2 ⟨rfl, hl2, ht2⟩; have L2 := hid hl2; have T2 := hid (LT.trans LT1.out ht2); clear hl2 ht2 CE)
      go_roundw
      case rel => exact ⟨k + 1, by omega, by rw [hy], by rw [hr2], L2.out, T2.out⟩
      case measure =>
        cases r2 with
        | false =>
          show 0 < s.size + 1 - (intOf (.int .i64 x)).toNat
          simp [intOf]
          omega
        | true =>
          have q := I1.out rfl
          show s.size + 1 - (intOf (.int .i64 y)).toNat < s.size + 1 - (intOf (.int .i64 x)).toNat
          simp [intOf]
          omega
    · obtain rfl : k = n := by omega
      have CE := hid (HD.out _ hlog)
      have LT1 := hid hlt
      have r1 := HN.out
      clear HS HD HI HZ HR hlog hlt HL HN HA H0
      rw [r1]
      go_wp2_with (go_at_call 62; refine CE.out.mono ?_; rintro e w2 ⟨⟨m, rfl⟩, hl2, ht2⟩; have L2 := hid hl2; have T2 := hid (LT.trans LT1.out ht2); clear hl2 ht2 CE)
      first
      | exact bodyPost_end (results_none rfl _ _ _) rfl ⟨rfl, L2.out, T2.out⟩
      | exact bodyPost_ret (results_none rfl _ _ _) rfl ⟨rfl, L2.out, T2.out⟩
end Go.Proofs.YtbhmmcelndmijaaGreat
namespace Go.Proofs.YtbhmmcelndmijaaGreat
open Go.RowKit Go.Maps
def remC : Chg := ⟨3, ⟨#[108, 111, 103, 46, 110, 101, 119]⟩, ⟨#[]⟩, ⟨#[]⟩, 0⟩
def cutC (n : Nat) : Chg := ⟨4, ⟨#[108, 111, 103]⟩, ⟨#[]⟩, ⟨#[]⟩, n⟩
theorem new_name : nameB ⟨#[108, 111, 103, 46, 110, 101, 119]⟩ = true := by decide
theorem fine_rem : Fine remC := ⟨by decide, by decide, by decide, by decide, by decide⟩
theorem fine_cut (n : Nat) (h : n ≤ 1000000000) : Fine (cutC n) := ⟨by show 4 ≤ 4; omega, by show 3 ≤ maxLen; decide, by show 0 ≤ maxLen; decide, by show 0 ≤ 1000000; omega, by show (n : Int) ≤ _; omega⟩
/-- A log that was just made. -/
def newL (d : Nat) : Lg := ⟨d, [], 0, 0, ⟨#[]⟩, ⟨#[]⟩, false⟩
theorem newL_is {w : World} {base d : Nat} (hb : base ≤ w.heap.size) : IsLog (w.alloc (.cells #[.pointer (some ⟨d, 0, none⟩), .slice none 0 0, .int .i64 0, .int .i64 0, .slice none 0 0, .string ⟨#[]⟩, .bool false] 87)) base w.heap.size (newL d) :=
  ⟨hb, .slice none 0 0, .slice none 0 0, Blk.new w 87 _, ⟨rfl, Or.inl ⟨rfl, rfl⟩⟩, ⟨rfl, Or.inl ⟨rfl, rfl⟩⟩⟩
/-- The disk behind an opening. -/
def openD (k : Dk) (cut n : Nat) : Dk := syncD (if 0 < cut then stepD (nextD k remC) (cutC n) else nextD k remC)
def OpenPost (base d : Nat) (w : World) (g' : Lg) (cut : Nat) (k' : Dk) (e : Ending) (w' : World) : Prop :=
  ∃ b, e = .returned (.tuple #[.pointer (some ⟨b, 0, none⟩), .int .i64 cut, .int .i64 0]) ∧ w.heap.size ≤ b ∧ IsLog w' base b g' ∧ IsDisk w' base d k' ∧ Low base w w'
theorem refF_rem (l : FS) (n : ByteArray) (hn : nameB n = true) : refF l ⟨3, n, ⟨#[]⟩, ⟨#[]⟩, 0⟩ = if (getF l n).isSome then 0 else 2 := by
  unfold refF
  cases getF l n <;> simp [hn]
theorem refF_cut (l : FS) (n : ByteArray) (z : Int) (hn : nameB n = true) : refF l ⟨4, n, ⟨#[]⟩, ⟨#[]⟩, z⟩ = match getF l n with
    | none => 2
    | some s => if z < 0 ∨ (s.size : Int) < z then 1 else 0 := by
  unfold refF
  cases getF l n <;> simp [hn]
theorem rem_ans (k : Dk) (hd : k.dead = false) : ansF k remC = 0 ∨ ansF k remC = 2 := by
  have e : ansF k remC = refF k.now remC := by unfold ansF; rw [hd]; rfl
  rw [e, remC, refF_rem _ _ new_name]
  split
  · exact Or.inl rfl
  · exact Or.inr rfl
theorem next_dead (k : Dk) (c : Chg) (hd : k.dead = false) : (nextD k c).dead = false := by
  unfold nextD
  split
  · exact hd
  · exact hd
theorem cut_ans (k : Dk) (n : Nat) (hd : k.dead = false) (h0 : 0 < (readS k.now ⟨#[108, 111, 103]⟩).size) (hn : n ≤ (readS k.now ⟨#[108, 111, 103]⟩).size) : ansF k (cutC n) = 0 := by
  unfold readS at h0 hn
  have e : ansF k (cutC n) = refF k.now (cutC n) := by unfold ansF; rw [hd]; rfl
  rw [e, cutC, refF_cut _ _ _ log_name]
  cases hg : getF k.now ⟨#[108, 111, 103]⟩ with
  | none =>
    rw [hg] at h0
    exact absurd h0 (by decide)
  | some s =>
    rw [hg] at hn
    have hn' : n ≤ s.size := hn
    show (if _ then 1 else 0) = 0
    rw [if_neg (by omega)]
theorem readE_two (l : FS) (n : ByteArray) : readE l n = 0 ∨ readE l n = 2 := by
  unfold readE
  split
  · exact Or.inl rfl
  · exact Or.inr rfl
set_option maxRecDepth 100000 in
set_option maxHeartbeats 4000000 in
theorem open_any (base d : Nat) (k : Dk) (g' : Lg) (w : World) (hd : IsDisk w base d k) (hdd : k.dead = false) (hS : Small k) (hS1 : Small (nextD k remC))
    (hld : ∀ W b, IsLog W base b (newL d) → Calls Tryz.prog 37 #[.pointer (some ⟨b, 0, none⟩), .string (readS (nextD k remC).now ⟨#[108, 111, 103]⟩)] W fun e w' => e = .returned (.tuple #[]) ∧ IsLog w' base b g' ∧ LT base b W w')
    (hn : g'.len ≤ (readS (nextD k remC).now ⟨#[108, 111, 103]⟩).size) (hz : (readS (nextD k remC).now ⟨#[108, 111, 103]⟩).size ≤ 1000000) (hf : Fits (doF (nextD k remC).now (cutC g'.len)) 1000000) :
    Calls Tryz.prog 19 #[.pointer (some ⟨d, 0, none⟩)] w (OpenPost base d w g' ((readS (nextD k remC).now ⟨#[108, 111, 103]⟩).size - g'.len) (openD k ((readS (nextD k remC).now ⟨#[108, 111, 103]⟩).size - g'.len) g'.len)) := by
  have hd1 := next_dead k remC hdd
  have C1 : Hid (Calls Tryz.prog 35 #[.pointer (some ⟨d, 0, none⟩), .string ⟨#[108, 111, 103, 46, 110, 101, 119]⟩] w fun e w' => e = .returned (.int .i64 (ansF k remC : Nat)) ∧ IsDisk w' base d (nextD k remC) ∧ Tend base d w w') := remove_all base d k _ w hd hS fine_rem
  have C2 : Hid (∀ W, IsDisk W base d (nextD k remC) → Calls Tryz.prog 36 #[.pointer (some ⟨d, 0, none⟩), .string ⟨#[108, 111, 103]⟩] W fun e w' => e = .returned (.tuple #[.string (readS (nextD k remC).now ⟨#[108, 111, 103]⟩), .int .i64 (readE (nextD k remC).now ⟨#[108, 111, 103]⟩)]) ∧ W.grownBy w' none) := fun W hW => read_any base d _ _ W hW hd1 log_name (by decide)
  have C4 : Hid (0 < (readS (nextD k remC).now ⟨#[108, 111, 103]⟩).size - g'.len → ∀ W, IsDisk W base d (nextD k remC) → Calls Tryz.prog 38 #[.pointer (some ⟨d, 0, none⟩), .string ⟨#[108, 111, 103]⟩, .int .i64 g'.len] W fun e w' => e = .returned (.int .i64 0) ∧ IsDisk w' base d (stepD (nextD k remC) (cutC g'.len)) ∧ Tend base d W w') := fun h0 W hW => by
    have ha := cut_ans (nextD k remC) g'.len hd1 (by omega) hn
    have := truncate_all base d (nextD k remC) ⟨#[108, 111, 103]⟩ g'.len W hW hS1 (fine_cut g'.len (by omega))
    have en : nextD (nextD k remC) (cutC g'.len) = stepD (nextD k remC) (cutC g'.len) := by rw [nextD, if_pos ha]
    change Calls Tryz.prog 38 _ W fun e w' => e = .returned (.int .i64 (ansF (nextD k remC) (cutC g'.len) : Nat)) ∧ IsDisk w' base d (nextD (nextD k remC) (cutC g'.len)) ∧ Tend base d W w' at this
    rw [ha, en] at this
    exact this
  have C5 : Hid (∀ W, IsDisk W base d (stepD (nextD k remC) (cutC g'.len)) → Calls Tryz.prog 39 #[.pointer (some ⟨d, 0, none⟩)] W fun e w' => e = .returned (.int .i64 0) ∧ IsDisk w' base d (syncD (stepD (nextD k remC) (cutC g'.len))) ∧ W.grownBy w' (some d)) := fun W hW => sync_any base d _ W hW hd1 hf
  have C6 : Hid (∀ W, IsDisk W base d (nextD k remC) → Calls Tryz.prog 39 #[.pointer (some ⟨d, 0, none⟩)] W fun e w' => e = .returned (.int .i64 0) ∧ IsDisk w' base d (syncD (nextD k remC)) ∧ W.grownBy w' (some d)) := fun W hW => sync_any base d _ W hW hd1 hS1.now
  have C3 := hid hld
  have hbd : base ≤ d := hd.1
  have hdw := hd.lt
  have BD := hid hd.blk
  have ra := rem_ans k hdd
  have rb := readE_two (nextD k remC).now ⟨#[108, 111, 103]⟩
  have eD : openD k ((readS (nextD k remC).now ⟨#[108, 111, 103]⟩).size - g'.len) g'.len = syncD (if 0 < (readS (nextD k remC).now ⟨#[108, 111, 103]⟩).size - g'.len then stepD (nextD k remC) (cutC g'.len) else nextD k remC) := rfl
  rw [eD]
  clear eD hd hdd hS hS1 hld hf hd1
  generalize readE (nextD k remC).now ⟨#[108, 111, 103]⟩ = y at *
  generalize readS (nextD k remC).now ⟨#[108, 111, 103]⟩ = s at *
  generalize ansF k remC = x at *
  generalize stepD (nextD k remC) (cutC g'.len) = k2 at *
  generalize nextD k remC = k1 at *
  have s0 : (s.size : Int) ≤ 1000000 := by omega
  have n0 : (g'.len : Int) ≤ 1000000 := by omega
  obtain ⟨c, hc⟩ : ∃ c : Nat, c = s.size - g'.len := ⟨_, rfl⟩
  have HC : Hid ((s.size : Int) - (g'.len : Int) = (c : Int)) := (by show (s.size : Int) - (g'.len : Int) = (c : Int); omega)
  rw [← hc]
  rw [← hc] at C4
  have hbw : base ≤ w.heap.size := by omega
  rcases ra with rfl | rfl <;> rcases rb with rfl | rfl <;> by_cases hcut : 0 < c
  all_goals (
    first | rw [if_pos hcut] | rw [if_neg hcut]
    try have y1 : (0 : Int) < (s.size : Int) - (g'.len : Int) := by omega
    try have y1 : ¬ (0 : Int) < (s.size : Int) - (g'.len : Int) := by omega
    have HCUT := hid hcut
    clear hcut hc hn hz
    go_enter Tryz.func19, Tryz.ntmps19
    go_wp2_with (first
      | (go_at_call 35; refine C1.out.mono ?_; rintro e w1 ⟨rfl, h1, t1⟩; have D1 := hid h1; have T1 := hid (Low.of_tend (base := base) t1 BD.out); clear h1 t1 C1 BD)
      | (go_at_call 36; refine (C2.out _ D1.out).mono ?_; rintro e w2 ⟨rfl, g2⟩; have D2 := hid (D1.out.kept g2); have T2 := hid (Low.trans T1.out (Low.of_none g2)); have hw2 : w.heap.size ≤ w2.heap.size := T2.out.size; clear g2 C2)
      | (go_at_call 37; refine (C3.out _ w2.heap.size (newL_is (by omega))).mono ?_; rintro e w3 ⟨rfl, l3, t3⟩; have L3 := hid l3; have D3 := hid (IsDisk.keptL (D2.out.kept (grown_alloc (grown_refl _ _) _)) (Blk.new w2 87 _) t3); have T3 := hid (Low.trans T2.out (Low.trans (Low.of_none (grown_alloc (grown_refl _ _) _)) (Low.of_lt t3 ⟨_, Blk.new w2 87 _⟩))); obtain ⟨_, vr1, vw1, hb1, _, _⟩ := L3.out; have e3 := hb1.g7.1.2.2.2.1; clear hb1 l3 t3 C3)
      | (go_at_call 38; refine (C4.out HCUT.out _ D3.out).mono ?_; rintro e w4 ⟨rfl, d4, t4⟩; have D4 := hid d4; obtain ⟨cd, hcd⟩ := D3.out.blk; have L4 := hid (L3.out.keptD hcd t4); have T4 := hid (Low.trans T3.out (Low.of_tend (base := base) t4 ⟨_, hcd⟩)); clear hcd d4 t4 C4)
      | (go_at_call 39; refine (C5.out _ D4.out).mono ?_; rintro e w5 ⟨rfl, d5, g5⟩; have D5 := hid d5; obtain ⟨cd, hcd⟩ := D4.out.blk; have L5 := hid (L4.out.keptD hcd (Tend.of_self (base := base) g5 hbd)); have T5 := hid (Low.trans T4.out (Low.of_tend (Tend.of_self (base := base) g5 hbd) ⟨_, hcd⟩)); clear hcd d5 g5 C5)
      | (go_at_call 39; refine (C6.out _ D3.out).mono ?_; rintro e w5 ⟨rfl, d5, g5⟩; have D5 := hid d5; obtain ⟨cd, hcd⟩ := D3.out.blk; have L5 := hid (L3.out.keptD hcd (Tend.of_self (base := base) g5 hbd)); have T5 := hid (Low.trans T3.out (Low.of_tend (Tend.of_self (base := base) g5 hbd) ⟨_, hcd⟩)); clear hcd d5 g5 C6))
    go_ret3
    exact ⟨w2.heap.size, (by rw [HC.out]; rfl), hw2, L5.out, D5.out, T5.out⟩)
set_option maxRecDepth 100000 in
set_option maxHeartbeats 1000000 in
/-- A dead disk is not opened. -/
theorem open_dead (base d : Nat) (k : Dk) (w : World) (hd : IsDisk w base d k) (hdd : k.dead = true) (hS : Small k) :
    Calls Tryz.prog 19 #[.pointer (some ⟨d, 0, none⟩)] w fun e w' => e = .returned (.tuple #[.pointer none, .int .i64 0, .int .i64 7]) ∧ Low base w w' := by
  have ea : ansF k remC = 7 := by unfold ansF; rw [hdd]; rfl
  have C1 : Hid (Calls Tryz.prog 35 #[.pointer (some ⟨d, 0, none⟩), .string ⟨#[108, 111, 103, 46, 110, 101, 119]⟩] w fun e w' => e = .returned (.int .i64 7) ∧ Tend base d w w') := (remove_all base d k _ w hd hS fine_rem).mono (fun e w' h => by
    have h' : e = .returned (.int .i64 (ansF k remC : Nat)) ∧ IsDisk w' base d (nextD k remC) ∧ Tend base d w w' := h
    rw [ea] at h'
    exact ⟨h'.1, h'.2.2⟩)
  have BD := hid hd.blk
  clear hd hdd hS ea
  go_enter Tryz.func19, Tryz.ntmps19
  go_wp2_with (go_at_call 35; refine C1.out.mono ?_; rintro e w1 ⟨rfl, t1⟩; have T1 := hid (Low.of_tend (base := base) t1 BD.out); clear t1 C1 BD)
  go_ret3
  exact ⟨rfl, T1.out⟩
end Go.Proofs.YtbhmmcelndmijaaGreat
