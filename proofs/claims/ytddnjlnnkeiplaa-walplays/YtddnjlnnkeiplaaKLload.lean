/-
  Drop where every record is committed. load: frames are taken one behind the other, up to the first one that is not right.
-/
import Derived.Test.YtddnjlnnkeiplaaLg
import Derived.Deep.RegionLaw
import Derived.Test.YtddnjlnnkeiplaaLtake
namespace Go.Proofs.Ytddnjlnnkeiplaa
open Go.RowKit Go.Maps
theorem run_clear0 (pa : Option Addr) (c : Nat) (w : World) : (Builtin.clear_ #[74] 0 #[.slice pa 0 c]).run Try.prog w = .ok (.tuple #[]) w := by
  cases pa <;> kernel_rfl
theorem step_clear0 {ops : Array Oper} {o : Oper} {a : Act} {w : World} {K : Act → World → Prop} {Q : Exit → Act → World → Prop} {E : Prop} (x : Operand) (pa : Option Addr) (c : Nat) (hg : o.guard = none) (ho : o.op = Op.call { callee := Callee.builtin Builtin.clear, args := #[x], argTypes := #[74] }) (ht : o.type = 0) (hx : a.eval x = .slice pa 0 c)
    (hK : K (a.put o.dst (.tuple #[])) w) : if Region.wanted o (yielded ops a.tmps) = true then Oper.wp Try.prog o a w K Q else E := by
  have hw : Region.wanted o (yielded ops a.tmps) = true := by simp [Region.wanted, hg]
  rw [if_pos hw]
  have hrun := run_clear0 pa c w
  unfold Oper.wp
  simp [execOp, ho, ht, resolve, invoke, builtin, hx, hrun, Result.andThen]
  exact hK
set_option maxRecDepth 100000 in
set_option maxHeartbeats 2000000 in
theorem drop_full (base b : Nat) (g : Lg) (w : World) (h : IsLog w base b g) (hc : g.com = g.recs.length) (hl : g.recs.length ≤ 1000000) (hwl : g.wait.size ≤ 1000000) :
    Calls Try.prog 12 #[.pointer (some ⟨b, 0, none⟩)] w fun e w' => e = .returned (.int .i64 g.wait.size) ∧ IsLog w' base b { g with wait := ⟨#[]⟩ } ∧ w.grownBy w' (some b) := by
  obtain ⟨h0, vr, vw, hb, hr, hw⟩ := h
  have FINAL : Hid (IsLog ((w.setCell ⟨b, 1, none⟩ vr).setCell ⟨b, 4, none⟩ (.slice none 0 0)) base b { g with wait := ⟨#[]⟩ } ∧ w.grownBy ((w.setCell ⟨b, 1, none⟩ vr).setCell ⟨b, 4, none⟩ (.slice none 0 0)) (some b)) := by
    have GF := grown_set (grown_set (grown_refl w (some b)) 1 vr) 4 (.slice none 0 0)
    refine ⟨⟨h0, vr, .slice none 0 0, ?_, rowG_kept hr hb (by decide) GF, ⟨rfl, Or.inl ⟨rfl, rfl⟩⟩⟩, GF⟩
    exact (hb.set 1 vr).set 4 (.slice none 0 0)
  rw [hc] at hb
  obtain ⟨pw, cw, rfl, _⟩ := row_form hw
  obtain ⟨⟨c0, c1, c2, c3, c4, c5, c6⟩, f1, f2, f3, f4, f5, f6⟩ := hb.g7
  have hll : (g.recs.length : Int) ≤ 1000000 := by omega
  have hwi : (g.wait.size : Int) ≤ 1000000 := by omega
  rcases hr.2 with ⟨rfl, hz⟩ | ⟨q, cap, cur, rfl, hq, hh, hcap, hm, hrest⟩
  · clear hb hr hw
    rw [hz] at c2
    clear hll hc hl hwl
    go_enter Try.func12, Try.ntmps12
    go_wp2_with fail
    go_region_law (refine step_clear0 (.tmp 19) _ _ rfl rfl rfl rfl ?_)
    all_goals (
      go_wp2_with fail
      go_region_law (fail)
      all_goals (
        go_wp2
        go_ret
        exact ⟨rfl, FINAL.out.1.drew.drew, grown_drew (grown_drew FINAL.out.2)⟩))
  · clear hb hr hw hrest hh hl hwl
    have i1 : (g.recs.length : Int) ≤ cap := by omega
    have i2 : (cap : Int) ≤ 9223372036854775807 := by unfold maxLen at hm; omega
    have i0 : (0 : Int) ≤ g.recs.length := by omega
    clear hc hm hq
    by_cases hx : g.recs.length = cap
    · subst hx
      generalize g.recs.length = L at *
      clear hcap
      go_enter Try.func12, Try.ntmps12
      go_wp2_with fail
      go_region_law (refine step_clear0 (.tmp 19) _ _ rfl rfl rfl rfl ?_)
      all_goals (
        go_wp2_with fail
        go_region_law (fail)
        all_goals (
          go_wp2
          go_ret
          exact ⟨rfl, FINAL.out.1.drew.drew, grown_drew (grown_drew FINAL.out.2)⟩))
    · have i3 : (g.recs.length : Int) < cap := by omega
      have i4 : ¬ cap = g.recs.length := by omega
      have i5 : ¬ g.recs.length = cap := by omega
      generalize g.recs.length = L at *
      go_enter Try.func12, Try.ntmps12
      go_wp2_with fail
      go_region_law (refine step_clear0 (.tmp 19) _ _ rfl rfl rfl rfl ?_)
      all_goals (
        go_wp2_with fail
        go_region_law (fail)
        all_goals (
          go_wp2
          go_ret
          exact ⟨rfl, FINAL.out.1.drew.drew, grown_drew (grown_drew FINAL.out.2)⟩))
end Go.Proofs.Ytddnjlnnkeiplaa
namespace Go.Proofs.Ytddnjlnnkeiplaa
open Go.RowKit Go.Maps
def left (z : Nat) : Value → Value → Nat
  | at_, .bool true => z + 1 - (intOf at_).toNat
  | _, _ => 0
set_option maxRecDepth 100000 in
set_option maxHeartbeats 1000000 in
theorem load_seq (base b : Nat) (s : ByteArray) (n : Nat) (A : Nat → Nat) (R : Nat → Bool) (G : Nat → Lg) (g' : Lg) (w : World) (h : IsLog w base b (G 0)) (hA : A 0 = 0) (hR : ∀ k, k < n → R k = true) (hR0 : R 0 = true) (hRn : R n = false) (hz : ∀ k, A k ≤ s.size)
    (hinc : ∀ k, k < n → R (k + 1) = true → A k < A (k + 1))
    (step : ∀ k, k < n → ∀ W, IsLog W base b (G k) → Calls Try.prog 61 #[.pointer (some ⟨b, 0, none⟩), .string s, .int .i64 (A k)] W fun e w' => e = .returned (.tuple #[.int .i64 (A (k + 1)), .bool (R (k + 1))]) ∧ IsLog w' base b (G (k + 1)) ∧ LT base b W w')
    (hD : ∀ W, IsLog W base b (G n) → Calls Try.prog 12 #[.pointer (some ⟨b, 0, none⟩)] W fun e w' => (∃ m : Nat, e = .returned (.int .i64 m)) ∧ IsLog w' base b g' ∧ LT base b W w') :
    Calls Try.prog 40 #[.pointer (some ⟨b, 0, none⟩), .string s] w fun e w' => e = .returned (.tuple #[]) ∧ IsLog w' base b g' ∧ LT base b w w' := by
  have HS := hid step
  have HD := hid hD
  have HI := hid hinc
  have HZ := hid hz
  have HR := hid hR
  have HL := hid h
  have HN : Hid (R n = false) := hRn
  have HA : Hid (A 0 = 0) := hA
  have H0 : Hid (R 0 = true) := hR0
  clear step hD hinc hz hR h hRn hA hR0
  go_enter Try.func40, Try.ntmps40
  go_wp2
  go_loopw [4, 5] (fun a r wr => ∃ k : Nat, k ≤ n ∧ a = .int .i64 (A k) ∧ r = .bool (R k) ∧ IsLog wr base b (G k) ∧ LT base b w wr) (fun a r _ => left s.size a r)
  case atStart => exact ⟨0, Nat.zero_le _, by rw [HA.out]; rfl, by rw [H0.out], HL.out, LT.refl _ _ _⟩
  case round =>
    obtain ⟨k, hk, rfl, rfl, hlog, hlt⟩ := hrel
    by_cases hkn : k < n
    · have r1 := HR.out k hkn
      have CE := hid (HS.out k hkn _ hlog)
      have z1 := HZ.out k
      have z2 := HZ.out (k + 1)
      have I1 := hid (HI.out k hkn)
      have LT1 := hid hlt
      clear HS HD HI HZ HR hlog hlt HL HN HA H0
      rw [r1]
      generalize A k = x at *
      generalize hy : A (k + 1) = y at *
      generalize hr2 : R (k + 1) = r2 at *
      go_wp2_with (go_at_call 61; refine CE.out.mono ?_; rintro e w2 ⟨rfl, hl2, ht2⟩; have L2 := hid hl2; have T2 := hid (LT.trans LT1.out ht2); clear hl2 ht2 CE)
      go_roundw
      case rel => exact ⟨k + 1, by omega, by rw [hy], by rw [hr2], L2.out, T2.out⟩
      case measure =>
        cases r2 with
        | false =>
          show 0 < s.size + 1 - (intOf (.int .i64 x)).toNat
          simp [intOf]
          omega
        | true =>
          have q := I1.out rfl
          show s.size + 1 - (intOf (.int .i64 y)).toNat < s.size + 1 - (intOf (.int .i64 x)).toNat
          simp [intOf]
          omega
    · obtain rfl : k = n := by omega
      have CE := hid (HD.out _ hlog)
      have LT1 := hid hlt
      have r1 := HN.out
      clear HS HD HI HZ HR hlog hlt HL HN HA H0
      rw [r1]
      go_wp2_with (go_at_call 12; refine CE.out.mono ?_; rintro e w2 ⟨⟨m, rfl⟩, hl2, ht2⟩; have L2 := hid hl2; have T2 := hid (LT.trans LT1.out ht2); clear hl2 ht2 CE)
      first
      | exact bodyPost_end (results_none rfl _ _ _) rfl ⟨rfl, L2.out, T2.out⟩
      | exact bodyPost_ret (results_none rfl _ _ _) rfl ⟨rfl, L2.out, T2.out⟩
end Go.Proofs.Ytddnjlnnkeiplaa
