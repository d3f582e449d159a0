/-
  Drop where every record is committed.
-/
import Derived.Test.YtddnjlnnkeiplaaLg
import Derived.Deep.RegionLaw
namespace Go.Proofs.Ytddnjlnnkeiplaa
open Go.RowKit Go.Maps
theorem run_clear0 (pa : Option Addr) (c : Nat) (w : World) : (Builtin.clear_ #[74] 0 #[.slice pa 0 c]).run Try.prog w = .ok (.tuple #[]) w := by
  cases pa <;> kernel_rfl
theorem step_clear0 {ops : Array Oper} {o : Oper} {a : Act} {w : World} {K : Act → World → Prop} {Q : Exit → Act → World → Prop} {E : Prop} (x : Operand) (pa : Option Addr) (c : Nat) (hg : o.guard = none) (ho : o.op = Op.call { callee := Callee.builtin Builtin.clear, args := #[x], argTypes := #[74] }) (ht : o.type = 0) (hx : a.eval x = .slice pa 0 c)
    (hK : K (a.put o.dst (.tuple #[])) w) : if Region.wanted o (yielded ops a.tmps) = true then Oper.wp Try.prog o a w K Q else E := by
  have hw : Region.wanted o (yielded ops a.tmps) = true := by simp [Region.wanted, hg]
  rw [if_pos hw]
  have hrun := run_clear0 pa c w
  unfold Oper.wp
  simp [execOp, ho, ht, resolve, invoke, builtin, hx, hrun, Result.andThen]
  exact hK
set_option maxRecDepth 100000 in
set_option maxHeartbeats 2000000 in
theorem drop_full (base b : Nat) (g : Lg) (w : World) (h : IsLog w base b g) (hc : g.com = g.recs.length) (hl : g.recs.length ≤ 1000000) (hwl : g.wait.size ≤ 1000000) :
    Calls Try.prog 12 #[.pointer (some ⟨b, 0, none⟩)] w fun e w' => e = .returned (.int .i64 g.wait.size) ∧ IsLog w' base b { g with wait := ⟨#[]⟩ } ∧ w.grownBy w' (some b) := by
  obtain ⟨h0, vr, vw, hb, hr, hw⟩ := h
  have FINAL : Hid (IsLog ((w.setCell ⟨b, 1, none⟩ vr).setCell ⟨b, 4, none⟩ (.slice none 0 0)) base b { g with wait := ⟨#[]⟩ } ∧ w.grownBy ((w.setCell ⟨b, 1, none⟩ vr).setCell ⟨b, 4, none⟩ (.slice none 0 0)) (some b)) := by
    have GF := grown_set (grown_set (grown_refl w (some b)) 1 vr) 4 (.slice none 0 0)
    refine ⟨⟨h0, vr, .slice none 0 0, ?_, rowG_kept hr hb (by decide) GF, ⟨rfl, Or.inl ⟨rfl, rfl⟩⟩⟩, GF⟩
    exact (hb.set 1 vr).set 4 (.slice none 0 0)
  rw [hc] at hb
  obtain ⟨pw, cw, rfl, _⟩ := row_form hw
  obtain ⟨⟨c0, c1, c2, c3, c4, c5, c6⟩, f1, f2, f3, f4, f5, f6⟩ := hb.g7
  have hll : (g.recs.length : Int) ≤ 1000000 := by omega
  have hwi : (g.wait.size : Int) ≤ 1000000 := by omega
  rcases hr.2 with ⟨rfl, hz⟩ | ⟨q, cap, cur, rfl, hq, hh, hcap, hm, hrest⟩
  · clear hb hr hw
    rw [hz] at c2
    clear hll hc hl hwl
    go_enter Try.func12, Try.ntmps12
    go_wp2_with fail
    go_region_law (refine step_clear0 (.tmp 19) _ _ rfl rfl rfl rfl ?_)
    all_goals (
      go_wp2_with fail
      go_region_law (fail)
      all_goals (
        go_wp2
        go_ret
        exact ⟨rfl, FINAL.out.1.drew.drew, grown_drew (grown_drew FINAL.out.2)⟩))
  · clear hb hr hw hrest hh hl hwl
    have i1 : (g.recs.length : Int) ≤ cap := by omega
    have i2 : (cap : Int) ≤ 9223372036854775807 := by unfold maxLen at hm; omega
    have i0 : (0 : Int) ≤ g.recs.length := by omega
    clear hc hm hq
    by_cases hx : g.recs.length = cap
    · subst hx
      generalize g.recs.length = L at *
      clear hcap
      go_enter Try.func12, Try.ntmps12
      go_wp2_with fail
      go_region_law (refine step_clear0 (.tmp 19) _ _ rfl rfl rfl rfl ?_)
      all_goals (
        go_wp2_with fail
        go_region_law (fail)
        all_goals (
          go_wp2
          go_ret
          exact ⟨rfl, FINAL.out.1.drew.drew, grown_drew (grown_drew FINAL.out.2)⟩))
    · have i3 : (g.recs.length : Int) < cap := by omega
      have i4 : ¬ cap = g.recs.length := by omega
      have i5 : ¬ g.recs.length = cap := by omega
      generalize g.recs.length = L at *
      go_enter Try.func12, Try.ntmps12
      go_wp2_with fail
      go_region_law (refine step_clear0 (.tmp 19) _ _ rfl rfl rfl rfl ?_)
      all_goals (
        go_wp2_with fail
        go_region_law (fail)
        all_goals (
          go_wp2
          go_ret
          exact ⟨rfl, FINAL.out.1.drew.drew, grown_drew (grown_drew FINAL.out.2)⟩))
end Go.Proofs.Ytddnjlnnkeiplaa
