/-
  An act that is an argument, opened.
-/
import Derived.Test.YtoenddcdafnmiaaPost
import Derived.Test.YtoenddcdafnmiaaRows
import Derived.Deep.Strs
import Derived.Deep.Slices
import Derived.Deep.MidRow
import Derived.ProofKit
import Derived.OpenShut
namespace Go.Proofs.Ytoenddcdafnmiaa
open Go.ChangeMaps Go.ChangeShapes Go.WideShapes Go.ChangeAt Go.WideMaps Go.WideElems Go.RowKit Go.Deep
theorem c3 : Try.prog.cellsOf 3 = 1 := by kernel_rfl
theorem c9 : Try.prog.cellsOf 9 = 1 := by kernel_rfl
theorem c35 : Try.prog.cellsOf 35 = 3 := by kernel_rfl
theorem c37 : Try.prog.cellsOf 37 = 8 := by kernel_rfl
theorem wf_i64 {n : Int} (h : (Lit.int .i64 n).wf = true) : -9223372036854775808 ≤ n ∧ n ≤ 9223372036854775807 := by
  simp only [Lit.wf, Bool.and_eq_true, decide_eq_true_eq] at h
  have h0 : IntKind.i64.min = -9223372036854775808 := rfl
  have h1 : IntKind.i64.max = 9223372036854775807 := rfl
  rwa [h0, h1] at h
def inI (n : Int) : Prop := -9223372036854775808 ≤ n ∧ n ≤ 9223372036854775807
set_option maxRecDepth 100000 in
theorem open_act {H : Type} {enc : TypeId × Value → H} {W : World} {held : Bool} {fuel : Nat} {cs : List Value} {x : DataW H × List MemPlace} (hf : DataW.trod enc Try.prog W 0 (fun _ => true) held fuel 37 cs = some x) :
    ∃ (k n p q r : Int) (a t d : ByteArray), cs = [.int .i64 k, .string a, .string t, .string d, .int .i64 n, .int .i64 p, .int .i64 q, .int .i64 r] ∧ (inI k ∧ inI n ∧ inI p ∧ inI q ∧ inI r) ∧ a.size ≤ maxLen ∧ t.size ≤ maxLen ∧ d.size ≤ maxLen := by
  obtain ⟨xs, m, _, rfl, hl, hlen, hx⟩ := DataW.trod_struct Try.underlying37 hf
  rw [c37] at hl
  match cs, hl with
  | [v0, v1, v2, v3, v4, v5, v6, v7], _ =>
    match xs, hlen with
    | [y0, y1, y2, y3, y4, y5], _ =>
      have g0 := hx 0 _ rfl
      have g1 := hx 1 _ rfl
      have g2 := hx 2 _ rfl
      have g3 := hx 3 _ rfl
      have g4 := hx 4 _ rfl
      have g5 := hx 5 _ rfl
      simp [c3, c9, c35] at g0 g1 g2 g3 g4 g5
      obtain ⟨k, e0, _, w0⟩ := DataW.trod_int Try.underlying3 g0
      obtain ⟨a, e1, _, w1⟩ := DataW.trod_string Try.underlying9 g1
      obtain ⟨t, e2, _, w2⟩ := DataW.trod_string Try.underlying9 g2
      obtain ⟨d, e3, _, w3⟩ := DataW.trod_string Try.underlying9 g3
      obtain ⟨n, e4, _, w4⟩ := DataW.trod_int Try.underlying3 g4
      obtain ⟨z0, z1, z2, q, _, _, h0, h1, h2⟩ := trod_struct3 Try.underlying35 g5
      simp [c3] at h0 h1 h2
      obtain ⟨p, e5, _, w5⟩ := DataW.trod_int Try.underlying3 h0
      obtain ⟨q', e6, _, w6⟩ := DataW.trod_int Try.underlying3 h1
      obtain ⟨r, e7, _, w7⟩ := DataW.trod_int Try.underlying3 h2
      simp at e0 e1 e2 e3 e4 e5 e6 e7
      subst e0; subst e1; subst e2; subst e3; subst e4; subst e5; subst e6; subst e7
      exact ⟨k, n, p, q', r, a, t, d, rfl, ⟨wf_i64 w0, wf_i64 w4, wf_i64 w5, wf_i64 w6, wf_i64 w7⟩, w1, w2, w3⟩
end Go.Proofs.Ytoenddcdafnmiaa
