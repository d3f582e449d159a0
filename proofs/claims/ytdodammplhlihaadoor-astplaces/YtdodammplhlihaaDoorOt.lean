/-
  The law's lists opened: rows of kind, type, text, number, kids.
-/
import Derived.Test.YtdodammplhlihaaDoorMd
import Derived.Test.YtdodammplhlihaaDoorPost
import Derived.Test.YtdodammplhlihaaDoorRows
import Derived.Deep.Strs
import Derived.Deep.Slices
import Derived.Deep.MidRow
import Derived.SliceStrings
import Derived.ProofKit
import Derived.OpenShut
namespace Go.Proofs.YtdodammplhlihaaDoor
open Go.ChangeMaps Go.ChangeShapes Go.WideShapes Go.ChangeAt Go.WideMaps Go.WideElems Go.RowKit Go.Deep
theorem cz2 : Tryd.prog.cellsOf 2 = 1 := by kernel_rfl
theorem cz3 : Tryd.prog.cellsOf 3 = 1 := by kernel_rfl
theorem cz9 : Tryd.prog.cellsOf 9 = 1 := by kernel_rfl
theorem cz34 : Tryd.prog.cellsOf 34 = 5 := by kernel_rfl
theorem wf_i64 {n : Int} (h : (Lit.int .i64 n).wf = true) : -9223372036854775808 ≤ n ∧ n ≤ 9223372036854775807 := by
  simp only [Lit.wf, Bool.and_eq_true, decide_eq_true_eq] at h
  have e1 : IntKind.i64.max = 9223372036854775807 := rfl
  have e2 : IntKind.i64.min = -9223372036854775808 := rfl
  rw [e1, e2] at h
  exact h
set_option maxRecDepth 100000 in
theorem open_tree {H : Type} {enc : TypeId × Value → H} {W : World} {held : Bool} {fuel : Nat} {cs : List Value} {x : DataW H × List MemPlace} (hf : DataW.trod enc Tryd.prog W 0 (fun _ => true) held fuel 34 cs = some x) :
    ∃ (a b m c : Int) (s : ByteArray), cs = [.int .i64 a, .int .i64 b, .string s, .int .i64 m, .int .i64 c] ∧ s.size ≤ maxLen ∧ -9223372036854775808 ≤ m ∧ m ≤ 9223372036854775807 := by
  obtain ⟨xs, m, _, rfl, hl, hlen, hx⟩ := DataW.trod_struct Tryd.underlying34 hf
  rw [cz34] at hl
  match cs, hl with
  | [v0, v1, v2, v3, v4], _ =>
    match xs, hlen with
    | [y0, y1, y2, y3, y4], _ =>
      have g0 := hx 0 _ rfl
      have g1 := hx 1 _ rfl
      have g2 := hx 2 _ rfl
      have g3 := hx 3 _ rfl
      have g4 := hx 4 _ rfl
      simp [cz2, cz3, cz9] at g0 g1 g2 g3 g4
      obtain ⟨a, e0, _, w0⟩ := DataW.trod_int Tryd.underlying3 g0
      obtain ⟨b, e1, _, w1⟩ := DataW.trod_int Tryd.underlying3 g1
      obtain ⟨s, e2, _, w2⟩ := DataW.trod_string Tryd.underlying9 g2
      obtain ⟨n, e3, _, w3⟩ := DataW.trod_int Tryd.underlying2 g3
      obtain ⟨c, e4, _, w4⟩ := DataW.trod_int Tryd.underlying3 g4
      simp at e0 e1 e2 e3 e4
      subst e0; subst e1; subst e2; subst e3; subst e4
      exact ⟨a, b, n, c, s, rfl, w2, wf_i64 w3⟩
set_option maxRecDepth 100000 in
theorem open_trees {H : Type} {enc : TypeId × Value → H} {W : World} {held : Bool} {pa : Option Addr} {n cap : Nat} {d : DataW H} {p : List MemPlace} (h : DataW.Trod enc Tryd.prog W 0 (fun _ => true) held 32 (.slice pa n cap) d p) : TrV W pa n ∧ n ≤ cap ∧ cap ≤ maxLen := by
  obtain ⟨fuel, hf⟩ := h
  rcases open_slice Tryd.underlying32 hf with ⟨hcs, _⟩ | ⟨a, len, cp, m, k, D, Pl, hcs, _, hl, hm, hmm, _, hx⟩
  · simp [Value.cells] at hcs
    obtain ⟨_, rfl, rfl⟩ := hcs
    exact ⟨fun h => absurd h (Nat.lt_irrefl _), Nat.le_refl _, Nat.zero_le _⟩
  · simp [Value.cells] at hcs
    obtain ⟨rfl, rfl, rfl⟩ := hcs
    simp only [if_true] at hmm
    refine ⟨fun h0 => ?_, by first | exact hl | exact hm | omega, by first | exact hm | exact hl | (unfold maxLen at *; omega)⟩
    have each : ∀ i, i < n → ∃ (q b c e : Int) (s : ByteArray), (∀ j u, j < 5 → [Value.int .i64 q, .int .i64 b, .string s, .int .i64 c, .int .i64 e][j]? = some u → W.cell? (a.add (i * 5 + j)) = some u) ∧ s.size ≤ maxLen ∧ -9223372036854775808 ≤ c ∧ c ≤ 9223372036854775807 := by
      intro i hi
      obtain ⟨cs', h1, h2⟩ := hx i (by omega)
      rw [cz34] at h1
      obtain ⟨_, hlen, hcell⟩ := World.cells?_some h1
      obtain ⟨q, b, c, e, s, rfl, hok⟩ := open_tree h2
      refine ⟨q, b, c, e, s, fun j u hj hu => ?_, hok⟩
      have r := hcell j (by omega)
      rw [add_add] at r
      rw [r, hu]
    have hs : a.spot = none := by
      obtain ⟨q, b, c, e, s, e0, _⟩ := each 0 h0
      have e1 := e0 0 _ (by decide) rfl
      exact World.cell?_spot (v := .int .i64 q) (by simpa [Addr.add] using e1)
    obtain ⟨xb, xo, sp⟩ := a
    have hs' : sp = none := hs
    subst hs'
    refine ⟨xb, xo, rfl, fun i hi => ?_⟩
    obtain ⟨q, b, c, e, s, hc, o1, o2⟩ := each i hi
    have cc : ∀ j u, j < 5 → [Value.int .i64 q, .int .i64 b, .string s, .int .i64 c, .int .i64 e][j]? = some u → W.cell? ⟨xb, xo + i * 5 + j, none⟩ = some u := fun j u hj hu => by
      have := hc j u hj hu
      rw [Addr.add_mid] at this
      rw [Nat.add_assoc]
      exact this
    exact ⟨q, b, c, e, s, cc 0 _ (by decide) rfl, cc 1 _ (by decide) rfl, cc 2 _ (by decide) rfl, cc 3 _ (by decide) rfl, cc 4 _ (by decide) rfl, by unfold maxLen at o1; omega, o2⟩
end Go.Proofs.YtdodammplhlihaaDoor
