/-
  An argument that is a list of things that are put, or taken, opened.
-/
import Derived.Test.YtiokjdjlopeliaaPost
import Derived.Test.YtiokjdjlopeliaaRows
import Derived.Deep.Strs
import Derived.Deep.Slices
import Derived.Deep.MidRow
import Derived.ProofKit
import Derived.OpenShut
namespace Go.Proofs.Ytiokjdjlopeliaa
open Go.ChangeMaps Go.ChangeShapes Go.WideShapes Go.ChangeAt Go.WideMaps Go.WideElems Go.RowKit Go.Deep
theorem c68 : Try.prog.cellsOf 68 = 3 := by kernel_rfl
theorem c48 : Try.prog.cellsOf 48 = 2 := by kernel_rfl
theorem c3 : Try.prog.cellsOf 3 = 1 := by kernel_rfl
theorem c9 : Try.prog.cellsOf 9 = 1 := by kernel_rfl
theorem wf_i64 {n : Int} (h : (Lit.int .i64 n).wf = true) : -9223372036854775808 ≤ n ∧ n ≤ 9223372036854775807 := by
  simp only [Lit.wf, Bool.and_eq_true, decide_eq_true_eq] at h
  have h0 : IntKind.i64.min = -9223372036854775808 := rfl
  have h1 : IntKind.i64.max = 9223372036854775807 := rfl
  rwa [h0, h1] at h
theorem zero_in : -9223372036854775808 ≤ (0 : Int) ∧ (0 : Int) ≤ 9223372036854775807 := by decide
theorem open_puts {H : Type} {enc : TypeId × Value → H} {W : World} {held : Bool} {pa : Option Addr} {n cap : Nat} {d : DataW H} {p : List MemPlace} (h : DataW.Trod enc Try.prog W 0 (fun _ => true) held 64 (.slice pa n cap) d p) :
    ∃ (xb xo : Nat) (K N : Nat → Int) (S : Nat → ByteArray), (0 < n → pa = some ⟨xb, xo, none⟩) ∧ (∀ j, j < n → W.cell? ⟨xb, xo + j * 3, none⟩ = some (.int .i64 (K j))) ∧ (∀ j, j < n → W.cell? ⟨xb, xo + j * 3 + 1, none⟩ = some (.int .i64 (N j))) ∧
      (∀ j, j < n → W.cell? ⟨xb, xo + j * 3 + 2, none⟩ = some (.string (S j))) ∧ (∀ j, -9223372036854775808 ≤ N j ∧ N j ≤ 9223372036854775807) ∧ n ≤ maxLen := by
  obtain ⟨fuel, hf⟩ := h
  rcases open_slice Try.underlying64 hf with ⟨hcs, _⟩ | ⟨a, len, cp, m, k, D, Pl, hcs, _, hl, hm, hmm, _, hx⟩
  · simp [Value.cells] at hcs
    obtain ⟨_, rfl, _⟩ := hcs
    exact ⟨0, 0, fun _ => 0, fun _ => 0, fun _ => default, fun h => by omega, fun j hj => by omega, fun j hj => by omega, fun j hj => by omega, fun _ => zero_in, Nat.zero_le _⟩
  · simp [Value.cells] at hcs
    obtain ⟨rfl, rfl, rfl⟩ := hcs
    simp only [if_true] at hmm
    have each : ∀ i, i < n → ∃ (x y : Int) (s : ByteArray), W.cell? (a.add (i * 3)) = some (.int .i64 x) ∧ W.cell? (a.add (i * 3 + 1)) = some (.int .i64 y) ∧ W.cell? (a.add (i * 3 + 2)) = some (.string s) ∧ (Lit.int .i64 y).wf = true := by
      intro i hi
      obtain ⟨cs', h1, h2⟩ := hx i (by omega)
      rw [c68] at h1
      obtain ⟨_, hlen, hcell⟩ := World.cells?_some h1
      obtain ⟨y0, y1, y2, q, _, _, g0, g1, g2⟩ := trod_struct3 Try.underlying68 h2
      match cs', hlen with
      | [v0, v1, v2], _ =>
        simp [c3, c9] at g0 g1 g2
        obtain ⟨x, e0, _, _⟩ := DataW.trod_int Try.underlying3 g0
        obtain ⟨y, e1, _, wy⟩ := DataW.trod_int Try.underlying3 g1
        obtain ⟨s, e2, _, _⟩ := DataW.trod_string Try.underlying9 g2
        have q0 := hcell 0 (by omega)
        have q1 := hcell 1 (by omega)
        have q2 := hcell 2 (by omega)
        rw [add_add] at q0 q1 q2
        simp at e0 e1 e2
        subst e0; subst e1; subst e2
        exact ⟨x, y, s, by simpa using q0, by simpa using q1, by simpa using q2, wy⟩
    by_cases h0 : 0 < n
    · have hs : a.spot = none := by
        obtain ⟨x, y, s, e0, _⟩ := each 0 h0
        exact World.cell?_spot (v := .int .i64 x) (by simpa [Addr.add] using e0)
      obtain ⟨xb, xo, sp⟩ := a
      have hs' : sp = none := hs
      subst hs'
      have each' : ∀ i, i < n → ∃ (x y : Int) (s : ByteArray), W.cell? ⟨xb, xo + i * 3, none⟩ = some (.int .i64 x) ∧ W.cell? ⟨xb, xo + i * 3 + 1, none⟩ = some (.int .i64 y) ∧ W.cell? ⟨xb, xo + i * 3 + 2, none⟩ = some (.string s) ∧ (-9223372036854775808 ≤ y ∧ y ≤ 9223372036854775807) := fun i hi => by
        obtain ⟨x, y, s, e0, e1, e2, wy⟩ := each i hi
        rw [Addr.add_mid] at e0 e1 e2
        exact ⟨x, y, s, e0, by rw [Nat.add_assoc]; exact e1, by rw [Nat.add_assoc]; exact e2, wf_i64 wy⟩
      obtain ⟨K, N, S, hK⟩ : ∃ (K N : Nat → Int) (S : Nat → ByteArray), ∀ i, (i < n → W.cell? ⟨xb, xo + i * 3, none⟩ = some (.int .i64 (K i)) ∧ W.cell? ⟨xb, xo + i * 3 + 1, none⟩ = some (.int .i64 (N i)) ∧ W.cell? ⟨xb, xo + i * 3 + 2, none⟩ = some (.string (S i))) ∧ (-9223372036854775808 ≤ N i ∧ N i ≤ 9223372036854775807) := by
        refine ⟨fun i => if hi : i < n then (each' i hi).choose else 0, fun i => if hi : i < n then (each' i hi).choose_spec.choose else 0, fun i => if hi : i < n then (each' i hi).choose_spec.choose_spec.choose else default, fun i => ?_⟩
        by_cases hi : i < n
        · simp only [dif_pos hi]
          have hh := (each' i hi).choose_spec.choose_spec.choose_spec
          exact ⟨fun _ => ⟨hh.1, hh.2.1, hh.2.2.1⟩, hh.2.2.2⟩
        · simp only [dif_neg hi]
          exact ⟨fun h => absurd h hi, by decide, by decide⟩
      exact ⟨xb, xo, K, N, S, fun _ => rfl, fun j hj => ((hK j).1 hj).1, fun j hj => ((hK j).1 hj).2.1, fun j hj => ((hK j).1 hj).2.2, fun j => (hK j).2, by omega⟩
    · exact ⟨0, 0, fun _ => 0, fun _ => 0, fun _ => default, fun h => by omega, fun j hj => by omega, fun j hj => by omega, fun j hj => by omega, fun _ => zero_in, by omega⟩
theorem open_takes {H : Type} {enc : TypeId × Value → H} {W : World} {held : Bool} {pa : Option Addr} {n cap : Nat} {d : DataW H} {p : List MemPlace} (h : DataW.Trod enc Try.prog W 0 (fun _ => true) held 44 (.slice pa n cap) d p) :
    ∃ (xb xo : Nat) (K N : Nat → Int), (0 < n → pa = some ⟨xb, xo, none⟩) ∧ (∀ j, j < n → W.cell? ⟨xb, xo + j * 2, none⟩ = some (.int .i64 (K j))) ∧ (∀ j, j < n → W.cell? ⟨xb, xo + j * 2 + 1, none⟩ = some (.int .i64 (N j))) ∧ (∀ j, -9223372036854775808 ≤ N j ∧ N j ≤ 9223372036854775807) ∧ n ≤ maxLen := by
  obtain ⟨fuel, hf⟩ := h
  rcases open_slice Try.underlying44 hf with ⟨hcs, _⟩ | ⟨a, len, cp, m, k, D, Pl, hcs, _, hl, hm, hmm, _, hx⟩
  · simp [Value.cells] at hcs
    obtain ⟨_, rfl, _⟩ := hcs
    exact ⟨0, 0, fun _ => 0, fun _ => 0, fun h => by omega, fun j hj => by omega, fun j hj => by omega, fun _ => zero_in, Nat.zero_le _⟩
  · simp [Value.cells] at hcs
    obtain ⟨rfl, rfl, rfl⟩ := hcs
    simp only [if_true] at hmm
    have each : ∀ i, i < n → ∃ (x y : Int), W.cell? (a.add (i * 2)) = some (.int .i64 x) ∧ W.cell? (a.add (i * 2 + 1)) = some (.int .i64 y) ∧ (Lit.int .i64 y).wf = true := by
      intro i hi
      obtain ⟨cs', h1, h2⟩ := hx i (by omega)
      rw [c48] at h1
      obtain ⟨_, hlen, hcell⟩ := World.cells?_some h1
      obtain ⟨y0, y1, q, _, _, g0, g1⟩ := trod_struct2 Try.underlying48 h2
      match cs', hlen with
      | [v0, v1], _ =>
        simp [c3] at g0 g1
        obtain ⟨x, e0, _, _⟩ := DataW.trod_int Try.underlying3 g0
        obtain ⟨y, e1, _, wy⟩ := DataW.trod_int Try.underlying3 g1
        have q0 := hcell 0 (by omega)
        have q1 := hcell 1 (by omega)
        rw [add_add] at q0 q1
        simp at e0 e1
        subst e0; subst e1
        exact ⟨x, y, by simpa using q0, by simpa using q1, wy⟩
    by_cases h0 : 0 < n
    · have hs : a.spot = none := by
        obtain ⟨x, y, e0, _⟩ := each 0 h0
        exact World.cell?_spot (v := .int .i64 x) (by simpa [Addr.add] using e0)
      obtain ⟨xb, xo, sp⟩ := a
      have hs' : sp = none := hs
      subst hs'
      have each' : ∀ i, i < n → ∃ (x y : Int), W.cell? ⟨xb, xo + i * 2, none⟩ = some (.int .i64 x) ∧ W.cell? ⟨xb, xo + i * 2 + 1, none⟩ = some (.int .i64 y) ∧ (-9223372036854775808 ≤ y ∧ y ≤ 9223372036854775807) := fun i hi => by
        obtain ⟨x, y, e0, e1, wy⟩ := each i hi
        rw [Addr.add_mid] at e0 e1
        exact ⟨x, y, e0, by rw [Nat.add_assoc]; exact e1, wf_i64 wy⟩
      obtain ⟨K, N, hK⟩ : ∃ (K N : Nat → Int), ∀ i, (i < n → W.cell? ⟨xb, xo + i * 2, none⟩ = some (.int .i64 (K i)) ∧ W.cell? ⟨xb, xo + i * 2 + 1, none⟩ = some (.int .i64 (N i))) ∧ (-9223372036854775808 ≤ N i ∧ N i ≤ 9223372036854775807) := by
        refine ⟨fun i => if hi : i < n then (each' i hi).choose else 0, fun i => if hi : i < n then (each' i hi).choose_spec.choose else 0, fun i => ?_⟩
        by_cases hi : i < n
        · simp only [dif_pos hi]
          have hh := (each' i hi).choose_spec.choose_spec
          exact ⟨fun _ => ⟨hh.1, hh.2.1⟩, hh.2.2⟩
        · simp only [dif_neg hi]
          exact ⟨fun h => absurd h hi, by decide, by decide⟩
      exact ⟨xb, xo, K, N, fun _ => rfl, fun j hj => ((hK j).1 hj).1, fun j hj => ((hK j).1 hj).2, fun j => (hK j).2, by omega⟩
    · exact ⟨0, 0, fun _ => 0, fun _ => 0, fun h => by omega, fun j hj => by omega, fun j hj => by omega, fun _ => zero_in, by omega⟩
end Go.Proofs.Ytiokjdjlopeliaa
