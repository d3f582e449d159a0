/-
  An argument that is a list of acts, opened.
-/
import Derived.Test.YtbhmmcelndmijaaGreatSl2
import Derived.Test.YtbhmmcelndmijaaGreatPost
import Derived.Test.YtbhmmcelndmijaaGreatRows
import Derived.Deep.Strs
import Derived.Deep.Slices
import Derived.Deep.MidRow
import Derived.SliceStrings
import Derived.ProofKit
import Derived.OpenShut
namespace Go.Proofs.YtbhmmcelndmijaaGreat
open Go.ChangeMaps Go.ChangeShapes Go.WideShapes Go.ChangeAt Go.WideMaps Go.WideElems Go.RowKit Go.Deep
theorem cz3 : Tryz.prog.cellsOf 3 = 1 := by kernel_rfl
theorem cz9 : Tryz.prog.cellsOf 9 = 1 := by kernel_rfl
theorem cz32 : Tryz.prog.cellsOf 32 = 3 := by kernel_rfl
def acL (a : Ac) : List Value := [.int .i64 a.kind, .string a.key, .string a.val]
set_option maxRecDepth 100000 in
theorem open_ac {H : Type} {enc : TypeId × Value → H} {W : World} {held : Bool} {fuel : Nat} {cs : List Value} {x : DataW H × List MemPlace} (hf : DataW.trod enc Tryz.prog W 0 (fun _ => true) held fuel 32 cs = some x) :
    ∃ a : Ac, cs = acL a := by
  obtain ⟨xs, m, _, rfl, hl, hlen, hx⟩ := DataW.trod_struct Tryz.underlying32 hf
  rw [cz32] at hl
  match cs, hl with
  | [v0, v1, v2], _ =>
    match xs, hlen with
    | [y0, y1, y2], _ =>
      have g0 := hx 0 _ rfl
      have g1 := hx 1 _ rfl
      have g2 := hx 2 _ rfl
      simp [cz3, cz9] at g0 g1 g2
      obtain ⟨k, e0, _, w0⟩ := DataW.trod_int Tryz.underlying3 g0
      obtain ⟨s, e1, _, w1⟩ := DataW.trod_string Tryz.underlying9 g1
      obtain ⟨t, e2, _, w2⟩ := DataW.trod_string Tryz.underlying9 g2
      simp at e0 e1 e2
      subst e0; subst e1; subst e2
      exact ⟨⟨k, s, t⟩, rfl⟩
def noAc : Ac := ⟨0, ⟨#[]⟩, ⟨#[]⟩⟩
theorem open_acs {H : Type} {enc : TypeId × Value → H} {W : World} {held : Bool} {pa : Option Addr} {n cap : Nat} {d : DataW H} {p : List MemPlace} (h : DataW.Trod enc Tryz.prog W 0 (fun _ => true) held 22 (.slice pa n cap) d p) :
    ∃ (g o : Nat) (A : Nat → Ac), (0 < n → pa = some ⟨g, o, none⟩) ∧ (∀ j, j < n → AcAt W g (o + j * 3) (A j)) ∧ n ≤ 9223372036854775807 := by
  obtain ⟨fuel, hf⟩ := h
  rcases open_slice Tryz.underlying22 hf with ⟨hcs, _⟩ | ⟨a, len, cp, m, k, D, Pl, hcs, _, hl, hm, hmm, _, hx⟩
  · simp [Value.cells] at hcs
    obtain ⟨_, rfl, _⟩ := hcs
    exact ⟨0, 0, fun _ => noAc, fun h => by omega, fun j hj => by omega, by omega⟩
  · simp [Value.cells] at hcs
    obtain ⟨rfl, rfl, rfl⟩ := hcs
    simp only [if_true] at hmm
    have each : ∀ i, i < n → ∃ x : Ac, (∀ j u, j < 3 → (acL x)[j]? = some u → W.cell? (a.add (i * 3 + j)) = some u) := by
      intro i hi
      obtain ⟨cs', h1, h2⟩ := hx i (by omega)
      rw [cz32] at h1
      obtain ⟨_, hlen, hcell⟩ := World.cells?_some h1
      obtain ⟨x, rfl⟩ := open_ac h2
      refine ⟨x, fun j u hj hu => ?_⟩
      have q := hcell j (by omega)
      rw [add_add] at q
      rw [q, hu]
    by_cases h0 : 0 < n
    · have hs : a.spot = none := by
        obtain ⟨x, e0⟩ := each 0 h0
        have e1 := e0 0 _ (by decide) rfl
        exact World.cell?_spot (v := .int .i64 x.kind) (by simpa [Addr.add] using e1)
      obtain ⟨xb, xo, sp⟩ := a
      have hs' : sp = none := hs
      subst hs'
      refine ⟨xb, xo, fun i => if hi : i < n then (each i hi).choose else noAc, fun _ => rfl, fun i hi => ?_, by unfold maxLen at hm; omega⟩
      simp only [dif_pos hi]
      have hc := (each i hi).choose_spec
      generalize (each i hi).choose = x at *
      have cc : ∀ j u, j < 3 → (acL x)[j]? = some u → W.cell? ⟨xb, xo + i * 3 + j, none⟩ = some u := fun j u hj hu => by
        have := hc j u hj hu
        rw [Addr.add_mid] at this
        rw [Nat.add_assoc]
        exact this
      exact ⟨cc 0 _ (by decide) rfl, cc 1 _ (by decide) rfl, cc 2 _ (by decide) rfl⟩
    · exact ⟨0, 0, fun _ => noAc, fun h => by omega, fun j hj => by omega, by unfold maxLen at hm; omega⟩
end Go.Proofs.YtbhmmcelndmijaaGreat
