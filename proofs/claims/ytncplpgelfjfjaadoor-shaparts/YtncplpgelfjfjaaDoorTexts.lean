/-
  An argument that is a list of texts, opened.
-/
import Derived.Test.YtncplpgelfjfjaaDoorLaid
import Derived.SliceStrings
namespace Go.Proofs.YtncplpgelfjfjaaDoor
open Go.ChangeMaps Go.ChangeShapes Go.WideShapes Go.ChangeAt Go.WideMaps Go.WideElems Go.RowKit
theorem c9 : Tryd.prog.cellsOf 9 = 1 := by kernel_rfl
theorem open_texts {H : Type} {enc : TypeId × Value → H} {W : World} {held : Bool} {pa : Option Addr} {n cap : Nat} {d : DataW H} {p : List MemPlace} (h : DataW.Trod enc Tryd.prog W 0 (fun _ => true) held 29 (.slice pa n cap) d p) :
    ∃ (xb xo : Nat) (S : Nat → ByteArray), (0 < n → pa = some ⟨xb, xo, none⟩) ∧ (∀ j, j < n → W.cell? ⟨xb, xo + j, none⟩ = some (.string (S j))) ∧ n ≤ maxLen := by
  obtain ⟨fuel, hf⟩ := h
  rcases open_strings Tryd.underlying29 Tryd.underlying9 c9 hf with ⟨hcs, _⟩ | ⟨a, len', cap', ss, hcs, _, hl, hm, hz, _, hcell, _⟩
  · simp [Value.cells] at hcs
    obtain ⟨_, rfl, _⟩ := hcs
    exact ⟨0, 0, fun _ => default, fun h => by omega, fun j hj => by omega, Nat.zero_le _⟩
  · simp [Value.cells] at hcs
    obtain ⟨rfl, rfl, rfl⟩ := hcs
    simp only [if_true] at hz
    by_cases h0 : 0 < n
    · have hs : a.spot = none := World.cell?_spot (v := .string (ss.getD 0 ByteArray.empty)) (by have := hcell 0 (by omega); simpa [Addr.add] using this)
      obtain ⟨xb, xo, sp⟩ := a
      have hs' : sp = none := hs
      subst hs'
      refine ⟨xb, xo, fun j => ss.getD j ByteArray.empty, fun _ => rfl, fun j hj => ?_, by omega⟩
      have := hcell j (by omega)
      rwa [Addr.add_mid] at this
    · exact ⟨0, 0, fun _ => default, fun h => by omega, fun j hj => by omega, by omega⟩
end Go.Proofs.YtncplpgelfjfjaaDoor
