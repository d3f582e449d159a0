/-
  A list of acts that is an argument, opened.
-/
import Derived.Test.YtoenddcdafnmiaaKLawKit
import Derived.Test.YtoenddcdafnmiaaAct
namespace Go.Proofs.Ytoenddcdafnmiaa
open Go.ChangeMaps Go.ChangeShapes Go.WideShapes Go.ChangeAt Go.WideMaps Go.WideElems Go.RowKit Go.Deep
def noA : ActR := ⟨0, 0, 0, 0, 0, ⟨#[]⟩, ⟨#[]⟩, ⟨#[]⟩⟩
theorem open_acts {H : Type} {enc : TypeId × Value → H} {W : World} {held : Bool} {pa : Option Addr} {n cap : Nat} {d : DataW H} {p : List MemPlace} (h : DataW.Trod enc Try.prog W 0 (fun _ => true) held 22 (.slice pa n cap) d p) :
    ∃ (g o : Nat) (A : Nat → ActR), ActsV W pa n g o A := by
  obtain ⟨fuel, hf⟩ := h
  rcases open_slice Try.underlying22 hf with ⟨hcs, _⟩ | ⟨a, len, cp, m, k, D, Pl, hcs, _, hl, hm, hmm, _, hx⟩
  · simp [Value.cells] at hcs
    obtain ⟨_, rfl, _⟩ := hcs
    exact ⟨0, 0, fun _ => noA, fun h => by omega, fun j hj => by omega, fun j hj => by omega, fun j hj => by omega, fun j hj => by omega⟩
  · simp [Value.cells] at hcs
    obtain ⟨rfl, rfl, rfl⟩ := hcs
    simp only [if_true] at hmm
    have each : ∀ i, i < n → ∃ x : ActR, (∀ j u, j < 8 → x.vals[j]? = some u → W.cell? (a.add (i * 8 + j)) = some u) ∧ x.a.size ≤ maxLen ∧ x.t.size ≤ maxLen ∧ x.n ≤ 9223372036854775807 := by
      intro i hi
      obtain ⟨cs', h1, h2⟩ := hx i (by omega)
      rw [c37] at h1
      obtain ⟨_, hlen, hcell⟩ := World.cells?_some h1
      obtain ⟨kk, nn, pp, qq, rr, aa, tt, dd, rfl, hb, ha, ht, _⟩ := open_act h2
      refine ⟨⟨kk, nn, pp, qq, rr, aa, tt, dd⟩, fun j u hj hu => ?_, ha, ht, hb.2.1.2⟩
      have q := hcell j (by omega)
      rw [add_add] at q
      rw [q]
      have hu' : [Value.int .i64 kk, .string aa, .string tt, .string dd, .int .i64 nn, .int .i64 pp, .int .i64 qq, .int .i64 rr][j]? = some u := hu
      rw [← hu']
    by_cases h0 : 0 < n
    · have hs : a.spot = none := by
        obtain ⟨x, e0, _⟩ := each 0 h0
        have e1 := e0 0 _ (by decide) rfl
        exact World.cell?_spot (v := .int .i64 x.kind) (by simpa [Addr.add] using e1)
      obtain ⟨xb, xo, sp⟩ := a
      have hs' : sp = none := hs
      subst hs'
      refine ⟨xb, xo, fun i => if hi : i < n then (each i hi).choose else noA, fun _ => rfl, fun i hi => ?_, fun i hi => ?_, fun i hi => ?_, fun i hi j u hj hu => ?_⟩
      · simp only [dif_pos hi]
        exact (each i hi).choose_spec.2.1
      · simp only [dif_pos hi]
        exact (each i hi).choose_spec.2.2.1
      · simp only [dif_pos hi]
        exact (each i hi).choose_spec.2.2.2
      · simp only [dif_pos hi] at hu
        have := (each i hi).choose_spec.1 j u hj hu
        rw [Addr.add_mid] at this
        rw [Nat.add_assoc]
        exact this
    · exact ⟨0, 0, fun _ => noA, fun h => by omega, fun j hj => by omega, fun j hj => by omega, fun j hj => by omega, fun j hj => by omega⟩
end Go.Proofs.Ytoenddcdafnmiaa
