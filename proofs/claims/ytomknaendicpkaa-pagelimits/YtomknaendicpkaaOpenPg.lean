/-
  A page that is an argument, opened.
-/
import Derived.Test.YtomknaendicpkaaRows
import Derived.Test.YtomknaendicpkaaPost
import Derived.Test.YtomknaendicpkaaDec
import Derived.SliceStrings
import Derived.ChangeSlices
import Derived.Deep.Strs
import Derived.Deep.Slices
import Derived.ProofKit
import Derived.OpenShut
namespace Go.Proofs.Ytomknaendicpkaa
open Go.ChangeMaps Go.ChangeShapes Go.WideShapes Go.ChangeAt Go.WideMaps Go.WideElems Go.RowKit Go.Deep
theorem c3 : Try.prog.cellsOf 3 = 1 := by kernel_rfl
theorem c4 : Try.prog.cellsOf 4 = 1 := by kernel_rfl
theorem c9 : Try.prog.cellsOf 9 = 1 := by kernel_rfl
theorem c22 : Try.prog.cellsOf 22 = 1 := by kernel_rfl
theorem c23 : Try.prog.cellsOf 23 = 1 := by kernel_rfl
theorem c25 : Try.prog.cellsOf 25 = 4 := by kernel_rfl
theorem row_of {α : Type} (enc : α → Value) {W : World} {a : Addr} {len cap : Nat} {zs : List α} (d : α) (hz : len ≤ zs.length) (hx : ∀ i, i < zs.length → W.cell? (a.add i) = some (enc (zs.getD i d))) (hs : 0 < len → a.spot = none) : RowV enc W (.slice (some a) len cap) (zs.take len) := by
  have hl : (zs.take len).length = len := by rw [List.length_take]; omega
  obtain ⟨xb, xo, sp⟩ := a
  refine ⟨some ⟨xb, xo, sp⟩, cap, xb, xo, by rw [hl], fun h => ?_, fun i hi => ?_⟩
  · rw [hl] at h
    have hs' : sp = none := hs h
    rw [hs']
  · rw [hl] at hi
    have hs' : sp = none := hs (by omega)
    subst hs'
    have h := hx i (by omega)
    have e : zs.getD i d = (zs.take len)[i]'(by rw [hl]; exact hi) := by
      rw [List.getElem_take, List.getD_eq_getElem?_getD, List.getElem?_eq_getElem (by omega)]
      rfl
    rw [e] at h
    by_cases e0 : i = 0
    · subst e0; simpa [Addr.add] using h
    · simpa [Addr.add, e0] using h
theorem open_txts {H : Type} {enc : TypeId × Value → H} {W : World} {held : Bool} {fuel : Nat} {v : Value} {x : DataW H × List MemPlace} (hf : DataW.trod enc Try.prog W 0 (fun _ => true) held fuel 22 [v] = some x) :
    ∃ l : List ByteArray, RowV Value.string W v l ∧ l.length ≤ maxLen := by
  rcases open_strings Try.underlying22 Try.underlying9 c9 hf with ⟨hcs, _⟩ | ⟨a, len, cp, ss, hcs, _, hl, hm, hlen, _, hx, _⟩
  · simp at hcs
    subst hcs
    exact ⟨[], RowV.nil _ _, Nat.zero_le _⟩
  · simp at hcs
    subst hcs
    simp only [if_true] at hlen
    refine ⟨ss.take len, row_of Value.string ByteArray.empty (by omega) hx (fun h0 => ?_), by rw [List.length_take]; omega⟩
    have e0 := hx 0 (by omega)
    exact World.cell?_spot (v := .string (ss.getD 0 ByteArray.empty)) (by simpa [Addr.add] using e0)
theorem open_nums {H : Type} {enc : TypeId × Value → H} {W : World} {held : Bool} {fuel : Nat} {v : Value} {x : DataW H × List MemPlace} (hf : DataW.trod enc Try.prog W 0 (fun _ => true) held fuel 23 [v] = some x) :
    ∃ l : List Int, RowV (Value.int .i64) W v l ∧ l.length ≤ maxLen := by
  rcases open_ints Try.underlying23 Try.underlying3 c3 hf with ⟨hcs, _⟩ | ⟨a, len, cp, ss, hcs, _, hl, hm, hlen, _, hx, _⟩
  · simp at hcs
    subst hcs
    exact ⟨[], RowV.nil _ _, Nat.zero_le _⟩
  · simp at hcs
    subst hcs
    simp only [if_true] at hlen
    refine ⟨ss.take len, row_of (Value.int .i64) 0 (by omega) hx (fun h0 => ?_), by rw [List.length_take]; omega⟩
    have e0 := hx 0 (by omega)
    exact World.cell?_spot (v := .int .i64 (ss.getD 0 0)) (by simpa [Addr.add] using e0)
set_option maxRecDepth 100000 in
theorem open_pg {H : Type} {enc : TypeId × Value → H} {W : World} {held : Bool} {fuel : Nat} {cs : List Value} {x : DataW H × List MemPlace} (hf : DataW.trod enc Try.prog W 0 (fun _ => true) held fuel 25 cs = some x) :
    ∃ (p : Pg) (a b c : Value), cs = [.bool p.leaf, a, b, c] ∧ PgV W (.agg #[.bool p.leaf, a, b, c]) p ∧ p.fits := by
  obtain ⟨xs, n, _, rfl, hl, hlen, hx⟩ := DataW.trod_struct Try.underlying25 hf
  rw [c25] at hl
  match cs, hl with
  | [v0, v1, v2, v3], _ =>
   match xs, hlen with
   | [y0, y1, y2, y3], _ =>
    have g0 := hx 0 _ rfl
    have g1 := hx 1 _ rfl
    have g2 := hx 2 _ rfl
    have g3 := hx 3 _ rfl
    simp [c4, c22, c23] at g0 g1 g2 g3
    obtain ⟨b, e0, _⟩ := DataW.trod_bool Try.underlying4 g0
    obtain ⟨ks, h1, m1⟩ := open_txts g1
    obtain ⟨vs, h2, m2⟩ := open_txts g2
    obtain ⟨kd, h3, m3⟩ := open_nums g3
    simp at e0
    subst e0
    unfold maxLen at m1 m2 m3
    exact ⟨⟨b, ks, vs, kd⟩, v1, v2, v3, rfl, ⟨v1, v2, v3, rfl, h1, h2, h3⟩, ⟨by omega, by omega, by omega⟩⟩
end Go.Proofs.Ytomknaendicpkaa
