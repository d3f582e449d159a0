/-
  An argument that is two lists of texts, opened; a byte that is an argument.
-/
import Derived.Test.YtncplpgelfjfjaaDoorTexts
namespace Go.Proofs.YtncplpgelfjfjaaDoor
open Go.ChangeMaps Go.ChangeShapes Go.WideShapes Go.ChangeAt Go.WideMaps Go.WideElems Go.RowKit
theorem c29 : Tryd.prog.cellsOf 29 = 1 := by kernel_rfl
theorem c35 : Tryd.prog.cellsOf 35 = 2 := by kernel_rfl
/-- One list. -/
theorem open_list {H : Type} {enc : TypeId × Value → H} {W : World} {held : Bool} {fuel : Nat} {c : Value} {x : DataW H × List MemPlace} (hf : DataW.trod enc Tryd.prog W 0 (fun _ => true) held fuel 29 [c] = some x) :
    ∃ (pa : Option Addr) (n cap xb xo : Nat) (S : Nat → ByteArray), c = .slice pa n cap ∧ (0 < n → pa = some ⟨xb, xo, none⟩) ∧ (∀ j, j < n → W.cell? ⟨xb, xo + j, none⟩ = some (.string (S j))) ∧ n ≤ maxLen := by
  have key : ∃ pa n cap, c = .slice pa n cap := by
    rcases open_strings Tryd.underlying29 Tryd.underlying9 c9 hf with ⟨hcs, _⟩ | ⟨a, len', cap', ss, hcs, _⟩
    · exact ⟨_, _, _, (List.cons.inj hcs).1⟩
    · exact ⟨_, _, _, (List.cons.inj hcs).1⟩
  obtain ⟨pa, n, cap, rfl⟩ := key
  obtain ⟨xb, xo, S, h1, h2, h3⟩ := open_texts (d := x.1) (p := x.2) (pa := pa) (n := n) (cap := cap) ⟨fuel, hf⟩
  exact ⟨pa, n, cap, xb, xo, S, rfl, h1, h2, h3⟩
theorem open_lists {H : Type} {enc : TypeId × Value → H} {W : World} {held : Bool} {v : Value} {d : DataW H} {p : List MemPlace} (h : DataW.Trod enc Tryd.prog W 0 (fun _ => true) held 35 v d p) :
    ∃ (pa pb : Option Addr) (n m ca cb xb xo yb yo : Nat) (S T : Nat → ByteArray), v = .agg #[.slice pa n ca, .slice pb m cb] ∧ (0 < n → pa = some ⟨xb, xo, none⟩) ∧ (∀ j, j < n → W.cell? ⟨xb, xo + j, none⟩ = some (.string (S j))) ∧ n ≤ maxLen ∧
      (0 < m → pb = some ⟨yb, yo, none⟩) ∧ (∀ j, j < m → W.cell? ⟨yb, yo + j, none⟩ = some (.string (T j))) ∧ m ≤ maxLen := by
  obtain ⟨fuel, hf⟩ := h
  obtain ⟨xs, k, rfl, _, hlen, hn2, hel⟩ := DataW.trod_array Tryd.underlying35 hf
  rw [c35] at hlen
  have h0 := hel 0 (by omega)
  have h1 := hel 1 (by omega)
  rw [c29] at h0 h1
  match xs, hn2 with
  | [x0, x1], _ =>
    obtain ⟨c0, c1, hc⟩ : ∃ c0 c1, v.cells.toList = [c0, c1] := by
      match hv : v.cells.toList, hlen with
      | [c0, c1], _ => exact ⟨c0, c1, rfl⟩
    rw [hc] at h0 h1
    have h0' : DataW.trod enc Tryd.prog W 0 (fun _ => true) held k 29 [c0] = some x0 := h0
    have h1' : DataW.trod enc Tryd.prog W 0 (fun _ => true) held k 29 [c1] = some x1 := h1
    obtain ⟨pa, n, ca, xb, xo, S, rfl, a1, a2, a3⟩ := open_list h0'
    obtain ⟨pb, m, cb, yb, yo, T, rfl, b1, b2, b3⟩ := open_list h1'
    refine ⟨pa, pb, n, m, ca, cb, xb, xo, yb, yo, S, T, ?_, a1, a2, a3, b1, b2, b3⟩
    have ec : v.cells = #[.slice pa n ca, .slice pb m cb] := by rw [← Array.toArray_toList (xs := v.cells), hc]
    rw [← ec]
    cases v with
    | agg a => rfl
    | _ =>
      have := congrArg Array.size ec
      simp [Value.cells] at this
theorem byte_nat {n : Int} (h : (Lit.int .u8 n).wf = true) : ∃ p : Nat, p < 256 ∧ n = (p : Int) := by
  simp only [Lit.wf, Bool.and_eq_true, decide_eq_true_eq] at h
  have h0 : IntKind.u8.min = 0 := rfl
  have h1 : IntKind.u8.max = 255 := rfl
  rw [h0, h1] at h
  exact ⟨n.toNat, by omega, by omega⟩
end Go.Proofs.YtncplpgelfjfjaaDoor
