/-
  LexSpaces: for every text and every list of picks the law returns true, and both read behind the call as they read before.
-/
import Derived.Test.YthpeckoleiecbaaRows
import Derived.Test.YthpeckoleiecbaaSpLaw
import Derived.Test.YthpeckoleiecbaaSpBad
import Derived.Test.YthpeckoleiecbaaPost
import Derived.ChangeSlices
import Derived.ProofKit
import Derived.OpenShut
namespace Go.Proofs.Ythpeckoleiecbaa
open Go.ChangeMaps Go.ChangeShapes Go.WideShapes Go.ChangeAt Go.WideMaps Go.WideElems Go.RowKit
theorem c3 : Try.prog.cellsOf 3 = 1 := by kernel_rfl
theorem open_nums {H : Type} {enc : TypeId × Value → H} {W : World} {held : Bool} {fuel : Nat} {v : Value} {x : DataW H × List MemPlace} (hf : DataW.trod enc Try.prog W 0 (fun _ => true) held fuel 34 [v] = some x) :
    ∃ l : List Int, NumsV W v l ∧ l.length ≤ maxLen := by
  rcases open_ints Try.underlying34 Try.underlying3 c3 hf with ⟨hcs, _⟩ | ⟨a, len, cp, ss, hcs, _, hl, hm, hlen, _, hx, _⟩
  · simp at hcs
    subst hcs
    exact ⟨[], ⟨none, 0, 0, 0, rfl, fun h => absurd h (Nat.lt_irrefl _), fun _ h => absurd h (Nat.not_lt_zero _)⟩, Nat.zero_le _⟩
  · simp at hcs
    subst hcs
    simp only [if_true] at hlen
    have hs : 0 < len → a.spot = none := fun h0 => by
      have e0 := hx 0 (by omega)
      exact World.cell?_spot (v := .int .i64 (ss.getD 0 0)) (by simpa [Addr.add] using e0)
    have hl2 : (ss.take len).length = len := by rw [List.length_take]; omega
    obtain ⟨xb, xo, sp⟩ := a
    refine ⟨ss.take len, ⟨some ⟨xb, xo, sp⟩, cp, xb, xo, by rw [hl2], fun h => ?_, fun i hi => ?_⟩, by rw [hl2]; omega⟩
    · rw [hl2] at h
      have hs' : sp = none := hs h
      rw [hs']
    · rw [hl2] at hi
      have hs' : sp = none := hs (by omega)
      subst hs'
      have h := hx i (by omega)
      have e : ss.getD i 0 = (ss.take len)[i]'(by rw [hl2]; exact hi) := by
        rw [List.getElem_take, List.getD_eq_getElem?_getD, List.getElem?_eq_getElem (by omega)]
        rfl
      rw [e] at h
      by_cases e0 : i = 0
      · subst e0; simpa [Addr.add] using h
      · simpa [Addr.add, e0] using h
theorem spaces_law (s : ByteArray) (v : Value) (xs : List Int) (w : World) (hv : NumsV w v xs) (hx : (xs.length : Int) ≤ 9223372036854775807) : Calls Try.prog 5 #[.string s, v] w fun e w' => e = .returned (.bool true) ∧ w.grownBy w' none := by
  by_cases hs : s.size ≤ 4096
  · cases h : toks s.toList with
    | ok l =>
      by_cases h2 : s.size ≤ 1000
      · exact spaces_ok s v xs w h2 hv hx l h
      · exact spaces_mid s v w hs (by omega) l h
    | error p => exact spaces_bad s v w hs p h
  · exact spaces_long s v w (by omega)
theorem lexSpaces_own : ownKnob Try.prog.godebug = none := by kernel_rfl
set_option maxRecDepth 100000 in
theorem lexSpaces_lifted (os : Os) (started : os.Started) (H : Type) (enc : TypeId × Value → H) :
    ReturnsInHanded {} Try.checked os 5 .any (Rows.lexSpacesSpec.pre6 enc Try.prog Try.f5 Rows.lexSpacesRow.domain false) (Rows.lexSpacesSpec.post enc Try.prog Try.f5 false true false false) := by
  refine returnsInHanded_of_change (C := Try.checked) lexSpaces_own started (by kernel_rfl) Try.func5
    (ChangeSpec.witness6 (enc := enc) (C := Try.checked) false ⟨#[], #[.string ⟨#[]⟩, .slice none 0 0], []⟩ 8 (by kernel_rfl) (by kernel_rfl) (by kernel_rfl) (by kernel_rfl)) ?_
  intro W base args ds gs before hval0 hW hcnd _
  have hval : ∀ (j : Nat) t v, Try.f5.params[j]? = some t → args[j]? = some v → Value.okWide Try.prog W .any base t v := hval0
  have hW' := hW
  obtain ⟨p, q, hA0, hV, rfl, hfz, hnd⟩ := hW
  have hA : DataW.TrodAll enc Try.prog W 0 (fun _ => true) true Try.f5.params.toList args.toList ds p := hA0
  rw [Try.params5] at hA hval
  obtain ⟨v0, v1, d0, d1, p0, p1, rfl, rfl, rfl, h0, h1⟩ := trodAll_two hA
  obtain ⟨rfl, rfl⟩ := trodVars_none hV
  obtain ⟨s, rfl, rfl, rfl, hs⟩ := open_string Try.underlying9 (hval 0 9 v0 rfl rfl) h0
  obtain ⟨pa, n, cap, rfl⟩ := okWide_slice Try.underlying34 (hval 1 34 v1 rfl rfl)
  obtain ⟨fuel, hf⟩ := h1
  obtain ⟨xs, hx, hm⟩ := open_nums hf
  clear hA0 hval0 hval
  simp only [List.append_nil] at hW'
  refine (spaces_law s _ xs W hx (by unfold maxLen at hm; omega)).mono fun e W' ⟨he, hw⟩ => ?_
  subst he
  exact ⟨_, rfl, post_true (b := 4) hW' rfl (by kernel_rfl) (by kernel_rfl) (by kernel_rfl) Try.underlying4 rfl hw⟩
theorem lexSpaces_holds : Rows.LexSpacesSaid :=
  OpenClaim.holds_of_wide 5 Try.f5 rfl rfl rfl rfl rfl rfl rfl ⟨rfl, rfl, rfl, rfl, rfl⟩ rfl rfl rfl rfl rfl (by kernel_rfl) Try.func5 (by kernel_rfl)
    (of_decide_eq_true (by kernel_rfl)) (by unfold Func.isWrapper; first | (rw [if_pos (by decide +kernel)]; kernel_rfl) | (rw [if_neg (by decide +kernel)]; exact ⟨rfl, rfl⟩))
    (fun os started H enc _ => lexSpaces_lifted os started H enc)
#print axioms lexSpaces_holds
end Go.Proofs.Ythpeckoleiecbaa
