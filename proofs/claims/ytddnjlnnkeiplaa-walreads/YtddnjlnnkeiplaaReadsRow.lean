/-
  WalReads: for every list of texts and every two texts the law returns true, and all read behind the call as they read before.
-/
import Derived.Test.YtddnjlnnkeiplaaRows
import Derived.Test.YtddnjlnnkeiplaaReadsA
import Derived.Test.YtddnjlnnkeiplaaReadsB
import Derived.Test.YtddnjlnnkeiplaaPost
import Derived.SliceStrings
import Derived.ProofKit
import Derived.OpenShut
namespace Go.Proofs.Ytddnjlnnkeiplaa
open Go.ChangeMaps Go.ChangeShapes Go.WideShapes Go.ChangeAt Go.WideMaps Go.WideElems Go.RowKit
theorem cells9 : Try.prog.cellsOf 9 = 1 := by kernel_rfl
theorem open_texts {H : Type} {enc : TypeId × Value → H} {W : World} {held : Bool} {pa : Option Addr} {n cap : Nat} {d : DataW H} {p : List MemPlace} (h : DataW.Trod enc Try.prog W 0 (fun _ => true) held 33 (.slice pa n cap) d p) :
    ∃ (xb xo : Nat) (S : Nat → ByteArray), (0 < n → pa = some ⟨xb, xo, none⟩) ∧ (∀ j, j < n → W.cell? ⟨xb, xo + j, none⟩ = some (.string (S j))) ∧ n ≤ maxLen := by
  obtain ⟨fuel, hf⟩ := h
  rcases open_strings Try.underlying33 Try.underlying9 cells9 hf with ⟨hcs, _⟩ | ⟨a, len, cp, ss, hcs, _, hl, hm, hlen, _, hx, _⟩
  · simp [Value.cells] at hcs
    obtain ⟨_, rfl, _⟩ := hcs
    exact ⟨0, 0, fun _ => default, fun h => by omega, fun j hj => by omega, Nat.zero_le _⟩
  · simp [Value.cells] at hcs
    obtain ⟨rfl, rfl, rfl⟩ := hcs
    simp only [if_true] at hlen
    by_cases h0 : 0 < n
    · have hs : a.spot = none := by
        have e0 := hx 0 (by omega)
        exact World.cell?_spot (v := .string (ss.getD 0 ByteArray.empty)) (by simpa [Addr.add] using e0)
      obtain ⟨xb, xo, sp⟩ := a
      have hs' : sp = none := hs
      subst hs'
      exact ⟨xb, xo, fun j => ss.getD j ByteArray.empty, fun _ => rfl, fun j hj => by
        have h := hx j (by omega)
        by_cases e : j = 0
        · subst e; simpa [Addr.add] using h
        · simpa [Addr.add, e] using h, by omega⟩
    · exact ⟨0, 0, fun _ => default, fun h => by omega, fun j hj => by omega, by omega⟩
theorem walReads_own : ownKnob Try.prog.godebug = none := by kernel_rfl
set_option maxRecDepth 100000 in
theorem walReads_lifted (os : Os) (started : os.Started) (H : Type) (enc : TypeId × Value → H) :
    ReturnsInHanded {} Try.checked os 5 .any (Rows.walReadsSpec.pre6 enc Try.prog Try.f5 Rows.walReadsRow.domain false) (Rows.walReadsSpec.post enc Try.prog Try.f5 false true false false) := by
  refine returnsInHanded_of_change (C := Try.checked) walReads_own started (by kernel_rfl) Try.func5
    (ChangeSpec.witness6 (enc := enc) (C := Try.checked) false ⟨#[], #[.slice none 0 0, .string ⟨#[]⟩, .string ⟨#[]⟩], []⟩ 8 (by kernel_rfl) (by kernel_rfl) (by kernel_rfl) (by kernel_rfl)) ?_
  intro W base args ds gs before hval0 hW hcnd _
  have hval : ∀ (j : Nat) t v, Try.f5.params[j]? = some t → args[j]? = some v → Value.okWide Try.prog W .any base t v := hval0
  have hW' := hW
  obtain ⟨p, q, hA0, hV, rfl, hfz, hnd⟩ := hW
  have hA : DataW.TrodAll enc Try.prog W 0 (fun _ => true) true Try.f5.params.toList args.toList ds p := hA0
  rw [Try.params5] at hA hval
  obtain ⟨v0, v1, v2, d0, d1, d2, p0, p1, p2, rfl, rfl, rfl, h0, h1, h2⟩ := trodAll_three hA
  obtain ⟨rfl, rfl⟩ := trodVars_none hV
  obtain ⟨pa, n, cap, rfl⟩ := okWide_slice Try.underlying33 (hval 0 33 v0 rfl rfl)
  obtain ⟨xb, xo, S, x1, x2, x3⟩ := open_texts h0
  obtain ⟨t, rfl, rfl, rfl, ht⟩ := open_string Try.underlying9 (hval 1 9 v1 rfl rfl) h1
  obtain ⟨z, rfl, rfl, rfl, hz⟩ := open_string Try.underlying9 (hval 2 9 v2 rfl rfl) h2
  clear hA0 hval0 hval
  simp only [List.append_nil] at hW'
  have law : Calls Try.prog 5 #[.slice pa n cap, .string t, .string z] W fun e w' => e = .returned (.bool true) ∧ W.grownBy w' none := by
    by_cases hr : z.size ≤ 1000
    · exact reads_a pa n cap xb xo S t z W x1 x2 (by unfold maxLen at x3; omega) hr
    · exact reads_b pa n cap xb xo S t z W x1 x2 (by unfold maxLen at x3; omega) (by omega)
  refine law.mono fun e W' ⟨he, hw⟩ => ?_
  subst he
  exact ⟨_, rfl, post_true (b := 4) hW' rfl (by kernel_rfl) (by kernel_rfl) (by kernel_rfl) Try.underlying4 rfl hw⟩
theorem walReads_holds : Rows.WalReadsSaid :=
  OpenClaim.holds_of_wide 5 Try.f5 rfl rfl rfl rfl rfl rfl rfl ⟨rfl, rfl, rfl, rfl, rfl⟩ rfl rfl rfl rfl rfl (by kernel_rfl) Try.func5 (by kernel_rfl)
    (of_decide_eq_true (by kernel_rfl)) (by unfold Func.isWrapper; first | (rw [if_pos (by decide +kernel)]; kernel_rfl) | (rw [if_neg (by decide +kernel)]; exact ⟨rfl, rfl⟩))
    (fun os started H enc _ => walReads_lifted os started H enc)
#print axioms walReads_holds
end Go.Proofs.Ytddnjlnnkeiplaa
