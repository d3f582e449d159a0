/-
  PageFinds: for every page and every key the law returns true, and both read behind the call as they read before.
-/
import Derived.Test.YtomknaendicpkaaRows
import Derived.Test.YtomknaendicpkaaFindsLaw
import Derived.Test.YtomknaendicpkaaOpenPg
namespace Go.Proofs.Ytomknaendicpkaa
open Go.ChangeMaps Go.ChangeShapes Go.WideShapes Go.ChangeAt Go.WideMaps Go.WideElems Go.RowKit
theorem law5_any (v : Value) (p : Pg) (key : ByteArray) (w : World) (h : PgV w v p) (hf : p.fits) : Calls Try.prog 5 #[v, .string key] w fun e w' => e = .returned (.bool true) ∧ w.grownBy w' none := by
  cases hm : mayP p with
  | true => exact finds_ok v p key w h hf hm
  | false => exact finds_bad v p key w h hf hm
theorem pageFinds_own : ownKnob Try.prog.godebug = none := by kernel_rfl
set_option maxRecDepth 100000 in
theorem pageFinds_lifted (os : Os) (started : os.Started) (H : Type) (enc : TypeId × Value → H) :
    ReturnsInHanded {} Try.checked os 5 .any (Rows.pageFindsSpec.pre6 enc Try.prog Try.f5 Rows.pageFindsRow.domain false) (Rows.pageFindsSpec.post enc Try.prog Try.f5 false true false false) := by
  refine returnsInHanded_of_change (C := Try.checked) pageFinds_own started (by kernel_rfl) Try.func5
    (ChangeSpec.witness6 (enc := enc) (C := Try.checked) false ⟨#[], #[.agg #[.bool false, .slice none 0 0, .slice none 0 0, .slice none 0 0], .string ⟨#[]⟩], []⟩ 8 (by kernel_rfl) (by kernel_rfl) (by kernel_rfl) (by kernel_rfl)) ?_
  intro W base args ds gs before hval0 hW hcnd _
  have hval : ∀ (j : Nat) t v, Try.f5.params[j]? = some t → args[j]? = some v → Value.okWide Try.prog W .any base t v := hval0
  have hW' := hW
  obtain ⟨p, q, hA0, hV, rfl, hfz, hnd⟩ := hW
  have hA : DataW.TrodAll enc Try.prog W 0 (fun _ => true) true Try.f5.params.toList args.toList ds p := hA0
  rw [Try.params5] at hA hval
  obtain ⟨v0, v1, d0, d1, p0, p1, rfl, rfl, rfl, h0, h1⟩ := trodAll_two hA
  obtain ⟨rfl, rfl⟩ := trodVars_none hV
  obtain ⟨s, rfl, rfl, rfl, hs⟩ := open_string Try.underlying9 (hval 1 9 v1 rfl rfl) h1
  obtain ⟨cs, rfl, _⟩ := okWide_struct Try.underlying25 (hval 0 25 v0 rfl rfl)
  obtain ⟨fuel, hf⟩ := h0
  obtain ⟨pg, a, b, c, hcs, hpg, hfit⟩ := open_pg hf
  obtain rfl : cs = #[.bool pg.leaf, a, b, c] := by
    rw [← Array.toList_inj]
    exact hcs
  clear hA0 hval0 hval
  simp only [List.append_nil] at hW'
  refine (law5_any _ pg s W hpg hfit).mono fun e W' ⟨he, hw⟩ => ?_
  subst he
  exact ⟨_, rfl, post_true (b := 4) hW' rfl (by kernel_rfl) (by kernel_rfl) (by kernel_rfl) Try.underlying4 rfl hw⟩
theorem pageFinds_holds : Rows.PageFindsSaid :=
  OpenClaim.holds_of_wide 5 Try.f5 rfl rfl rfl rfl rfl rfl rfl ⟨rfl, rfl, rfl, rfl, rfl⟩ rfl rfl rfl rfl rfl (by kernel_rfl) Try.func5 (by kernel_rfl)
    (of_decide_eq_true (by kernel_rfl)) (by unfold Func.isWrapper; first | (rw [if_pos (by decide +kernel)]; kernel_rfl) | (rw [if_neg (by decide +kernel)]; exact ⟨rfl, rfl⟩))
    (fun os started H enc _ => pageFinds_lifted os started H enc)
#print axioms pageFinds_holds
end Go.Proofs.Ytomknaendicpkaa
