/-
  PageLimits: for every pair of numbers, every length of a value and every oddity the law returns true, and the input reads behind the call as it read before.
-/
import Derived.Test.YtomknaendicpkaaRows
import Derived.Test.YtomknaendicpkaaLimA
import Derived.Test.YtomknaendicpkaaLimB
import Derived.Test.YtomknaendicpkaaLimC
import Derived.Test.YtomknaendicpkaaLimD
import Derived.Test.YtomknaendicpkaaLimE
import Derived.Test.YtomknaendicpkaaLimAn
import Derived.Test.YtomknaendicpkaaLimBn
import Derived.Test.YtomknaendicpkaaLimCn
import Derived.Test.YtomknaendicpkaaLimEn
import Derived.Test.YtomknaendicpkaaLimZ
import Derived.Test.YtomknaendicpkaaLimZn
import Derived.Test.YtomknaendicpkaaOpenPg
import Derived.WideKeyPair
namespace Go.Proofs.Ytomknaendicpkaa
open Go.ChangeMaps Go.ChangeShapes Go.WideShapes Go.ChangeAt Go.WideMaps Go.WideElems Go.RowKit
theorem law6_any (a0 a1 value odd : Int) (w : World) : Calls Try.prog 6 #[.agg #[.int .i64 a0, .int .i64 a1], .int .i64 value, .int .i64 odd] w fun e w' => e = .returned (.bool true) ∧ w.grownBy w' none := by
  obtain ⟨n, hn, hn15⟩ := and_le a0 15 (by omega)
  obtain ⟨k, hk, hk127⟩ := and_le a1 127 (by omega)
  obtain ⟨d, hd, hd3⟩ := and_le odd 3 (by omega)
  have hn' : bits .and .i64 a0 15 = (n : Int) := hn
  have hk' : bits .and .i64 a1 127 = (k : Int) := hk
  have hd' : bits .and .i64 odd 3 = (d : Int) := hd
  obtain ⟨t, ht⟩ : ∃ t, value.tmod 8300 = t := ⟨_, rfl⟩
  have h1 : t < 8300 := by rw [← ht]; exact Int.tmod_lt_of_pos value (by omega)
  have h2 : -8300 < t := by
    rw [← ht]
    rcases Int.le_total 0 value with h | h
    · have := Int.tmod_nonneg 8300 h; omega
    · have h3 := Int.tmod_lt_of_pos (-value) (show (0 : Int) < 8300 by omega)
      rw [Int.neg_tmod] at h3; omega
  by_cases ht0 : t < 0
  · by_cases hz : 0 < n
    · by_cases o1 : n ≤ 8
      · by_cases o2 : 1 ≤ k
        · by_cases o3 : k ≤ 64
          · exact lim_en a0 a1 value odd n k d t ht ht0 h2 hn' hk' hd' hn15 hk127 hd3 hz o1 o2 o3 w
          · exact lim_cn a0 a1 value odd n k d t ht ht0 h2 hn' hk' hd' hn15 hk127 hd3 hz o1 o2 o3 w
        · exact lim_bn a0 a1 value odd n k d t ht ht0 h2 hn' hk' hd' hn15 hk127 hd3 hz o1 o2 w
      · exact lim_an a0 a1 value odd n k d t ht ht0 h2 hn' hk' hd' hn15 hk127 hd3 hz o1 w
    · exact lim_zn a0 a1 value odd n k d t ht ht0 h2 hn' hk' hd' hn15 hk127 hd3 hz w
  · obtain ⟨V, rfl⟩ : ∃ V : Nat, t = V := ⟨t.toNat, by omega⟩
    have h1' : V < 8300 := by omega
    by_cases hz : 0 < n
    · by_cases o1 : n ≤ 8
      · by_cases o2 : 1 ≤ k
        · by_cases o3 : k ≤ 64
          · by_cases o4 : V ≤ 8192
            · exact lim_e a0 a1 value odd n k d V ht h1' hn' hk' hd' hn15 hk127 hd3 hz o1 o2 o3 o4 w
            · exact lim_d a0 a1 value odd n k d V ht h1' hn' hk' hd' hn15 hk127 hd3 hz o1 o2 o3 o4 w
          · exact lim_c a0 a1 value odd n k d V ht h1' hn' hk' hd' hn15 hk127 hd3 hz o1 o2 o3 w
        · exact lim_b a0 a1 value odd n k d V ht h1' hn' hk' hd' hn15 hk127 hd3 hz o1 o2 w
      · exact lim_a a0 a1 value odd n k d V ht h1' hn' hk' hd' hn15 hk127 hd3 hz o1 w
    · exact lim_z a0 a1 value odd n k d V ht h1' hn' hk' hd' hn15 hk127 hd3 hz w
theorem arr47 : ArrKey Try.prog 47 3 2 := ⟨Try.underlying47, by kernel_rfl, by kernel_rfl, by kernel_rfl⟩
theorem pageLimits_own : ownKnob Try.prog.godebug = none := by kernel_rfl
set_option maxRecDepth 100000 in
theorem pageLimits_lifted (os : Os) (started : os.Started) (H : Type) (enc : TypeId × Value → H) :
    ReturnsInHanded {} Try.checked os 6 .any (Rows.pageLimitsSpec.pre6 enc Try.prog Try.f6 Rows.pageLimitsRow.domain false) (Rows.pageLimitsSpec.post enc Try.prog Try.f6 false true false false) := by
  refine returnsInHanded_of_change (C := Try.checked) pageLimits_own started (by kernel_rfl) Try.func6
    (ChangeSpec.witness6 (enc := enc) (C := Try.checked) false ⟨#[], #[.agg #[.int .i64 0, .int .i64 0], .int .i64 0, .int .i64 0], []⟩ 8 (by kernel_rfl) (by kernel_rfl) (by kernel_rfl) (by kernel_rfl)) ?_
  intro W base args ds gs before hval0 hW hcnd _
  have hval : ∀ (j : Nat) t v, Try.f6.params[j]? = some t → args[j]? = some v → Value.okWide Try.prog W .any base t v := hval0
  have hW' := hW
  obtain ⟨p, q, hA0, hV, rfl, hfz, hnd⟩ := hW
  have hA : DataW.TrodAll enc Try.prog W 0 (fun _ => true) true Try.f6.params.toList args.toList ds p := hA0
  rw [Try.params6] at hA hval
  obtain ⟨v0, v1, v2, d0, d1, d2, p0, p1, p2, rfl, rfl, rfl, h0, h1, h2⟩ := trodAll_three hA
  obtain ⟨rfl, rfl⟩ := trodVars_none hV
  obtain ⟨a, b, rfl, rfl, rfl, _, _⟩ := open_pair arr47 Try.underlying3 (hval 0 47 v0 rfl rfl) h0
  obtain ⟨s, rfl, rfl, rfl, hs⟩ := open_int Try.underlying3 (hval 1 3 v1 rfl rfl) h1
  obtain ⟨o, rfl, rfl, rfl, ho⟩ := open_int Try.underlying3 (hval 2 3 v2 rfl rfl) h2
  clear hA0 hval0 hval
  simp only [List.append_nil] at hW'
  refine (law6_any a b s o W).mono fun e W' ⟨he, hw⟩ => ?_
  subst he
  exact ⟨_, rfl, post_true (b := 4) hW' rfl (by kernel_rfl) (by kernel_rfl) (by kernel_rfl) Try.underlying4 rfl hw⟩
theorem pageLimits_holds : Rows.PageLimitsSaid :=
  OpenClaim.holds_of_wide 6 Try.f6 rfl rfl rfl rfl rfl rfl rfl ⟨rfl, rfl, rfl, rfl, rfl⟩ rfl rfl rfl rfl rfl (by kernel_rfl) Try.func6 (by kernel_rfl)
    (of_decide_eq_true (by kernel_rfl)) (by unfold Func.isWrapper; first | (rw [if_pos (by decide +kernel)]; kernel_rfl) | (rw [if_neg (by decide +kernel)]; exact ⟨rfl, rfl⟩))
    (fun os started H enc _ => pageLimits_lifted os started H enc)
#print axioms pageLimits_holds
end Go.Proofs.Ytomknaendicpkaa
