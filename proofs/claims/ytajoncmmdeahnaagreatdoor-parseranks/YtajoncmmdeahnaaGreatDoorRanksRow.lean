/-
  THE CARD OF ParseRanks: for every list of picks the law returns true, and it reads behind the call as it read before; the tables of the packages strconv, bits and utf8 hold when the call begins what the program's text lays in them (tied).
-/
import Derived.Test.YtajoncmmdeahnaaGreatDoorRows
import Derived.Test.YtajoncmmdeahnaaGreatDoorRs
import Derived.Test.YtajoncmmdeahnaaGreatDoorLd
import Derived.Test.YtajoncmmdeahnaaGreatDoorRkFacts
import Derived.Test.YtajoncmmdeahnaaGreatDoorPost
import Derived.Test.YtajoncmmdeahnaaGreatDoorCards
import Derived.Test.YtajoncmmdeahnaaGreatDoorTie
import Derived.ChangeSlices
import Derived.ProofKit
import Derived.LaidMore
import Derived.Lay
import Derived.OpenShut
import Derived.Stop.Joined
namespace Go.Proofs.YtajoncmmdeahnaaGreatDoor
open Go.ChangeMaps Go.ChangeShapes Go.WideShapes Go.ChangeAt Go.WideMaps Go.WideElems Go.RowKit
namespace Rk
theorem c3 : Tryz.prog.cellsOf 3 = 1 := by kernel_rfl
theorem open_nums {H : Type} {enc : TypeId × Value → H} {W : World} {held : Bool} {fuel : Nat} {v : Value} {x : DataW H × List MemPlace} (hf : DataW.trod enc Tryz.prog W 0 (fun _ => true) held fuel 22 [v] = some x) :
    ∃ l : List Int, NumsV W v l ∧ l.length ≤ maxLen := by
  rcases open_ints Tryz.underlying22 Tryz.underlying3 c3 hf with ⟨hcs, _⟩ | ⟨a, len, cp, ss, hcs, _, hl, hm, hlen, _, hx, _⟩
  · simp at hcs
    subst hcs
    exact ⟨[], ⟨none, 0, 0, 0, rfl, fun h => absurd h (Nat.lt_irrefl _), fun _ h => absurd h (Nat.not_lt_zero _)⟩, Nat.zero_le _⟩
  · simp at hcs
    subst hcs
    simp only [if_true] at hlen
    have hs : 0 < len → a.spot = none := fun h0 => by
      have e0 := hx 0 (by omega)
      exact World.cell?_spot (v := .int .i64 (ss.getD 0 0)) (by simpa [Addr.add] using e0)
    have hl2 : (ss.take len).length = len := by rw [List.length_take]; omega
    obtain ⟨xb, xo, sp⟩ := a
    refine ⟨ss.take len, ⟨some ⟨xb, xo, sp⟩, cp, xb, xo, by rw [hl2], fun h => ?_, fun i hi => ?_⟩, by rw [hl2]; omega⟩
    · rw [hl2] at h
      have hs' : sp = none := hs h
      rw [hs']
    · rw [hl2] at hi
      have hs' : sp = none := hs (by omega)
      subst hs'
      have h := hx i (by omega)
      have e : ss.getD i 0 = (ss.take len)[i]'(by rw [hl2]; exact hi) := by
        rw [List.getElem_take, List.getD_eq_getElem?_getD, List.getElem?_eq_getElem (by omega)]
        rfl
      rw [e] at h
      by_cases e0 : i = 0
      · subst e0; simpa [Addr.add] using h
      · simpa [Addr.add, e0] using h
end Rk
theorem own : ownKnob Tryz.prog.godebug = none := by kernel_rfl
theorem laid_met (os : Os) (args : Array Value) : laidMetH Tryz.prog Rows.parseRanksRow.laid ((World.laidAll Tryz.prog os Rows.parseRanksRow.laid).forCall (fun _ _ => 0) ⟨#[], args, []⟩).memory :=
  laidMetH_of_parts3 (fuel := 8) (laidMet_laidAll _ (by kernel_rfl) (by kernel_rfl)) (by kernel_rfl) (by kernel_rfl)
set_option maxRecDepth 100000 in
theorem parseRanks_lifted (os : Os) (started : os.Started) (H : Type) (enc : TypeId × Value → H) :
    ReturnsInHanded {} Tryz.checked os 3 .any (fun w args => (Rows.parseRanksSpec.pre enc Tryz.prog Tryz.f3 [] false w args ∧ laidMetH Tryz.prog Rows.parseRanksRow.laid w) ∧ sizedMet enc Tryz.prog Tryz.f3 (OpenSpec.ofChange Rows.parseRanksSpec) false w args)
      (Rows.parseRanksSpec.post enc Tryz.prog Tryz.f3 false true false false) := by
  refine returnsInHanded_of_change_and (C := Tryz.checked) (X := fun w _ => laidMetH Tryz.prog Rows.parseRanksRow.laid w) (fun _ _ _ hh h => h.of_heap hh) own started (by kernel_rfl) Tryz.func3
    (ChangeSpec.witness_shaped (enc := enc) (C := Tryz.checked) (os := os) (X := fun w _ => laidMetH Tryz.prog Rows.parseRanksRow.laid w) false (World.laidAll Tryz.prog os Rows.parseRanksRow.laid) #[.slice none 0 0] 8 (World.laidAll_os _ _ _) (World.shaped_of_ZipB (by kernel_rfl) (by kernel_rfl)) (by kernel_rfl) (by kernel_rfl) (by kernel_rfl) (laid_met os _)) ?_
  intro W base args ds gs before hval0 hW _ _ hL _
  have hval : ∀ (j : Nat) t v, Tryz.f3.params[j]? = some t → args[j]? = some v → Value.okWide Tryz.prog W .any base t v := hval0
  have hW' := hW
  obtain ⟨p, q, hA0, hV, rfl, hfz, hnd⟩ := hW
  have hA : DataW.TrodAll enc Tryz.prog W 0 (fun _ => true) true Tryz.f3.params.toList args.toList ds p := hA0
  rw [Tryz.params3] at hA hval
  obtain ⟨v0, d0, rfl, rfl, h0⟩ := trodAll_one hA
  obtain ⟨rfl, rfl⟩ := trodVars_none hV
  have hG := glb_of (of_laid hL)
  obtain ⟨pa, n, cap, rfl⟩ := okWide_slice Tryz.underlying22 (hval 0 22 v0 rfl rfl)
  obtain ⟨fuel, hf⟩ := h0
  obtain ⟨xs, ⟨pa', c', g', o', e, hp, hc⟩, hm⟩ := Rk.open_nums hf
  rw [e] at hW'
  clear hA0 hval0 hval
  simp only [List.append_nil] at hW'
  rw [e]
  refine (Rk.ranks_law xs pa' c' g' o' W hG hm hp hc).mono fun e W' ⟨he, hw⟩ => ?_
  subst he
  exact ⟨_, rfl, post_true (b := 4) hW' rfl (by kernel_rfl) (by kernel_rfl) (by kernel_rfl) Tryz.underlying4 rfl hw⟩
theorem parseRanks_row : Rows.ParseRanksSaid :=
  OpenClaim.holds_of_wide 3 Tryz.f3 rfl rfl rfl rfl rfl rfl rfl ⟨rfl, rfl, rfl, rfl, rfl⟩ rfl rfl rfl rfl rfl (by kernel_rfl) Tryz.func3 ranks_facts
    (of_decide_eq_true (by kernel_rfl)) (by unfold Func.isWrapper; first | (rw [if_pos (by decide +kernel)]; kernel_rfl) | (rw [if_neg (by decide +kernel)]; exact ⟨rfl, rfl⟩))
    (fun os started H enc _ => parseRanks_lifted os started H enc)
theorem parseRanks_holds : Rows.ParseRanksCardSaid :=
  Claim7.holds_tied_plain_at .later [] [.data, .data, .widerDeep, .widerDeep, .data, .data, .data, .data, .data, .data, .sentinel, .sentinel, .pinned, .pinned, .pinned] true (true, "1f2a90a60597b934bb27e37cd04fc387d581047c90a4d78b5c680830cd1fdc43") true
    parseRanks_row (fun _ h => by cases h) (by kernel_rfl) (fun _ h => by cases h) parseRanks_row_tie rfl ⟨rfl, rfl⟩ (by kernel_rfl) rfl
    (fun f fn hf hfn => by
      obtain rfl : f = 3 := Option.some.inj ((show Tryz.prog.funcNamed "cupel/cupellaw11.ParseRanks" = some 3 by kernel_rfl).symm.trans hf) |>.symm
      obtain rfl : fn = Tryz.f3 := (Option.some.inj (Tryz.func3.symm.trans hfn)).symm
      exact ⟨by kernel_rfl, fun j t ht => by
        rw [Tryz.params3] at ht
        have hm : t ∈ [22] := by simpa using Array.mem_of_getElem? ht
        have hall : ([22].all fun u => !Tryz.prog.wantsStandIn u) = true := by kernel_rfl
        exact (show Tryz.prog.wantsStandIn t = false by simpa using List.all_eq_true.1 hall t hm)⟩)
    (by kernel_rfl)
end Go.Proofs.YtajoncmmdeahnaaGreatDoor
