/-
  The law ShaDigests walked: of whatever text it answers true, and nothing that was there turns, where the three tables hold what the program's text lays in them.
-/
import Derived.Test.YtncplpgelfjfjaaDoorRefSum
import Derived.Test.YtncplpgelfjfjaaDoorAwake
namespace Go.Proofs.YtncplpgelfjfjaaDoor
open Go.RowKit
set_option maxRecDepth 100000 in
set_option maxHeartbeats 400000 in
theorem law4_any (s : ByteArray) (w : World) (ht : Tabs w) : Calls Tryd.prog 4 #[.string s] w fun e w' => e = .returned (.bool true) ∧ w.grownBy w' none := by
  have HT : Hid (Tabs w) := ht
  clear ht
  obtain ⟨f, ef⟩ : ∃ f, fewS s = f := ⟨_, rfl⟩
  have hf : f.size ≤ 1200 := by rw [← ef]; exact fewS_size s
  have C12 : Hid (∀ w, Calls Tryd.prog 12 #[.string s] w fun e w' => e = .returned (.string f) ∧ w' = w) := fun w => by rw [← ef]; exact few_any s w
  obtain ⟨D, eD⟩ : ∃ D, digestS f = D := ⟨_, rfl⟩
  have C11 : Hid (∀ w, Tabs w → Calls Tryd.prog 11 #[.string f] w fun e w' => e = .returned (.string D) ∧ w.grownBy w' none) := fun w h => by rw [← eD]; exact sumAll_any f w h (by omega)
  have C13 : Hid (∀ w, Calls Tryd.prog 13 #[.string f] w fun e w' => e = .returned (.string D) ∧ w.grownBy w' none) := fun w => by rw [← eD]; exact refSum_any f w (by omega)
  clear ef eD
  go_enter Tryd.func4, Tryd.ntmps4
  go_wp2_with (first | (go_at_call 8; refine (awake_any w HT.out).mono ?_; rintro e w1 ⟨rfl, hg1⟩; have G1 : Hid (w.grownBy w1 none) := hg1; clear hg1) | (go_at_call 12; refine (C12.out _).mono ?_; rintro e w2 ⟨rfl, rfl⟩) | (go_at_call 11; refine (C11.out _ (HT.out.kept G1.out (by simp) (by simp) (by simp))).mono ?_; rintro e w3 ⟨rfl, hg3⟩; have G3 : Hid (w.grownBy w3 none) := grown_none G1.out hg3; clear hg3) | (go_at_call 13; refine (C13.out _).mono ?_; rintro e w4 ⟨rfl, hg4⟩; have G4 : Hid (w.grownBy w4 none) := grown_none G3.out hg4; clear hg4))
  go_ret
  exact ⟨rfl, G4.out⟩
end Go.Proofs.YtncplpgelfjfjaaDoor
