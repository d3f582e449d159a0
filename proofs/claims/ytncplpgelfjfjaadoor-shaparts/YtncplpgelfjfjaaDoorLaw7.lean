/-
  The law ShaClashes walked: of whatever two texts it answers true, and nothing that was there turns, where the three tables hold what the program's text lays in them.
-/
import Derived.Test.YtncplpgelfjfjaaDoorRefSum
import Derived.Test.YtncplpgelfjfjaaDoorAwake
import Derived.Test.YtncplpgelfjfjaaDoorSame
namespace Go.Proofs.YtncplpgelfjfjaaDoor
open Go.RowKit
theorem toList_ne {a b : ByteArray} (h : ¬ a = b) : (a.toList == b.toList) = false := by
  rw [beq_eq_false_iff_ne]
  intro e
  apply h
  rw [ByteArray.toList_eq, ByteArray.toList_eq] at e
  apply ByteArray.ext
  exact Array.toList_inj.1 e
set_option maxRecDepth 100000 in
set_option maxHeartbeats 400000 in
theorem law7_in (a b x y D E : ByteArray) (w : World) (ht : Tabs w) (r t : Bool) (ex : fewS a = x) (ey : fewS b = y) (eD : digestS x = D) (eE : digestS y = E) (er : decide (x = y) = r) (et : decide (D = E) = t) :
    Calls Tryd.prog 7 #[.string a, .string b] w fun e w' => e = .returned (.bool true) ∧ w.grownBy w' none := by
  have HT : Hid (Tabs w) := ht
  have hx : x.size ≤ 1200 := by rw [← ex]; exact fewS_size a
  have hy : y.size ≤ 1200 := by rw [← ey]; exact fewS_size b
  have CX : Hid (∀ w, Calls Tryd.prog 12 #[.string a] w fun e w' => e = .returned (.string x) ∧ w' = w) := fun w => by rw [← ex]; exact few_any a w
  have CY : Hid (∀ w, Calls Tryd.prog 12 #[.string b] w fun e w' => e = .returned (.string y) ∧ w' = w) := fun w => by rw [← ey]; exact few_any b w
  have RX : Hid (∀ w, Calls Tryd.prog 13 #[.string x] w fun e w' => e = .returned (.string D) ∧ w.grownBy w' none) := fun w => by rw [← eD]; exact refSum_any x w (by omega)
  have RY : Hid (∀ w, Calls Tryd.prog 13 #[.string y] w fun e w' => e = .returned (.string E) ∧ w.grownBy w' none) := fun w => by rw [← eE]; exact refSum_any y w (by omega)
  have CS : Hid (∀ w, Calls Tryd.prog 21 #[.string x, .string y] w fun e w' => e = .returned (.bool r) ∧ w.grownBy w' none) := fun w => by rw [← er]; exact same_any x y w (by omega)
  have CC : Hid (∀ w, Tabs w → Calls Tryd.prog 20 #[.agg #[.string x, .string y]] w fun e w' => e = .returned (.bool (!r && t)) ∧ w.grownBy w' none) := fun w h => by rw [← er, ← et, ← eD, ← eE]; exact collide_any x y w h (by omega) (by omega)
  have hr : (x.toList == y.toList) = r := by
    cases r
    · exact toList_ne (of_decide_eq_false er)
    · rw [of_decide_eq_true er]; exact beq_self_eq_true _
  have hd : (D.toList == E.toList) = t := by
    cases t
    · exact toList_ne (of_decide_eq_false et)
    · rw [of_decide_eq_true et]; exact beq_self_eq_true _
  clear ex ey eD eE er et ht hx hy
  cases r
  · cases t
    · go_enter Tryd.func7, Tryd.ntmps7
      go_wp2_with (first | (go_at_call 12; refine calls_at (args := #[.string a]) rfl ?_; refine (CX.out _).mono ?_; rintro e w' ⟨rfl, hw⟩; have hw2 := hw.symm; clear hw; subst hw2) | (go_at_call 12; refine calls_at (args := #[.string b]) rfl ?_; refine (CY.out _).mono ?_; rintro e w' ⟨rfl, hw⟩; have hw2 := hw.symm; clear hw; subst hw2) | (go_at_call 8; refine (awake_any _ HT.out).mono ?_; rintro e w1 ⟨rfl, hg1⟩; have G1 : Hid (w.grownBy w1 none) := hg1; clear hg1) | (go_at_call 21; refine (CS.out _).mono ?_; rintro e w2 ⟨rfl, hg2⟩; have G2 : Hid (w.grownBy w2 none) := grown_none G1.out hg2; clear hg2 G1) | (go_at_call 20; refine (CC.out _ (HT.out.kept G2.out (by simp) (by simp) (by simp))).mono ?_; rintro e w3 ⟨rfl, hg3⟩; have G3 : Hid (w.grownBy w3 none) := grown_none G2.out hg3; clear hg3 G2) | (go_at_call 13; refine calls_at (args := #[.string x]) rfl ?_; refine (RX.out _).mono ?_; rintro e w4 ⟨rfl, hg4⟩; have G4 : Hid (w.grownBy w4 none) := grown_none G3.out hg4; clear hg4 G3) | (go_at_call 13; refine calls_at (args := #[.string y]) rfl ?_; refine (RY.out _).mono ?_; rintro e w5 ⟨rfl, hg5⟩; have G5 : Hid (w.grownBy w5 none) := grown_none G4.out hg5; clear hg5 G4))
      go_ret
      exact ⟨rfl, G5.out⟩
    · go_enter Tryd.func7, Tryd.ntmps7
      go_wp2_with (first | (go_at_call 12; refine calls_at (args := #[.string a]) rfl ?_; refine (CX.out _).mono ?_; rintro e w' ⟨rfl, hw⟩; have hw2 := hw.symm; clear hw; subst hw2) | (go_at_call 12; refine calls_at (args := #[.string b]) rfl ?_; refine (CY.out _).mono ?_; rintro e w' ⟨rfl, hw⟩; have hw2 := hw.symm; clear hw; subst hw2) | (go_at_call 8; refine (awake_any _ HT.out).mono ?_; rintro e w1 ⟨rfl, hg1⟩; have G1 : Hid (w.grownBy w1 none) := hg1; clear hg1) | (go_at_call 21; refine (CS.out _).mono ?_; rintro e w2 ⟨rfl, hg2⟩; have G2 : Hid (w.grownBy w2 none) := grown_none G1.out hg2; clear hg2 G1) | (go_at_call 20; refine (CC.out _ (HT.out.kept G2.out (by simp) (by simp) (by simp))).mono ?_; rintro e w3 ⟨rfl, hg3⟩; have G3 : Hid (w.grownBy w3 none) := grown_none G2.out hg3; clear hg3 G2) | (go_at_call 13; refine calls_at (args := #[.string x]) rfl ?_; refine (RX.out _).mono ?_; rintro e w4 ⟨rfl, hg4⟩; have G4 : Hid (w.grownBy w4 none) := grown_none G3.out hg4; clear hg4 G3) | (go_at_call 13; refine calls_at (args := #[.string y]) rfl ?_; refine (RY.out _).mono ?_; rintro e w5 ⟨rfl, hg5⟩; have G5 : Hid (w.grownBy w5 none) := grown_none G4.out hg5; clear hg5 G4))
      go_ret
      exact ⟨rfl, G5.out⟩
  · go_enter Tryd.func7, Tryd.ntmps7
    go_wp2_with (first | (go_at_call 12; refine calls_at (args := #[.string a]) rfl ?_; refine (CX.out _).mono ?_; rintro e w' ⟨rfl, hw⟩; have hw2 := hw.symm; clear hw; subst hw2) | (go_at_call 12; refine calls_at (args := #[.string b]) rfl ?_; refine (CY.out _).mono ?_; rintro e w' ⟨rfl, hw⟩; have hw2 := hw.symm; clear hw; subst hw2) | (go_at_call 8; refine (awake_any _ HT.out).mono ?_; rintro e w1 ⟨rfl, hg1⟩; have G1 : Hid (w.grownBy w1 none) := hg1; clear hg1) | (go_at_call 21; refine (CS.out _).mono ?_; rintro e w2 ⟨rfl, hg2⟩; have G2 : Hid (w.grownBy w2 none) := grown_none G1.out hg2; clear hg2 G1) | (go_at_call 20; refine (CC.out _ (HT.out.kept G2.out (by simp) (by simp) (by simp))).mono ?_; rintro e w3 ⟨rfl, hg3⟩; have G3 : Hid (w.grownBy w3 none) := grown_none G2.out hg3; clear hg3 G2))
    go_ret
    exact ⟨rfl, G3.out⟩
theorem law7_any (a b : ByteArray) (w : World) (ht : Tabs w) : Calls Tryd.prog 7 #[.string a, .string b] w fun e w' => e = .returned (.bool true) ∧ w.grownBy w' none :=
  law7_in a b _ _ _ _ w ht _ _ rfl rfl rfl rfl rfl rfl
end Go.Proofs.YtncplpgelfjfjaaDoor
