/-
  The order of sites is a strict weak one.
-/
import Derived.Test.YtajoncmmdeahnaaGreatDoorJc
import Derived.Sort.LotA
import Derived.Sort.Walk0
namespace Go.Proofs.YtajoncmmdeahnaaGreatDoor
open Go.RowKit Go.Lib Go.Sort
namespace Ip
def ltP (x y : ByteArray × Int) : Prop := x.1.toList < y.1.toList ∨ (x.1.toList = y.1.toList ∧ x.2 < y.2)
theorem cfSt_lt (x y : ByteArray × Int) : cfSt x y < 0 ↔ ltP x y := by
  have eb := bytesLess_eq x.1.toList y.1.toList
  unfold cfSt orN cmpS cmpN ltP
  by_cases h : x.1.toList < y.1.toList
  · have e1 : Op.bytesLess x.1.toList y.1.toList = true := by rw [eb]; exact decide_eq_true h
    rw [if_pos e1]
    simp [h]
  · have e1 : ¬ Op.bytesLess x.1.toList y.1.toList = true := by rw [eb]; simp [h]
    rw [if_neg e1]
    by_cases e : x.1.toList = y.1.toList
    · have e2 : ¬ (!x.1.toList == y.1.toList) = true := by simp [e]
      rw [if_neg e2]
      simp only [if_true, e, List.lt_irrefl, true_and, false_or]
      by_cases h1 : x.2 < y.2
      · simp [h1]
      · by_cases h2 : y.2 < x.2 <;> simp [h1, h2]
    · have e2 : (!x.1.toList == y.1.toList) = true := by simp [e]
      rw [if_pos e2]
      simp [h, e]
theorem ltP_irrefl (x : ByteArray × Int) : ¬ ltP x x := by
  unfold ltP
  rintro (h | ⟨_, h⟩)
  · exact List.lt_irrefl _ h
  · omega
theorem ltP_trans {x y z : ByteArray × Int} (h1 : ltP x y) (h2 : ltP y z) : ltP x z := by
  unfold ltP at *
  rcases h1 with h1 | ⟨e1, h1⟩
  · rcases h2 with h2 | ⟨e2, h2⟩
    · exact Or.inl (List.lt_trans h1 h2)
    · rw [← e2]; exact Or.inl h1
  · rcases h2 with h2 | ⟨e2, h2⟩
    · rw [e1]; exact Or.inl h2
    · exact Or.inr ⟨e1.trans e2, by omega⟩
theorem ltP_ntrans {x y z : ByteArray × Int} (h1 : ¬ ltP x y) (h2 : ¬ ltP y z) : ¬ ltP x z := by
  unfold ltP at *
  have a1 : y.1.toList ≤ x.1.toList := List.not_lt.1 fun h => h1 (Or.inl h)
  have a2 : z.1.toList ≤ y.1.toList := List.not_lt.1 fun h => h2 (Or.inl h)
  have a3 : z.1.toList ≤ x.1.toList := List.le_trans a2 a1
  rintro (h | ⟨e, h⟩)
  · exact List.not_lt.2 a3 h
  · have b1 : x.1.toList = y.1.toList := List.le_antisymm (by rw [e]; exact a2) a1
    have b2 : y.1.toList = z.1.toList := b1.symm.trans e
    have c1 : ¬ x.2 < y.2 := fun h => h1 (Or.inr ⟨b1, h⟩)
    have c2 : ¬ y.2 < z.2 := fun h => h2 (Or.inr ⟨b2, h⟩)
    omega
theorem swo_st : SWO (fun x y : ByteArray × Int => decide (cfSt x y < 0)) where
  irrefl x := decide_eq_false fun h => ltP_irrefl x ((cfSt_lt x x).1 h)
  trans x y z h1 h2 := decide_eq_true ((cfSt_lt x z).2 (ltP_trans ((cfSt_lt x y).1 (of_decide_eq_true h1)) ((cfSt_lt y z).1 (of_decide_eq_true h2))))
  ntrans x y z h1 h2 := decide_eq_false fun h => ltP_ntrans (fun h' => of_decide_eq_false h1 ((cfSt_lt x y).2 h')) (fun h' => of_decide_eq_false h2 ((cfSt_lt y z).2 h')) ((cfSt_lt x z).1 h)
end Ip
end Go.Proofs.YtajoncmmdeahnaaGreatDoor
