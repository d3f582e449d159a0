/-
  The document's own passing over of spaces and notes.
-/
import Derived.Test.YthpeckoleiecbaaDoorGp
namespace Go.Proofs.YthpeckoleiecbaaDoor
open Go.RowKit
theorem gap_at (s : ByteArray) (j : Nat) (h : j < s.size) (hg : isG s[j] = true) : gapE s (j + 1) = gapE s j := by
  unfold gapE
  rw [drop_at s j h, skip_gap _ _ hg]
theorem gap_stop (s : ByteArray) (j : Nat) (h : j < s.size) (hg : isG s[j] = false) (hn : ∀ (h1 : j + 1 < s.size), s[j] = 47 → s[j + 1] ≠ 47) : gapE s j = j := by
  refine gap_here s j (by omega) ?_
  rw [drop_at s j h]
  refine skip_word _ _ hg ?_
  rintro ⟨e1, e2⟩
  by_cases h1 : j + 1 < s.size
  · rw [drop_at s (j + 1) h1] at e2
    simp at e2
    exact hn h1 e1 e2
  · rw [drop_end s (j + 1) h1] at e2
    cases e2
theorem note_at (s : ByteArray) (j : Nat) (h : j + 1 < s.size) (e1 : s[j] = 47) (e2 : s[j + 1] = 47) : gapE s (j + runN noLf (s.toList.drop j)) = gapE s j := by
  refine (gap_note s j ?_).1
  rw [drop_at s j (by omega), drop_at s (j + 1) h, e1, e2]
  rfl
theorem gap_end (s : ByteArray) (j : Nat) (hj : j ≤ s.size) (h : ¬ j < s.size) : gapE s j = j := by
  refine gap_here s j hj ?_
  rw [drop_end s j h]
  rfl
theorem isG_no {c : UInt8} (h : isG c = false) : (((c.toNat : Int) == 32) = false) ∧ (((c.toNat : Int) == 9) = false) ∧ (((c.toNat : Int) == 10) = false) := by
  rw [isG_iff] at h
  simp only [Bool.or_eq_false_iff] at h
  exact ⟨h.1.1, h.1.2, h.2⟩
end Go.Proofs.YthpeckoleiecbaaDoor
