/-
  Which words are kept: the program's and the document's.
-/
import Derived.Test.YthpeckoleiecbaaDoorBa
namespace Go.Proofs.YthpeckoleiecbaaDoor
open Go.RowKit
set_option maxRecDepth 100000 in
set_option maxHeartbeats 1000000 in
theorem word_any (s : ByteArray) (w : World) : Calls Tryd.prog 34 #[.string s] w fun e w' => e = .returned (.bool (wordL s.toList)) ∧ w' = w := by
  obtain ⟨b, hb⟩ : ∃ b, wordL s.toList = b := ⟨_, rfl⟩
  rw [hb]
  have H := hid hb
  clear hb
  go_enter Tryd.func34, Tryd.ntmps34
  go_wp2
  all_goals (
    first
      | (exfalso; simp_all; done)
      | (go_ret
         refine ret_bool (Eq.trans ?_ H.out)
         simp only [wordL, keptL, List.contains_cons, Bool.true_or, Bool.or_true, Bool.false_or, List.contains_nil, *]))
def keptB : List ByteArray := [⟨#[102, 117, 110, 99]⟩, ⟨#[116, 101, 115, 116]⟩, ⟨#[118, 97, 114]⟩, ⟨#[105, 102]⟩, ⟨#[101, 108, 115, 101]⟩, ⟨#[102, 111, 114]⟩, ⟨#[114, 101, 116, 117, 114, 110]⟩, ⟨#[97, 115, 115, 101, 114, 116]⟩, ⟨#[115, 107, 105, 112]⟩, ⟨#[116, 114, 117, 101]⟩, ⟨#[102, 97, 108, 115, 101]⟩, ⟨#[105, 110, 116]⟩, ⟨#[102, 108, 111, 97, 116]⟩, ⟨#[98, 111, 111, 108]⟩]
theorem keptB_len : keptB.length = 14 := rfl
theorem keptB_lists : keptB.map ByteArray.toList = keptL := by
  simp only [keptB, keptL, List.map_cons, List.map_nil, ByteArray.toList_eq]
theorem wordL_no (l : List UInt8) (h : ∀ j, (hj : j < keptB.length) → (keptB[j].toList == l) = false) : wordL l = false := by
  unfold wordL
  rw [← keptB_lists, ← Bool.not_eq_true, List.contains_iff_mem, List.mem_map]
  rintro ⟨b, hb, rfl⟩
  obtain ⟨j, hj, rfl⟩ := List.getElem_of_mem hb
  have := h j hj
  simp at this
theorem wordL_yes (l : List UInt8) (j : Nat) (hj : j < keptB.length) (h : (keptB[j].toList == l) = true) : wordL l = true := by
  unfold wordL
  rw [← keptB_lists, List.contains_iff_mem, List.mem_map]
  exact ⟨keptB[j], List.getElem_mem hj, beq_iff_eq.1 h⟩
end Go.Proofs.YthpeckoleiecbaaDoor
