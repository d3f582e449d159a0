/-
  Marks, digests and the end: the program's reader and the document's.
-/
import Derived.Test.YtddnjlnnkeiplaaWRefNum
namespace Go.Proofs.Ytddnjlnnkeiplaa.Wi
open Go.RowKit
def bolN (s : ByteArray) : Nat := leT (takeV s 1) (takeV s 1).size
def bolF (s : ByteArray) : Nat := if 1 < bolN s then 6 else 0
def bolS (s : ByteArray) (e : Nat) : ByteArray := failS (takeS s e 1) (takeE s e 1) (bolF s)
def bolE (s : ByteArray) (e : Nat) : Nat := failE (takeE s e 1) (bolF s)
theorem bolN_lt (s : ByteArray) : bolN s < 256 := by
  have h1 := leT_lt (takeV s 1) (takeV s 1).size
  have h2 := takeV_le s 1
  have h3 : 2 ^ (8 * (takeV s 1).size) ≤ 2 ^ 8 := Nat.pow_le_pow_right (by omega) (by omega)
  unfold bolN
  omega
theorem bolN_none (s : ByteArray) (e : Nat) (he : Shut s e) (h : takeE s e 1 ≠ 0) : bolN s = 0 := by
  have h1 : s.size < 1 := by
    by_cases h1 : s.size < 1
    · exact h1
    · unfold takeE at h
      rw [if_neg h1] at h
      rw [he h]
      decide
  unfold bolN
  have e4 : takeV s 1 = ⟨#[]⟩ := by unfold takeV; rw [if_pos h1]
  rw [e4]
  rfl
theorem bol_shut (s : ByteArray) (e : Nat) (he : Shut s e) : Shut (bolS s e) (bolE s e) := fail_shut _ _ _ (take_shut _ _ _ he)
end Go.Proofs.Ytddnjlnnkeiplaa.Wi
