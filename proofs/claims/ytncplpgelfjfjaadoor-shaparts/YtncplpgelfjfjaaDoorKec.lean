/-
  A turn of a sponge as a function of 25 numbers of 64 bits: columns, places, rows, a round's number. Nothing of the program is named here but by the contracts that it imports.
-/
import Derived.Test.YtncplpgelfjfjaaDoorLeaf
namespace Go.Proofs.YtncplpgelfjfjaaDoor
open Go.RowKit
def lan (F : Nat → BitVec 64) : Nat → Int := fun i => U (F i)
theorem lan_at (F : Nat → BitVec 64) (i : Nat) : lan F i = U (F i) := rfl
def col (F : Nat → BitVec 64) (x : Nat) : BitVec 64 := F x ^^^ F (x + 5) ^^^ F (x + 10) ^^^ F (x + 15) ^^^ F (x + 20)
def mixOf (F : Nat → BitVec 64) (x : Nat) : BitVec 64 := col F ((x + 4) % 5) ^^^ rotl (col F ((x + 1) % 5)) 1
def theta (F : Nat → BitVec 64) (i : Nat) : BitVec 64 := F i ^^^ mixOf F (i % 5)
/-- The lanes when k columns are done. -/
def mixed (F : Nat → BitVec 64) (k i : Nat) : BitVec 64 := if i % 5 < k then theta F i else F i
theorem mixed_same (F : Nat → BitVec 64) (k i : Nat) (h : i % 5 ≠ k) : mixed F (k + 1) i = mixed F k i := by
  unfold mixed
  by_cases e : i % 5 < k
  · rw [if_pos e, if_pos (by omega)]
  · rw [if_neg e, if_neg (by omega)]
theorem mixed_new (F : Nat → BitVec 64) (k i : Nat) (h : i % 5 = k) : mixed F (k + 1) i = mixed F k i ^^^ mixOf F k := by
  unfold mixed
  rw [if_pos (by omega), if_neg (by omega), theta, h]
theorem mixed_step (F : Nat → BitVec 64) (k : Nat) (hk : k < 5) (x : BitVec 64) (hx : x = mixOf F k) (i : Nat) (hi : i < 25) :
    upd (upd (upd (upd (upd (lan (mixed F k)) k (U (mixed F k k ^^^ x))) (k + 5) (U (mixed F k (k + 5) ^^^ x))) (k + 10) (U (mixed F k (k + 10) ^^^ x))) (k + 15) (U (mixed F k (k + 15) ^^^ x))) (k + 20) (U (mixed F k (k + 20) ^^^ x)) i = lan (mixed F (k + 1)) i := by
  subst hx
  by_cases e : i % 5 = k
  · rw [lan_at, mixed_new F k i e]
    obtain h | h | h | h | h : i = k ∨ i = k + 5 ∨ i = k + 10 ∨ i = k + 15 ∨ i = k + 20 := by omega
    all_goals (subst h; simp [upd])
  · rw [lan_at, mixed_same F k i e]
    unfold upd
    rw [if_neg (by omega), if_neg (by omega), if_neg (by omega), if_neg (by omega), if_neg (by omega), lan_at]
theorem mixed_all (F : Nat → BitVec 64) (i : Nat) : mixed F 5 i = theta F i := by
  unfold mixed; rw [if_pos (by omega)]
theorem mixed_none (F : Nat → BitVec 64) (i : Nat) : mixed F 0 i = F i := by simp [mixed]

/-- The rows are bent. -/
def chi (F : Nat → BitVec 64) (i : Nat) : BitVec 64 := F i ^^^ (~~~ F (5 * (i / 5) + (i % 5 + 1) % 5) &&& F (5 * (i / 5) + (i % 5 + 2) % 5))
/-- The lanes when k rows are bent. -/
def bent (F : Nat → BitVec 64) (k i : Nat) : BitVec 64 := if i < 5 * k then chi F i else F i
def placesL : List Nat := [0, 10, 20, 5, 15, 16, 1, 11, 21, 6, 7, 17, 2, 12, 22, 23, 8, 18, 3, 13, 14, 24, 9, 19, 4]
def spinsL : List Nat := [0, 1, 62, 28, 27, 36, 44, 6, 55, 20, 3, 10, 43, 25, 39, 41, 45, 15, 21, 8, 18, 2, 61, 56, 14]
/-- From which place a lane comes. -/
def fromL : List Nat := [0, 6, 12, 18, 24, 3, 9, 10, 16, 22, 1, 7, 13, 19, 20, 4, 5, 11, 17, 23, 2, 8, 14, 15, 21]
def rhopi (F : Nat → BitVec 64) (i : Nat) : BitVec 64 := rotl (F (fromL.getD i 0)) (spinsL.getD (fromL.getD i 0) 0)
theorem from_places : ∀ i, i < 25 → fromL.getD (placesL.getD i 0) 0 = i ∧ placesL.getD i 0 < 25 ∧ placesL.getD (fromL.getD i 0) 0 = i ∧ fromL.getD i 0 < 25 ∧ spinsL.getD i 0 < 64 := by decide +kernel
def round (F : Nat → BitVec 64) (n : Nat) : Nat → BitVec 64 := fun i => if i = 0 then chi (rhopi (theta F)) 0 ^^^ rc n else chi (rhopi (theta F)) i
def rounds (F : Nat → BitVec 64) : Nat → Nat → BitVec 64
  | 0 => F
  | n + 1 => round (rounds F n) n
def turn (F : Nat → BitVec 64) : Nat → BitVec 64 := rounds F 24
end Go.Proofs.YtncplpgelfjfjaaDoor
