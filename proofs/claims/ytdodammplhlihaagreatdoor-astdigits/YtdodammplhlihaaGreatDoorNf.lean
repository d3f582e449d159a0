/-
  What is taken of bytes as a tree, as a function of the reader's state.
-/
import Derived.Test.YtdodammplhlihaaGreatDoorEn
import Derived.IntWalk
namespace Go.Proofs.YtdodammplhlihaaGreatDoor.Tr
open Go.RowKit
structure Rs where
  s : ByteArray
  a : Nat
  e : Nat
def Rs.room (r : Rs) : Nat := r.a + r.s.size
def numV (n : Nat) (r : Rs) : Nat := leT (takeV r.s n) (takeV r.s n).size
def numR (n : Nat) (r : Rs) : Rs := ⟨takeS r.s r.e n, takeA r.s r.a n, takeE r.s r.e n⟩
def tvV (r : Rs) : ByteArray := txtV r.s r.e 64
def tvR (r : Rs) : Rs := ⟨txtS r.s r.e 64, txtA r.s r.a r.e 64, txtE r.s r.e 64⟩
def failR (f : Nat) (r : Rs) : Rs := ⟨failS r.s r.e f, r.a, failE r.e f⟩
theorem numR_room (n : Nat) (r : Rs) : (numR n r).room ≤ r.room := take_room r.s r.a r.e n
theorem tvR_room (r : Rs) : (tvR r).room ≤ r.room := by
  have h1 := cnt_room r.s r.a r.e 64
  have h2 := take_room (cntS r.s r.e 64) (takeA r.s r.a 4) (cntE r.s r.e 64) (cntN r.s r.e 64)
  exact Nat.le_trans h2 h1
theorem failR_room (f : Nat) (r : Rs) : (failR f r).room ≤ r.room := by
  have := failS_size r.s r.e f
  show r.a + (failS r.s r.e f).size ≤ r.a + r.s.size
  omega
theorem numV_lt (n : Nat) (r : Rs) : numV n r < 2 ^ (8 * n) := by
  unfold numV
  have h1 := leT_lt (takeV r.s n) (takeV r.s n).size
  have h2 := takeV_len r.s n
  exact Nat.lt_of_lt_of_le h1 (Nat.pow_le_pow_right (by decide) (by omega))
/-- Kids, one behind the other, till an error comes. -/
def kidsF (f : Rs → Nat → Nd × Rs × Nat) : Nat → Rs → Nat → List Nd → Option (List Nd) × Rs × Nat
  | 0, r, lf, acc => (some acc, r, lf)
  | m + 1, r, lf, acc => if (f r lf).2.1.e ≠ 0 then (none, (f r lf).2.1, (f r lf).2.2) else kidsF f m (f r lf).2.1 (f r lf).2.2 (acc ++ [(f r lf).1])
def headR (r : Rs) : Rs := numR 1 (numR 8 (tvR (numR 1 (numR 1 r))))
def headC (r : Rs) : Nat := numV 1 (numR 8 (tvR (numR 1 (numR 1 r))))
def i64 (n : Nat) : Int := IntKind.i64.wrap (n : Int)
def ndOf (r : Rs) (ks : List Nd) : Nd := .mk (numV 1 r) (numV 1 (numR 1 r)) (tvV (numR 1 (numR 1 r))) (i64 (numV 8 (tvR (numR 1 (numR 1 r))))) ks
def shut (r : Rs) (p : Option (List Nd) × Rs × Nat) : Nd × Rs × Nat := match p.1 with
  | some ks => (ndOf r ks, p.2)
  | none => (Nd.zero, p.2)
/-- A node with all below it; d levels may still come, and lf nodes. -/
def nodeF : Nat → Rs → Nat → Nd × Rs × Nat
  | 0, r, lf => (Nd.zero, failR 3 r, lf)
  | d + 1, r, lf => if lf = 0 then (Nd.zero, failR 3 r, lf) else shut r (kidsF (nodeF d) (headC r) (headR r) (lf - 1) [])
theorem kidsF_room (f : Rs → Nat → Nd × Rs × Nat) (hf : ∀ r lf, (f r lf).2.1.room ≤ r.room) : ∀ m r lf acc, (kidsF f m r lf acc).2.1.room ≤ r.room
  | 0, _, _, _ => Nat.le_refl _
  | m + 1, r, lf, acc => by
    unfold kidsF
    split
    · exact hf r lf
    · exact Nat.le_trans (kidsF_room f hf m _ _ _) (hf r lf)
theorem headR_room (r : Rs) : (headR r).room ≤ r.room :=
  Nat.le_trans (numR_room _ _) (Nat.le_trans (numR_room _ _) (Nat.le_trans (tvR_room _) (Nat.le_trans (numR_room _ _) (numR_room _ _))))
theorem shut_2 (r : Rs) (p : Option (List Nd) × Rs × Nat) : (shut r p).2 = p.2 := by
  unfold shut
  split <;> rfl
theorem nodeF_room : ∀ d r lf, (nodeF d r lf).2.1.room ≤ r.room
  | 0, r, lf => failR_room 3 r
  | d + 1, r, lf => by
    unfold nodeF
    split
    · exact failR_room 3 r
    · rw [shut_2]
      exact Nat.le_trans (kidsF_room _ (nodeF_room d) _ _ _ _) (headR_room r)
/-- As many nodes as were taken, so many fewer may come. -/
theorem kidsF_left (f : Rs → Nat → Nd × Rs × Nat) (hf : ∀ r lf, (f r lf).2.2 ≤ lf) : ∀ m r lf acc, (kidsF f m r lf acc).2.2 ≤ lf
  | 0, _, _, _ => Nat.le_refl _
  | m + 1, r, lf, acc => by
    unfold kidsF
    split
    · exact hf r lf
    · exact Nat.le_trans (kidsF_left f hf m _ _ _) (hf r lf)
theorem nodeF_left : ∀ d r lf, (nodeF d r lf).2.2 ≤ lf
  | 0, _, _ => Nat.le_refl _
  | d + 1, r, lf => by
    unfold nodeF
    split
    · exact Nat.le_refl _
    · rw [shut_2]
      exact Nat.le_trans (kidsF_left _ (nodeF_left d) _ _ _ _) (Nat.sub_le _ _)
theorem i64_is (n : Nat) : i64 n = wrap64 (n : Int) := IntWalk.i64_left (n : Int)
theorem i64_rng (n : Nat) : -9223372036854775808 ≤ i64 n ∧ i64 n ≤ 9223372036854775807 := by
  rw [i64_is]
  unfold wrap64
  omega
theorem i64_back (n : Nat) (h : n < 18446744073709551616) : n64 (i64 n) = n := by
  rw [i64_is]
  unfold wrap64 n64
  omega
end Go.Proofs.YtdodammplhlihaaGreatDoor.Tr
