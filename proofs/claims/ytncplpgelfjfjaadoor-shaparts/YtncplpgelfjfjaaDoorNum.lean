/-
  Numbers of 64 bits as the walks have them (U), and Go's signs between them as those of bit vectors. Nothing of the program is named here.
-/
import Derived.Test.YtncplpgelfjfjaaDoorMem
namespace Go.Proofs.YtncplpgelfjfjaaDoor
open Go.RowKit
/-- A number of 64 bits as the walk has it. -/
def U (x : BitVec 64) : Int := (x.toNat : Int)
theorem U_lo (x : BitVec 64) : 0 ≤ U x := by unfold U; omega
theorem U_hi (x : BitVec 64) : U x < 18446744073709551616 := by unfold U; have := x.isLt; omega
theorem U_inj {x y : BitVec 64} (h : U x = U y) : x = y := BitVec.eq_of_toNat_eq (by unfold U at h; omega)
theorem xorU (a b : BitVec 64) : bits .xor .u64 (U a) (U b) = U (a ^^^ b) := by
  unfold U; rw [u64_xor_nat _ _ a.isLt b.isLt, BitVec.toNat_xor]
theorem andU (a b : BitVec 64) : bits .and .u64 (U a) (U b) = U (a &&& b) := by
  unfold U; rw [u64_and_nat _ _ a.isLt b.isLt, BitVec.toNat_and]
theorem orU (a b : BitVec 64) : bits .or .u64 (U a) (U b) = U (a ||| b) := by
  unfold U; rw [u64_or_nat _ _ a.isLt b.isLt, BitVec.toNat_or]
theorem shlU (a : BitVec 64) (k : Nat) : IntKind.u64.wrap (U a * 2 ^ k) = U (a <<< k) := by
  unfold U
  rw [BitVec.toNat_shiftLeft, Nat.shiftLeft_eq]
  simp [IntKind.wrap, IntKind.bits, IntKind.signed]
theorem shrU (a : BitVec 64) (k : Nat) : U a / 2 ^ k = U (a >>> k) := by
  unfold U
  rw [BitVec.toNat_ushiftRight, Nat.shiftRight_eq_div_pow]
  simp
theorem notU (a : BitVec 64) : 18446744073709551615 - U a = U (~~~a) := by
  unfold U
  rw [BitVec.toNat_not]
  have := a.isLt
  omega
def rotl (x : BitVec 64) (k : Nat) : BitVec 64 := (x <<< k) ||| (x >>> (64 - k))
theorem rotl_zero (x : BitVec 64) : rotl x 0 = x := by
  apply BitVec.eq_of_toNat_eq
  have h : x.toNat / 18446744073709551616 = 0 := Nat.div_eq_of_lt x.isLt
  simp [rotl, BitVec.toNat_or, Nat.shiftRight_eq_div_pow, h]
theorem and63 (k : Int) (h0 : 0 ≤ k) (h1 : k < 64) : bits .and .u64 k 63 = k := by
  rw [u64_and k 63 h0 (by omega) (by omega) (by omega)]
  rw [show (63 : Int).toNat = 63 from rfl, nat_mask6]
  omega
end Go.Proofs.YtncplpgelfjfjaaDoor
