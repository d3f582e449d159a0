/-
  readFloat: digits alone, and 1e with a digit behind it. ParseFloat of digits alone, and of 1e with a digit behind it. readFloat: 1e and a digit behind it. ParseFloat and nearest of digits alone, and of 1e with a digit behind it. Quotients of whole numbers as numbers with a point: never what is no number.
-/
import Derived.Test.YtajoncmmdeahnaaGreatDoorKPm
import Derived.Test.YtajoncmmdeahnaaGreatDoorProg
import Derived.KernelRfl
import Derived.IntWalk
import Derived.WalkMore
import Derived.Deep.DeepCutAuto
import Derived.Deep.Cut
import Derived.WalkLawsBesides
namespace Go.Proofs.YtajoncmmdeahnaaGreatDoor.Dg
open Go.RowKit
theorem hid {p : Prop} (h : p) : Hid p := h
def mkS (A : List UInt8) : ByteArray := ⟨A.toArray⟩
theorem mkS_size (A : List UInt8) : (mkS A).size = A.length := by show A.toArray.size = _; simp
def isD (c : UInt8) : Prop := 48 ≤ c.toNat ∧ c.toNat ≤ 57
def val : List UInt8 → Nat := List.foldl (fun n c => n * 10 + (c.toNat - 48)) 0
theorem toL_len (s : ByteArray) : s.data.toList.length = s.size := by show s.data.toList.length = s.data.size; exact Array.length_toList
theorem toL_get (s : ByteArray) (k : Nat) (h : k < s.size) : s.data.toList[k]'(by rw [toL_len]; exact h) = s[k]'h := by rw [Array.getElem_toList]; rfl
end Go.Proofs.YtajoncmmdeahnaaGreatDoor.Dg
namespace Go.Proofs.YtajoncmmdeahnaaGreatDoor.Dg
open Go.RowKit
def powF : List Nat := [4607182418800017408, 4621819117588971520, 4636737291354636288, 4652007308841189376, 4666723172467343360, 4681608360884174848, 4696837146684686336, 4711630319722168320, 4726483295884279808]
structure Gl (w : World) : Prop where
  opt : w.cell? ⟨10, 0, none⟩ = some (.bool true)
  man : w.cell? ⟨11, 0, none⟩ = some (.int .u64 52)
  pow : ∃ g o n c, w.cell? ⟨14, 0, none⟩ = some (.slice (some ⟨g, o, none⟩) n c) ∧ 9 ≤ n ∧ ∀ j v, powF[j]? = some v → w.cell? ⟨g, o + j, none⟩ = some (.float .f64 v)
end Go.Proofs.YtajoncmmdeahnaaGreatDoor.Dg
namespace Go.Proofs.YtajoncmmdeahnaaGreatDoor.Dg
open Go.RowKit
end Go.Proofs.YtajoncmmdeahnaaGreatDoor.Dg
namespace Go.Proofs.YtajoncmmdeahnaaGreatDoor.Dg
open Go.RowKit
end Go.Proofs.YtajoncmmdeahnaaGreatDoor.Dg
namespace Go.Proofs.YtajoncmmdeahnaaGreatDoor.Dg
open Ieee Go.RowKit
def quo (m x : Nat) : Nat := (FloatKind.f64.format.div (floatOfInt .f64 m) (floatOfInt .f64 ((10 ^ x : Nat) : Int))).getD 0
end Go.Proofs.YtajoncmmdeahnaaGreatDoor.Dg
