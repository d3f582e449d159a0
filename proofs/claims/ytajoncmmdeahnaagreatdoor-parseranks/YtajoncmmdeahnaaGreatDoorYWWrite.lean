/-
  The contracts of the writer: bytes that grow.
-/
import Derived.Test.YtajoncmmdeahnaaGreatDoorKPb
import Derived.Lib.AppendStr
namespace Go.Proofs.YtajoncmmdeahnaaGreatDoor.Pt
open Go.RowKit
theorem info5 : (Tryz.prog.info? 5).map (fun i => (i.zero, i.size, i.bytes)) = some (some (.int .u8 0), 1, 1) := by kernel_rfl
theorem bytes_len (s : ByteArray) : s.data.toList.length = s.size := Array.length_toList
def byL (l : List UInt8) : List Value := l.map fun b => Value.int .u8 (b.toNat : Int)
theorem below_grown {w0 w w' : World} {b : Nat} (h : w0.grownBy w none) (g : Below b w w') (hb : w0.heap.size ≤ b) : w0.grownBy w' none :=
  ⟨g.os.trans h.os, g.tape.trans h.tape, g.output.trans h.output, Nat.le_trans h.size g.size, fun k hk hn => (g.block k (Nat.lt_of_lt_of_le hk hb)).trans (h.block k hk hn)⟩
theorem byL_append (l : List UInt8) (s : ByteArray) : byL l ++ Lib.strCells s = byL (l ++ s.data.toList) := by
  unfold byL
  rw [List.map_append]
  rfl
end Go.Proofs.YtajoncmmdeahnaaGreatDoor.Pt
