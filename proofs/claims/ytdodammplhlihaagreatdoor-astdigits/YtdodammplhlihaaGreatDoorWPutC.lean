/-
  The contracts that the law WirePuts leans on: few, the document's Text and Hash, the writer's Bool.
-/
import Derived.Test.YtdodammplhlihaaGreatDoorWRef
namespace Go.Proofs.YtdodammplhlihaaGreatDoor.Tr
open Go.RowKit
/-- The first 600 bytes at most. -/
def fewS (s : ByteArray) : ByteArray := if 600 < s.size then s.extract 0 600 else s
theorem fewS_size (s : ByteArray) : (fewS s).size ≤ 600 := by
  unfold fewS
  split
  · rw [ByteArray.size_extract]; omega
  · omega
theorem fill_step (s : List UInt8) (j : Nat) : s ++ List.replicate j 0 ++ [0] = s ++ List.replicate (j + 1) 0 := by
  rw [List.replicate_succ', List.append_assoc]
theorem setRow_blk {w : World} {g : Nat} {t : TypeId} {old : Array Value} (hg : Blk w g t old) (cells : Array Value) : Blk (w.setRow g cells) g t cells := setRow_heap w g old cells t (0, 0) hg
theorem setRow_grown (w : World) (g : Nat) (cells : Array Value) : w.grownBy (w.setRow g cells) (some g) :=
  ⟨rfl, rfl, rfl, by simp, fun k _ hn => setRow_other w g k cells (fun e => hn (by rw [e]))⟩
end Go.Proofs.YtdodammplhlihaaGreatDoor.Tr
