/-
  Bytes: the document's bytes of a tree.
-/
import Derived.Test.YtdodammplhlihaaGreatDoorEn
import Derived.Deep.RegionHeld3
import Derived.Deep.DeepCutAuto
namespace Go.Proofs.YtdodammplhlihaaGreatDoor.Tr
open Go.RowKit
def StrP (w : World) (s : ByteArray) (e : Ending) (w' : World) : Prop := e = .returned (.string s) ∧ w.grownBy w' none
theorem calls_at {P : Program} {f : FuncId} {a args : Array Value} {w : World} {R : Ending → World → Prop} (h : a = args) (hc : Calls P f args w R) : Calls P f a w R := by rw [h]; exact hc
end Go.Proofs.YtdodammplhlihaaGreatDoor.Tr
