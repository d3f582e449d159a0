/-
  Maps whose keys are texts, with values of any kind: what one holds as a function; looked up, stored into, deleted from, gone over.
-/
import Derived.Test.YtajoncmmdeahnaaGreatDoorKACi
import Derived.Maps.OwnSet
import Derived.Maps.RangeWalk
import Derived.Maps.Ext
namespace Go.Proofs.YtajoncmmdeahnaaGreatDoor
open Go.RowKit Go.Maps
namespace Mp
section
variable {w : World} {b n : Nat} {f : ByteArray → Option Value} {t e : TypeId} {z : Value}
end
section
variable {ops : Array Oper} {rest : List Oper} {o : Oper} {a : Act} {Q : Exit → Act → World → Prop} {w : World} {b n : Nat} {f : ByteArray → Option Value} {t e : TypeId}
end
end Mp
end Go.Proofs.YtajoncmmdeahnaaGreatDoor
