/-
  The checker as a function of trees, and the checker in memory. What a call of it may turn. The checker in memory, and what a call of it may turn; variable, done. The checker: done; fits, define, returned and what calls answer of kids' types. The checker: fits, and what signs ask of types. The checker: between. The checker: signs, conversions, as what the model makes of nodes; know, forget. The checker: know. The checker: forget. The checker: define, returned, callsAlone. The checker: what a call answers. The checker: the type of an expression whose kids' types are found. The checker: what a call must know of a function. The checker over trees that are written in place: what a call may turn; rows, node by node. The checker over trees that are written in place: a row of expressions. The checker over trees: expressions, a row of them. The checker over trees: the node that a method looks at, in memory. The checker over trees: expression. The checker over trees: callsAlone. The checker over trees: a statement without blocks. The checker over trees: a loop over a node's kids. The checker over trees: branches. The checker over trees: a statement. The checker over trees: a block; all that call themselves. The checker over trees: a parameter. The checker: a number without its sign. The checker over trees: a global's literal. The checker over trees: a global. The checker: whether a block ends in a return on each way. The checker: whether it looks at a test is kept by all that looks at what stands below. The checker over trees: a function, or a test. The checker over trees: a declaration. The checker: look, with its deferred call. The checker: look. The checker: a new one, and what it knows ahead of all declarations. check.Program as a function of trees; declarations one behind the other; what holds between two of them.
-/
import Derived.Test.YtajoncmmdeahnaaGreatDoorMa
import Derived.Test.YtajoncmmdeahnaaGreatDoorKQg
import Derived.Test.YtajoncmmdeahnaaGreatDoorKPb
import Derived.Test.YtajoncmmdeahnaaGreatDoorKCe
import Derived.Deep.RegionLaw
import Derived.Laws.AppendOwnNone
import Derived.OwnWalk
import Derived.Test.YtajoncmmdeahnaaGreatDoorKACi
import Derived.Defers
import Derived.Recover
namespace Go.Proofs.YtajoncmmdeahnaaGreatDoor
open Go.RowKit
namespace Ck
theorem row_cell {w : World} {base n cap g : Nat} {l : List ByteArray} (h : w.ownsRow base 9 1 (.slice (some ⟨g, 0, none⟩) n cap) n (l.map Value.string)) (i : Nat) (hi : i < l.length) : w.cell? ⟨g, i, none⟩ = some (.string l[i]) := by
  have h1 := h.cellAt (g := g) i (by have := h.1; rw [List.length_map] at this; omega)
  rw [h1, List.getElem?_map, List.getElem?_eq_getElem hi]
  rfl
end Ck
end Go.Proofs.YtajoncmmdeahnaaGreatDoor
