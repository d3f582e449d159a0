/-
  No cell of these rows narrows 'for every input' (looked for: loops, veiled, ifaces, maps, wideKeys, modest, calm, conditions, laid).
  DERIVED. THE GIVEN ROWS OF THIS SEAT. 4 by the template 'for every input the law returns true; each argument reads behind the call as it read before'; 0 by the template 'total and deterministic' (their statements: YtbhmmcelndmijaaGreatTotals.lean).
  GIVEN WITH THE SEED: the statements are not yours to turn. If you find one false, say at which input.
  Laid BY PROGRAM, IN A SANDBOX (cutbox-rows.mjs): the forced cells as the released guide's own fill.sh prints them over the translation 9d38b256adc55968… (all of the seat's roots in one cut). By AI agents, Wed Nov 11 2026. No macro, syntax, notation, axiom, sorry.
-/
import Derived.Test.YtbhmmcelndmijaaGreatChecked
import GoSem.Claim
import GoSem.ClaimJoined
import GoSem.ClaimMapViews
import Derived.JoinedTies
import Derived.KernelRfl
namespace Go.Proofs.YtbhmmcelndmijaaGreat
/- THE CELL 'sum', in the pinned program and in every row, IS THE sha256 OF THE DUMP (.gsa) THAT YtbhmmcelndmijaaGreatProg.lean LOADS. Nothing in Lean hashes anything: it is a label: what it is worth is what the hold of that sum in a sandbox is worth. -/
noncomputable def Tryz.pinned : Pinned := { name := "ytbhmmcelndmijaagreat", sum := "9d38b256adc5596813ec90ec0283ed4f186153aab5672aff64d741fdbd0c144c", checked := Tryz.checked }
namespace Rows
def none {H : Type} : Left H := { results := [], args := [] }

/-- 'cupellaw06.BtreePlays': WHATEVER THE INPUT: true; the input reads as it did. -/
def btreePlaysSpec : ChangeSpec := { name := "btreePlays", fn := fun _ => fun
  | [d1, d2] => { results := [.lit (.bool true)], args := [d1, d2] }
  | _ => none }
def btreePlaysRow : OpenClaim := { program := "ytbhmmcelndmijaagreat", sum := "9d38b256adc5596813ec90ec0283ed4f186153aab5672aff64d741fdbd0c144c", func := "cupel/cupellaw06.BtreePlays", spec := "btreePlays", inPlace := ["slices.overlaps[string]", "slices.overlaps[int]"], unfollowed := true, recurses := true, apart := false }
def BtreePlaysSaid : Prop := btreePlaysRow.holds Tryz.pinned (OpenSpec.ofChange btreePlaysSpec)

/-- ITS FALSE NEIGHBOUR: 'it returns false'. Refute it at one input. -/
def btreePlaysWrong : ChangeSpec := { name := "btreePlays", fn := fun _ => fun
  | [d1, d2] => { results := [.lit (.bool false)], args := [d1, d2] }
  | _ => none }
def BtreePlaysWrongFalsely : Prop := btreePlaysRow.holds Tryz.pinned (OpenSpec.ofChange btreePlaysWrong)

/-- 'cupellaw06.BtreeShapes': WHATEVER THE INPUT: true; the input reads as it did. -/
def btreeShapesSpec : ChangeSpec := { name := "btreeShapes", fn := fun _ => fun
  | [d] => { results := [.lit (.bool true)], args := [d] }
  | _ => none }
def btreeShapesRow : OpenClaim := { program := "ytbhmmcelndmijaagreat", sum := "9d38b256adc5596813ec90ec0283ed4f186153aab5672aff64d741fdbd0c144c", func := "cupel/cupellaw06.BtreeShapes", spec := "btreeShapes", inPlace := ["slices.overlaps[string]", "slices.overlaps[int]"], unfollowed := true, recurses := true, apart := false }
def BtreeShapesSaid : Prop := btreeShapesRow.holds Tryz.pinned (OpenSpec.ofChange btreeShapesSpec)

/-- ITS FALSE NEIGHBOUR: 'it returns false'. Refute it at one input. -/
def btreeShapesWrong : ChangeSpec := { name := "btreeShapes", fn := fun _ => fun
  | [d] => { results := [.lit (.bool false)], args := [d] }
  | _ => none }
def BtreeShapesWrongFalsely : Prop := btreeShapesRow.holds Tryz.pinned (OpenSpec.ofChange btreeShapesWrong)

/-- 'cupellaw06.BtreeRoots': WHATEVER THE INPUT: true; the input reads as it did. -/
def btreeRootsSpec : ChangeSpec := { name := "btreeRoots", fn := fun _ => fun
  | [d1, d2] => { results := [.lit (.bool true)], args := [d1, d2] }
  | _ => none }
def btreeRootsRow : OpenClaim := { program := "ytbhmmcelndmijaagreat", sum := "9d38b256adc5596813ec90ec0283ed4f186153aab5672aff64d741fdbd0c144c", func := "cupel/cupellaw06.BtreeRoots", spec := "btreeRoots", inPlace := ["slices.overlaps[string]", "slices.overlaps[int]"], unfollowed := true, recurses := true, apart := false }
def BtreeRootsSaid : Prop := btreeRootsRow.holds Tryz.pinned (OpenSpec.ofChange btreeRootsSpec)

/-- ITS FALSE NEIGHBOUR: 'it returns false'. Refute it at one input. -/
def btreeRootsWrong : ChangeSpec := { name := "btreeRoots", fn := fun _ => fun
  | [d1, d2] => { results := [.lit (.bool false)], args := [d1, d2] }
  | _ => none }
def BtreeRootsWrongFalsely : Prop := btreeRootsRow.holds Tryz.pinned (OpenSpec.ofChange btreeRootsWrong)

/-- 'cupellaw06.BtreeOrders': WHATEVER THE INPUT: true; the input reads as it did. -/
def btreeOrdersSpec : ChangeSpec := { name := "btreeOrders", fn := fun _ => fun
  | [d1, d2] => { results := [.lit (.bool true)], args := [d1, d2] }
  | _ => none }
def btreeOrdersRow : OpenClaim := { program := "ytbhmmcelndmijaagreat", sum := "9d38b256adc5596813ec90ec0283ed4f186153aab5672aff64d741fdbd0c144c", func := "cupel/cupellaw06.BtreeOrders", spec := "btreeOrders", inPlace := ["slices.overlaps[string]", "slices.overlaps[int]"], unfollowed := true, recurses := true, apart := false }
def BtreeOrdersSaid : Prop := btreeOrdersRow.holds Tryz.pinned (OpenSpec.ofChange btreeOrdersSpec)

/-- ITS FALSE NEIGHBOUR: 'it returns false'. Refute it at one input. -/
def btreeOrdersWrong : ChangeSpec := { name := "btreeOrders", fn := fun _ => fun
  | [d1, d2] => { results := [.lit (.bool false)], args := [d1, d2] }
  | _ => none }
def BtreeOrdersWrongFalsely : Prop := btreeOrdersRow.holds Tryz.pinned (OpenSpec.ofChange btreeOrdersWrong)

/- THE SECOND FORM. 'bulk': how many values and letters a reading holds, each counted each time it is reached (what is shared counts as often as it is met; a slice's spare places count too). A statement '..UptoSaid' is the law's where the arguments, and the package variables that the reading takes, are together of bulk at most 1048576: NARROWER than '..Said'. Prove '..Said' where nothing that the law and all that it calls make is longer than what came in: it says more and counts as full. Else prove '..UptoSaid'. A law counts once. -/
mutual
def uptoBulk {H : Type} : DataW H → Nat
  | .lit (.string bytes) => bytes.length + 1
  | .lit _ => 1
  | .nil => 1
  | .ptr d => uptoBulk d + 1
  | .slice elems spare => uptoBulkAll elems + uptoBulkAll spare + 1
  | .agg parts => uptoBulkAll parts + 1
  | .iface _ d => uptoBulk d + 1
  | .map entries => uptoBulkEntries entries + 1
  | .held _ => 1
def uptoBulkAll {H : Type} : List (DataW H) → Nat
  | [] => 0
  | d :: r => uptoBulk d + uptoBulkAll r
def uptoBulkEntries {H : Type} : List (Lit × DataW H) → Nat
  | [] => 0
  | x :: r => uptoBulkEntry x + uptoBulkEntries r
def uptoBulkEntry {H : Type} : Lit × DataW H → Nat
  | (.string bytes, d) => bytes.length + uptoBulk d + 1
  | (_, d) => uptoBulk d + 1
 end
def uptoSmall : (H : Type) → List (DataW H) → Bool := fun _ ds => decide (uptoBulkAll ds ≤ 1048576)
def OpenSpec.upto (s : _root_.Go.ChangeSpec) : _root_.Go.OpenSpec := { _root_.Go.OpenSpec.ofChange s with cond := some uptoSmall }

/-- 'cupellaw06.BtreePlays', WHERE WHAT IT READS IS OF BULK AT MOST 1048576: true; the input reads as it did. -/
def btreePlaysUptoRow : OpenClaim := { program := "ytbhmmcelndmijaagreat", sum := "9d38b256adc5596813ec90ec0283ed4f186153aab5672aff64d741fdbd0c144c", func := "cupel/cupellaw06.BtreePlays", spec := "btreePlays", inPlace := ["slices.overlaps[string]", "slices.overlaps[int]"], unfollowed := true, recurses := true, apart := false, narrowed := true }
def BtreePlaysUptoSaid : Prop := btreePlaysUptoRow.holds Tryz.pinned (OpenSpec.upto btreePlaysSpec)

/-- 'cupellaw06.BtreeShapes', WHERE WHAT IT READS IS OF BULK AT MOST 1048576: true; the input reads as it did. -/
def btreeShapesUptoRow : OpenClaim := { program := "ytbhmmcelndmijaagreat", sum := "9d38b256adc5596813ec90ec0283ed4f186153aab5672aff64d741fdbd0c144c", func := "cupel/cupellaw06.BtreeShapes", spec := "btreeShapes", inPlace := ["slices.overlaps[string]", "slices.overlaps[int]"], unfollowed := true, recurses := true, apart := false, narrowed := true }
def BtreeShapesUptoSaid : Prop := btreeShapesUptoRow.holds Tryz.pinned (OpenSpec.upto btreeShapesSpec)

/-- 'cupellaw06.BtreeRoots', WHERE WHAT IT READS IS OF BULK AT MOST 1048576: true; the input reads as it did. -/
def btreeRootsUptoRow : OpenClaim := { program := "ytbhmmcelndmijaagreat", sum := "9d38b256adc5596813ec90ec0283ed4f186153aab5672aff64d741fdbd0c144c", func := "cupel/cupellaw06.BtreeRoots", spec := "btreeRoots", inPlace := ["slices.overlaps[string]", "slices.overlaps[int]"], unfollowed := true, recurses := true, apart := false, narrowed := true }
def BtreeRootsUptoSaid : Prop := btreeRootsUptoRow.holds Tryz.pinned (OpenSpec.upto btreeRootsSpec)

/-- 'cupellaw06.BtreeOrders', WHERE WHAT IT READS IS OF BULK AT MOST 1048576: true; the input reads as it did. -/
def btreeOrdersUptoRow : OpenClaim := { program := "ytbhmmcelndmijaagreat", sum := "9d38b256adc5596813ec90ec0283ed4f186153aab5672aff64d741fdbd0c144c", func := "cupel/cupellaw06.BtreeOrders", spec := "btreeOrders", inPlace := ["slices.overlaps[string]", "slices.overlaps[int]"], unfollowed := true, recurses := true, apart := false, narrowed := true }
def BtreeOrdersUptoSaid : Prop := btreeOrdersUptoRow.holds Tryz.pinned (OpenSpec.upto btreeOrdersSpec)

end Rows
end Go.Proofs.YtbhmmcelndmijaaGreat
