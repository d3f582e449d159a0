/-
  strings.Clone, by the library's own contract: the same bytes.
-/
import Derived.Test.YtajoncmmdeahnaaGreatDoorKNd
import Derived.Test.YtajoncmmdeahnaaGreatDoorProg
import Derived.Shelf.Pu.Clone
import Derived.KernelRfl
namespace Go.Proofs.YtajoncmmdeahnaaGreatDoor.Lw
open Go.RowKit Go.Shelf
def ren : Ren := { f := fun _ => 78, t := fun n => if n = 37 then 24 else if n = 47 then 97 else n, g := fun n => n }
theorem lays : LaysPu.n25 Tryz.prog ren := by
  constructor <;> first | kernel_rfl | (intro w; kernel_rfl)
theorem cloneLite_any (s : ByteArray) (w : World) (hs : s.size ≤ 281474976710656) : Calls Tryz.prog 78 #[.string s] w fun e w' => e = .returned (.string s) ∧ w.grownBy w' none :=
  (AnyPu.stringslite_Clone lays s w hs).mono fun _ _ h => ⟨h.1, h.2.os, h.2.tape, h.2.output, h.2.size, fun k hk _ => h.2.block k hk⟩
set_option maxRecDepth 100000 in
set_option maxHeartbeats 400000 in
theorem clone_any (s : ByteArray) (w : World) (hs : s.size ≤ 281474976710656) : Calls Tryz.prog 37 #[.string s] w fun e w' => e = .returned (.string s) ∧ w.grownBy w' none := by
  go_enter Tryz.func37, Tryz.ntmps37
  go_wp2_with (go_at_call 78; refine (cloneLite_any s _ hs).mono ?_; rintro e w1 ⟨rfl, hg1⟩)
  go_ret
  exact ⟨rfl, hg1⟩
end Go.Proofs.YtajoncmmdeahnaaGreatDoor.Lw
