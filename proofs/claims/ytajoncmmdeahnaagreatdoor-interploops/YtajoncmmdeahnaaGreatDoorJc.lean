/-
  The order of sites: the closure that it is sorted by.
-/
import Derived.Test.YtajoncmmdeahnaaGreatDoorKIf
import Derived.Shelf.SlSortCmp.QuietGrown
import Derived.Deep.RegionHeld3
namespace Go.Proofs.YtajoncmmdeahnaaGreatDoor
open Go.RowKit Go.Shelf Go.Lib Go.Sort
namespace Ip
def encSt (x : ByteArray × Int) : List Value := [.string x.1, .int .i64 x.2]
def cfSt (x y : ByteArray × Int) : Int := orN (cmpS x.1 y.1) (cmpN x.2 y.2)
set_option maxRecDepth 100000 in
set_option maxHeartbeats 4000000 in
theorem closure63 (x y : ByteArray × Int) (W : World) : Calls Tryz.prog 63 #[.agg #[.string x.1, .int .i64 x.2], .agg #[.string y.1, .int .i64 y.2]] W fun e w' => e = .returned (.int .i64 (cfSt x y)) ∧ ∃ q os', w' = grow (W.drewN q) os' := by
  have C1 : Hid (∀ W, Calls Tryz.prog 65 #[.string x.1, .string y.1] W fun e w' => e = .returned (.int .i64 (cmpS x.1 y.1)) ∧ w' = W) := hid (fun W => compare_str x.1 y.1 W)
  have C2 : Hid (∀ W, Calls Tryz.prog 66 #[.int .i64 x.2, .int .i64 y.2] W fun e w' => e = .returned (.int .i64 (cmpN x.2 y.2)) ∧ w' = W) := hid (fun W => compare_int x.2 y.2 W)
  have C3 : Hid (∀ g W, Blk W g 3 #[.int .i64 (cmpS x.1 y.1), .int .i64 (cmpN x.2 y.2)] → Calls Tryz.prog 64 #[.slice (some ⟨g, 0, none⟩) 2 2] W fun e w' => e = .returned (.int .i64 (cfSt x y)) ∧ w' = W) := hid (fun g W h => or_any _ _ g W h)
  generalize cfSt x y = r at C3 ⊢
  generalize cmpS x.1 y.1 = r1 at C1 C3 ⊢
  generalize cmpN x.2 y.2 = r2 at C2 C3 ⊢
  have FB : Hid (∀ o1 o2 : Obj, Blk ((((W.alloc o1).alloc o2).alloc (.cells #[.int .i64 r1, .int .i64 r2] 3)).drew) (W.heap.size + 1 + 1) 3 #[.int .i64 r1, .int .i64 r2]) := hid (fun o1 o2 => by
    have h := Blk.new ((W.alloc o1).alloc o2) 3 #[.int .i64 r1, .int .i64 r2]
    have e : ((W.alloc o1).alloc o2).heap.size = W.heap.size + 1 + 1 := by
      show ((W.heap.push o1).push o2).size = _
      rw [Array.size_push, Array.size_push]
    rw [e] at h
    exact h.drew)
  go_enter Tryz.func63, Tryz.ntmps63
  go_wp2_with fail
  go_region_held3 (fun V => V.cell? ⟨W.heap.size, 0, none⟩ = some (.string x.1) ∧ V.cell? ⟨W.heap.size, 1, none⟩ = some (.int .i64 x.2) ∧ V.cell? ⟨W.heap.size + 1, 0, none⟩ = some (.string y.1) ∧ V.cell? ⟨W.heap.size + 1, 1, none⟩ = some (.int .i64 y.2)) (go_keep) (first
    | (go_at_call 65; refine (C1.out _).mono ?_; rintro e w1 ⟨rfl, hw⟩; replace hw := hw.symm; subst hw)
    | (go_at_call 66; refine (C2.out _).mono ?_; rintro e w1 ⟨rfl, hw⟩; replace hw := hw.symm; subst hw)
    | (go_at_call 64; refine (C3.out _ _ (FB.out _ _)).mono ?_; rintro e w1 ⟨rfl, hw⟩; replace hw := hw.symm; subst hw))
  all_goals go_wp2_with fail
  all_goals go_ret
  all_goals exact ⟨rfl, 1, #[.cells #[.string x.1, .int .i64 x.2] 118, .cells #[.string y.1, .int .i64 y.2] 118, .cells #[.int .i64 r1, .int .i64 r2] 3], by rw [alloc_eq_grow, alloc_eq_grow, alloc_eq_grow, grow_grow, grow_grow]; rfl⟩
end Ip
end Go.Proofs.YtajoncmmdeahnaaGreatDoor
