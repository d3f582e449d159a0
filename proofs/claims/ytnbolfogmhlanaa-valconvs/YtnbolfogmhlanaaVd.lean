/-
  Binary: of two whole numbers, of two numbers with a point.
-/
import Derived.Test.YtnbolfogmhlanaaVc
namespace Go.Proofs.Ytnbolfogmhlanaa
open Go.RowKit
set_option maxRecDepth 100000 in
/-- Binary of two whole numbers is what wholes makes of them. -/
theorem bin_int (s : ByteArray) (x y : Int) (t n k : Int) (w : World) (hK : ∀ W, Calls Try.prog 14 #[.string s, .int .i64 1] W (StP (.bool true) W)) (hW : ∀ W, Calls Try.prog 26 #[.string s, .int .i64 x, .int .i64 y] W (GrP (tw (vl t n) k) W)) :
    Calls Try.prog 9 #[.string s, vl 1 x, vl 1 y] w (GrP (tw (vl t n) k) w) := by
  have C14 := hid hK
  have C26 := hid hW
  clear hK hW
  unfold GrP at *
  go_enter Try.func9, Try.ntmps9
  go_wp2_with (first
    | (go_at_call 14; refine (C14.out _).mono ?_; rintro e w1 ⟨rfl, hw⟩; replace hw := hw.symm; subst hw)
    | (go_at_call 26; refine (C26.out _).mono ?_; rintro e w1 ⟨rfl, hg⟩; have B1 : Hid (Blk w1 (w.heap.size + 2) 23 #[.int .i64 0, .int .i64 0]) := (Blk.kept (by simpa using Blk.new ((w.alloc (Obj.cells #[.int .i64 1, .int .i64 x] 23)).alloc (Obj.cells #[.int .i64 1, .int .i64 y] 23)) 23 #[.int .i64 0, .int .i64 0]) hg (by simp)); obtain ⟨c0, c1, f0, f1⟩ := two_cells B1.out; have G1 := hid (grown_trans (grow2 (grow2 (grow1 w _) _) _) hg); clear hg))
  obtain ⟨z0, z1, _, _⟩ := two_cells (blk_two B1.out (.int .i64 t) (.int .i64 n))
  refine bodyPost_ret (v := tw (vl t n) k) (by simp [results, Try.results9, go_sem, z0, z1]) rfl ⟨rfl, ?_⟩
  exact set_two G1.out (by omega) _ _
set_option maxRecDepth 100000 in
set_option maxHeartbeats 2000000 in
/-- Binary of two numbers is what numbers makes of them. -/
theorem bin_float (s : ByteArray) (x y : Int) (t n : Int) (w : World) (hK : ∀ W, Calls Try.prog 14 #[.string s, .int .i64 2] W (StP (.bool true) W)) (hW : ∀ W, Calls Try.prog 27 #[.string s, .float .f64 (IntKind.u64.wrap x).toNat, .float .f64 (IntKind.u64.wrap y).toNat] W (GrP (vl t n) W)) :
    Calls Try.prog 9 #[.string s, vl 2 x, vl 2 y] w (GrP (tw (vl t n) 0) w) := by
  have C14 := hid hK
  have C27 := hid hW
  have CA : Hid (∀ W, Calls Try.prog 20 #[vl 2 x] W (GrP (.float .f64 (IntKind.u64.wrap x).toNat) W)) := fun W => of_any 2 x W
  have CB : Hid (∀ W, Calls Try.prog 20 #[vl 2 y] W (GrP (.float .f64 (IntKind.u64.wrap y).toNat) W)) := fun W => of_any 2 y W
  clear hK hW
  generalize (IntKind.u64.wrap x).toNat = X at *
  generalize (IntKind.u64.wrap y).toNat = Y at *
  unfold GrP at *
  go_enter Try.func9, Try.ntmps9
  go_wp2_with (first
    | (go_at_call 14; refine (C14.out _).mono ?_; rintro e w1 ⟨rfl, hw⟩; replace hw := hw.symm; subst hw))
  have BA : Hid (Blk (((w.alloc (Obj.cells #[.int .i64 2, .int .i64 x] 23)).alloc (Obj.cells #[.int .i64 2, .int .i64 y] 23)).alloc (Obj.cells #[.int .i64 0, .int .i64 0] 23)) w.heap.size 23 #[.int .i64 2, .int .i64 x]) := ((Blk.new w 23 _).alloc _).alloc _
  have BB : Hid (Blk (((w.alloc (Obj.cells #[.int .i64 2, .int .i64 x] 23)).alloc (Obj.cells #[.int .i64 2, .int .i64 y] 23)).alloc (Obj.cells #[.int .i64 0, .int .i64 0] 23)) (w.heap.size + 1) 23 #[.int .i64 2, .int .i64 y]) := Blk.alloc (by simpa using Blk.new (w.alloc (Obj.cells #[.int .i64 2, .int .i64 x] 23)) 23 #[.int .i64 2, .int .i64 y]) _
  have BR : Hid (Blk (((w.alloc (Obj.cells #[.int .i64 2, .int .i64 x] 23)).alloc (Obj.cells #[.int .i64 2, .int .i64 y] 23)).alloc (Obj.cells #[.int .i64 0, .int .i64 0] 23)) (w.heap.size + 2) 23 #[.int .i64 0, .int .i64 0]) := hid (by simpa using Blk.new ((w.alloc (Obj.cells #[.int .i64 2, .int .i64 x] 23)).alloc (Obj.cells #[.int .i64 2, .int .i64 y] 23)) 23 #[.int .i64 0, .int .i64 0])
  have G3 := hid (grow2 (grow2 (grow1 w (Obj.cells #[.int .i64 2, .int .i64 x] 23)) (Obj.cells #[.int .i64 2, .int .i64 y] 23)) (Obj.cells #[.int .i64 0, .int .i64 0] 23))
  generalize ((w.alloc (Obj.cells #[.int .i64 2, .int .i64 x] 23)).alloc (Obj.cells #[.int .i64 2, .int .i64 y] 23)).alloc (Obj.cells #[.int .i64 0, .int .i64 0] 23) = w3 at *
  obtain ⟨a0, a1, _, _⟩ := two_cells BA.out
  obtain ⟨b0, b1, _, _⟩ := two_cells BB.out
  go_region_with (first
    | (go_at_call 20; refine calls_at (args := #[vl 2 x]) rfl ?_; refine (CA.out _).mono ?_; clear CA; rintro e w4 ⟨rfl, hg⟩; have G4 : Hid (w3.grownBy w4 none) := ⟨hg.os, hg.tape, hg.output, hg.size, hg.block⟩; clear hg; obtain ⟨b2, b3, _, _⟩ := two_cells (BB.out.kept G4.out (by simp)))
    | (go_at_call 20; refine calls_at (args := #[vl 2 y]) rfl ?_; refine (CB.out _).mono ?_; clear CB; rintro e w5 ⟨rfl, hg⟩; have G5 : Hid (w3.grownBy w5 none) := grown_trans G4.out ⟨hg.os, hg.tape, hg.output, hg.size, hg.block⟩; clear hg)
    | (go_at_call 27; refine (C27.out _).mono ?_; clear C27; rintro e w6 ⟨rfl, hg⟩; have G6 : Hid (w3.grownBy w6 none) := grown_trans G5.out ⟨hg.os, hg.tape, hg.output, hg.size, hg.block⟩; clear hg; have B6 := hid (BR.out.kept G6.out (by simp)); obtain ⟨c0, c1, f0, f1⟩ := two_cells B6.out))
  all_goals
    go_wp2
    obtain ⟨z0, z1, _, _⟩ := two_cells (blk_two B6.out (.int .i64 t) (.int .i64 n))
    refine bodyPost_ret (v := tw (vl t n) 0) (by simp [results, Try.results9, go_sem, z0, z1]) rfl ⟨rfl, ?_⟩
    exact set_two (grown_trans G3.out G6.out) (by omega) _ _
end Go.Proofs.Ytnbolfogmhlanaa
