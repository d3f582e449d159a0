/-
  The contracts that the law WirePuts leans on: few, the document's Text and Hash, the writer's Bool.
-/
import Derived.Test.YtdodammplhlihaaDoorWRef
namespace Go.Proofs.YtdodammplhlihaaDoor
open Go.RowKit
/-- The first 600 bytes at most. -/
def fewS (s : ByteArray) : ByteArray := if 600 < s.size then s.extract 0 600 else s
theorem fewS_size (s : ByteArray) : (fewS s).size ≤ 600 := by
  unfold fewS
  split
  · rw [ByteArray.size_extract]; omega
  · omega
set_option maxRecDepth 100000 in
set_option maxHeartbeats 400000 in
theorem refText_any (s : ByteArray) (w : World) (hs : s.size ≤ 1000000000) : Calls Tryd.prog 34 #[.string s] w fun e w' => e = .returned (.string (numS s.size 4 ++ s)) ∧ w.grownBy w' none := by
  have C : Hid (∀ w, Calls Tryd.prog 33 #[.int .u64 s.size, .int .i64 4] w fun e w' => e = .returned (.string (numS s.size 4)) ∧ w.grownBy w' none) := fun w => refNumber_any s.size 4 w (by omega)
  have hz := numS_size s.size 4
  generalize numS s.size 4 = S at *
  have i0 : (s.size : Int) ≤ 1000000000 := by omega
  have i1 : (S.size : Int) = 4 := by omega
  clear hs
  go_enter Tryd.func34, Tryd.ntmps34
  go_wp2_with (go_at_call 33; refine (C.out _).mono ?_; rintro e w1 ⟨rfl, hg1⟩; have G1 : Hid (w.grownBy w1 none) := hg1; clear hg1)
  go_ret
  exact ⟨rfl, G1.out⟩
theorem fill_step (s : List UInt8) (j : Nat) : s ++ List.replicate j 0 ++ [0] = s ++ List.replicate (j + 1) 0 := by
  rw [List.replicate_succ', List.append_assoc]
theorem setRow_blk {w : World} {g : Nat} {t : TypeId} {old : Array Value} (hg : Blk w g t old) (cells : Array Value) : Blk (w.setRow g cells) g t cells := setRow_heap w g old cells t (0, 0) hg
theorem setRow_grown (w : World) (g : Nat) (cells : Array Value) : w.grownBy (w.setRow g cells) (some g) :=
  ⟨rfl, rfl, rfl, by simp, fun k _ hn => setRow_other w g k cells (fun e => hn (by rw [e]))⟩
end Go.Proofs.YtdodammplhlihaaDoor
