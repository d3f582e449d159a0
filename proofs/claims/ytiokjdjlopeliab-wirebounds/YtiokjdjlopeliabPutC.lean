/-
  The contract of the document's Text.
-/
import Derived.Test.YtiokjdjlopeliabRef
namespace Go.Proofs.Ytiokjdjlopeliab
open Go.RowKit
set_option maxRecDepth 100000 in
set_option maxHeartbeats 400000 in
theorem refText_any (s : ByteArray) (w : World) (hs : s.size ≤ 1000000000) : Calls Try.prog 5 #[.string s] w fun e w' => e = .returned (.string (numS s.size 4 ++ s)) ∧ w.grownBy w' none := by
  have C : Hid (∀ w, Calls Try.prog 11 #[.int .u64 s.size, .int .i64 4] w fun e w' => e = .returned (.string (numS s.size 4)) ∧ w.grownBy w' none) := fun w => refNumber_any s.size 4 w (by omega)
  have hz := numS_size s.size 4
  generalize numS s.size 4 = S at *
  have i0 : (s.size : Int) ≤ 1000000000 := by omega
  have i1 : (S.size : Int) = 4 := by omega
  clear hs
  go_enter Try.func5, Try.ntmps5
  go_wp2_with (go_at_call 11; refine (C.out _).mono ?_; rintro e w1 ⟨rfl, hg1⟩; have G1 : Hid (w.grownBy w1 none) := hg1; clear hg1)
  go_ret
  exact ⟨rfl, G1.out⟩
end Go.Proofs.Ytiokjdjlopeliab
