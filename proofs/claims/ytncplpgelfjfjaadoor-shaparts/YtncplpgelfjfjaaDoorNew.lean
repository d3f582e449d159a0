/-
  The contracts of sha.New, and of Digest.Write at the empty text.
-/
import Derived.Test.YtncplpgelfjfjaaDoorLay
namespace Go.Proofs.YtncplpgelfjfjaaDoor
open Go.RowKit
theorem build_zero' {P : Program} {ops : Array Oper} {rest : List Oper} {o : Oper} {a : Act} {w : World} {Q : Exit → Act → World → Prop} (t : TypeId) (cs : Array Value) (hb : P.built t [] = some cs)
    (hgd : o.guard = none) (ho : o.op = .build t #[]) (h : wpList P ops Q rest (a.put o.dst (.agg cs)) w) : wpList P ops Q (o :: rest) a w :=
  wpList_build hgd t #[] ho (by simp [hb]) (by simpa [hb] using h)
theorem built50 : (Tryd.prog.built 50 []) = some (dig (fun _ => 0) 0) := by kernel_rfl
set_option maxRecDepth 100000 in
set_option maxHeartbeats 400000 in
theorem new_any (w : World) : Calls Tryd.prog 14 #[] w fun e w' => e = .returned (.pointer (some ⟨w.heap.size, 0, none⟩)) ∧ w' = w.alloc (.cells (dig (fun _ => 0) 0) 50) := by
  go_enter Tryd.func14, Tryd.ntmps14
  go_wp2_with (refine build_zero' 50 _ built50 rfl rfl ?_)
  go_ret
  exact ⟨rfl, rfl⟩
set_option maxRecDepth 100000 in
set_option maxHeartbeats 400000 in
theorem write_none (d : Nat) (w : World) : Calls Tryd.prog 15 #[.pointer (some ⟨d, 0, none⟩), .string ⟨#[]⟩] w fun e w' => e = .returned (.tuple #[]) ∧ w' = w := by
  go_enter Tryd.func15, Tryd.ntmps15
  go_wp2
  go_loop [9] (fun i => i = .int .i64 0) (fun _ => 0)
  case atStart => rfl
  case round =>
    subst hrel
    go_wp2
    go_end0
    exact ⟨rfl, rfl⟩
end Go.Proofs.YtncplpgelfjfjaaDoor
