/-
  Two arrays of 25 numbers of 64 bits that are the same are equal, as the model tells it.
-/
import Derived.Test.YtncplpgelfjfjaaDoorAwake
import Derived.Laws.StructEq
namespace Go.Proofs.YtncplpgelfjfjaaDoor
open Go.RowKit
theorem part22 (f : Nat → Int) (i : Nat) (hi : i < 25) (w : World) : (part 22 (arr .u64 25 f) (i * 1)).run Tryd.prog w = .ok (.int .u64 (f i)) w := by
  have ha : (isAgg 22).run Tryd.prog w = .ok false w := by kernel_rfl
  unfold part
  rw [Nat.mul_one, arr_get .u64 25 f i hi]
  simp [ha]
theorem eq_loop (w : World) (l : List Nat) (hl : ∀ i ∈ l, i < 25) (body : Nat → Option Bool × Unit → Sem (ForInStep (Option Bool × Unit)))
    (hb : ∀ i, i < 25 → ∀ r, (body i r).run Tryd.prog w = .ok (.yield (none, ())) w) : (forIn l (none, ()) body).run Tryd.prog w = .ok (none, ()) w := by
  induction l with
  | nil => simp [Sem.run_pure]
  | cons i l ih =>
    simp only [List.forIn_cons, Sem.run_bind, hb i (hl i (by simp)), Result.andThen]
    exact ih (fun j hj => hl j (by simp [hj]))
theorem eq25_in (d : Nat) (f : Nat → Int) (w : World) : (Op.equalIn (d + 1 + 1) 23 (.agg (arr .u64 25 f)) (.agg (arr .u64 25 f))).run Tryd.prog w = .ok true w := by
  have hs : (sizeOf 22).run Tryd.prog w = .ok 1 w := by kernel_rfl
  unfold Op.equalIn
  simp only [Sem.run_bind, run_underlying Tryd.underlying23, Result.andThen_ok, hs, Std.Legacy.Range.forIn_eq_forIn_range']
  rw [eq_loop]
  · simp [Sem.run_pure]
  · intro i hi
    simp [Std.Legacy.Range.size] at hi
    exact hi
  · intro i hi r
    rw [Sem.run_bind, part22 f i hi]
    simp only [Result.andThen_ok]
    rw [Sem.run_bind, part22 f i hi]
    simp [run_equalIn_int w d 22 .u64 .u64 (f i) (f i) Tryd.underlying22]
theorem eq25 (f : Nat → Int) (w : World) : (binOp .eql 23 (.agg (arr .u64 25 f)) (.agg (arr .u64 25 f))).run Tryd.prog w = .ok (.bool true) w := by
  rw [run_eql_struct, eq25_in 9998 f w]
  rfl
end Go.Proofs.YtncplpgelfjfjaaDoor
