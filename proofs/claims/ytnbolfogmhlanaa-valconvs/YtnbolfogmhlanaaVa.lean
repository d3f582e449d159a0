/-
  Values: the small calls (IsNaN, NaN, Float, Int, Bool, Of, True).
-/
import Derived.Test.YtnbolfogmhlanaaMem
import Derived.Test.YtnbolfogmhlanaaProg
import Derived.KernelRfl
import Derived.IntWalk
import Derived.WalkMore
import Derived.Deep.DeepCutAuto
import Derived.Deep.Cut
import Derived.Deep.RegionWith
import Derived.Deep.RegionLaw
import Derived.Laws.StructEq
namespace Go.Proofs.Ytnbolfogmhlanaa
open Go.RowKit
theorem hid {p : Prop} (h : p) : Hid p := h
theorem calls_at {P : Program} {f : Nat} {args args' : Array Value} {w : World} {Q : Ending → World → Prop} (h : args' = args) (c : Calls P f args w Q) : Calls P f args' w Q := h ▸ c
/-- A value. -/
abbrev vl (t n : Int) : Value := .agg #[.int .i64 t, .int .i64 n]
/-- This value is answered, and nothing that was there has turned. -/
def GrP (v : Value) (w : World) (e : Ending) (w' : World) : Prop := e = .returned v ∧ w.grownBy w' none
/-- This value is answered, and nothing has turned. -/
def StP (v : Value) (w : World) (e : Ending) (w' : World) : Prop := e = .returned v ∧ w' = w
/-- It is no number. -/
def nanB (q : Nat) : Bool := FloatKind.f64.format.order q q != some .eq
/-- The bits that a number's value has. -/
def oneN (q : Nat) : Nat := if nanB q then 9221120237041090561 else q
def b2i (b : Bool) : Int := if b then 1 else 0
theorem grow1 (w : World) (o : Obj) : w.grownBy (w.alloc o) none := grown_alloc (grown_refl w none) o
set_option maxRecDepth 100000 in
theorem isNaN_any (q : Nat) (w : World) : Calls Try.prog 34 #[.float .f64 q] w (StP (.bool (nanB q)) w) := by
  unfold nanB StP
  go_enter Try.func34, Try.ntmps34
  go_wp2
  go_ret
  exact ⟨rfl, rfl⟩
theorem bits_run (q : Nat) (w : World) : (callFunc 36 #[.float .f64 q]).run Try.prog w = .ok (.value (.int .u64 q)) w := by kernel_rfl
theorem from_run (n : Int) (w : World) : (callFunc 16 #[.int .u64 n]).run Try.prog w = .ok (.value (.float .f64 n.toNat)) w := by kernel_rfl
set_option maxRecDepth 100000 in
theorem nan_any (w : World) : Calls Try.prog 35 #[] w (StP (.float .f64 9221120237041090561) w) := by
  have F : ∀ W, (callFunc 16 #[.int .u64 9221120237041090561]).run Try.prog W = .ok (.value (.float .f64 9221120237041090561)) W := fun W => from_run _ W
  unfold StP
  go_enter Try.func35, Try.ntmps35
  go_wp2
  go_ret
  exact ⟨rfl, rfl⟩
set_option maxRecDepth 100000 in
theorem float_any (q : Nat) (w : World) : Calls Try.prog 17 #[.float .f64 q] w (GrP (vl 2 (IntKind.i64.wrap (oneN q))) w) := by
  have C1 : Hid (∀ W, Calls Try.prog 34 #[.float .f64 q] W (StP (.bool (nanB q)) W)) := fun W => isNaN_any q W
  have C2 : Hid (∀ W, Calls Try.prog 35 #[] W (StP (.float .f64 9221120237041090561) W)) := fun W => nan_any W
  have B1 : ∀ W, (callFunc 36 #[.float .f64 q]).run Try.prog W = .ok (.value (.int .u64 q)) W := fun W => bits_run _ W
  have B2 : ∀ W, (callFunc 36 #[.float .f64 9221120237041090561]).run Try.prog W = .ok (.value (.int .u64 9221120237041090561)) W := fun W => bits_run _ W
  unfold GrP oneN
  cases hq : nanB q with
  | true =>
    rw [hq] at C1
    generalize hr : IntKind.i64.wrap ((if true = true then 9221120237041090561 else q : Nat) : Int) = r
    have hr2 : IntKind.i64.wrap 9221120237041090561 = r := hr
    clear hr
    go_enter Try.func17, Try.ntmps17
    go_wp2_with (first
      | (go_at_call 34; refine (C1.out _).mono ?_; rintro e w1 ⟨rfl, hw⟩; replace hw := hw.symm; subst hw)
      | (go_at_call 35; refine (C2.out _).mono ?_; rintro e w1 ⟨rfl, hw⟩; replace hw := hw.symm; subst hw))
    refine bodyPost_ret (v := vl 2 r) (by simp [results, Try.results17, go_sem]) rfl ⟨rfl, ?_⟩
    exact grow1 w _
  | false =>
    rw [hq] at C1
    generalize hr : IntKind.i64.wrap ((if false = true then 9221120237041090561 else q : Nat) : Int) = r
    have hr2 : IntKind.i64.wrap (q : Int) = r := hr
    clear hr
    go_enter Try.func17, Try.ntmps17
    go_wp2_with (first
      | (go_at_call 34; refine (C1.out _).mono ?_; rintro e w1 ⟨rfl, hw⟩; replace hw := hw.symm; subst hw))
    refine bodyPost_ret (v := vl 2 r) (by simp [results, Try.results17, go_sem]) rfl ⟨rfl, ?_⟩
    exact grow1 w _
set_option maxRecDepth 100000 in
theorem int_any (n : Int) (w : World) : Calls Try.prog 22 #[.int .i64 n] w (GrP (vl 1 n) w) := by
  unfold GrP
  go_enter Try.func22, Try.ntmps22
  go_wp2
  refine bodyPost_ret (v := vl 1 n) (by simp [results, Try.results22, go_sem]) rfl ⟨rfl, ?_⟩
  exact grow1 w _
set_option maxRecDepth 100000 in
theorem bool_any (b : Bool) (w : World) : Calls Try.prog 23 #[.bool b] w (GrP (vl 3 (b2i b)) w) := by
  unfold GrP b2i
  cases b with
  | true =>
    go_enter Try.func23, Try.ntmps23
    go_wp2
    refine bodyPost_ret (v := vl 3 1) (by simp [results, Try.results23, go_sem]) rfl ⟨rfl, ?_⟩
    exact grow1 w _
  | false =>
    go_enter Try.func23, Try.ntmps23
    go_wp2
    refine bodyPost_ret (v := vl 3 0) (by simp [results, Try.results23, go_sem]) rfl ⟨rfl, ?_⟩
    exact grow1 w _
set_option maxRecDepth 100000 in
theorem of_any (t n : Int) (w : World) : Calls Try.prog 20 #[vl t n] w (GrP (.float .f64 (IntKind.u64.wrap n).toNat) w) := by
  have F : ∀ W, (callFunc 16 #[.int .u64 (IntKind.u64.wrap n)]).run Try.prog W = .ok (.value (.float .f64 (IntKind.u64.wrap n).toNat)) W := fun W => from_run _ W
  unfold GrP
  go_enter Try.func20, Try.ntmps20
  go_wp2
  go_ret
  refine ⟨rfl, ?_⟩
  exact grow1 w _
theorem eq_run (t n : Int) (w : World) : (binOp BinOp.eql 23 (vl t n) (vl 3 1)).run Try.prog w = .ok (.bool (t == 3 && n == 1)) w := by
  have hu : Try.prog.underlying 23 = some (.struct (Try.prog.fieldsOf 23)) := by kernel_rfl
  have hf : (Try.prog.fieldsOf 23).toList = [⟨"T", 3, 0, false, "", "", 0⟩, ⟨"N", 2, 1, false, "", "", 8⟩] := by kernel_rfl
  have h3 : Try.prog.underlying 3 = some (.int .i64) := by kernel_rfl
  have h2 : Try.prog.underlying 2 = some (.int .i64) := by kernel_rfl
  rw [run_eql_struct, run_equalIn_struct w 9999 23 _ _ hu (by kernel_rfl), hf]
  simp [Op.eqFields, go_sem, h3, h2]
  by_cases h1 : t = 3
  · by_cases h2 : n = 1
    · simp [h1, h2]
    · simp [h1, h2]
  · simp [h1]
set_option maxRecDepth 100000 in
theorem true_any (t n : Int) (w : World) : Calls Try.prog 21 #[vl t n] w (GrP (.bool (t == 3 && n == 1)) w) := by
  have C1 : Hid (∀ W, Calls Try.prog 23 #[.bool true] W (GrP (vl 3 1) W)) := fun W => bool_any true W
  have Q : ∀ W, (binOp BinOp.eql 23 (vl t n) (vl 3 1)).run Try.prog W = .ok (.bool (t == 3 && n == 1)) W := fun W => eq_run t n W
  generalize (t == 3 && n == 1) = b at Q ⊢
  unfold GrP at C1 ⊢
  go_enter Try.func21, Try.ntmps21
  go_wp2
  have B0 := hid (Blk.new w 23 #[.int .i64 t, .int .i64 n])
  have G0 := hid (grow1 w (Obj.cells #[.int .i64 t, .int .i64 n] 23))
  generalize w.alloc (Obj.cells #[.int .i64 t, .int .i64 n] 23) = w0 at *
  have c0 := B0.out.cell 0
  have c1 := B0.out.cell 1
  simp at c0 c1
  go_region_with (go_at_call 23; refine (C1.out _).mono ?_; rintro e w1 ⟨rfl, hg⟩; have G1 : Hid (w0.grownBy w1 none) := ⟨hg.os, hg.tape, hg.output, hg.size, hg.block⟩; have B1 := hid (B0.out.kept G1.out (by simp)); have d0 := B1.out.cell 0; have d1 := B1.out.cell 1; simp at d0 d1; clear hg)
  all_goals
    go_wp2
    go_ret
    exact ⟨rfl, grown_trans G0.out G1.out⟩
set_option maxRecDepth 100000 in
theorem isNumber_1 (w : World) : Calls Try.prog 32 #[.int .i64 1] w (StP (.bool true) w) := by
  unfold StP
  go_enter Try.func32, Try.ntmps32
  go_wp2
  go_ret
  exact ⟨rfl, rfl⟩
set_option maxRecDepth 100000 in
theorem isNumber_2 (w : World) : Calls Try.prog 32 #[.int .i64 2] w (StP (.bool true) w) := by
  unfold StP
  go_enter Try.func32, Try.ntmps32
  go_wp2
  go_ret
  exact ⟨rfl, rfl⟩
set_option maxRecDepth 100000 in
theorem isType_1 (w : World) : Calls Try.prog 33 #[.int .i64 1] w (StP (.bool true) w) := by
  have C1 : Hid (∀ W, Calls Try.prog 32 #[.int .i64 1] W (StP (.bool true) W)) := fun W => isNumber_1 W
  unfold StP at C1 ⊢
  go_enter Try.func33, Try.ntmps33
  go_wp2_with (first
    | (go_at_call 32; refine (C1.out _).mono ?_; rintro e w1 ⟨rfl, hw⟩; replace hw := hw.symm; subst hw))
  go_ret
  exact ⟨rfl, rfl⟩
set_option maxRecDepth 100000 in
theorem isType_2 (w : World) : Calls Try.prog 33 #[.int .i64 2] w (StP (.bool true) w) := by
  have C1 : Hid (∀ W, Calls Try.prog 32 #[.int .i64 2] W (StP (.bool true) W)) := fun W => isNumber_2 W
  unfold StP at C1 ⊢
  go_enter Try.func33, Try.ntmps33
  go_wp2_with (first
    | (go_at_call 32; refine (C1.out _).mono ?_; rintro e w1 ⟨rfl, hw⟩; replace hw := hw.symm; subst hw))
  go_ret
  exact ⟨rfl, rfl⟩
end Go.Proofs.Ytnbolfogmhlanaa
