/-
  Values: the small calls (IsNaN, NaN, Float, Int, Bool, Of, True). Known, and what signs make of two whole numbers. What signs make of two whole numbers: Binary. Binary: of two whole numbers, of two numbers with a point. What signs make of two numbers with a point. Values: what the laws of the interpreter need besides: the other noughts' signs, two answers compared, no number as a whole one.
-/
import Derived.Test.YtajoncmmdeahnaaGreatDoorKPm
import Derived.Test.YtajoncmmdeahnaaGreatDoorProg
import Derived.KernelRfl
import Derived.IntWalk
import Derived.WalkMore
import Derived.Deep.DeepCutAuto
import Derived.Deep.Cut
import Derived.Deep.RegionWith
import Derived.Deep.RegionLaw
import Derived.Laws.StructEq
namespace Go.Proofs.YtajoncmmdeahnaaGreatDoor
open Go.RowKit
namespace Vl
theorem hid {p : Prop} (h : p) : Hid p := h
theorem calls_at {P : Program} {f : Nat} {args args' : Array Value} {w : World} {Q : Ending → World → Prop} (h : args' = args) (c : Calls P f args w Q) : Calls P f args' w Q := h ▸ c
abbrev vl (t n : Int) : Value := .agg #[.int .i64 t, .int .i64 n]
def GrP (v : Value) (w : World) (e : Ending) (w' : World) : Prop := e = .returned v ∧ w.grownBy w' none
def StP (v : Value) (w : World) (e : Ending) (w' : World) : Prop := e = .returned v ∧ w' = w
def b2i (b : Bool) : Int := if b then 1 else 0
theorem grow1 (w : World) (o : Obj) : w.grownBy (w.alloc o) none := grown_alloc (grown_refl w none) o
theorem from_run (n : Int) (w : World) : (callFunc 174 #[.int .u64 n]).run Tryz.prog w = .ok (.value (.float .f64 n.toNat)) w := by kernel_rfl
set_option maxRecDepth 100000 in
theorem int_any (n : Int) (w : World) : Calls Tryz.prog 219 #[.int .i64 n] w (GrP (vl 1 n) w) := by
  unfold GrP
  go_enter Tryz.func219, Tryz.ntmps219
  go_wp2
  refine bodyPost_ret (v := vl 1 n) (by simp [results, Tryz.results219, go_sem]) rfl ⟨rfl, ?_⟩
  exact grow1 w _
set_option maxRecDepth 100000 in
theorem bool_any (b : Bool) (w : World) : Calls Tryz.prog 188 #[.bool b] w (GrP (vl 3 (b2i b)) w) := by
  unfold GrP b2i
  cases b with
  | true =>
    go_enter Tryz.func188, Tryz.ntmps188
    go_wp2
    refine bodyPost_ret (v := vl 3 1) (by simp [results, Tryz.results188, go_sem]) rfl ⟨rfl, ?_⟩
    exact grow1 w _
  | false =>
    go_enter Tryz.func188, Tryz.ntmps188
    go_wp2
    refine bodyPost_ret (v := vl 3 0) (by simp [results, Tryz.results188, go_sem]) rfl ⟨rfl, ?_⟩
    exact grow1 w _
set_option maxRecDepth 100000 in
theorem of_any (t n : Int) (w : World) : Calls Tryz.prog 221 #[vl t n] w (GrP (.float .f64 (IntKind.u64.wrap n).toNat) w) := by
  have F : ∀ W, (callFunc 174 #[.int .u64 (IntKind.u64.wrap n)]).run Tryz.prog W = .ok (.value (.float .f64 (IntKind.u64.wrap n).toNat)) W := fun W => from_run _ W
  unfold GrP
  go_enter Tryz.func221, Tryz.ntmps221
  go_wp2
  go_ret
  refine ⟨rfl, ?_⟩
  exact grow1 w _
theorem eq_run (t n : Int) (w : World) : (binOp BinOp.eql 115 (vl t n) (vl 3 1)).run Tryz.prog w = .ok (.bool (t == 3 && n == 1)) w := by
  have hu : Tryz.prog.underlying 115 = some (.struct (Tryz.prog.fieldsOf 115)) := by kernel_rfl
  have hf : (Tryz.prog.fieldsOf 115).toList = [⟨"T", 3, 0, false, "", "", 0⟩, ⟨"N", 2, 1, false, "", "", 8⟩] := by kernel_rfl
  have h3 : Tryz.prog.underlying 3 = some (.int .i64) := by kernel_rfl
  have h2 : Tryz.prog.underlying 2 = some (.int .i64) := by kernel_rfl
  rw [run_eql_struct, run_equalIn_struct w 9999 115 _ _ hu (by kernel_rfl), hf]
  simp [Op.eqFields, go_sem, h3, h2]
  by_cases h1 : t = 3
  · by_cases h2 : n = 1
    · simp [h1, h2]
    · simp [h1, h2]
  · simp [h1]
set_option maxRecDepth 100000 in
theorem true_any (t n : Int) (w : World) : Calls Tryz.prog 153 #[vl t n] w (GrP (.bool (t == 3 && n == 1)) w) := by
  have C1 : Hid (∀ W, Calls Tryz.prog 188 #[.bool true] W (GrP (vl 3 1) W)) := fun W => bool_any true W
  have Q : ∀ W, (binOp BinOp.eql 115 (vl t n) (vl 3 1)).run Tryz.prog W = .ok (.bool (t == 3 && n == 1)) W := fun W => eq_run t n W
  generalize (t == 3 && n == 1) = b at Q ⊢
  unfold GrP at C1 ⊢
  go_enter Tryz.func153, Tryz.ntmps153
  go_wp2
  have B0 := hid (Blk.new w 115 #[.int .i64 t, .int .i64 n])
  have G0 := hid (grow1 w (Obj.cells #[.int .i64 t, .int .i64 n] 115))
  generalize w.alloc (Obj.cells #[.int .i64 t, .int .i64 n] 115) = w0 at *
  have c0 := B0.out.cell 0
  have c1 := B0.out.cell 1
  simp at c0 c1
  go_region_with (go_at_call 188; refine (C1.out _).mono ?_; rintro e w1 ⟨rfl, hg⟩; have G1 : Hid (w0.grownBy w1 none) := ⟨hg.os, hg.tape, hg.output, hg.size, hg.block⟩; have B1 := hid (B0.out.kept G1.out (by simp)); have d0 := B1.out.cell 0; have d1 := B1.out.cell 1; simp at d0 d1; clear hg)
  all_goals
    go_wp2
    go_ret
    exact ⟨rfl, grown_trans G0.out G1.out⟩
set_option maxRecDepth 100000 in
theorem isNumber_1 (w : World) : Calls Tryz.prog 254 #[.int .i64 1] w (StP (.bool true) w) := by
  unfold StP
  go_enter Tryz.func254, Tryz.ntmps254
  go_wp2
  go_ret
  exact ⟨rfl, rfl⟩
set_option maxRecDepth 100000 in
theorem isType_1 (w : World) : Calls Tryz.prog 223 #[.int .i64 1] w (StP (.bool true) w) := by
  have C1 : Hid (∀ W, Calls Tryz.prog 254 #[.int .i64 1] W (StP (.bool true) W)) := fun W => isNumber_1 W
  unfold StP at C1 ⊢
  go_enter Tryz.func223, Tryz.ntmps223
  go_wp2_with (first
    | (go_at_call 254; refine (C1.out _).mono ?_; rintro e w1 ⟨rfl, hw⟩; replace hw := hw.symm; subst hw))
  go_ret
  exact ⟨rfl, rfl⟩
end Vl
end Go.Proofs.YtajoncmmdeahnaaGreatDoor
namespace Go.Proofs.YtajoncmmdeahnaaGreatDoor
open Go.RowKit
namespace Vl
def cmpI : BinOp → Int → Int → Bool
  | .lss, x, y => decide (x < y)
  | .leq, x, y => decide (x ≤ y)
  | .gtr, x, y => decide (y < x)
  | .geq, x, y => decide (y ≤ x)
  | .eql, x, y => x == y
  | _, x, y => x != y
set_option maxRecDepth 100000 in
theorem known_add_1 (w : World) : Calls Tryz.prog 250 #[.string ⟨#[43]⟩, .int .i64 1] w (StP (.bool true) w) := by
  have C1 : Hid (∀ W, Calls Tryz.prog 254 #[.int .i64 1] W (StP (.bool true) W)) := fun W => isNumber_1 W
  unfold StP at *
  go_enter Tryz.func250, Tryz.ntmps250
  go_wp2_with (first
    | (go_at_call 254; refine (C1.out _).mono ?_; rintro e w1 ⟨rfl, hw⟩; replace hw := hw.symm; subst hw))
  go_ret
  exact ⟨rfl, rfl⟩
set_option maxRecDepth 100000 in
theorem known_sub_1 (w : World) : Calls Tryz.prog 250 #[.string ⟨#[45]⟩, .int .i64 1] w (StP (.bool true) w) := by
  have C1 : Hid (∀ W, Calls Tryz.prog 254 #[.int .i64 1] W (StP (.bool true) W)) := fun W => isNumber_1 W
  unfold StP at *
  go_enter Tryz.func250, Tryz.ntmps250
  go_wp2_with (first
    | (go_at_call 254; refine (C1.out _).mono ?_; rintro e w1 ⟨rfl, hw⟩; replace hw := hw.symm; subst hw))
  go_ret
  exact ⟨rfl, rfl⟩
set_option maxRecDepth 100000 in
theorem known_mul_1 (w : World) : Calls Tryz.prog 250 #[.string ⟨#[42]⟩, .int .i64 1] w (StP (.bool true) w) := by
  have C1 : Hid (∀ W, Calls Tryz.prog 254 #[.int .i64 1] W (StP (.bool true) W)) := fun W => isNumber_1 W
  unfold StP at *
  go_enter Tryz.func250, Tryz.ntmps250
  go_wp2_with (first
    | (go_at_call 254; refine (C1.out _).mono ?_; rintro e w1 ⟨rfl, hw⟩; replace hw := hw.symm; subst hw))
  go_ret
  exact ⟨rfl, rfl⟩
set_option maxRecDepth 100000 in
theorem known_quo_1 (w : World) : Calls Tryz.prog 250 #[.string ⟨#[47]⟩, .int .i64 1] w (StP (.bool true) w) := by
  have C1 : Hid (∀ W, Calls Tryz.prog 254 #[.int .i64 1] W (StP (.bool true) W)) := fun W => isNumber_1 W
  unfold StP at *
  go_enter Tryz.func250, Tryz.ntmps250
  go_wp2_with (first
    | (go_at_call 254; refine (C1.out _).mono ?_; rintro e w1 ⟨rfl, hw⟩; replace hw := hw.symm; subst hw))
  go_ret
  exact ⟨rfl, rfl⟩
set_option maxRecDepth 100000 in
theorem known_rem_1 (w : World) : Calls Tryz.prog 250 #[.string ⟨#[37]⟩, .int .i64 1] w (StP (.bool true) w) := by
  unfold StP at *
  go_enter Tryz.func250, Tryz.ntmps250
  go_wp2
  go_ret
  exact ⟨rfl, rfl⟩
set_option maxRecDepth 100000 in
theorem known_lss_1 (w : World) : Calls Tryz.prog 250 #[.string ⟨#[60]⟩, .int .i64 1] w (StP (.bool true) w) := by
  have C1 : Hid (∀ W, Calls Tryz.prog 254 #[.int .i64 1] W (StP (.bool true) W)) := fun W => isNumber_1 W
  unfold StP at *
  go_enter Tryz.func250, Tryz.ntmps250
  go_wp2_with (first
    | (go_at_call 254; refine (C1.out _).mono ?_; rintro e w1 ⟨rfl, hw⟩; replace hw := hw.symm; subst hw))
  go_ret
  exact ⟨rfl, rfl⟩
set_option maxRecDepth 100000 in
theorem known_leq_1 (w : World) : Calls Tryz.prog 250 #[.string ⟨#[60, 61]⟩, .int .i64 1] w (StP (.bool true) w) := by
  have C1 : Hid (∀ W, Calls Tryz.prog 254 #[.int .i64 1] W (StP (.bool true) W)) := fun W => isNumber_1 W
  unfold StP at *
  go_enter Tryz.func250, Tryz.ntmps250
  go_wp2_with (first
    | (go_at_call 254; refine (C1.out _).mono ?_; rintro e w1 ⟨rfl, hw⟩; replace hw := hw.symm; subst hw))
  go_ret
  exact ⟨rfl, rfl⟩
set_option maxRecDepth 100000 in
theorem known_gtr_1 (w : World) : Calls Tryz.prog 250 #[.string ⟨#[62]⟩, .int .i64 1] w (StP (.bool true) w) := by
  have C1 : Hid (∀ W, Calls Tryz.prog 254 #[.int .i64 1] W (StP (.bool true) W)) := fun W => isNumber_1 W
  unfold StP at *
  go_enter Tryz.func250, Tryz.ntmps250
  go_wp2_with (first
    | (go_at_call 254; refine (C1.out _).mono ?_; rintro e w1 ⟨rfl, hw⟩; replace hw := hw.symm; subst hw))
  go_ret
  exact ⟨rfl, rfl⟩
set_option maxRecDepth 100000 in
theorem known_geq_1 (w : World) : Calls Tryz.prog 250 #[.string ⟨#[62, 61]⟩, .int .i64 1] w (StP (.bool true) w) := by
  have C1 : Hid (∀ W, Calls Tryz.prog 254 #[.int .i64 1] W (StP (.bool true) W)) := fun W => isNumber_1 W
  unfold StP at *
  go_enter Tryz.func250, Tryz.ntmps250
  go_wp2_with (first
    | (go_at_call 254; refine (C1.out _).mono ?_; rintro e w1 ⟨rfl, hw⟩; replace hw := hw.symm; subst hw))
  go_ret
  exact ⟨rfl, rfl⟩
set_option maxRecDepth 100000 in
theorem known_eql_1 (w : World) : Calls Tryz.prog 250 #[.string ⟨#[61, 61]⟩, .int .i64 1] w (StP (.bool true) w) := by
  have C1 : Hid (∀ W, Calls Tryz.prog 223 #[.int .i64 1] W (StP (.bool true) W)) := fun W => isType_1 W
  unfold StP at *
  go_enter Tryz.func250, Tryz.ntmps250
  go_wp2_with (first
    | (go_at_call 223; refine (C1.out _).mono ?_; rintro e w1 ⟨rfl, hw⟩; replace hw := hw.symm; subst hw))
  go_ret
  exact ⟨rfl, rfl⟩
set_option maxRecDepth 100000 in
theorem known_neq_1 (w : World) : Calls Tryz.prog 250 #[.string ⟨#[33, 61]⟩, .int .i64 1] w (StP (.bool true) w) := by
  have C1 : Hid (∀ W, Calls Tryz.prog 223 #[.int .i64 1] W (StP (.bool true) W)) := fun W => isType_1 W
  unfold StP at *
  go_enter Tryz.func250, Tryz.ntmps250
  go_wp2_with (first
    | (go_at_call 223; refine (C1.out _).mono ?_; rintro e w1 ⟨rfl, hw⟩; replace hw := hw.symm; subst hw))
  go_ret
  exact ⟨rfl, rfl⟩
set_option maxRecDepth 100000 in
theorem cmpI_lss (x y : Int) (w : World) : Calls Tryz.prog 269 #[.string ⟨#[60]⟩, .int .i64 x, .int .i64 y] w (StP (.bool (cmpI .lss x y)) w) := by
  unfold StP cmpI
  go_enter Tryz.func269, Tryz.ntmps269
  go_wp2
  go_ret
  exact ⟨rfl, rfl⟩
set_option maxRecDepth 100000 in
theorem cmpI_leq (x y : Int) (w : World) : Calls Tryz.prog 269 #[.string ⟨#[60, 61]⟩, .int .i64 x, .int .i64 y] w (StP (.bool (cmpI .leq x y)) w) := by
  unfold StP cmpI
  go_enter Tryz.func269, Tryz.ntmps269
  go_wp2
  go_ret
  exact ⟨rfl, rfl⟩
set_option maxRecDepth 100000 in
theorem cmpI_gtr (x y : Int) (w : World) : Calls Tryz.prog 269 #[.string ⟨#[62]⟩, .int .i64 x, .int .i64 y] w (StP (.bool (cmpI .gtr x y)) w) := by
  unfold StP cmpI
  go_enter Tryz.func269, Tryz.ntmps269
  go_wp2
  go_ret
  exact ⟨rfl, rfl⟩
set_option maxRecDepth 100000 in
theorem cmpI_geq (x y : Int) (w : World) : Calls Tryz.prog 269 #[.string ⟨#[62, 61]⟩, .int .i64 x, .int .i64 y] w (StP (.bool (cmpI .geq x y)) w) := by
  unfold StP cmpI
  go_enter Tryz.func269, Tryz.ntmps269
  go_wp2
  go_ret
  exact ⟨rfl, rfl⟩
set_option maxRecDepth 100000 in
theorem cmpI_eql (x y : Int) (w : World) : Calls Tryz.prog 269 #[.string ⟨#[61, 61]⟩, .int .i64 x, .int .i64 y] w (StP (.bool (cmpI .eql x y)) w) := by
  unfold StP cmpI
  go_enter Tryz.func269, Tryz.ntmps269
  go_wp2
  go_ret
  exact ⟨rfl, rfl⟩
set_option maxRecDepth 100000 in
theorem cmpI_neq (x y : Int) (w : World) : Calls Tryz.prog 269 #[.string ⟨#[33, 61]⟩, .int .i64 x, .int .i64 y] w (StP (.bool (cmpI .neq x y)) w) := by
  unfold StP cmpI
  go_enter Tryz.func269, Tryz.ntmps269
  go_wp2
  go_ret
  exact ⟨rfl, rfl⟩
end Vl
end Go.Proofs.YtajoncmmdeahnaaGreatDoor
namespace Go.Proofs.YtajoncmmdeahnaaGreatDoor
open Go.RowKit
namespace Vl
abbrev tw (v : Value) (k : Int) : Value := .tuple #[v, .int .i64 k]
theorem grow2 {w w1 : World} (h : w.grownBy w1 none) (o : Obj) : w.grownBy (w1.alloc o) none := grown_alloc h o
theorem set_two {w w1 : World} {b : Nat} (h : w.grownBy w1 none) (hb : w.heap.size ≤ b) (u v : Value) : w.grownBy ((w1.setCell ⟨b, 0, none⟩ u).setCell ⟨b, 1, none⟩ v) none := grown_set_new (grown_set_new h u hb) v hb
theorem blk_two {w : World} {b : Nat} {x y : Value} (h : Blk w b 115 #[x, y]) (u v : Value) : Blk ((w.setCell ⟨b, 0, none⟩ u).setCell ⟨b, 1, none⟩ v) b 115 #[u, v] := (h.set 0 u).set 1 v
theorem two_cells {w : World} {b : Nat} {x y : Value} (h : Blk w b 115 #[x, y]) : w.cell? ⟨b, 0, none⟩ = some x ∧ w.cell? ⟨b, 1, none⟩ = some y ∧ w.frozen? ⟨b, 0, none⟩ = false ∧ w.frozen? ⟨b, 1, none⟩ = false := ⟨h.cell 0, h.cell 1, h.frozen 0, h.frozen 1⟩
set_option maxRecDepth 100000 in
theorem div_quo (x y : Int) (w : World) (hy : ¬ y = 0) : Calls Tryz.prog 268 #[.string ⟨#[47]⟩, .int .i64 x, .int .i64 y] w (GrP (tw (vl 1 (IntKind.i64.wrap (x.tdiv y))) 0) w) := by
  have C22 : Hid (∀ W, Calls Tryz.prog 219 #[.int .i64 (IntKind.i64.wrap (x.tdiv y))] W (GrP (vl 1 (IntKind.i64.wrap (x.tdiv y))) W)) := fun W => int_any _ W
  unfold GrP at *
  generalize hr : IntKind.i64.wrap (x.tdiv y) = r at *
  go_enter Tryz.func268, Tryz.ntmps268
  go_wp2_with (first
    | (go_at_call 219; refine (C22.out _).mono ?_; rintro e w1 ⟨rfl, hg⟩; have B1 := hid ((Blk.new w 115 #[.int .i64 0, .int .i64 0]).kept hg (by simp)); obtain ⟨c0, c1, f0, f1⟩ := two_cells B1.out; have G1 := hid (grown_trans (grow1 _ _) hg); clear hg))
  obtain ⟨z0, z1, _, _⟩ := two_cells (blk_two B1.out (.int .i64 1) (.int .i64 r))
  refine bodyPost_ret (v := tw (vl 1 r) 0) (by simp [results, Tryz.results268, go_sem, z0, z1]) rfl ⟨rfl, ?_⟩
  exact set_two G1.out (Nat.le_refl _) _ _
set_option maxRecDepth 100000 in
theorem div_rem (x y : Int) (w : World) (hy : ¬ y = 0) : Calls Tryz.prog 268 #[.string ⟨#[37]⟩, .int .i64 x, .int .i64 y] w (GrP (tw (vl 1 (x.tmod y)) 0) w) := by
  have C22 : Hid (∀ W, Calls Tryz.prog 219 #[.int .i64 (x.tmod y)] W (GrP (vl 1 (x.tmod y)) W)) := fun W => int_any _ W
  unfold GrP at *
  generalize hr : x.tmod y = r at *
  go_enter Tryz.func268, Tryz.ntmps268
  go_wp2_with (first
    | (go_at_call 219; refine (C22.out _).mono ?_; rintro e w1 ⟨rfl, hg⟩; have B1 := hid ((Blk.new w 115 #[.int .i64 0, .int .i64 0]).kept hg (by simp)); obtain ⟨c0, c1, f0, f1⟩ := two_cells B1.out; have G1 := hid (grown_trans (grow1 _ _) hg); clear hg))
  obtain ⟨z0, z1, _, _⟩ := two_cells (blk_two B1.out (.int .i64 1) (.int .i64 r))
  refine bodyPost_ret (v := tw (vl 1 r) 0) (by simp [results, Tryz.results268, go_sem, z0, z1]) rfl ⟨rfl, ?_⟩
  exact set_two G1.out (Nat.le_refl _) _ _
set_option maxRecDepth 100000 in
theorem div_zero (s : ByteArray) (x : Int) (w : World) : Calls Tryz.prog 268 #[.string s, .int .i64 x, .int .i64 0] w (GrP (tw (vl 0 0) 3) w) := by
  unfold GrP at *
  go_enter Tryz.func268, Tryz.ntmps268
  go_wp2
  refine bodyPost_ret (v := tw (vl 0 0) 3) (by simp [results, Tryz.results268, go_sem]) rfl ⟨rfl, ?_⟩
  exact grow1 w _
set_option maxRecDepth 100000 in
theorem who_add (x y : Int) (w : World) : Calls Tryz.prog 251 #[.string ⟨#[43]⟩, .int .i64 x, .int .i64 y] w (GrP (tw (vl 1 (IntKind.i64.wrap (x + y))) 0) w) := by
  have C22 : Hid (∀ W, Calls Tryz.prog 219 #[.int .i64 (IntKind.i64.wrap (x + y))] W (GrP (vl 1 (IntKind.i64.wrap (x + y))) W)) := fun W => int_any _ W
  unfold GrP at *
  generalize hr : IntKind.i64.wrap (x + y) = r at *
  go_enter Tryz.func251, Tryz.ntmps251
  go_wp2_with (first
    | (go_at_call 219; refine (C22.out _).mono ?_; rintro e w1 ⟨rfl, hg⟩; have B1 := hid ((Blk.new w 115 #[.int .i64 0, .int .i64 0]).kept hg (by simp)); obtain ⟨c0, c1, f0, f1⟩ := two_cells B1.out; have G1 := hid (grown_trans (grow1 _ _) hg); clear hg))
  obtain ⟨z0, z1, _, _⟩ := two_cells (blk_two B1.out (.int .i64 1) (.int .i64 r))
  refine bodyPost_ret (v := tw (vl 1 r) 0) (by simp [results, Tryz.results251, go_sem, z0, z1]) rfl ⟨rfl, ?_⟩
  exact set_two G1.out (Nat.le_refl _) _ _
set_option maxRecDepth 100000 in
theorem who_sub (x y : Int) (w : World) : Calls Tryz.prog 251 #[.string ⟨#[45]⟩, .int .i64 x, .int .i64 y] w (GrP (tw (vl 1 (IntKind.i64.wrap (x - y))) 0) w) := by
  have C22 : Hid (∀ W, Calls Tryz.prog 219 #[.int .i64 (IntKind.i64.wrap (x - y))] W (GrP (vl 1 (IntKind.i64.wrap (x - y))) W)) := fun W => int_any _ W
  unfold GrP at *
  generalize hr : IntKind.i64.wrap (x - y) = r at *
  go_enter Tryz.func251, Tryz.ntmps251
  go_wp2_with (first
    | (go_at_call 219; refine (C22.out _).mono ?_; rintro e w1 ⟨rfl, hg⟩; have B1 := hid ((Blk.new w 115 #[.int .i64 0, .int .i64 0]).kept hg (by simp)); obtain ⟨c0, c1, f0, f1⟩ := two_cells B1.out; have G1 := hid (grown_trans (grow1 _ _) hg); clear hg))
  obtain ⟨z0, z1, _, _⟩ := two_cells (blk_two B1.out (.int .i64 1) (.int .i64 r))
  refine bodyPost_ret (v := tw (vl 1 r) 0) (by simp [results, Tryz.results251, go_sem, z0, z1]) rfl ⟨rfl, ?_⟩
  exact set_two G1.out (Nat.le_refl _) _ _
set_option maxRecDepth 100000 in
theorem who_mul (x y : Int) (w : World) : Calls Tryz.prog 251 #[.string ⟨#[42]⟩, .int .i64 x, .int .i64 y] w (GrP (tw (vl 1 (IntKind.i64.wrap (x * y))) 0) w) := by
  have C22 : Hid (∀ W, Calls Tryz.prog 219 #[.int .i64 (IntKind.i64.wrap (x * y))] W (GrP (vl 1 (IntKind.i64.wrap (x * y))) W)) := fun W => int_any _ W
  unfold GrP at *
  generalize hr : IntKind.i64.wrap (x * y) = r at *
  go_enter Tryz.func251, Tryz.ntmps251
  go_wp2_with (first
    | (go_at_call 219; refine (C22.out _).mono ?_; rintro e w1 ⟨rfl, hg⟩; have B1 := hid ((Blk.new w 115 #[.int .i64 0, .int .i64 0]).kept hg (by simp)); obtain ⟨c0, c1, f0, f1⟩ := two_cells B1.out; have G1 := hid (grown_trans (grow1 _ _) hg); clear hg))
  obtain ⟨z0, z1, _, _⟩ := two_cells (blk_two B1.out (.int .i64 1) (.int .i64 r))
  refine bodyPost_ret (v := tw (vl 1 r) 0) (by simp [results, Tryz.results251, go_sem, z0, z1]) rfl ⟨rfl, ?_⟩
  exact set_two G1.out (Nat.le_refl _) _ _
set_option maxRecDepth 100000 in
theorem who_quo (x y : Int) (w : World) (hy : ¬ y = 0) : Calls Tryz.prog 251 #[.string ⟨#[47]⟩, .int .i64 x, .int .i64 y] w (GrP (tw (vl 1 (IntKind.i64.wrap (x.tdiv y))) 0) w) := by
  have C38 : Hid (∀ W, Calls Tryz.prog 268 #[.string ⟨#[47]⟩, .int .i64 x, .int .i64 y] W (GrP (tw (vl 1 (IntKind.i64.wrap (x.tdiv y))) 0) W)) := fun W => div_quo x y W hy
  unfold GrP at *
  generalize hr : IntKind.i64.wrap (x.tdiv y) = r at *
  go_enter Tryz.func251, Tryz.ntmps251
  go_wp2_with (first
    | (go_at_call 268; refine (C38.out _).mono ?_; rintro e w1 ⟨rfl, hg⟩; have B1 := hid ((Blk.new w 115 #[.int .i64 0, .int .i64 0]).kept hg (by simp)); obtain ⟨c0, c1, f0, f1⟩ := two_cells B1.out; have G1 := hid (grown_trans (grow1 _ _) hg); clear hg))
  obtain ⟨z0, z1, _, _⟩ := two_cells (blk_two B1.out (.int .i64 1) (.int .i64 r))
  refine bodyPost_ret (v := tw (vl 1 r) 0) (by simp [results, Tryz.results251, go_sem, z0, z1]) rfl ⟨rfl, ?_⟩
  exact set_two G1.out (Nat.le_refl _) _ _
set_option maxRecDepth 100000 in
theorem who_rem (x y : Int) (w : World) (hy : ¬ y = 0) : Calls Tryz.prog 251 #[.string ⟨#[37]⟩, .int .i64 x, .int .i64 y] w (GrP (tw (vl 1 (x.tmod y)) 0) w) := by
  have C38 : Hid (∀ W, Calls Tryz.prog 268 #[.string ⟨#[37]⟩, .int .i64 x, .int .i64 y] W (GrP (tw (vl 1 (x.tmod y)) 0) W)) := fun W => div_rem x y W hy
  unfold GrP at *
  generalize hr : x.tmod y = r at *
  go_enter Tryz.func251, Tryz.ntmps251
  go_wp2_with (first
    | (go_at_call 268; refine (C38.out _).mono ?_; rintro e w1 ⟨rfl, hg⟩; have B1 := hid ((Blk.new w 115 #[.int .i64 0, .int .i64 0]).kept hg (by simp)); obtain ⟨c0, c1, f0, f1⟩ := two_cells B1.out; have G1 := hid (grown_trans (grow1 _ _) hg); clear hg))
  obtain ⟨z0, z1, _, _⟩ := two_cells (blk_two B1.out (.int .i64 1) (.int .i64 r))
  refine bodyPost_ret (v := tw (vl 1 r) 0) (by simp [results, Tryz.results251, go_sem, z0, z1]) rfl ⟨rfl, ?_⟩
  exact set_two G1.out (Nat.le_refl _) _ _
set_option maxRecDepth 100000 in
theorem zero_quo (x : Int) (w : World) : Calls Tryz.prog 251 #[.string ⟨#[47]⟩, .int .i64 x, .int .i64 0] w (GrP (tw (vl 0 0) 3) w) := by
  have C38 : Hid (∀ W, Calls Tryz.prog 268 #[.string ⟨#[47]⟩, .int .i64 x, .int .i64 0] W (GrP (tw (vl 0 0) 3) W)) := fun W => div_zero _ x W
  unfold GrP at *
  go_enter Tryz.func251, Tryz.ntmps251
  go_wp2_with (first
    | (go_at_call 268; refine (C38.out _).mono ?_; rintro e w1 ⟨rfl, hg⟩; have B1 := hid ((Blk.new w 115 #[.int .i64 0, .int .i64 0]).kept hg (by simp)); obtain ⟨c0, c1, f0, f1⟩ := two_cells B1.out; have G1 := hid (grown_trans (grow1 _ _) hg); clear hg))
  obtain ⟨z0, z1, _, _⟩ := two_cells (blk_two B1.out (.int .i64 0) (.int .i64 0))
  refine bodyPost_ret (v := tw (vl 0 0) 3) (by simp [results, Tryz.results251, go_sem, z0, z1]) rfl ⟨rfl, ?_⟩
  exact set_two G1.out (Nat.le_refl _) _ _
set_option maxRecDepth 100000 in
theorem zero_rem (x : Int) (w : World) : Calls Tryz.prog 251 #[.string ⟨#[37]⟩, .int .i64 x, .int .i64 0] w (GrP (tw (vl 0 0) 3) w) := by
  have C38 : Hid (∀ W, Calls Tryz.prog 268 #[.string ⟨#[37]⟩, .int .i64 x, .int .i64 0] W (GrP (tw (vl 0 0) 3) W)) := fun W => div_zero _ x W
  unfold GrP at *
  go_enter Tryz.func251, Tryz.ntmps251
  go_wp2_with (first
    | (go_at_call 268; refine (C38.out _).mono ?_; rintro e w1 ⟨rfl, hg⟩; have B1 := hid ((Blk.new w 115 #[.int .i64 0, .int .i64 0]).kept hg (by simp)); obtain ⟨c0, c1, f0, f1⟩ := two_cells B1.out; have G1 := hid (grown_trans (grow1 _ _) hg); clear hg))
  obtain ⟨z0, z1, _, _⟩ := two_cells (blk_two B1.out (.int .i64 0) (.int .i64 0))
  refine bodyPost_ret (v := tw (vl 0 0) 3) (by simp [results, Tryz.results251, go_sem, z0, z1]) rfl ⟨rfl, ?_⟩
  exact set_two G1.out (Nat.le_refl _) _ _
set_option maxRecDepth 100000 in
theorem who_lss (x y : Int) (w : World) : Calls Tryz.prog 251 #[.string ⟨#[60]⟩, .int .i64 x, .int .i64 y] w (GrP (tw (vl 3 (b2i (cmpI .lss x y))) 0) w) := by
  have C39 : Hid (∀ W, Calls Tryz.prog 269 #[.string ⟨#[60]⟩, .int .i64 x, .int .i64 y] W (StP (.bool (cmpI .lss x y)) W)) := fun W => cmpI_lss x y W
  have C23 : Hid (∀ W, Calls Tryz.prog 188 #[.bool (cmpI .lss x y)] W (GrP (vl 3 (b2i (cmpI .lss x y))) W)) := fun W => bool_any _ W
  generalize cmpI .lss x y = b at *
  generalize b2i b = r at *
  unfold GrP at *
  go_enter Tryz.func251, Tryz.ntmps251
  go_wp2_with (first
    | (go_at_call 269; refine (C39.out _).mono ?_; rintro e w1 ⟨rfl, hw⟩; replace hw := hw.symm; subst hw)
    | (go_at_call 188; refine (C23.out _).mono ?_; rintro e w1 ⟨rfl, hg⟩; have B1 := hid ((Blk.new w 115 #[.int .i64 0, .int .i64 0]).kept hg (by simp)); obtain ⟨c0, c1, f0, f1⟩ := two_cells B1.out; have G1 := hid (grown_trans (grow1 _ _) hg); clear hg))
  obtain ⟨z0, z1, _, _⟩ := two_cells (blk_two B1.out (.int .i64 3) (.int .i64 r))
  refine bodyPost_ret (v := tw (vl 3 r) 0) (by simp [results, Tryz.results251, go_sem, z0, z1]) rfl ⟨rfl, ?_⟩
  exact set_two G1.out (Nat.le_refl _) _ _
set_option maxRecDepth 100000 in
theorem who_leq (x y : Int) (w : World) : Calls Tryz.prog 251 #[.string ⟨#[60, 61]⟩, .int .i64 x, .int .i64 y] w (GrP (tw (vl 3 (b2i (cmpI .leq x y))) 0) w) := by
  have C39 : Hid (∀ W, Calls Tryz.prog 269 #[.string ⟨#[60, 61]⟩, .int .i64 x, .int .i64 y] W (StP (.bool (cmpI .leq x y)) W)) := fun W => cmpI_leq x y W
  have C23 : Hid (∀ W, Calls Tryz.prog 188 #[.bool (cmpI .leq x y)] W (GrP (vl 3 (b2i (cmpI .leq x y))) W)) := fun W => bool_any _ W
  generalize cmpI .leq x y = b at *
  generalize b2i b = r at *
  unfold GrP at *
  go_enter Tryz.func251, Tryz.ntmps251
  go_wp2_with (first
    | (go_at_call 269; refine (C39.out _).mono ?_; rintro e w1 ⟨rfl, hw⟩; replace hw := hw.symm; subst hw)
    | (go_at_call 188; refine (C23.out _).mono ?_; rintro e w1 ⟨rfl, hg⟩; have B1 := hid ((Blk.new w 115 #[.int .i64 0, .int .i64 0]).kept hg (by simp)); obtain ⟨c0, c1, f0, f1⟩ := two_cells B1.out; have G1 := hid (grown_trans (grow1 _ _) hg); clear hg))
  obtain ⟨z0, z1, _, _⟩ := two_cells (blk_two B1.out (.int .i64 3) (.int .i64 r))
  refine bodyPost_ret (v := tw (vl 3 r) 0) (by simp [results, Tryz.results251, go_sem, z0, z1]) rfl ⟨rfl, ?_⟩
  exact set_two G1.out (Nat.le_refl _) _ _
set_option maxRecDepth 100000 in
theorem who_gtr (x y : Int) (w : World) : Calls Tryz.prog 251 #[.string ⟨#[62]⟩, .int .i64 x, .int .i64 y] w (GrP (tw (vl 3 (b2i (cmpI .gtr x y))) 0) w) := by
  have C39 : Hid (∀ W, Calls Tryz.prog 269 #[.string ⟨#[62]⟩, .int .i64 x, .int .i64 y] W (StP (.bool (cmpI .gtr x y)) W)) := fun W => cmpI_gtr x y W
  have C23 : Hid (∀ W, Calls Tryz.prog 188 #[.bool (cmpI .gtr x y)] W (GrP (vl 3 (b2i (cmpI .gtr x y))) W)) := fun W => bool_any _ W
  generalize cmpI .gtr x y = b at *
  generalize b2i b = r at *
  unfold GrP at *
  go_enter Tryz.func251, Tryz.ntmps251
  go_wp2_with (first
    | (go_at_call 269; refine (C39.out _).mono ?_; rintro e w1 ⟨rfl, hw⟩; replace hw := hw.symm; subst hw)
    | (go_at_call 188; refine (C23.out _).mono ?_; rintro e w1 ⟨rfl, hg⟩; have B1 := hid ((Blk.new w 115 #[.int .i64 0, .int .i64 0]).kept hg (by simp)); obtain ⟨c0, c1, f0, f1⟩ := two_cells B1.out; have G1 := hid (grown_trans (grow1 _ _) hg); clear hg))
  obtain ⟨z0, z1, _, _⟩ := two_cells (blk_two B1.out (.int .i64 3) (.int .i64 r))
  refine bodyPost_ret (v := tw (vl 3 r) 0) (by simp [results, Tryz.results251, go_sem, z0, z1]) rfl ⟨rfl, ?_⟩
  exact set_two G1.out (Nat.le_refl _) _ _
set_option maxRecDepth 100000 in
theorem who_geq (x y : Int) (w : World) : Calls Tryz.prog 251 #[.string ⟨#[62, 61]⟩, .int .i64 x, .int .i64 y] w (GrP (tw (vl 3 (b2i (cmpI .geq x y))) 0) w) := by
  have C39 : Hid (∀ W, Calls Tryz.prog 269 #[.string ⟨#[62, 61]⟩, .int .i64 x, .int .i64 y] W (StP (.bool (cmpI .geq x y)) W)) := fun W => cmpI_geq x y W
  have C23 : Hid (∀ W, Calls Tryz.prog 188 #[.bool (cmpI .geq x y)] W (GrP (vl 3 (b2i (cmpI .geq x y))) W)) := fun W => bool_any _ W
  generalize cmpI .geq x y = b at *
  generalize b2i b = r at *
  unfold GrP at *
  go_enter Tryz.func251, Tryz.ntmps251
  go_wp2_with (first
    | (go_at_call 269; refine (C39.out _).mono ?_; rintro e w1 ⟨rfl, hw⟩; replace hw := hw.symm; subst hw)
    | (go_at_call 188; refine (C23.out _).mono ?_; rintro e w1 ⟨rfl, hg⟩; have B1 := hid ((Blk.new w 115 #[.int .i64 0, .int .i64 0]).kept hg (by simp)); obtain ⟨c0, c1, f0, f1⟩ := two_cells B1.out; have G1 := hid (grown_trans (grow1 _ _) hg); clear hg))
  obtain ⟨z0, z1, _, _⟩ := two_cells (blk_two B1.out (.int .i64 3) (.int .i64 r))
  refine bodyPost_ret (v := tw (vl 3 r) 0) (by simp [results, Tryz.results251, go_sem, z0, z1]) rfl ⟨rfl, ?_⟩
  exact set_two G1.out (Nat.le_refl _) _ _
set_option maxRecDepth 100000 in
theorem who_eql (x y : Int) (w : World) : Calls Tryz.prog 251 #[.string ⟨#[61, 61]⟩, .int .i64 x, .int .i64 y] w (GrP (tw (vl 3 (b2i (cmpI .eql x y))) 0) w) := by
  have C39 : Hid (∀ W, Calls Tryz.prog 269 #[.string ⟨#[61, 61]⟩, .int .i64 x, .int .i64 y] W (StP (.bool (cmpI .eql x y)) W)) := fun W => cmpI_eql x y W
  have C23 : Hid (∀ W, Calls Tryz.prog 188 #[.bool (cmpI .eql x y)] W (GrP (vl 3 (b2i (cmpI .eql x y))) W)) := fun W => bool_any _ W
  generalize cmpI .eql x y = b at *
  generalize b2i b = r at *
  unfold GrP at *
  go_enter Tryz.func251, Tryz.ntmps251
  go_wp2_with (first
    | (go_at_call 269; refine (C39.out _).mono ?_; rintro e w1 ⟨rfl, hw⟩; replace hw := hw.symm; subst hw)
    | (go_at_call 188; refine (C23.out _).mono ?_; rintro e w1 ⟨rfl, hg⟩; have B1 := hid ((Blk.new w 115 #[.int .i64 0, .int .i64 0]).kept hg (by simp)); obtain ⟨c0, c1, f0, f1⟩ := two_cells B1.out; have G1 := hid (grown_trans (grow1 _ _) hg); clear hg))
  obtain ⟨z0, z1, _, _⟩ := two_cells (blk_two B1.out (.int .i64 3) (.int .i64 r))
  refine bodyPost_ret (v := tw (vl 3 r) 0) (by simp [results, Tryz.results251, go_sem, z0, z1]) rfl ⟨rfl, ?_⟩
  exact set_two G1.out (Nat.le_refl _) _ _
set_option maxRecDepth 100000 in
theorem who_neq (x y : Int) (w : World) : Calls Tryz.prog 251 #[.string ⟨#[33, 61]⟩, .int .i64 x, .int .i64 y] w (GrP (tw (vl 3 (b2i (cmpI .neq x y))) 0) w) := by
  have C39 : Hid (∀ W, Calls Tryz.prog 269 #[.string ⟨#[33, 61]⟩, .int .i64 x, .int .i64 y] W (StP (.bool (cmpI .neq x y)) W)) := fun W => cmpI_neq x y W
  have C23 : Hid (∀ W, Calls Tryz.prog 188 #[.bool (cmpI .neq x y)] W (GrP (vl 3 (b2i (cmpI .neq x y))) W)) := fun W => bool_any _ W
  generalize cmpI .neq x y = b at *
  generalize b2i b = r at *
  unfold GrP at *
  go_enter Tryz.func251, Tryz.ntmps251
  go_wp2_with (first
    | (go_at_call 269; refine (C39.out _).mono ?_; rintro e w1 ⟨rfl, hw⟩; replace hw := hw.symm; subst hw)
    | (go_at_call 188; refine (C23.out _).mono ?_; rintro e w1 ⟨rfl, hg⟩; have B1 := hid ((Blk.new w 115 #[.int .i64 0, .int .i64 0]).kept hg (by simp)); obtain ⟨c0, c1, f0, f1⟩ := two_cells B1.out; have G1 := hid (grown_trans (grow1 _ _) hg); clear hg))
  obtain ⟨z0, z1, _, _⟩ := two_cells (blk_two B1.out (.int .i64 3) (.int .i64 r))
  refine bodyPost_ret (v := tw (vl 3 r) 0) (by simp [results, Tryz.results251, go_sem, z0, z1]) rfl ⟨rfl, ?_⟩
  exact set_two G1.out (Nat.le_refl _) _ _
end Vl
end Go.Proofs.YtajoncmmdeahnaaGreatDoor
namespace Go.Proofs.YtajoncmmdeahnaaGreatDoor
open Go.RowKit
namespace Vl
set_option maxRecDepth 100000 in
/-- Binary of two whole numbers is what wholes makes of them. -/
theorem bin_int (s : ByteArray) (x y : Int) (t n k : Int) (w : World) (hK : ∀ W, Calls Tryz.prog 250 #[.string s, .int .i64 1] W (StP (.bool true) W)) (hW : ∀ W, Calls Tryz.prog 251 #[.string s, .int .i64 x, .int .i64 y] W (GrP (tw (vl t n) k) W)) :
    Calls Tryz.prog 222 #[.string s, vl 1 x, vl 1 y] w (GrP (tw (vl t n) k) w) := by
  have C14 := hid hK
  have C26 := hid hW
  clear hK hW
  unfold GrP at *
  go_enter Tryz.func222, Tryz.ntmps222
  go_wp2_with (first
    | (go_at_call 250; refine (C14.out _).mono ?_; rintro e w1 ⟨rfl, hw⟩; replace hw := hw.symm; subst hw)
    | (go_at_call 251; refine (C26.out _).mono ?_; rintro e w1 ⟨rfl, hg⟩; have B1 : Hid (Blk w1 (w.heap.size + 2) 115 #[.int .i64 0, .int .i64 0]) := (Blk.kept (by simpa using Blk.new ((w.alloc (Obj.cells #[.int .i64 1, .int .i64 x] 115)).alloc (Obj.cells #[.int .i64 1, .int .i64 y] 115)) 115 #[.int .i64 0, .int .i64 0]) hg (by simp)); obtain ⟨c0, c1, f0, f1⟩ := two_cells B1.out; have G1 := hid (grown_trans (grow2 (grow2 (grow1 w _) _) _) hg); clear hg))
  obtain ⟨z0, z1, _, _⟩ := two_cells (blk_two B1.out (.int .i64 t) (.int .i64 n))
  refine bodyPost_ret (v := tw (vl t n) k) (by simp [results, Tryz.results222, go_sem, z0, z1]) rfl ⟨rfl, ?_⟩
  exact set_two G1.out (by omega) _ _
set_option maxRecDepth 100000 in
set_option maxHeartbeats 2000000 in
/-- Binary of two numbers is what numbers makes of them. -/
theorem bin_float (s : ByteArray) (x y : Int) (t n : Int) (w : World) (hK : ∀ W, Calls Tryz.prog 250 #[.string s, .int .i64 2] W (StP (.bool true) W)) (hW : ∀ W, Calls Tryz.prog 252 #[.string s, .float .f64 (IntKind.u64.wrap x).toNat, .float .f64 (IntKind.u64.wrap y).toNat] W (GrP (vl t n) W)) :
    Calls Tryz.prog 222 #[.string s, vl 2 x, vl 2 y] w (GrP (tw (vl t n) 0) w) := by
  have C14 := hid hK
  have C27 := hid hW
  have CA : Hid (∀ W, Calls Tryz.prog 221 #[vl 2 x] W (GrP (.float .f64 (IntKind.u64.wrap x).toNat) W)) := fun W => of_any 2 x W
  have CB : Hid (∀ W, Calls Tryz.prog 221 #[vl 2 y] W (GrP (.float .f64 (IntKind.u64.wrap y).toNat) W)) := fun W => of_any 2 y W
  clear hK hW
  generalize (IntKind.u64.wrap x).toNat = X at *
  generalize (IntKind.u64.wrap y).toNat = Y at *
  unfold GrP at *
  go_enter Tryz.func222, Tryz.ntmps222
  go_wp2_with (first
    | (go_at_call 250; refine (C14.out _).mono ?_; rintro e w1 ⟨rfl, hw⟩; replace hw := hw.symm; subst hw))
  have BA : Hid (Blk (((w.alloc (Obj.cells #[.int .i64 2, .int .i64 x] 115)).alloc (Obj.cells #[.int .i64 2, .int .i64 y] 115)).alloc (Obj.cells #[.int .i64 0, .int .i64 0] 115)) w.heap.size 115 #[.int .i64 2, .int .i64 x]) := ((Blk.new w 115 _).alloc _).alloc _
  have BB : Hid (Blk (((w.alloc (Obj.cells #[.int .i64 2, .int .i64 x] 115)).alloc (Obj.cells #[.int .i64 2, .int .i64 y] 115)).alloc (Obj.cells #[.int .i64 0, .int .i64 0] 115)) (w.heap.size + 1) 115 #[.int .i64 2, .int .i64 y]) := Blk.alloc (by simpa using Blk.new (w.alloc (Obj.cells #[.int .i64 2, .int .i64 x] 115)) 115 #[.int .i64 2, .int .i64 y]) _
  have BR : Hid (Blk (((w.alloc (Obj.cells #[.int .i64 2, .int .i64 x] 115)).alloc (Obj.cells #[.int .i64 2, .int .i64 y] 115)).alloc (Obj.cells #[.int .i64 0, .int .i64 0] 115)) (w.heap.size + 2) 115 #[.int .i64 0, .int .i64 0]) := hid (by simpa using Blk.new ((w.alloc (Obj.cells #[.int .i64 2, .int .i64 x] 115)).alloc (Obj.cells #[.int .i64 2, .int .i64 y] 115)) 115 #[.int .i64 0, .int .i64 0])
  have G3 := hid (grow2 (grow2 (grow1 w (Obj.cells #[.int .i64 2, .int .i64 x] 115)) (Obj.cells #[.int .i64 2, .int .i64 y] 115)) (Obj.cells #[.int .i64 0, .int .i64 0] 115))
  generalize ((w.alloc (Obj.cells #[.int .i64 2, .int .i64 x] 115)).alloc (Obj.cells #[.int .i64 2, .int .i64 y] 115)).alloc (Obj.cells #[.int .i64 0, .int .i64 0] 115) = w3 at *
  obtain ⟨a0, a1, _, _⟩ := two_cells BA.out
  obtain ⟨b0, b1, _, _⟩ := two_cells BB.out
  go_region_with (first
    | (go_at_call 221; refine calls_at (args := #[vl 2 x]) rfl ?_; refine (CA.out _).mono ?_; clear CA; rintro e w4 ⟨rfl, hg⟩; have G4 : Hid (w3.grownBy w4 none) := ⟨hg.os, hg.tape, hg.output, hg.size, hg.block⟩; clear hg; obtain ⟨b2, b3, _, _⟩ := two_cells (BB.out.kept G4.out (by simp)))
    | (go_at_call 221; refine calls_at (args := #[vl 2 y]) rfl ?_; refine (CB.out _).mono ?_; clear CB; rintro e w5 ⟨rfl, hg⟩; have G5 : Hid (w3.grownBy w5 none) := grown_trans G4.out ⟨hg.os, hg.tape, hg.output, hg.size, hg.block⟩; clear hg)
    | (go_at_call 252; refine (C27.out _).mono ?_; clear C27; rintro e w6 ⟨rfl, hg⟩; have G6 : Hid (w3.grownBy w6 none) := grown_trans G5.out ⟨hg.os, hg.tape, hg.output, hg.size, hg.block⟩; clear hg; have B6 := hid (BR.out.kept G6.out (by simp)); obtain ⟨c0, c1, f0, f1⟩ := two_cells B6.out))
  all_goals
    go_wp2
    obtain ⟨z0, z1, _, _⟩ := two_cells (blk_two B6.out (.int .i64 t) (.int .i64 n))
    refine bodyPost_ret (v := tw (vl t n) 0) (by simp [results, Tryz.results222, go_sem, z0, z1]) rfl ⟨rfl, ?_⟩
    exact set_two (grown_trans G3.out G6.out) (by omega) _ _
end Vl
end Go.Proofs.YtajoncmmdeahnaaGreatDoor
namespace Go.Proofs.YtajoncmmdeahnaaGreatDoor
open Go.RowKit
namespace Vl
end Vl
end Go.Proofs.YtajoncmmdeahnaaGreatDoor
namespace Go.Proofs.YtajoncmmdeahnaaGreatDoor
open Go.RowKit
namespace Vl
set_option maxRecDepth 100000 in
theorem neg_gen (n r : Int) (F F' : Nat) (w : World) (hO : ∀ W, Calls Tryz.prog 221 #[vl 2 n] W (GrP (.float .f64 F) W)) (hn : ∀ W, (Op.unary UnOp.neg (.float .f64 F)).run Tryz.prog W = .ok (.float .f64 F') W) (hC : ∀ W, Calls Tryz.prog 220 #[.float .f64 F'] W (GrP (vl 2 r) W)) : Calls Tryz.prog 185 #[.string ⟨#[45]⟩, vl 2 n] w (GrP (vl 2 r) w) := by
  have C20 := hid hO
  have C17 := hid hC
  clear hO hC
  unfold GrP at *
  go_enter Tryz.func185, Tryz.ntmps185
  go_wp2_with (first
    | (go_at_call 221; refine (C20.out _).mono ?_; rintro e w2 ⟨rfl, hg⟩; have B2 : Hid (Blk w2 (w.heap.size + 1) 115 #[.int .i64 0, .int .i64 0]) := (Blk.kept (by simpa using Blk.new (w.alloc (Obj.cells #[.int .i64 2, .int .i64 n] 115)) 115 #[.int .i64 0, .int .i64 0]) hg (by simp)); have G2 := hid (grown_trans (grow2 (grow1 w _) _) hg); clear hg)
    | (go_at_call 220; refine (C17.out _).mono ?_; rintro e w1 ⟨rfl, hg⟩; have B1 := hid (B2.out.kept hg (by simp)); obtain ⟨c0, c1, f0, f1⟩ := two_cells B1.out; have G1 := hid (grown_trans G2.out hg); clear hg))
  obtain ⟨z0, z1, _, _⟩ := two_cells (blk_two B1.out (.int .i64 2) (.int .i64 r))
  refine bodyPost_ret (v := vl 2 r) (by simp [results, Tryz.results185, go_sem, z0, z1]) rfl ⟨rfl, ?_⟩
  exact set_two G1.out (by omega) _ _
set_option maxRecDepth 100000 in
theorem known_eql_3 (w : World) : Calls Tryz.prog 250 #[.string ⟨#[61, 61]⟩, .int .i64 3] w (StP (.bool true) w) := by
  have C32 : Hid (∀ W, Calls Tryz.prog 254 #[.int .i64 3] W (StP (.bool false) W)) := fun W => by
    unfold StP
    go_enter Tryz.func254, Tryz.ntmps254
    go_wp2
    go_ret
    exact ⟨rfl, rfl⟩
  have C33 : Hid (∀ W, Calls Tryz.prog 223 #[.int .i64 3] W (StP (.bool true) W)) := fun W => by
    unfold StP at *
    go_enter Tryz.func223, Tryz.ntmps223
    go_wp2_with (go_at_call 254; refine (C32.out _).mono ?_; rintro e w1 ⟨rfl, hw⟩; replace hw := hw.symm; subst hw)
    go_ret
    exact ⟨rfl, rfl⟩
  unfold StP at *
  go_enter Tryz.func250, Tryz.ntmps250
  go_wp2_with (go_at_call 223; refine (C33.out _).mono ?_; rintro e w1 ⟨rfl, hw⟩; replace hw := hw.symm; subst hw)
  go_ret
  exact ⟨rfl, rfl⟩
set_option maxRecDepth 100000 in
theorem answers_eql (x y : Bool) (w : World) : Calls Tryz.prog 253 #[.string ⟨#[61, 61]⟩, .bool x, .bool y] w (StP (.bool (x == y)) w) := by
  unfold StP
  go_enter Tryz.func253, Tryz.ntmps253
  go_wp2
  go_ret
  exact ⟨rfl, rfl⟩
set_option maxRecDepth 100000 in
set_option maxHeartbeats 2000000 in
theorem bin_bool (x y : Int) (w : World) : Calls Tryz.prog 222 #[.string ⟨#[61, 61]⟩, vl 3 x, vl 3 y] w (GrP (tw (vl 3 (b2i ((x == 1) == (y == 1)))) 0) w) := by
  have C14 : Hid (∀ W, Calls Tryz.prog 250 #[.string ⟨#[61, 61]⟩, .int .i64 3] W (StP (.bool true) W)) := fun W => known_eql_3 W
  have CA : Hid (∀ z W, Calls Tryz.prog 153 #[vl 3 z] W (GrP (.bool (z == 1)) W)) := fun z W => by
    have h := true_any 3 z W
    exact h
  have CD : Hid (∀ p q W, Calls Tryz.prog 253 #[.string ⟨#[61, 61]⟩, .bool p, .bool q] W (StP (.bool (p == q)) W)) := fun p q W => answers_eql p q W
  have CE : Hid (∀ p W, Calls Tryz.prog 188 #[.bool p] W (GrP (vl 3 (b2i p)) W)) := fun p W => bool_any p W
  unfold GrP at *
  generalize hX : (x == 1) = p at *
  generalize hY : (y == 1) = q at *
  have CA1 : Hid (∀ W, Calls Tryz.prog 153 #[vl 3 x] W fun e w' => e = Ending.returned (Value.bool p) ∧ W.grownBy w' none) := hid (fun W => by have h := CA.out x W; rw [hX] at h; exact h)
  have CA2 : Hid (∀ W, Calls Tryz.prog 153 #[vl 3 y] W fun e w' => e = Ending.returned (Value.bool q) ∧ W.grownBy w' none) := hid (fun W => by have h := CA.out y W; rw [hY] at h; exact h)
  have CD1 := hid (CD.out p q)
  generalize (p == q) = r at *
  have CE1 := hid (CE.out r)
  generalize b2i r = R at *
  clear CA CD CE hX hY
  go_enter Tryz.func222, Tryz.ntmps222
  go_wp2_with (first
    | (go_at_call 250; refine (C14.out _).mono ?_; rintro e w1 ⟨rfl, hw⟩; replace hw := hw.symm; subst hw))
  have BA : Hid (Blk (((w.alloc (Obj.cells #[.int .i64 3, .int .i64 x] 115)).alloc (Obj.cells #[.int .i64 3, .int .i64 y] 115)).alloc (Obj.cells #[.int .i64 0, .int .i64 0] 115)) w.heap.size 115 #[.int .i64 3, .int .i64 x]) := ((Blk.new w 115 _).alloc _).alloc _
  have BB : Hid (Blk (((w.alloc (Obj.cells #[.int .i64 3, .int .i64 x] 115)).alloc (Obj.cells #[.int .i64 3, .int .i64 y] 115)).alloc (Obj.cells #[.int .i64 0, .int .i64 0] 115)) (w.heap.size + 1) 115 #[.int .i64 3, .int .i64 y]) := Blk.alloc (by simpa using Blk.new (w.alloc (Obj.cells #[.int .i64 3, .int .i64 x] 115)) 115 #[.int .i64 3, .int .i64 y]) _
  have BR : Hid (Blk (((w.alloc (Obj.cells #[.int .i64 3, .int .i64 x] 115)).alloc (Obj.cells #[.int .i64 3, .int .i64 y] 115)).alloc (Obj.cells #[.int .i64 0, .int .i64 0] 115)) (w.heap.size + 2) 115 #[.int .i64 0, .int .i64 0]) := hid (by simpa using Blk.new ((w.alloc (Obj.cells #[.int .i64 3, .int .i64 x] 115)).alloc (Obj.cells #[.int .i64 3, .int .i64 y] 115)) 115 #[.int .i64 0, .int .i64 0])
  have G3 := hid (grow2 (grow2 (grow1 w (Obj.cells #[.int .i64 3, .int .i64 x] 115)) (Obj.cells #[.int .i64 3, .int .i64 y] 115)) (Obj.cells #[.int .i64 0, .int .i64 0] 115))
  generalize ((w.alloc (Obj.cells #[.int .i64 3, .int .i64 x] 115)).alloc (Obj.cells #[.int .i64 3, .int .i64 y] 115)).alloc (Obj.cells #[.int .i64 0, .int .i64 0] 115) = w3 at *
  obtain ⟨a0, a1, _, _⟩ := two_cells BA.out
  obtain ⟨b0, b1, _, _⟩ := two_cells BB.out
  go_region_with (first
    | (go_at_call 153; refine calls_at (args := #[vl 3 x]) rfl ?_; refine (CA1.out _).mono ?_; clear CA1; rintro e w4 ⟨rfl, hg⟩; have G4 : Hid (w3.grownBy w4 none) := ⟨hg.os, hg.tape, hg.output, hg.size, hg.block⟩; clear hg; obtain ⟨b2, b3, _, _⟩ := two_cells (BB.out.kept G4.out (by simp)))
    | (go_at_call 153; refine calls_at (args := #[vl 3 y]) rfl ?_; refine (CA2.out _).mono ?_; clear CA2; rintro e w5 ⟨rfl, hg⟩; have G5 : Hid (w3.grownBy w5 none) := grown_trans G4.out ⟨hg.os, hg.tape, hg.output, hg.size, hg.block⟩; clear hg)
    | (go_at_call 253; refine (CD1.out _).mono ?_; clear CD1; rintro e w6 ⟨rfl, hw⟩; replace hw := hw.symm; subst hw)
    | (go_at_call 188; refine (CE1.out _).mono ?_; clear CE1; rintro e w7 ⟨rfl, hg⟩; have G6 : Hid (w3.grownBy w7 none) := grown_trans G5.out ⟨hg.os, hg.tape, hg.output, hg.size, hg.block⟩; clear hg; have B6 := hid (BR.out.kept G6.out (by simp)); obtain ⟨c0, c1, f0, f1⟩ := two_cells B6.out))
  all_goals
    go_wp2
    obtain ⟨z0, z1, _, _⟩ := two_cells (blk_two B6.out (.int .i64 3) (.int .i64 R))
    refine bodyPost_ret (v := tw (vl 3 R) 0) (by simp [results, Tryz.results222, go_sem, z0, z1]) rfl ⟨rfl, ?_⟩
    exact set_two (grown_trans G3.out G6.out) (by omega) _ _
end Vl
namespace Ip
open Vl (StP GrP tw vl)
structure FlC (L : Fl) : Prop where
  bin : ∀ (t : ByteArray) x y v, L.bin t.data.toList x y = some v → (∀ W, Calls Tryz.prog 250 #[.string t, .int .i64 2] W (StP (.bool true) W)) ∧ ∀ W, Calls Tryz.prog 252 #[.string t, .float .f64 x, .float .f64 y] W (GrP (vV v) W)
  neg : ∀ n v, L.neg (ofV (2, n)) = some v → ∀ W, Calls Tryz.prog 185 #[.string ⟨#[45]⟩, vl 2 n] W (GrP (vV v) W)
  cut : ∀ n r, L.cut (ofV (2, n)) = some r → ∀ W, Calls Tryz.prog 187 #[.int .i64 1, vl 2 n] W (GrP (tw (vV r.1) r.2) W)
theorem bytes_of {t : ByteArray} {l : List UInt8} (h : t.data.toList = l) : t = ⟨l.toArray⟩ := by
  cases t with
  | mk d => cases d with
    | mk l' => subst h; rfl
theorem binC {L : Fl} (hL : FlC L) (t : ByteArray) (a b : V) (r : V × Nat) (h : binM L t.data.toList a b = some r) (w : World) : Calls Tryz.prog 222 #[.string t, vV a, vV b] w (GrP (tw (vV r.1) r.2) w) := by
  obtain ⟨a1, x⟩ := a
  obtain ⟨b1, y⟩ := b
  unfold binM at h
  by_cases h1 : a1 = 1 ∧ b1 = 1
  · obtain ⟨rfl, rfl⟩ := h1
    rw [if_pos ⟨rfl, rfl⟩] at h
    by_cases h2 : wholeS.contains t.data.toList = true
    · rw [if_pos h2] at h
      have hr := Option.some.inj h
      subst hr
      have h3 : t.data.toList ∈ wholeS := by simpa using h2
      unfold wholeS at h3
      simp only [List.mem_cons, List.not_mem_nil, or_false] at h3
      rcases h3 with h3 | h3 | h3 | h3 | h3 | h3 | h3 | h3 | h3 | h3 | h3
      all_goals
        obtain rfl := bytes_of h3
        clear h h2
      · exact Vl.bin_int _ x y _ _ _ w Vl.known_add_1 (Vl.who_add x y)
      · exact Vl.bin_int _ x y _ _ _ w Vl.known_sub_1 (Vl.who_sub x y)
      · exact Vl.bin_int _ x y _ _ _ w Vl.known_mul_1 (Vl.who_mul x y)
      · show Calls _ _ _ _ (GrP (tw (vV (wholesM [47] x y).1) ((wholesM [47] x y).2 : Nat)) w)
        by_cases hy : y = 0
        · subst hy
          have e : wholesM [47] x 0 = ((0, 0), 3) := by simp [wholesM]
          rw [e]
          exact Vl.bin_int _ x 0 0 0 3 w Vl.known_quo_1 (Vl.zero_quo x)
        · have e : wholesM [47] x y = (intV (IntKind.i64.wrap (x.tdiv y)), 0) := by simp [wholesM, hy]
          rw [e]
          exact Vl.bin_int _ x y 1 _ 0 w Vl.known_quo_1 (fun W => Vl.who_quo x y W hy)
      · show Calls _ _ _ _ (GrP (tw (vV (wholesM [37] x y).1) ((wholesM [37] x y).2 : Nat)) w)
        by_cases hy : y = 0
        · subst hy
          have e : wholesM [37] x 0 = ((0, 0), 3) := by simp [wholesM]
          rw [e]
          exact Vl.bin_int _ x 0 0 0 3 w Vl.known_rem_1 (Vl.zero_rem x)
        · have e : wholesM [37] x y = (intV (x.tmod y), 0) := by simp [wholesM, hy]
          rw [e]
          exact Vl.bin_int _ x y 1 _ 0 w Vl.known_rem_1 (fun W => Vl.who_rem x y W hy)
      · exact Vl.bin_int _ x y _ _ _ w Vl.known_lss_1 (Vl.who_lss x y)
      · exact Vl.bin_int _ x y _ _ _ w Vl.known_leq_1 (Vl.who_leq x y)
      · exact Vl.bin_int _ x y _ _ _ w Vl.known_gtr_1 (Vl.who_gtr x y)
      · exact Vl.bin_int _ x y _ _ _ w Vl.known_geq_1 (Vl.who_geq x y)
      · exact Vl.bin_int _ x y _ _ _ w Vl.known_eql_1 (Vl.who_eql x y)
      · exact Vl.bin_int _ x y _ _ _ w Vl.known_neq_1 (Vl.who_neq x y)
    · rw [if_neg h2] at h
      cases h
  rw [if_neg h1] at h
  by_cases h2 : a1 = 2 ∧ b1 = 2
  · obtain ⟨rfl, rfl⟩ := h2
    rw [if_pos ⟨rfl, rfl⟩] at h
    rw [Option.map_eq_some_iff] at h
    obtain ⟨v, hv, rfl⟩ := h
    obtain ⟨k1, k2⟩ := hL.bin t _ _ v hv
    exact Vl.bin_float t x y v.1 v.2 w k1 k2
  rw [if_neg h2] at h
  by_cases h3 : a1 = 3 ∧ b1 = 3 ∧ t.data.toList = [61, 61]
  · rw [if_pos h3] at h
    obtain ⟨rfl, rfl, h4⟩ := h3
    obtain rfl := bytes_of h4
    have hr := Option.some.inj h
    subst hr
    exact Vl.bin_bool x y w
  · rw [if_neg h3] at h
    cases h
theorem unC {L : Fl} (hL : FlC L) (t : ByteArray) (a v : V) (h : unM L t.data.toList a = some v) (w : World) : Calls Tryz.prog 185 #[.string t, vV a] w (GrP (vV v) w) := by
  obtain ⟨a1, x⟩ := a
  unfold unM at h
  by_cases h1 : t.data.toList = [45] ∧ a1 = 2
  · rw [if_pos h1] at h
    obtain ⟨h2, rfl⟩ := h1
    obtain rfl := bytes_of h2
    exact hL.neg x v h w
  · rw [if_neg h1] at h
    cases h
theorem convC {L : Fl} (hL : FlC L) (t : Int) (a : V) (r : V × Nat) (h : convM L t a = some r) (w : World) : Calls Tryz.prog 187 #[.int .i64 t, vV a] w (GrP (tw (vV r.1) r.2) w) := by
  obtain ⟨a1, x⟩ := a
  unfold convM at h
  by_cases h1 : t = 1 ∧ a1 = 2
  · rw [if_pos h1] at h
    obtain ⟨rfl, rfl⟩ := h1
    exact hL.cut x r h w
  · rw [if_neg h1] at h
    cases h
theorem trueC (a : V) (w : World) : Calls Tryz.prog 153 #[vV a] w (GrP (.bool (trueV a)) w) := Vl.true_any a.1 a.2 w
def flM : Fl := ⟨fun _ _ _ => none, fun _ => none, fun _ => none⟩
theorem flM_ok : FlC flM := by
  refine ⟨fun _ _ _ _ h => ?_, fun _ _ h _ => ?_, fun _ _ h _ => ?_⟩ <;> (unfold flM at h; cases h)
end Ip
end Go.Proofs.YtajoncmmdeahnaaGreatDoor
