/-
  What signs make of two whole numbers: Binary.
-/
import Derived.Test.YtnbolfogmhlanaaVb
namespace Go.Proofs.Ytnbolfogmhlanaa
open Go.RowKit
/-- A value, and what goes wrong. -/
abbrev tw (v : Value) (k : Int) : Value := .tuple #[v, .int .i64 k]
theorem grow2 {w w1 : World} (h : w.grownBy w1 none) (o : Obj) : w.grownBy (w1.alloc o) none := grown_alloc h o
theorem set_two {w w1 : World} {b : Nat} (h : w.grownBy w1 none) (hb : w.heap.size ≤ b) (u v : Value) : w.grownBy ((w1.setCell ⟨b, 0, none⟩ u).setCell ⟨b, 1, none⟩ v) none := grown_set_new (grown_set_new h u hb) v hb
theorem blk_two {w : World} {b : Nat} {x y : Value} (h : Blk w b 23 #[x, y]) (u v : Value) : Blk ((w.setCell ⟨b, 0, none⟩ u).setCell ⟨b, 1, none⟩ v) b 23 #[u, v] := (h.set 0 u).set 1 v
/-- The cells of a value that was kept. -/
theorem two_cells {w : World} {b : Nat} {x y : Value} (h : Blk w b 23 #[x, y]) : w.cell? ⟨b, 0, none⟩ = some x ∧ w.cell? ⟨b, 1, none⟩ = some y ∧ w.frozen? ⟨b, 0, none⟩ = false ∧ w.frozen? ⟨b, 1, none⟩ = false := ⟨h.cell 0, h.cell 1, h.frozen 0, h.frozen 1⟩
set_option maxRecDepth 100000 in
theorem div_quo (x y : Int) (w : World) (hy : ¬ y = 0) : Calls Try.prog 38 #[.string ⟨#[47]⟩, .int .i64 x, .int .i64 y] w (GrP (tw (vl 1 (IntKind.i64.wrap (x.tdiv y))) 0) w) := by
  have C22 : Hid (∀ W, Calls Try.prog 22 #[.int .i64 (IntKind.i64.wrap (x.tdiv y))] W (GrP (vl 1 (IntKind.i64.wrap (x.tdiv y))) W)) := fun W => int_any _ W
  unfold GrP at *
  generalize hr : IntKind.i64.wrap (x.tdiv y) = r at *
  go_enter Try.func38, Try.ntmps38
  go_wp2_with (first
    | (go_at_call 22; refine (C22.out _).mono ?_; rintro e w1 ⟨rfl, hg⟩; have B1 := hid ((Blk.new w 23 #[.int .i64 0, .int .i64 0]).kept hg (by simp)); obtain ⟨c0, c1, f0, f1⟩ := two_cells B1.out; have G1 := hid (grown_trans (grow1 _ _) hg); clear hg))
  obtain ⟨z0, z1, _, _⟩ := two_cells (blk_two B1.out (.int .i64 1) (.int .i64 r))
  refine bodyPost_ret (v := tw (vl 1 r) 0) (by simp [results, Try.results38, go_sem, z0, z1]) rfl ⟨rfl, ?_⟩
  exact set_two G1.out (Nat.le_refl _) _ _
set_option maxRecDepth 100000 in
theorem div_rem (x y : Int) (w : World) (hy : ¬ y = 0) : Calls Try.prog 38 #[.string ⟨#[37]⟩, .int .i64 x, .int .i64 y] w (GrP (tw (vl 1 (x.tmod y)) 0) w) := by
  have C22 : Hid (∀ W, Calls Try.prog 22 #[.int .i64 (x.tmod y)] W (GrP (vl 1 (x.tmod y)) W)) := fun W => int_any _ W
  unfold GrP at *
  generalize hr : x.tmod y = r at *
  go_enter Try.func38, Try.ntmps38
  go_wp2_with (first
    | (go_at_call 22; refine (C22.out _).mono ?_; rintro e w1 ⟨rfl, hg⟩; have B1 := hid ((Blk.new w 23 #[.int .i64 0, .int .i64 0]).kept hg (by simp)); obtain ⟨c0, c1, f0, f1⟩ := two_cells B1.out; have G1 := hid (grown_trans (grow1 _ _) hg); clear hg))
  obtain ⟨z0, z1, _, _⟩ := two_cells (blk_two B1.out (.int .i64 1) (.int .i64 r))
  refine bodyPost_ret (v := tw (vl 1 r) 0) (by simp [results, Try.results38, go_sem, z0, z1]) rfl ⟨rfl, ?_⟩
  exact set_two G1.out (Nat.le_refl _) _ _
set_option maxRecDepth 100000 in
theorem div_zero (s : ByteArray) (x : Int) (w : World) : Calls Try.prog 38 #[.string s, .int .i64 x, .int .i64 0] w (GrP (tw (vl 0 0) 3) w) := by
  unfold GrP at *
  go_enter Try.func38, Try.ntmps38
  go_wp2
  refine bodyPost_ret (v := tw (vl 0 0) 3) (by simp [results, Try.results38, go_sem]) rfl ⟨rfl, ?_⟩
  exact grow1 w _
set_option maxRecDepth 100000 in
theorem who_add (x y : Int) (w : World) : Calls Try.prog 26 #[.string ⟨#[43]⟩, .int .i64 x, .int .i64 y] w (GrP (tw (vl 1 (IntKind.i64.wrap (x + y))) 0) w) := by
  have C22 : Hid (∀ W, Calls Try.prog 22 #[.int .i64 (IntKind.i64.wrap (x + y))] W (GrP (vl 1 (IntKind.i64.wrap (x + y))) W)) := fun W => int_any _ W
  unfold GrP at *
  generalize hr : IntKind.i64.wrap (x + y) = r at *
  go_enter Try.func26, Try.ntmps26
  go_wp2_with (first
    | (go_at_call 22; refine (C22.out _).mono ?_; rintro e w1 ⟨rfl, hg⟩; have B1 := hid ((Blk.new w 23 #[.int .i64 0, .int .i64 0]).kept hg (by simp)); obtain ⟨c0, c1, f0, f1⟩ := two_cells B1.out; have G1 := hid (grown_trans (grow1 _ _) hg); clear hg))
  obtain ⟨z0, z1, _, _⟩ := two_cells (blk_two B1.out (.int .i64 1) (.int .i64 r))
  refine bodyPost_ret (v := tw (vl 1 r) 0) (by simp [results, Try.results26, go_sem, z0, z1]) rfl ⟨rfl, ?_⟩
  exact set_two G1.out (Nat.le_refl _) _ _
set_option maxRecDepth 100000 in
theorem who_sub (x y : Int) (w : World) : Calls Try.prog 26 #[.string ⟨#[45]⟩, .int .i64 x, .int .i64 y] w (GrP (tw (vl 1 (IntKind.i64.wrap (x - y))) 0) w) := by
  have C22 : Hid (∀ W, Calls Try.prog 22 #[.int .i64 (IntKind.i64.wrap (x - y))] W (GrP (vl 1 (IntKind.i64.wrap (x - y))) W)) := fun W => int_any _ W
  unfold GrP at *
  generalize hr : IntKind.i64.wrap (x - y) = r at *
  go_enter Try.func26, Try.ntmps26
  go_wp2_with (first
    | (go_at_call 22; refine (C22.out _).mono ?_; rintro e w1 ⟨rfl, hg⟩; have B1 := hid ((Blk.new w 23 #[.int .i64 0, .int .i64 0]).kept hg (by simp)); obtain ⟨c0, c1, f0, f1⟩ := two_cells B1.out; have G1 := hid (grown_trans (grow1 _ _) hg); clear hg))
  obtain ⟨z0, z1, _, _⟩ := two_cells (blk_two B1.out (.int .i64 1) (.int .i64 r))
  refine bodyPost_ret (v := tw (vl 1 r) 0) (by simp [results, Try.results26, go_sem, z0, z1]) rfl ⟨rfl, ?_⟩
  exact set_two G1.out (Nat.le_refl _) _ _
set_option maxRecDepth 100000 in
theorem who_mul (x y : Int) (w : World) : Calls Try.prog 26 #[.string ⟨#[42]⟩, .int .i64 x, .int .i64 y] w (GrP (tw (vl 1 (IntKind.i64.wrap (x * y))) 0) w) := by
  have C22 : Hid (∀ W, Calls Try.prog 22 #[.int .i64 (IntKind.i64.wrap (x * y))] W (GrP (vl 1 (IntKind.i64.wrap (x * y))) W)) := fun W => int_any _ W
  unfold GrP at *
  generalize hr : IntKind.i64.wrap (x * y) = r at *
  go_enter Try.func26, Try.ntmps26
  go_wp2_with (first
    | (go_at_call 22; refine (C22.out _).mono ?_; rintro e w1 ⟨rfl, hg⟩; have B1 := hid ((Blk.new w 23 #[.int .i64 0, .int .i64 0]).kept hg (by simp)); obtain ⟨c0, c1, f0, f1⟩ := two_cells B1.out; have G1 := hid (grown_trans (grow1 _ _) hg); clear hg))
  obtain ⟨z0, z1, _, _⟩ := two_cells (blk_two B1.out (.int .i64 1) (.int .i64 r))
  refine bodyPost_ret (v := tw (vl 1 r) 0) (by simp [results, Try.results26, go_sem, z0, z1]) rfl ⟨rfl, ?_⟩
  exact set_two G1.out (Nat.le_refl _) _ _
set_option maxRecDepth 100000 in
theorem who_quo (x y : Int) (w : World) (hy : ¬ y = 0) : Calls Try.prog 26 #[.string ⟨#[47]⟩, .int .i64 x, .int .i64 y] w (GrP (tw (vl 1 (IntKind.i64.wrap (x.tdiv y))) 0) w) := by
  have C38 : Hid (∀ W, Calls Try.prog 38 #[.string ⟨#[47]⟩, .int .i64 x, .int .i64 y] W (GrP (tw (vl 1 (IntKind.i64.wrap (x.tdiv y))) 0) W)) := fun W => div_quo x y W hy
  unfold GrP at *
  generalize hr : IntKind.i64.wrap (x.tdiv y) = r at *
  go_enter Try.func26, Try.ntmps26
  go_wp2_with (first
    | (go_at_call 38; refine (C38.out _).mono ?_; rintro e w1 ⟨rfl, hg⟩; have B1 := hid ((Blk.new w 23 #[.int .i64 0, .int .i64 0]).kept hg (by simp)); obtain ⟨c0, c1, f0, f1⟩ := two_cells B1.out; have G1 := hid (grown_trans (grow1 _ _) hg); clear hg))
  obtain ⟨z0, z1, _, _⟩ := two_cells (blk_two B1.out (.int .i64 1) (.int .i64 r))
  refine bodyPost_ret (v := tw (vl 1 r) 0) (by simp [results, Try.results26, go_sem, z0, z1]) rfl ⟨rfl, ?_⟩
  exact set_two G1.out (Nat.le_refl _) _ _
set_option maxRecDepth 100000 in
theorem who_rem (x y : Int) (w : World) (hy : ¬ y = 0) : Calls Try.prog 26 #[.string ⟨#[37]⟩, .int .i64 x, .int .i64 y] w (GrP (tw (vl 1 (x.tmod y)) 0) w) := by
  have C38 : Hid (∀ W, Calls Try.prog 38 #[.string ⟨#[37]⟩, .int .i64 x, .int .i64 y] W (GrP (tw (vl 1 (x.tmod y)) 0) W)) := fun W => div_rem x y W hy
  unfold GrP at *
  generalize hr : x.tmod y = r at *
  go_enter Try.func26, Try.ntmps26
  go_wp2_with (first
    | (go_at_call 38; refine (C38.out _).mono ?_; rintro e w1 ⟨rfl, hg⟩; have B1 := hid ((Blk.new w 23 #[.int .i64 0, .int .i64 0]).kept hg (by simp)); obtain ⟨c0, c1, f0, f1⟩ := two_cells B1.out; have G1 := hid (grown_trans (grow1 _ _) hg); clear hg))
  obtain ⟨z0, z1, _, _⟩ := two_cells (blk_two B1.out (.int .i64 1) (.int .i64 r))
  refine bodyPost_ret (v := tw (vl 1 r) 0) (by simp [results, Try.results26, go_sem, z0, z1]) rfl ⟨rfl, ?_⟩
  exact set_two G1.out (Nat.le_refl _) _ _
set_option maxRecDepth 100000 in
theorem zero_quo (x : Int) (w : World) : Calls Try.prog 26 #[.string ⟨#[47]⟩, .int .i64 x, .int .i64 0] w (GrP (tw (vl 0 0) 3) w) := by
  have C38 : Hid (∀ W, Calls Try.prog 38 #[.string ⟨#[47]⟩, .int .i64 x, .int .i64 0] W (GrP (tw (vl 0 0) 3) W)) := fun W => div_zero _ x W
  unfold GrP at *
  go_enter Try.func26, Try.ntmps26
  go_wp2_with (first
    | (go_at_call 38; refine (C38.out _).mono ?_; rintro e w1 ⟨rfl, hg⟩; have B1 := hid ((Blk.new w 23 #[.int .i64 0, .int .i64 0]).kept hg (by simp)); obtain ⟨c0, c1, f0, f1⟩ := two_cells B1.out; have G1 := hid (grown_trans (grow1 _ _) hg); clear hg))
  obtain ⟨z0, z1, _, _⟩ := two_cells (blk_two B1.out (.int .i64 0) (.int .i64 0))
  refine bodyPost_ret (v := tw (vl 0 0) 3) (by simp [results, Try.results26, go_sem, z0, z1]) rfl ⟨rfl, ?_⟩
  exact set_two G1.out (Nat.le_refl _) _ _
set_option maxRecDepth 100000 in
theorem zero_rem (x : Int) (w : World) : Calls Try.prog 26 #[.string ⟨#[37]⟩, .int .i64 x, .int .i64 0] w (GrP (tw (vl 0 0) 3) w) := by
  have C38 : Hid (∀ W, Calls Try.prog 38 #[.string ⟨#[37]⟩, .int .i64 x, .int .i64 0] W (GrP (tw (vl 0 0) 3) W)) := fun W => div_zero _ x W
  unfold GrP at *
  go_enter Try.func26, Try.ntmps26
  go_wp2_with (first
    | (go_at_call 38; refine (C38.out _).mono ?_; rintro e w1 ⟨rfl, hg⟩; have B1 := hid ((Blk.new w 23 #[.int .i64 0, .int .i64 0]).kept hg (by simp)); obtain ⟨c0, c1, f0, f1⟩ := two_cells B1.out; have G1 := hid (grown_trans (grow1 _ _) hg); clear hg))
  obtain ⟨z0, z1, _, _⟩ := two_cells (blk_two B1.out (.int .i64 0) (.int .i64 0))
  refine bodyPost_ret (v := tw (vl 0 0) 3) (by simp [results, Try.results26, go_sem, z0, z1]) rfl ⟨rfl, ?_⟩
  exact set_two G1.out (Nat.le_refl _) _ _
set_option maxRecDepth 100000 in
theorem who_lss (x y : Int) (w : World) : Calls Try.prog 26 #[.string ⟨#[60]⟩, .int .i64 x, .int .i64 y] w (GrP (tw (vl 3 (b2i (cmpI .lss x y))) 0) w) := by
  have C39 : Hid (∀ W, Calls Try.prog 39 #[.string ⟨#[60]⟩, .int .i64 x, .int .i64 y] W (StP (.bool (cmpI .lss x y)) W)) := fun W => cmpI_lss x y W
  have C23 : Hid (∀ W, Calls Try.prog 23 #[.bool (cmpI .lss x y)] W (GrP (vl 3 (b2i (cmpI .lss x y))) W)) := fun W => bool_any _ W
  generalize cmpI .lss x y = b at *
  generalize b2i b = r at *
  unfold GrP at *
  go_enter Try.func26, Try.ntmps26
  go_wp2_with (first
    | (go_at_call 39; refine (C39.out _).mono ?_; rintro e w1 ⟨rfl, hw⟩; replace hw := hw.symm; subst hw)
    | (go_at_call 23; refine (C23.out _).mono ?_; rintro e w1 ⟨rfl, hg⟩; have B1 := hid ((Blk.new w 23 #[.int .i64 0, .int .i64 0]).kept hg (by simp)); obtain ⟨c0, c1, f0, f1⟩ := two_cells B1.out; have G1 := hid (grown_trans (grow1 _ _) hg); clear hg))
  obtain ⟨z0, z1, _, _⟩ := two_cells (blk_two B1.out (.int .i64 3) (.int .i64 r))
  refine bodyPost_ret (v := tw (vl 3 r) 0) (by simp [results, Try.results26, go_sem, z0, z1]) rfl ⟨rfl, ?_⟩
  exact set_two G1.out (Nat.le_refl _) _ _
set_option maxRecDepth 100000 in
theorem who_leq (x y : Int) (w : World) : Calls Try.prog 26 #[.string ⟨#[60, 61]⟩, .int .i64 x, .int .i64 y] w (GrP (tw (vl 3 (b2i (cmpI .leq x y))) 0) w) := by
  have C39 : Hid (∀ W, Calls Try.prog 39 #[.string ⟨#[60, 61]⟩, .int .i64 x, .int .i64 y] W (StP (.bool (cmpI .leq x y)) W)) := fun W => cmpI_leq x y W
  have C23 : Hid (∀ W, Calls Try.prog 23 #[.bool (cmpI .leq x y)] W (GrP (vl 3 (b2i (cmpI .leq x y))) W)) := fun W => bool_any _ W
  generalize cmpI .leq x y = b at *
  generalize b2i b = r at *
  unfold GrP at *
  go_enter Try.func26, Try.ntmps26
  go_wp2_with (first
    | (go_at_call 39; refine (C39.out _).mono ?_; rintro e w1 ⟨rfl, hw⟩; replace hw := hw.symm; subst hw)
    | (go_at_call 23; refine (C23.out _).mono ?_; rintro e w1 ⟨rfl, hg⟩; have B1 := hid ((Blk.new w 23 #[.int .i64 0, .int .i64 0]).kept hg (by simp)); obtain ⟨c0, c1, f0, f1⟩ := two_cells B1.out; have G1 := hid (grown_trans (grow1 _ _) hg); clear hg))
  obtain ⟨z0, z1, _, _⟩ := two_cells (blk_two B1.out (.int .i64 3) (.int .i64 r))
  refine bodyPost_ret (v := tw (vl 3 r) 0) (by simp [results, Try.results26, go_sem, z0, z1]) rfl ⟨rfl, ?_⟩
  exact set_two G1.out (Nat.le_refl _) _ _
set_option maxRecDepth 100000 in
theorem who_gtr (x y : Int) (w : World) : Calls Try.prog 26 #[.string ⟨#[62]⟩, .int .i64 x, .int .i64 y] w (GrP (tw (vl 3 (b2i (cmpI .gtr x y))) 0) w) := by
  have C39 : Hid (∀ W, Calls Try.prog 39 #[.string ⟨#[62]⟩, .int .i64 x, .int .i64 y] W (StP (.bool (cmpI .gtr x y)) W)) := fun W => cmpI_gtr x y W
  have C23 : Hid (∀ W, Calls Try.prog 23 #[.bool (cmpI .gtr x y)] W (GrP (vl 3 (b2i (cmpI .gtr x y))) W)) := fun W => bool_any _ W
  generalize cmpI .gtr x y = b at *
  generalize b2i b = r at *
  unfold GrP at *
  go_enter Try.func26, Try.ntmps26
  go_wp2_with (first
    | (go_at_call 39; refine (C39.out _).mono ?_; rintro e w1 ⟨rfl, hw⟩; replace hw := hw.symm; subst hw)
    | (go_at_call 23; refine (C23.out _).mono ?_; rintro e w1 ⟨rfl, hg⟩; have B1 := hid ((Blk.new w 23 #[.int .i64 0, .int .i64 0]).kept hg (by simp)); obtain ⟨c0, c1, f0, f1⟩ := two_cells B1.out; have G1 := hid (grown_trans (grow1 _ _) hg); clear hg))
  obtain ⟨z0, z1, _, _⟩ := two_cells (blk_two B1.out (.int .i64 3) (.int .i64 r))
  refine bodyPost_ret (v := tw (vl 3 r) 0) (by simp [results, Try.results26, go_sem, z0, z1]) rfl ⟨rfl, ?_⟩
  exact set_two G1.out (Nat.le_refl _) _ _
set_option maxRecDepth 100000 in
theorem who_geq (x y : Int) (w : World) : Calls Try.prog 26 #[.string ⟨#[62, 61]⟩, .int .i64 x, .int .i64 y] w (GrP (tw (vl 3 (b2i (cmpI .geq x y))) 0) w) := by
  have C39 : Hid (∀ W, Calls Try.prog 39 #[.string ⟨#[62, 61]⟩, .int .i64 x, .int .i64 y] W (StP (.bool (cmpI .geq x y)) W)) := fun W => cmpI_geq x y W
  have C23 : Hid (∀ W, Calls Try.prog 23 #[.bool (cmpI .geq x y)] W (GrP (vl 3 (b2i (cmpI .geq x y))) W)) := fun W => bool_any _ W
  generalize cmpI .geq x y = b at *
  generalize b2i b = r at *
  unfold GrP at *
  go_enter Try.func26, Try.ntmps26
  go_wp2_with (first
    | (go_at_call 39; refine (C39.out _).mono ?_; rintro e w1 ⟨rfl, hw⟩; replace hw := hw.symm; subst hw)
    | (go_at_call 23; refine (C23.out _).mono ?_; rintro e w1 ⟨rfl, hg⟩; have B1 := hid ((Blk.new w 23 #[.int .i64 0, .int .i64 0]).kept hg (by simp)); obtain ⟨c0, c1, f0, f1⟩ := two_cells B1.out; have G1 := hid (grown_trans (grow1 _ _) hg); clear hg))
  obtain ⟨z0, z1, _, _⟩ := two_cells (blk_two B1.out (.int .i64 3) (.int .i64 r))
  refine bodyPost_ret (v := tw (vl 3 r) 0) (by simp [results, Try.results26, go_sem, z0, z1]) rfl ⟨rfl, ?_⟩
  exact set_two G1.out (Nat.le_refl _) _ _
set_option maxRecDepth 100000 in
theorem who_eql (x y : Int) (w : World) : Calls Try.prog 26 #[.string ⟨#[61, 61]⟩, .int .i64 x, .int .i64 y] w (GrP (tw (vl 3 (b2i (cmpI .eql x y))) 0) w) := by
  have C39 : Hid (∀ W, Calls Try.prog 39 #[.string ⟨#[61, 61]⟩, .int .i64 x, .int .i64 y] W (StP (.bool (cmpI .eql x y)) W)) := fun W => cmpI_eql x y W
  have C23 : Hid (∀ W, Calls Try.prog 23 #[.bool (cmpI .eql x y)] W (GrP (vl 3 (b2i (cmpI .eql x y))) W)) := fun W => bool_any _ W
  generalize cmpI .eql x y = b at *
  generalize b2i b = r at *
  unfold GrP at *
  go_enter Try.func26, Try.ntmps26
  go_wp2_with (first
    | (go_at_call 39; refine (C39.out _).mono ?_; rintro e w1 ⟨rfl, hw⟩; replace hw := hw.symm; subst hw)
    | (go_at_call 23; refine (C23.out _).mono ?_; rintro e w1 ⟨rfl, hg⟩; have B1 := hid ((Blk.new w 23 #[.int .i64 0, .int .i64 0]).kept hg (by simp)); obtain ⟨c0, c1, f0, f1⟩ := two_cells B1.out; have G1 := hid (grown_trans (grow1 _ _) hg); clear hg))
  obtain ⟨z0, z1, _, _⟩ := two_cells (blk_two B1.out (.int .i64 3) (.int .i64 r))
  refine bodyPost_ret (v := tw (vl 3 r) 0) (by simp [results, Try.results26, go_sem, z0, z1]) rfl ⟨rfl, ?_⟩
  exact set_two G1.out (Nat.le_refl _) _ _
set_option maxRecDepth 100000 in
theorem who_neq (x y : Int) (w : World) : Calls Try.prog 26 #[.string ⟨#[33, 61]⟩, .int .i64 x, .int .i64 y] w (GrP (tw (vl 3 (b2i (cmpI .neq x y))) 0) w) := by
  have C39 : Hid (∀ W, Calls Try.prog 39 #[.string ⟨#[33, 61]⟩, .int .i64 x, .int .i64 y] W (StP (.bool (cmpI .neq x y)) W)) := fun W => cmpI_neq x y W
  have C23 : Hid (∀ W, Calls Try.prog 23 #[.bool (cmpI .neq x y)] W (GrP (vl 3 (b2i (cmpI .neq x y))) W)) := fun W => bool_any _ W
  generalize cmpI .neq x y = b at *
  generalize b2i b = r at *
  unfold GrP at *
  go_enter Try.func26, Try.ntmps26
  go_wp2_with (first
    | (go_at_call 39; refine (C39.out _).mono ?_; rintro e w1 ⟨rfl, hw⟩; replace hw := hw.symm; subst hw)
    | (go_at_call 23; refine (C23.out _).mono ?_; rintro e w1 ⟨rfl, hg⟩; have B1 := hid ((Blk.new w 23 #[.int .i64 0, .int .i64 0]).kept hg (by simp)); obtain ⟨c0, c1, f0, f1⟩ := two_cells B1.out; have G1 := hid (grown_trans (grow1 _ _) hg); clear hg))
  obtain ⟨z0, z1, _, _⟩ := two_cells (blk_two B1.out (.int .i64 3) (.int .i64 r))
  refine bodyPost_ret (v := tw (vl 3 r) 0) (by simp [results, Try.results26, go_sem, z0, z1]) rfl ⟨rfl, ?_⟩
  exact set_two G1.out (Nat.le_refl _) _ _
end Go.Proofs.Ytnbolfogmhlanaa
