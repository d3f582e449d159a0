/-
  What signs make of two numbers with a point.
-/
import Derived.Test.YtnbolfogmhlanaaVd
namespace Go.Proofs.Ytnbolfogmhlanaa
open Go.RowKit
/-- What a sign says of two numbers. -/
def cmpF (op : BinOp) (x y : Nat) : Bool :=
  let c := FloatKind.f64.format.order x y
  match op with
  | .eql => c == some .eq
  | .neq => c != some .eq
  | .lss => c == some .lt
  | .leq => c == some .lt || c == some .eq
  | .gtr => c == some .gt
  | _ => c == some .gt || c == some .eq
set_option maxRecDepth 100000 in
theorem cmpF_lss (x y : Nat) (w : World) : Calls Try.prog 40 #[.string ⟨#[60]⟩, .float .f64 x, .float .f64 y] w (StP (.bool (cmpF .lss x y)) w) := by
  unfold StP cmpF
  go_enter Try.func40, Try.ntmps40
  go_wp2
  go_ret
  exact ⟨rfl, rfl⟩
set_option maxRecDepth 100000 in
theorem cmpF_leq (x y : Nat) (w : World) : Calls Try.prog 40 #[.string ⟨#[60, 61]⟩, .float .f64 x, .float .f64 y] w (StP (.bool (cmpF .leq x y)) w) := by
  unfold StP cmpF
  go_enter Try.func40, Try.ntmps40
  go_wp2
  go_ret
  exact ⟨rfl, rfl⟩
set_option maxRecDepth 100000 in
theorem cmpF_gtr (x y : Nat) (w : World) : Calls Try.prog 40 #[.string ⟨#[62]⟩, .float .f64 x, .float .f64 y] w (StP (.bool (cmpF .gtr x y)) w) := by
  unfold StP cmpF
  go_enter Try.func40, Try.ntmps40
  go_wp2
  go_ret
  exact ⟨rfl, rfl⟩
set_option maxRecDepth 100000 in
theorem cmpF_geq (x y : Nat) (w : World) : Calls Try.prog 40 #[.string ⟨#[62, 61]⟩, .float .f64 x, .float .f64 y] w (StP (.bool (cmpF .geq x y)) w) := by
  unfold StP cmpF
  go_enter Try.func40, Try.ntmps40
  go_wp2
  go_ret
  exact ⟨rfl, rfl⟩
set_option maxRecDepth 100000 in
theorem cmpF_eql (x y : Nat) (w : World) : Calls Try.prog 40 #[.string ⟨#[61, 61]⟩, .float .f64 x, .float .f64 y] w (StP (.bool (cmpF .eql x y)) w) := by
  unfold StP cmpF
  go_enter Try.func40, Try.ntmps40
  go_wp2
  go_ret
  exact ⟨rfl, rfl⟩
set_option maxRecDepth 100000 in
theorem cmpF_neq (x y : Nat) (w : World) : Calls Try.prog 40 #[.string ⟨#[33, 61]⟩, .float .f64 x, .float .f64 y] w (StP (.bool (cmpF .neq x y)) w) := by
  unfold StP cmpF
  go_enter Try.func40, Try.ntmps40
  go_wp2
  go_ret
  exact ⟨rfl, rfl⟩
set_option maxRecDepth 100000 in
theorem num_lss (x y : Nat) (w : World) : Calls Try.prog 27 #[.string ⟨#[60]⟩, .float .f64 x, .float .f64 y] w (GrP (vl 3 (b2i (cmpF .lss x y))) w) := by
  have C40 : Hid (∀ W, Calls Try.prog 40 #[.string ⟨#[60]⟩, .float .f64 x, .float .f64 y] W (StP (.bool (cmpF .lss x y)) W)) := fun W => cmpF_lss x y W
  have C23 : Hid (∀ W, Calls Try.prog 23 #[.bool (cmpF .lss x y)] W (GrP (vl 3 (b2i (cmpF .lss x y))) W)) := fun W => bool_any _ W
  generalize cmpF .lss x y = b at *
  generalize b2i b = r at *
  unfold GrP at *
  go_enter Try.func27, Try.ntmps27
  go_wp2_with (first
    | (go_at_call 40; refine (C40.out _).mono ?_; rintro e w1 ⟨rfl, hw⟩; replace hw := hw.symm; subst hw)
    | (go_at_call 23; refine (C23.out _).mono ?_; rintro e w1 ⟨rfl, hg⟩; have B1 := hid ((Blk.new w 23 #[.int .i64 0, .int .i64 0]).kept hg (by simp)); obtain ⟨c0, c1, f0, f1⟩ := two_cells B1.out; have G1 := hid (grown_trans (grow1 _ _) hg); clear hg))
  obtain ⟨z0, z1, _, _⟩ := two_cells (blk_two B1.out (.int .i64 3) (.int .i64 r))
  refine bodyPost_ret (v := vl 3 r) (by simp [results, Try.results27, go_sem, z0, z1]) rfl ⟨rfl, ?_⟩
  exact set_two G1.out (Nat.le_refl _) _ _
set_option maxRecDepth 100000 in
theorem num_leq (x y : Nat) (w : World) : Calls Try.prog 27 #[.string ⟨#[60, 61]⟩, .float .f64 x, .float .f64 y] w (GrP (vl 3 (b2i (cmpF .leq x y))) w) := by
  have C40 : Hid (∀ W, Calls Try.prog 40 #[.string ⟨#[60, 61]⟩, .float .f64 x, .float .f64 y] W (StP (.bool (cmpF .leq x y)) W)) := fun W => cmpF_leq x y W
  have C23 : Hid (∀ W, Calls Try.prog 23 #[.bool (cmpF .leq x y)] W (GrP (vl 3 (b2i (cmpF .leq x y))) W)) := fun W => bool_any _ W
  generalize cmpF .leq x y = b at *
  generalize b2i b = r at *
  unfold GrP at *
  go_enter Try.func27, Try.ntmps27
  go_wp2_with (first
    | (go_at_call 40; refine (C40.out _).mono ?_; rintro e w1 ⟨rfl, hw⟩; replace hw := hw.symm; subst hw)
    | (go_at_call 23; refine (C23.out _).mono ?_; rintro e w1 ⟨rfl, hg⟩; have B1 := hid ((Blk.new w 23 #[.int .i64 0, .int .i64 0]).kept hg (by simp)); obtain ⟨c0, c1, f0, f1⟩ := two_cells B1.out; have G1 := hid (grown_trans (grow1 _ _) hg); clear hg))
  obtain ⟨z0, z1, _, _⟩ := two_cells (blk_two B1.out (.int .i64 3) (.int .i64 r))
  refine bodyPost_ret (v := vl 3 r) (by simp [results, Try.results27, go_sem, z0, z1]) rfl ⟨rfl, ?_⟩
  exact set_two G1.out (Nat.le_refl _) _ _
set_option maxRecDepth 100000 in
theorem num_gtr (x y : Nat) (w : World) : Calls Try.prog 27 #[.string ⟨#[62]⟩, .float .f64 x, .float .f64 y] w (GrP (vl 3 (b2i (cmpF .gtr x y))) w) := by
  have C40 : Hid (∀ W, Calls Try.prog 40 #[.string ⟨#[62]⟩, .float .f64 x, .float .f64 y] W (StP (.bool (cmpF .gtr x y)) W)) := fun W => cmpF_gtr x y W
  have C23 : Hid (∀ W, Calls Try.prog 23 #[.bool (cmpF .gtr x y)] W (GrP (vl 3 (b2i (cmpF .gtr x y))) W)) := fun W => bool_any _ W
  generalize cmpF .gtr x y = b at *
  generalize b2i b = r at *
  unfold GrP at *
  go_enter Try.func27, Try.ntmps27
  go_wp2_with (first
    | (go_at_call 40; refine (C40.out _).mono ?_; rintro e w1 ⟨rfl, hw⟩; replace hw := hw.symm; subst hw)
    | (go_at_call 23; refine (C23.out _).mono ?_; rintro e w1 ⟨rfl, hg⟩; have B1 := hid ((Blk.new w 23 #[.int .i64 0, .int .i64 0]).kept hg (by simp)); obtain ⟨c0, c1, f0, f1⟩ := two_cells B1.out; have G1 := hid (grown_trans (grow1 _ _) hg); clear hg))
  obtain ⟨z0, z1, _, _⟩ := two_cells (blk_two B1.out (.int .i64 3) (.int .i64 r))
  refine bodyPost_ret (v := vl 3 r) (by simp [results, Try.results27, go_sem, z0, z1]) rfl ⟨rfl, ?_⟩
  exact set_two G1.out (Nat.le_refl _) _ _
set_option maxRecDepth 100000 in
theorem num_geq (x y : Nat) (w : World) : Calls Try.prog 27 #[.string ⟨#[62, 61]⟩, .float .f64 x, .float .f64 y] w (GrP (vl 3 (b2i (cmpF .geq x y))) w) := by
  have C40 : Hid (∀ W, Calls Try.prog 40 #[.string ⟨#[62, 61]⟩, .float .f64 x, .float .f64 y] W (StP (.bool (cmpF .geq x y)) W)) := fun W => cmpF_geq x y W
  have C23 : Hid (∀ W, Calls Try.prog 23 #[.bool (cmpF .geq x y)] W (GrP (vl 3 (b2i (cmpF .geq x y))) W)) := fun W => bool_any _ W
  generalize cmpF .geq x y = b at *
  generalize b2i b = r at *
  unfold GrP at *
  go_enter Try.func27, Try.ntmps27
  go_wp2_with (first
    | (go_at_call 40; refine (C40.out _).mono ?_; rintro e w1 ⟨rfl, hw⟩; replace hw := hw.symm; subst hw)
    | (go_at_call 23; refine (C23.out _).mono ?_; rintro e w1 ⟨rfl, hg⟩; have B1 := hid ((Blk.new w 23 #[.int .i64 0, .int .i64 0]).kept hg (by simp)); obtain ⟨c0, c1, f0, f1⟩ := two_cells B1.out; have G1 := hid (grown_trans (grow1 _ _) hg); clear hg))
  obtain ⟨z0, z1, _, _⟩ := two_cells (blk_two B1.out (.int .i64 3) (.int .i64 r))
  refine bodyPost_ret (v := vl 3 r) (by simp [results, Try.results27, go_sem, z0, z1]) rfl ⟨rfl, ?_⟩
  exact set_two G1.out (Nat.le_refl _) _ _
set_option maxRecDepth 100000 in
theorem num_eql (x y : Nat) (w : World) : Calls Try.prog 27 #[.string ⟨#[61, 61]⟩, .float .f64 x, .float .f64 y] w (GrP (vl 3 (b2i (cmpF .eql x y))) w) := by
  have C40 : Hid (∀ W, Calls Try.prog 40 #[.string ⟨#[61, 61]⟩, .float .f64 x, .float .f64 y] W (StP (.bool (cmpF .eql x y)) W)) := fun W => cmpF_eql x y W
  have C23 : Hid (∀ W, Calls Try.prog 23 #[.bool (cmpF .eql x y)] W (GrP (vl 3 (b2i (cmpF .eql x y))) W)) := fun W => bool_any _ W
  generalize cmpF .eql x y = b at *
  generalize b2i b = r at *
  unfold GrP at *
  go_enter Try.func27, Try.ntmps27
  go_wp2_with (first
    | (go_at_call 40; refine (C40.out _).mono ?_; rintro e w1 ⟨rfl, hw⟩; replace hw := hw.symm; subst hw)
    | (go_at_call 23; refine (C23.out _).mono ?_; rintro e w1 ⟨rfl, hg⟩; have B1 := hid ((Blk.new w 23 #[.int .i64 0, .int .i64 0]).kept hg (by simp)); obtain ⟨c0, c1, f0, f1⟩ := two_cells B1.out; have G1 := hid (grown_trans (grow1 _ _) hg); clear hg))
  obtain ⟨z0, z1, _, _⟩ := two_cells (blk_two B1.out (.int .i64 3) (.int .i64 r))
  refine bodyPost_ret (v := vl 3 r) (by simp [results, Try.results27, go_sem, z0, z1]) rfl ⟨rfl, ?_⟩
  exact set_two G1.out (Nat.le_refl _) _ _
set_option maxRecDepth 100000 in
theorem num_neq (x y : Nat) (w : World) : Calls Try.prog 27 #[.string ⟨#[33, 61]⟩, .float .f64 x, .float .f64 y] w (GrP (vl 3 (b2i (cmpF .neq x y))) w) := by
  have C40 : Hid (∀ W, Calls Try.prog 40 #[.string ⟨#[33, 61]⟩, .float .f64 x, .float .f64 y] W (StP (.bool (cmpF .neq x y)) W)) := fun W => cmpF_neq x y W
  have C23 : Hid (∀ W, Calls Try.prog 23 #[.bool (cmpF .neq x y)] W (GrP (vl 3 (b2i (cmpF .neq x y))) W)) := fun W => bool_any _ W
  generalize cmpF .neq x y = b at *
  generalize b2i b = r at *
  unfold GrP at *
  go_enter Try.func27, Try.ntmps27
  go_wp2_with (first
    | (go_at_call 40; refine (C40.out _).mono ?_; rintro e w1 ⟨rfl, hw⟩; replace hw := hw.symm; subst hw)
    | (go_at_call 23; refine (C23.out _).mono ?_; rintro e w1 ⟨rfl, hg⟩; have B1 := hid ((Blk.new w 23 #[.int .i64 0, .int .i64 0]).kept hg (by simp)); obtain ⟨c0, c1, f0, f1⟩ := two_cells B1.out; have G1 := hid (grown_trans (grow1 _ _) hg); clear hg))
  obtain ⟨z0, z1, _, _⟩ := two_cells (blk_two B1.out (.int .i64 3) (.int .i64 r))
  refine bodyPost_ret (v := vl 3 r) (by simp [results, Try.results27, go_sem, z0, z1]) rfl ⟨rfl, ?_⟩
  exact set_two G1.out (Nat.le_refl _) _ _
/-- Bits that are drawn for what is no number are such. -/
theorem nan_drawn (t : Nat) : nanB ((t % 2) * 2 ^ 63 + 0x7ff0000000000000 + 1 + (t / 2) % (2 ^ 52 - 1)) = true := by
  have h1 : t % 2 < 2 := Nat.mod_lt _ (by decide)
  have h2 : (t / 2) % (2 ^ 52 - 1) < 2 ^ 52 - 1 := Nat.mod_lt _ (by decide)
  generalize t % 2 = a at *
  generalize (t / 2) % (2 ^ 52 - 1) = r at *
  have hs : Ieee.double.signWeight = 9223372036854775808 := by decide
  have hi : Ieee.double.infRung = 9218868437227405312 := by decide
  have hb : Ieee.double.binade = 4503599627370496 := by decide
  have e2 : (a * 2 ^ 63 + 0x7ff0000000000000 + 1 + r) % Ieee.double.signWeight = 9218868437227405313 + r := by rw [hs]; omega
  have hr : ∃ b f, Ieee.double.read (a * 2 ^ 63 + 0x7ff0000000000000 + 1 + r) = .nan b f := by
    unfold Ieee.Format.read
    simp only [e2, hi, hb]
    rw [if_neg (by omega), if_neg (by omega), if_neg (by omega)]
    exact ⟨_, _, rfl⟩
  obtain ⟨b, f, hr⟩ := hr
  show (Ieee.Datum.order (Ieee.double.read _) (Ieee.double.read _) != some .eq) = true
  rw [hr]
  rfl
theorem quo_zero : ∃ dr : World → Nat, (∀ W, (binOp BinOp.quo 37 (.float .f64 0) (.float .f64 0)).run Try.prog W = .ok (.float .f64 (dr W)) W.drew) ∧ ∀ W, nanB (dr W) = true := by
  have h : FloatKind.f64.format.div 0 0 = none := by decide +kernel
  refine ⟨fun W => Question.cut (.nanBits .f64 0 0) (W.tape W.drawn (.nanBits .f64 0 0)), fun W => ?_, fun W => nan_drawn _⟩
  simp [binOp, Op.floatArith, h, Question.forced]
set_option maxRecDepth 100000 in
/-- Nought by nought is no number. -/
theorem num_zero (w : World) : Calls Try.prog 27 #[.string ⟨#[47]⟩, .float .f64 0, .float .f64 0] w (GrP (vl 2 9221120237041090561) w) := by
  obtain ⟨dr, hq, hn⟩ := quo_zero
  have C17 : Hid (∀ V W, Calls Try.prog 17 #[.float .f64 (dr V)] W (GrP (vl 2 9221120237041090561) W)) := fun V W => by
    have := float_any (dr V) W
    unfold oneN at this
    rw [hn V] at this
    exact this
  clear hn
  unfold GrP at *
  go_enter Try.func27, Try.ntmps27
  go_wp2_with (first
    | (go_at_call 17; refine (C17.out _ _).mono ?_; rintro e w1 ⟨rfl, hg⟩; have B1 := hid ((Blk.new w 23 #[.int .i64 0, .int .i64 0]).drew.kept hg (by simp)); obtain ⟨c0, c1, f0, f1⟩ := two_cells B1.out; have G1 := hid (grown_trans (grown_drew (grow1 _ _)) hg); clear hg))
  obtain ⟨z0, z1, _, _⟩ := two_cells (blk_two B1.out (.int .i64 2) (.int .i64 9221120237041090561))
  refine bodyPost_ret (v := vl 2 9221120237041090561) (by simp [results, Try.results27, go_sem, z0, z1]) rfl ⟨rfl, ?_⟩
  exact set_two G1.out (Nat.le_refl _) _ _
set_option maxRecDepth 100000 in
/-- One by nought below is below all. -/
theorem num_one (w : World) : Calls Try.prog 27 #[.string ⟨#[47]⟩, .float .f64 4607182418800017408, .float .f64 9223372036854775808] w (GrP (vl 2 (-4503599627370496)) w) := by
  have hq : ∀ W, (binOp BinOp.quo 37 (.float .f64 4607182418800017408) (.float .f64 9223372036854775808)).run Try.prog W = .ok (.float .f64 18442240474082181120) W := fun W => by kernel_rfl
  have C17 : Hid (∀ W, Calls Try.prog 17 #[.float .f64 18442240474082181120] W (GrP (vl 2 (-4503599627370496)) W)) := fun W => float_any 18442240474082181120 W
  unfold GrP at *
  go_enter Try.func27, Try.ntmps27
  go_wp2_with (first
    | (go_at_call 17; refine (C17.out _).mono ?_; rintro e w1 ⟨rfl, hg⟩; have B1 := hid ((Blk.new w 23 #[.int .i64 0, .int .i64 0]).kept hg (by simp)); obtain ⟨c0, c1, f0, f1⟩ := two_cells B1.out; have G1 := hid (grown_trans (grow1 _ _) hg); clear hg))
  obtain ⟨z0, z1, _, _⟩ := two_cells (blk_two B1.out (.int .i64 2) (.int .i64 (-4503599627370496)))
  refine bodyPost_ret (v := vl 2 (-4503599627370496)) (by simp [results, Try.results27, go_sem, z0, z1]) rfl ⟨rfl, ?_⟩
  exact set_two G1.out (Nat.le_refl _) _ _
set_option maxRecDepth 100000 in
/-- The other nought. -/
theorem neg_zero (w : World) : Calls Try.prog 18 #[.string ⟨#[45]⟩, vl 2 0] w (GrP (vl 2 (-9223372036854775808)) w) := by
  have C20 : Hid (∀ W, Calls Try.prog 20 #[vl 2 0] W (GrP (.float .f64 0) W)) := fun W => of_any 2 0 W
  have C17 : Hid (∀ W, Calls Try.prog 17 #[.float .f64 9223372036854775808] W (GrP (vl 2 (-9223372036854775808)) W)) := fun W => float_any 9223372036854775808 W
  have hn : ∀ W, (Op.unary UnOp.neg (.float .f64 0)).run Try.prog W = .ok (.float .f64 9223372036854775808) W := fun W => by kernel_rfl
  unfold GrP at *
  go_enter Try.func18, Try.ntmps18
  go_wp2_with (first
    | (go_at_call 20; refine (C20.out _).mono ?_; rintro e w2 ⟨rfl, hg⟩; have B2 : Hid (Blk w2 (w.heap.size + 1) 23 #[.int .i64 0, .int .i64 0]) := (Blk.kept (by simpa using Blk.new (w.alloc (Obj.cells #[.int .i64 2, .int .i64 0] 23)) 23 #[.int .i64 0, .int .i64 0]) hg (by simp)); have G2 := hid (grown_trans (grow2 (grow1 w _) _) hg); clear hg)
    | (go_at_call 17; refine (C17.out _).mono ?_; rintro e w1 ⟨rfl, hg⟩; have B1 := hid (B2.out.kept hg (by simp)); obtain ⟨c0, c1, f0, f1⟩ := two_cells B1.out; have G1 := hid (grown_trans G2.out hg); clear hg))
  obtain ⟨z0, z1, _, _⟩ := two_cells (blk_two B1.out (.int .i64 2) (.int .i64 (-9223372036854775808)))
  refine bodyPost_ret (v := vl 2 (-9223372036854775808)) (by simp [results, Try.results18, go_sem, z0, z1]) rfl ⟨rfl, ?_⟩
  exact set_two G1.out (by omega) _ _
end Go.Proofs.Ytnbolfogmhlanaa
