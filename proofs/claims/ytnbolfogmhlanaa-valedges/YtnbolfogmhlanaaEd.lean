/-
  ValEdges: of what is no number there is one value; nought has two signs, that are equal; what is made of bits are these bits.
-/
import Derived.Test.YtnbolfogmhlanaaVf
import Derived.BigQuiet
import Derived.Deep.QuietTactic
namespace Go.Proofs.Ytnbolfogmhlanaa
open Go.RowKit
set_option maxRecDepth 100000 in
theorem is_same (t n : Int) (w : World) : Calls Try.prog 13 #[vl t n, vl t n] w (GrP (.bool true) w) := by
  unfold GrP
  go_enter Try.func13, Try.ntmps13
  go_wp2
  go_ret
  exact ⟨by simp, grow2 (grow1 w _) _⟩
set_option maxRecDepth 100000 in
theorem nan_num (w : World) : Calls Try.prog 19 #[] w (StP (.int .i64 9221120237041090561) w) := by
  unfold StP
  go_enter Try.func19, Try.ntmps19
  go_wp2
  go_ret
  exact ⟨rfl, rfl⟩
set_option maxRecDepth 100000 in
theorem zero_two (w : World) : Calls Try.prog 24 #[.int .i64 2] w (GrP (vl 2 0) w) := by
  have F0 : Hid (∀ W, Calls Try.prog 17 #[.float .f64 0] W (GrP (vl 2 0) W)) := fun W => float_any 0 W
  unfold GrP at *
  go_enter Try.func24, Try.ntmps24
  go_wp2_with (first
    | (go_at_call 17; refine (F0.out _).mono ?_; rintro e w1 ⟨rfl, hg⟩; have B1 := hid ((Blk.new w 23 #[.int .i64 0, .int .i64 0]).kept hg (by simp)); obtain ⟨c0, c1, f0, f1⟩ := two_cells B1.out; have G1 := hid (grown_trans (grow1 _ _) hg); clear hg))
  obtain ⟨z0, z1, _, _⟩ := two_cells (blk_two B1.out (.int .i64 2) (.int .i64 0))
  refine bodyPost_ret (v := vl 2 0) (by simp [results, Try.results24, go_sem, z0, z1]) rfl ⟨rfl, ?_⟩
  exact set_two G1.out (Nat.le_refl _) _ _
set_option maxRecDepth 100000 in
set_option maxHeartbeats 4000000 in
theorem edges_n1 (q : Nat) (n : Int) (w : World) (hq : nanB q = true) : Calls Try.prog 4 #[.int .u64 q, .int .i64 n, .bool true] w (GrP (.bool true) w) := by
  have FR : ∀ W, (callFunc 16 #[.int .u64 (q : Int)]).run Try.prog W = .ok (.value (.float .f64 q)) W := fun W => from_run _ W
  have F0 : Hid (∀ W, Calls Try.prog 17 #[.float .f64 0] W (GrP (vl 2 0) W)) := fun W => float_any 0 W
  have U0 : Hid (∀ W, Calls Try.prog 18 #[.string ⟨#[45]⟩, vl 2 0] W (GrP (vl 2 (-9223372036854775808)) W)) := fun W => neg_zero W
  have Q1 : Hid (∀ W, Calls Try.prog 9 #[.string ⟨#[61, 61]⟩, vl 2 0, vl 2 (-9223372036854775808)] W (GrP (tw (vl 3 1) 0) W)) := fun W => bin_float _ 0 (-9223372036854775808) _ _ W known_eql_2 (fun V => num_eql 0 9223372036854775808 V)
  have T1 : Hid (∀ W, Calls Try.prog 21 #[vl 3 1] W (GrP (.bool true) W)) := fun W => true_any 3 1 W
  have T0 : Hid (∀ W, Calls Try.prog 21 #[vl 3 0] W (GrP (.bool false) W)) := fun W => true_any 3 0 W
  have TI : Hid (∀ W, Calls Try.prog 21 #[vl 1 n] W (GrP (.bool false) W)) := fun W => true_any 1 n W
  have IN : Hid (∀ W, Calls Try.prog 22 #[.int .i64 n] W (GrP (vl 1 n) W)) := fun W => int_any n W
  have BO : Hid (∀ W, Calls Try.prog 23 #[.bool true] W (GrP (vl 3 1) W)) := fun W => bool_any true W
  have Z2 : Hid (∀ W, Calls Try.prog 24 #[.int .i64 2] W (GrP (vl 2 0) W)) := fun W => zero_two W
  have S1 : Hid (∀ W, Calls Try.prog 13 #[vl 1 n, vl 1 n] W (GrP (.bool true) W)) := fun W => is_same 1 n W
  have S2 : Hid (∀ W, Calls Try.prog 13 #[vl 3 1, vl 3 1] W (GrP (.bool true) W)) := fun W => is_same 3 1 W
  have S3 : Hid (∀ W, Calls Try.prog 13 #[vl 2 0, vl 2 0] W (GrP (.bool true) W)) := fun W => is_same 2 0 W
  have AW : Hid (∀ W, Calls Try.prog 12 #[] W (GrP (.bool true) W)) := fun W => awake_any W
  have NN : Hid (∀ W, Calls Try.prog 19 #[] W (StP (.int .i64 9221120237041090561) W)) := fun W => nan_num W
  have FQ : Hid (∀ W, Calls Try.prog 17 #[.float .f64 q] W (GrP (vl 2 9221120237041090561) W)) := fun W => by
    have := float_any q W
    unfold oneN at this
    rw [hq] at this
    exact this
  have q1 : (FloatKind.f64.format.order q q != some .eq) = true := hq
  have q2 : (FloatKind.f64.format.order q q == some .eq) = false := by
    cases h : (FloatKind.f64.format.order q q == some .eq)
    · rfl
    · rw [bne, h] at q1; cases q1
  clear hq
  unfold GrP at *
  have G := hid (grown_refl w none)
  go_enter Try.func4, Try.ntmps4
  go_upto_region 3 with (first
    | (go_at_call 17; refine calls_at (args := #[.float .f64 q]) rfl ?_; refine (FQ.out _).mono ?_; rintro e v1 ⟨rfl, hg⟩; replace G := hid (grown_trans G.out hg); clear hg))
  have B1 := hid (Blk.new v1 23 #[.int .i64 2, .int .i64 9221120237041090561])
  replace G := hid (grown_alloc G.out (Obj.cells #[.int .i64 2, .int .i64 9221120237041090561] 23))
  generalize v1.alloc (Obj.cells #[.int .i64 2, .int .i64 9221120237041090561] 23) = w1 at *
  generalize v1.heap.size = b1 at *
  go_upto_region 4 with (first
    | (go_at_call 17; refine calls_at (args := #[.float .f64 0]) rfl ?_; refine (F0.out _).mono ?_; rintro e v ⟨rfl, hg⟩; replace G := hid (grown_trans G.out hg); replace B1 := hid (B1.out.kept hg (by simp)); clear hg)
    | (go_at_call 18; refine (U0.out _).mono ?_; rintro e v2 ⟨rfl, hg⟩; replace G := hid (grown_trans G.out hg); replace B1 := hid (B1.out.kept hg (by simp)); clear hg))
  have B2 : Hid (Blk ((v2.alloc (Obj.cells #[.int .i64 2, .int .i64 0] 23)).alloc (Obj.cells #[.int .i64 2, .int .i64 (-9223372036854775808)] 23)) v2.heap.size 23 #[.int .i64 2, .int .i64 0]) := (Blk.new v2 23 _).alloc _
  have B3 : Hid (Blk ((v2.alloc (Obj.cells #[.int .i64 2, .int .i64 0] 23)).alloc (Obj.cells #[.int .i64 2, .int .i64 (-9223372036854775808)] 23)) (v2.heap.size + 1) 23 #[.int .i64 2, .int .i64 (-9223372036854775808)]) := hid (by simpa using Blk.new (v2.alloc (Obj.cells #[.int .i64 2, .int .i64 0] 23)) 23 #[.int .i64 2, .int .i64 (-9223372036854775808)])
  replace B1 := hid ((B1.out.alloc (Obj.cells #[.int .i64 2, .int .i64 0] 23)).alloc (Obj.cells #[.int .i64 2, .int .i64 (-9223372036854775808)] 23))
  replace G := hid (grown_alloc (grown_alloc G.out (Obj.cells #[.int .i64 2, .int .i64 0] 23)) (Obj.cells #[.int .i64 2, .int .i64 (-9223372036854775808)] 23))
  generalize (v2.alloc (Obj.cells #[.int .i64 2, .int .i64 0] 23)).alloc (Obj.cells #[.int .i64 2, .int .i64 (-9223372036854775808)] 23) = w2 at *
  generalize v2.heap.size + 1 = b3 at *
  generalize v2.heap.size = b2 at *
  obtain ⟨c0, c1, _, _⟩ := two_cells B2.out
  obtain ⟨d0, d1, _, _⟩ := two_cells B3.out
  go_upto_region 5 with (first
    | (go_at_call 9; refine (Q1.out _).mono ?_; rintro e v3 ⟨rfl, hg⟩; replace G := hid (grown_trans G.out hg); replace B1 := hid (B1.out.kept hg (by simp)); replace B2 := hid (B2.out.kept hg (by simp)); replace B3 := hid (B3.out.kept hg (by simp)); clear hg))
  have B4 := hid (Blk.new v3 23 #[.int .i64 3, .int .i64 1])
  replace G := hid (grown_alloc G.out (Obj.cells #[.int .i64 3, .int .i64 1] 23))
  replace B1 := hid (B1.out.alloc (Obj.cells #[.int .i64 3, .int .i64 1] 23))
  replace B2 := hid (B2.out.alloc (Obj.cells #[.int .i64 3, .int .i64 1] 23))
  replace B3 := hid (B3.out.alloc (Obj.cells #[.int .i64 3, .int .i64 1] 23))
  generalize v3.alloc (Obj.cells #[.int .i64 3, .int .i64 1] 23) = w3 at *
  generalize v3.heap.size = b4 at *
  clear c0 c1 d0 d1
  obtain ⟨c0, c1, _, _⟩ := two_cells B1.out
  go_upto_region 8 with fail
  go_cut [54] (fun v54 wx => v54 = .bool false ∧ w3.grownBy wx none)
  case first =>
    clear G B1 B2 B3 B4
    go_quiet (first | (go_at_call 19; refine Calls.quiet_of_same (NN.out _)))
    (try go_wp2_with fail)
    go_meet
    exact ⟨rfl, ⟨rfl, rfl, rfl, Nat.le_refl _, fun _ _ _ => rfl⟩⟩
  case rest =>
    obtain ⟨rfl, hgx⟩ := hcut
    replace B1 := hid (B1.out.kept hgx (by simp))
    replace B2 := hid (B2.out.kept hgx (by simp))
    replace B3 := hid (B3.out.kept hgx (by simp))
    replace B4 := hid (B4.out.kept hgx (by simp))
    replace G := hid (grown_trans G.out hgx)
    clear hgx c0 c1 q1 q2
    go_wp2_with (first
      | (go_at_call 12; refine (AW.out _).mono ?_; rintro e wd ⟨rfl, hg⟩; replace G := hid (grown_trans G.out hg); replace B1 := hid (B1.out.kept hg (by simp)); replace B2 := hid (B2.out.kept hg (by simp)); replace B3 := hid (B3.out.kept hg (by simp)); replace B4 := hid (B4.out.kept hg (by simp)); clear hg; obtain ⟨x0, x1, _, _⟩ := two_cells B1.out; obtain ⟨y0, y1, _, _⟩ := two_cells B2.out; obtain ⟨z0, z1, _, _⟩ := two_cells B3.out; obtain ⟨t0, t1, _, _⟩ := two_cells B4.out)
      | (go_at_call 21; refine calls_at (args := #[vl 3 1]) rfl ?_; refine (T1.out _).mono ?_; rintro e we ⟨rfl, hg⟩; replace G := hid (grown_trans G.out hg); replace B1 := hid (B1.out.kept hg (by simp)); replace B2 := hid (B2.out.kept hg (by simp)); replace B3 := hid (B3.out.kept hg (by simp)); replace B4 := hid (B4.out.kept hg (by simp)); clear hg; obtain ⟨x0, x1, _, _⟩ := two_cells B1.out; obtain ⟨y0, y1, _, _⟩ := two_cells B2.out; obtain ⟨z0, z1, _, _⟩ := two_cells B3.out; obtain ⟨t0, t1, _, _⟩ := two_cells B4.out)
      | (go_at_call 21; refine calls_at (args := #[vl 1 n]) rfl ?_; refine (TI.out _).mono ?_; rintro e we ⟨rfl, hg⟩; replace G := hid (grown_trans G.out hg); (try (replace B1 := hid (B1.out.kept hg (by simp)); replace B2 := hid (B2.out.kept hg (by simp)); replace B3 := hid (B3.out.kept hg (by simp)); replace B4 := hid (B4.out.kept hg (by simp)))); clear hg)
      | (go_at_call 22; refine (IN.out _).mono ?_; rintro e we ⟨rfl, hg⟩; replace G := hid (grown_trans G.out hg); (try (replace B1 := hid (B1.out.kept hg (by simp)); replace B2 := hid (B2.out.kept hg (by simp)); replace B3 := hid (B3.out.kept hg (by simp)); replace B4 := hid (B4.out.kept hg (by simp)))); clear hg)
      | (go_at_call 13; refine calls_at (args := #[vl 1 n, vl 1 n]) rfl ?_; refine (S1.out _).mono ?_; rintro e we ⟨rfl, hg⟩; replace G := hid (grown_trans G.out hg); (try (replace B1 := hid (B1.out.kept hg (by simp)); replace B2 := hid (B2.out.kept hg (by simp)); replace B3 := hid (B3.out.kept hg (by simp)); replace B4 := hid (B4.out.kept hg (by simp)))); clear hg)
      | (go_at_call 23; refine (BO.out _).mono ?_; rintro e we ⟨rfl, hg⟩; replace G := hid (grown_trans G.out hg); (try (replace B1 := hid (B1.out.kept hg (by simp)); replace B2 := hid (B2.out.kept hg (by simp)); replace B3 := hid (B3.out.kept hg (by simp)); replace B4 := hid (B4.out.kept hg (by simp)))); clear hg)
      | (go_at_call 13; refine calls_at (args := #[vl 3 1, vl 3 1]) rfl ?_; refine (S2.out _).mono ?_; rintro e we ⟨rfl, hg⟩; replace G := hid (grown_trans G.out hg); (try (replace B1 := hid (B1.out.kept hg (by simp)); replace B2 := hid (B2.out.kept hg (by simp)); replace B3 := hid (B3.out.kept hg (by simp)); replace B4 := hid (B4.out.kept hg (by simp)))); clear hg)
      | (go_at_call 24; refine (Z2.out _).mono ?_; rintro e we ⟨rfl, hg⟩; replace G := hid (grown_trans G.out hg); (try (replace B1 := hid (B1.out.kept hg (by simp)); replace B2 := hid (B2.out.kept hg (by simp)); replace B3 := hid (B3.out.kept hg (by simp)); replace B4 := hid (B4.out.kept hg (by simp)))); clear hg)
      | (go_at_call 13; refine calls_at (args := #[vl 2 0, vl 2 0]) rfl ?_; refine (S3.out _).mono ?_; rintro e we ⟨rfl, hg⟩; replace G := hid (grown_trans G.out hg); (try (replace B1 := hid (B1.out.kept hg (by simp)); replace B2 := hid (B2.out.kept hg (by simp)); replace B3 := hid (B3.out.kept hg (by simp)); replace B4 := hid (B4.out.kept hg (by simp)))); clear hg))

    go_ret
    exact ⟨rfl, G.out⟩
set_option maxRecDepth 100000 in
set_option maxHeartbeats 4000000 in
theorem edges_p1 (q : Nat) (n : Int) (w : World) (hq : nanB q = false) (h1 : q < 18446744073709551616) : Calls Try.prog 4 #[.int .u64 q, .int .i64 n, .bool true] w (GrP (.bool true) w) := by
  have FR : ∀ W, (callFunc 16 #[.int .u64 (q : Int)]).run Try.prog W = .ok (.value (.float .f64 q)) W := fun W => from_run _ W
  have F0 : Hid (∀ W, Calls Try.prog 17 #[.float .f64 0] W (GrP (vl 2 0) W)) := fun W => float_any 0 W
  have U0 : Hid (∀ W, Calls Try.prog 18 #[.string ⟨#[45]⟩, vl 2 0] W (GrP (vl 2 (-9223372036854775808)) W)) := fun W => neg_zero W
  have Q1 : Hid (∀ W, Calls Try.prog 9 #[.string ⟨#[61, 61]⟩, vl 2 0, vl 2 (-9223372036854775808)] W (GrP (tw (vl 3 1) 0) W)) := fun W => bin_float _ 0 (-9223372036854775808) _ _ W known_eql_2 (fun V => num_eql 0 9223372036854775808 V)
  have T1 : Hid (∀ W, Calls Try.prog 21 #[vl 3 1] W (GrP (.bool true) W)) := fun W => true_any 3 1 W
  have T0 : Hid (∀ W, Calls Try.prog 21 #[vl 3 0] W (GrP (.bool false) W)) := fun W => true_any 3 0 W
  have TI : Hid (∀ W, Calls Try.prog 21 #[vl 1 n] W (GrP (.bool false) W)) := fun W => true_any 1 n W
  have IN : Hid (∀ W, Calls Try.prog 22 #[.int .i64 n] W (GrP (vl 1 n) W)) := fun W => int_any n W
  have BO : Hid (∀ W, Calls Try.prog 23 #[.bool true] W (GrP (vl 3 1) W)) := fun W => bool_any true W
  have Z2 : Hid (∀ W, Calls Try.prog 24 #[.int .i64 2] W (GrP (vl 2 0) W)) := fun W => zero_two W
  have S1 : Hid (∀ W, Calls Try.prog 13 #[vl 1 n, vl 1 n] W (GrP (.bool true) W)) := fun W => is_same 1 n W
  have S2 : Hid (∀ W, Calls Try.prog 13 #[vl 3 1, vl 3 1] W (GrP (.bool true) W)) := fun W => is_same 3 1 W
  have S3 : Hid (∀ W, Calls Try.prog 13 #[vl 2 0, vl 2 0] W (GrP (.bool true) W)) := fun W => is_same 2 0 W
  have AW : Hid (∀ W, Calls Try.prog 12 #[] W (GrP (.bool true) W)) := fun W => awake_any W
  have FQ : Hid (∀ W, Calls Try.prog 17 #[.float .f64 q] W (GrP (vl 2 (IntKind.i64.wrap q)) W)) := fun W => by
    have := float_any q W
    unfold oneN at this
    rw [hq] at this
    exact this
  have q1 : (FloatKind.f64.format.order q q != some .eq) = false := hq
  have q2 : (FloatKind.f64.format.order q q == some .eq) = true := by
    cases h : (FloatKind.f64.format.order q q == some .eq)
    · rw [bne, h] at q1; cases q1
    · rfl
  have hu : IntKind.u64.wrap (IntKind.i64.wrap q) = (q : Int) := by
    rw [IntKind.wrap_i64, IntKind.wrap_u64]; omega
  have OQ : Hid (∀ W, Calls Try.prog 20 #[vl 2 (IntKind.i64.wrap q)] W (GrP (.float .f64 q) W)) := fun W => by
    have := of_any 2 (IntKind.i64.wrap q) W
    rw [hu] at this
    exact this
  generalize IntKind.i64.wrap (q : Int) = r at *
  clear hq
  unfold GrP at *
  have G := hid (grown_refl w none)
  go_enter Try.func4, Try.ntmps4
  go_upto_region 3 with (first
    | (go_at_call 17; refine calls_at (args := #[.float .f64 q]) rfl ?_; refine (FQ.out _).mono ?_; rintro e v1 ⟨rfl, hg⟩; replace G := hid (grown_trans G.out hg); clear hg))
  have B1 := hid (Blk.new v1 23 #[.int .i64 2, .int .i64 r])
  replace G := hid (grown_alloc G.out (Obj.cells #[.int .i64 2, .int .i64 r] 23))
  generalize v1.alloc (Obj.cells #[.int .i64 2, .int .i64 r] 23) = w1 at *
  generalize v1.heap.size = b1 at *
  go_upto_region 4 with (first
    | (go_at_call 17; refine calls_at (args := #[.float .f64 0]) rfl ?_; refine (F0.out _).mono ?_; rintro e v ⟨rfl, hg⟩; replace G := hid (grown_trans G.out hg); replace B1 := hid (B1.out.kept hg (by simp)); clear hg)
    | (go_at_call 18; refine (U0.out _).mono ?_; rintro e v2 ⟨rfl, hg⟩; replace G := hid (grown_trans G.out hg); replace B1 := hid (B1.out.kept hg (by simp)); clear hg))
  have B2 : Hid (Blk ((v2.alloc (Obj.cells #[.int .i64 2, .int .i64 0] 23)).alloc (Obj.cells #[.int .i64 2, .int .i64 (-9223372036854775808)] 23)) v2.heap.size 23 #[.int .i64 2, .int .i64 0]) := (Blk.new v2 23 _).alloc _
  have B3 : Hid (Blk ((v2.alloc (Obj.cells #[.int .i64 2, .int .i64 0] 23)).alloc (Obj.cells #[.int .i64 2, .int .i64 (-9223372036854775808)] 23)) (v2.heap.size + 1) 23 #[.int .i64 2, .int .i64 (-9223372036854775808)]) := hid (by simpa using Blk.new (v2.alloc (Obj.cells #[.int .i64 2, .int .i64 0] 23)) 23 #[.int .i64 2, .int .i64 (-9223372036854775808)])
  replace B1 := hid ((B1.out.alloc (Obj.cells #[.int .i64 2, .int .i64 0] 23)).alloc (Obj.cells #[.int .i64 2, .int .i64 (-9223372036854775808)] 23))
  replace G := hid (grown_alloc (grown_alloc G.out (Obj.cells #[.int .i64 2, .int .i64 0] 23)) (Obj.cells #[.int .i64 2, .int .i64 (-9223372036854775808)] 23))
  generalize (v2.alloc (Obj.cells #[.int .i64 2, .int .i64 0] 23)).alloc (Obj.cells #[.int .i64 2, .int .i64 (-9223372036854775808)] 23) = w2 at *
  generalize v2.heap.size + 1 = b3 at *
  generalize v2.heap.size = b2 at *
  obtain ⟨c0, c1, _, _⟩ := two_cells B2.out
  obtain ⟨d0, d1, _, _⟩ := two_cells B3.out
  go_upto_region 5 with (first
    | (go_at_call 9; refine (Q1.out _).mono ?_; rintro e v3 ⟨rfl, hg⟩; replace G := hid (grown_trans G.out hg); replace B1 := hid (B1.out.kept hg (by simp)); replace B2 := hid (B2.out.kept hg (by simp)); replace B3 := hid (B3.out.kept hg (by simp)); clear hg))
  have B4 := hid (Blk.new v3 23 #[.int .i64 3, .int .i64 1])
  replace G := hid (grown_alloc G.out (Obj.cells #[.int .i64 3, .int .i64 1] 23))
  replace B1 := hid (B1.out.alloc (Obj.cells #[.int .i64 3, .int .i64 1] 23))
  replace B2 := hid (B2.out.alloc (Obj.cells #[.int .i64 3, .int .i64 1] 23))
  replace B3 := hid (B3.out.alloc (Obj.cells #[.int .i64 3, .int .i64 1] 23))
  generalize v3.alloc (Obj.cells #[.int .i64 3, .int .i64 1] 23) = w3 at *
  generalize v3.heap.size = b4 at *
  clear c0 c1 d0 d1
  obtain ⟨c0, c1, _, _⟩ := two_cells B1.out
  go_upto_region 8 with fail
  go_cut [54] (fun v54 wx => v54 = .bool false ∧ w3.grownBy wx none)
  case first =>
    have SS : Hid (∀ W, w3.grownBy W none → W.cell? ⟨b1, 0, none⟩ = some (.int .i64 2) ∧ W.cell? ⟨b1, 1, none⟩ = some (.int .i64 r)) := fun W hW => by
      obtain ⟨q0, q1, _, _⟩ := two_cells (B1.out.kept hW (by simp))
      exact ⟨q0, q1⟩
    have hS : (fun V : World => V.cell? ⟨b1, 0, none⟩ = some (.int .i64 2) ∧ V.cell? ⟨b1, 1, none⟩ = some (.int .i64 r) ∧ w3.grownBy V none) w3.drew := ⟨c0, c1, grown_drew (grown_refl _ _)⟩
    clear G B1 B2 B3 B4 c0 c1
    refine wp_region_held_drew (S := fun V => V.cell? ⟨b1, 0, none⟩ = some (.int .i64 2) ∧ V.cell? ⟨b1, 1, none⟩ = some (.int .i64 r) ∧ w3.grownBy V none) (by kernel_rfl) hS (fun hHeld => ?_)
    clear hS
    refine wpAnyH_take (i := 0) (oi := { dst := some 28, op := Op.move (Operand.tmp 7), type := 37, pos := "law.go:57", after := #[], guard := none }) (v := (.float .f64 q)) rfl (by kernel_rfl) (by kernel_rfl) (by kernel_rfl) (fun _ _ _ h => h) (Or.inl ⟨by rfl, ?_⟩) hHeld ?_
    · intro W hSW
      obtain ⟨s0, s1, _⟩ := hSW
      go_simp
    try simp only [Act.put, List.setIfInBounds_toArray, List.set_cons_zero, List.set_cons_succ]
    refine wpAnyH_take (i := 1) (oi := { dst := some 29, op := Op.move (Operand.tmp 7), type := 37, pos := "law.go:57", after := #[], guard := none }) (v := (.float .f64 q)) rfl (by kernel_rfl) (by kernel_rfl) (by kernel_rfl) (fun _ _ _ h => h) (Or.inl ⟨by rfl, ?_⟩) hHeld ?_
    · intro W hSW
      obtain ⟨s0, s1, _⟩ := hSW
      go_simp
    try simp only [Act.put, List.setIfInBounds_toArray, List.set_cons_zero, List.set_cons_succ]
    refine wpAnyH_take (i := 2) (oi := { dst := some 30, op := Op.binOp BinOp.neq 37 (Operand.tmp 28) (Operand.tmp 29) 37, type := 4, pos := "law.go:57", after := #[{ on := 0, ground := Ground.data }, { on := 1, ground := Ground.data }], guard := none }) (v := (.bool false)) rfl (by kernel_rfl) (by kernel_rfl) (by kernel_rfl) (fun _ _ _ h => h) (Or.inl ⟨by rfl, ?_⟩) hHeld ?_
    · intro W hSW
      obtain ⟨s0, s1, _⟩ := hSW
      go_simp
    try simp only [Act.put, List.setIfInBounds_toArray, List.set_cons_zero, List.set_cons_succ]
    refine wpAnyH_take (i := 3) (oi := { dst := some 31, op := Op.move (Operand.tmp 30), type := 4, pos := "law.go:57", after := #[{ on := 2, ground := Ground.data }], guard := none }) (v := (.bool false)) rfl (by kernel_rfl) (by kernel_rfl) (by kernel_rfl) (fun _ _ _ h => h) (Or.inl ⟨by rfl, ?_⟩) hHeld ?_
    · intro W hSW
      obtain ⟨s0, s1, _⟩ := hSW
      go_simp
    try simp only [Act.put, List.setIfInBounds_toArray, List.set_cons_zero, List.set_cons_succ]
    refine wpAnyH_take (i := 4) (oi := { dst := some 32, op := Op.fieldAddr 23 (Operand.tmp 8) 1, type := 0, pos := "law.go:57", after := #[{ on := 3, ground := Ground.guard }], guard := some (3, true) }) (v := undef) rfl (by kernel_rfl) (by kernel_rfl) (by kernel_rfl) (fun _ _ _ h => h) (Or.inr ⟨by rfl, rfl⟩) hHeld ?_
    try simp only [Act.put, List.setIfInBounds_toArray, List.set_cons_zero, List.set_cons_succ]
    refine wpAnyH_take (i := 5) (oi := { dst := some 33, op := Op.load 2 (Operand.tmp 32), type := 2, pos := "law.go:57", after := #[{ on := 4, ground := Ground.data }, { on := 3, ground := Ground.guard }], guard := some (3, true) }) (v := undef) rfl (by kernel_rfl) (by kernel_rfl) (by kernel_rfl) (fun _ _ _ h => h) (Or.inr ⟨by rfl, rfl⟩) hHeld ?_
    try simp only [Act.put, List.setIfInBounds_toArray, List.set_cons_zero, List.set_cons_succ]
    refine wpAnyH_take (i := 6) (oi := { dst := some 34, op := Op.call { callee := Callee.value (Operand.func 19), args := #[], argTypes := #[] }, type := 2, pos := "law.go:57", after := #[{ on := 3, ground := Ground.chain }, { on := 3, ground := Ground.guard }], guard := some (3, true) }) (v := undef) rfl (by kernel_rfl) (by kernel_rfl) (by kernel_rfl) (fun _ _ _ h => h) (Or.inr ⟨by rfl, rfl⟩) hHeld ?_
    try simp only [Act.put, List.setIfInBounds_toArray, List.set_cons_zero, List.set_cons_succ]
    refine wpAnyH_take (i := 7) (oi := { dst := some 35, op := Op.binOp BinOp.neq 2 (Operand.tmp 33) (Operand.tmp 34) 2, type := 4, pos := "law.go:57", after := #[{ on := 5, ground := Ground.data }, { on := 6, ground := Ground.data }, { on := 3, ground := Ground.guard }], guard := some (3, true) }) (v := undef) rfl (by kernel_rfl) (by kernel_rfl) (by kernel_rfl) (fun _ _ _ h => h) (Or.inr ⟨by rfl, rfl⟩) hHeld ?_
    try simp only [Act.put, List.setIfInBounds_toArray, List.set_cons_zero, List.set_cons_succ]
    refine wpAnyH_take (i := 8) (oi := { dst := some 36, op := Op.pick (Operand.tmp 31) (Operand.tmp 35) (Operand.const (Value.bool false)), type := 4, pos := "law.go:57", after := #[{ on := 3, ground := Ground.data }, { on := 7, ground := Ground.data }], guard := none }) (v := (.bool false)) rfl (by kernel_rfl) (by kernel_rfl) (by kernel_rfl) (fun _ _ _ h => h) (Or.inl ⟨by rfl, ?_⟩) hHeld ?_
    · intro W hSW
      obtain ⟨s0, s1, _⟩ := hSW
      go_simp
    try simp only [Act.put, List.setIfInBounds_toArray, List.set_cons_zero, List.set_cons_succ]
    refine wpAnyH_take (i := 9) (oi := { dst := some 37, op := Op.move (Operand.tmp 36), type := 4, pos := "law.go:57", after := #[{ on := 8, ground := Ground.data }, { on := 6, ground := Ground.chain }], guard := none }) (v := (.bool false)) rfl (by kernel_rfl) (by kernel_rfl) (by kernel_rfl) (fun _ _ _ h => h) (Or.inl ⟨by rfl, ?_⟩) hHeld ?_
    · intro W hSW
      obtain ⟨s0, s1, _⟩ := hSW
      go_simp
    try simp only [Act.put, List.setIfInBounds_toArray, List.set_cons_zero, List.set_cons_succ]
    refine wpAnyH_take (i := 10) (oi := { dst := some 38, op := Op.move (Operand.tmp 7), type := 37, pos := "law.go:57", after := #[{ on := 9, ground := Ground.guard }], guard := some (9, false) }) (v := (.float .f64 q)) rfl (by kernel_rfl) (by kernel_rfl) (by kernel_rfl) (fun _ _ _ h => h) (Or.inl ⟨by rfl, ?_⟩) hHeld ?_
    · intro W hSW
      obtain ⟨s0, s1, _⟩ := hSW
      go_simp
    try simp only [Act.put, List.setIfInBounds_toArray, List.set_cons_zero, List.set_cons_succ]
    refine wpAnyH_take (i := 11) (oi := { dst := some 39, op := Op.move (Operand.tmp 7), type := 37, pos := "law.go:57", after := #[{ on := 9, ground := Ground.guard }], guard := some (9, false) }) (v := (.float .f64 q)) rfl (by kernel_rfl) (by kernel_rfl) (by kernel_rfl) (fun _ _ _ h => h) (Or.inl ⟨by rfl, ?_⟩) hHeld ?_
    · intro W hSW
      obtain ⟨s0, s1, _⟩ := hSW
      go_simp
    try simp only [Act.put, List.setIfInBounds_toArray, List.set_cons_zero, List.set_cons_succ]
    refine wpAnyH_take (i := 12) (oi := { dst := some 40, op := Op.binOp BinOp.eql 37 (Operand.tmp 38) (Operand.tmp 39) 37, type := 4, pos := "law.go:57", after := #[{ on := 10, ground := Ground.data }, { on := 11, ground := Ground.data }, { on := 9, ground := Ground.guard }], guard := some (9, false) }) (v := (.bool true)) rfl (by kernel_rfl) (by kernel_rfl) (by kernel_rfl) (fun _ _ _ h => h) (Or.inl ⟨by rfl, ?_⟩) hHeld ?_
    · intro W hSW
      obtain ⟨s0, s1, _⟩ := hSW
      go_simp
    try simp only [Act.put, List.setIfInBounds_toArray, List.set_cons_zero, List.set_cons_succ]
    refine wpAnyH_take (i := 13) (oi := { dst := some 41, op := Op.move (Operand.tmp 40), type := 4, pos := "law.go:57", after := #[{ on := 12, ground := Ground.data }, { on := 9, ground := Ground.chain }, { on := 9, ground := Ground.guard }], guard := some (9, false) }) (v := (.bool true)) rfl (by kernel_rfl) (by kernel_rfl) (by kernel_rfl) (fun _ _ _ h => h) (Or.inl ⟨by rfl, ?_⟩) hHeld ?_
    · intro W hSW
      obtain ⟨s0, s1, _⟩ := hSW
      go_simp
    try simp only [Act.put, List.setIfInBounds_toArray, List.set_cons_zero, List.set_cons_succ]
    refine wpAnyH_take (i := 14) (oi := { dst := some 42, op := Op.fieldAddr 23 (Operand.tmp 8) 1, type := 0, pos := "law.go:57", after := #[{ on := 13, ground := Ground.guard }], guard := some (13, true) }) (v := (.pointer (some ⟨b1, 1, none⟩))) rfl (by kernel_rfl) (by kernel_rfl) (by kernel_rfl) (fun _ _ _ h => h) (Or.inl ⟨by rfl, ?_⟩) hHeld ?_
    · intro W hSW
      obtain ⟨s0, s1, _⟩ := hSW
      go_simp
    try simp only [Act.put, List.setIfInBounds_toArray, List.set_cons_zero, List.set_cons_succ]
    refine wpAnyH_take (i := 15) (oi := { dst := some 43, op := Op.load 2 (Operand.tmp 42), type := 2, pos := "law.go:57", after := #[{ on := 14, ground := Ground.data }, { on := 13, ground := Ground.guard }], guard := some (13, true) }) (v := (.int .i64 r)) rfl (by kernel_rfl) (by kernel_rfl) (by kernel_rfl) (fun _ _ _ h => h) (Or.inl ⟨by rfl, ?_⟩) hHeld ?_
    · intro W hSW
      obtain ⟨s0, s1, _⟩ := hSW
      go_simp
    try simp only [Act.put, List.setIfInBounds_toArray, List.set_cons_zero, List.set_cons_succ]
    refine wpAnyH_take (i := 16) (oi := { dst := some 44, op := Op.convert 2 36 (Operand.tmp 43), type := 36, pos := "law.go:57", after := #[{ on := 15, ground := Ground.data }, { on := 13, ground := Ground.guard }], guard := some (13, true) }) (v := (.int .u64 q)) rfl (by kernel_rfl) (by kernel_rfl) (by kernel_rfl) (fun _ _ _ h => h) (Or.inl ⟨by rfl, ?_⟩) hHeld ?_
    · intro W hSW
      obtain ⟨s0, s1, _⟩ := hSW
      go_simp
    try simp only [Act.put, List.setIfInBounds_toArray, List.set_cons_zero, List.set_cons_succ]
    refine wpAnyH_take (i := 17) (oi := { dst := some 45, op := Op.move (Operand.tmp 0), type := 36, pos := "law.go:57", after := #[{ on := 13, ground := Ground.guard }], guard := some (13, true) }) (v := (.int .u64 q)) rfl (by kernel_rfl) (by kernel_rfl) (by kernel_rfl) (fun _ _ _ h => h) (Or.inl ⟨by rfl, ?_⟩) hHeld ?_
    · intro W hSW
      obtain ⟨s0, s1, _⟩ := hSW
      go_simp
    try simp only [Act.put, List.setIfInBounds_toArray, List.set_cons_zero, List.set_cons_succ]
    refine wpAnyH_take (i := 18) (oi := { dst := some 46, op := Op.binOp BinOp.neq 36 (Operand.tmp 44) (Operand.tmp 45) 36, type := 4, pos := "law.go:57", after := #[{ on := 16, ground := Ground.data }, { on := 17, ground := Ground.data }, { on := 13, ground := Ground.guard }], guard := some (13, true) }) (v := (.bool false)) rfl (by kernel_rfl) (by kernel_rfl) (by kernel_rfl) (fun _ _ _ h => h) (Or.inl ⟨by rfl, ?_⟩) hHeld ?_
    · intro W hSW
      obtain ⟨s0, s1, _⟩ := hSW
      go_simp
    try simp only [Act.put, List.setIfInBounds_toArray, List.set_cons_zero, List.set_cons_succ]
    refine wpAnyH_take (i := 19) (oi := { dst := some 47, op := Op.move (Operand.tmp 46), type := 4, pos := "law.go:57", after := #[{ on := 18, ground := Ground.data }, { on := 13, ground := Ground.chain }, { on := 13, ground := Ground.guard }], guard := some (13, true) }) (v := (.bool false)) rfl (by kernel_rfl) (by kernel_rfl) (by kernel_rfl) (fun _ _ _ h => h) (Or.inl ⟨by rfl, ?_⟩) hHeld ?_
    · intro W hSW
      obtain ⟨s0, s1, _⟩ := hSW
      go_simp
    try simp only [Act.put, List.setIfInBounds_toArray, List.set_cons_zero, List.set_cons_succ]
    refine wpAnyH_take (i := 20) (oi := { dst := some 48, op := Op.load 23 (Operand.tmp 8), type := 23, pos := "law.go:57", after := #[{ on := 19, ground := Ground.guard }], guard := some (19, false) }) (v := (vl 2 r)) rfl (by kernel_rfl) (by kernel_rfl) (by kernel_rfl) (fun _ _ _ h => h) (Or.inl ⟨by rfl, ?_⟩) hHeld ?_
    · intro W hSW
      obtain ⟨s0, s1, _⟩ := hSW
      go_simp
    try simp only [Act.put, List.setIfInBounds_toArray, List.set_cons_zero, List.set_cons_succ]
    refine wpAnyH_take (i := 22) (oi := { dst := some 50, op := Op.move (Operand.tmp 7), type := 37, pos := "law.go:57", after := #[{ on := 19, ground := Ground.guard }], guard := some (19, false) }) (v := (.float .f64 q)) rfl (by kernel_rfl) (by kernel_rfl) (by kernel_rfl) (fun _ _ _ h => h) (Or.inl ⟨by rfl, ?_⟩) hHeld ?_
    · intro W hSW
      obtain ⟨s0, s1, _⟩ := hSW
      go_simp
    try simp only [Act.put, List.setIfInBounds_toArray, List.set_cons_zero, List.set_cons_succ]
    refine wpAnyH_ready (rs := [21]) (by kernel_rfl) (by simp) ?_
    refine AllReadyH.cons (o := { dst := some 49, op := Op.call { callee := Callee.value (Operand.func 20), args := #[Operand.tmp 48], argTypes := #[23] }, type := 37, pos := "law.go:57", after := #[{ on := 20, ground := Ground.data }, { on := 19, ground := Ground.chain }, { on := 19, ground := Ground.guard }], guard := some (19, false) }) rfl (fun K hK => ?_) AllReadyH.nil
    go_simp
    refine (OQ.out _).mono ?_
    rintro e wa ⟨rfl, hg⟩
    go_wp2_with fail
    have Ga := hid (grown_trans hHeld.2.2 hg)
    obtain ⟨s0, s1⟩ := SS.out wa Ga.out
    refine hK.out _ _ ⟨s0, s1, Ga.out⟩ (fun hHeld0 => ?_)
    clear hK K hHeld hg
    have hHeld := hHeld0
    clear hHeld0
    try simp only [Act.put, List.setIfInBounds_toArray, List.set_cons_zero, List.set_cons_succ]
    refine wpAnyH_take (i := 23) (oi := { dst := some 51, op := Op.binOp BinOp.neq 37 (Operand.tmp 49) (Operand.tmp 50) 37, type := 4, pos := "law.go:57", after := #[{ on := 21, ground := Ground.data }, { on := 22, ground := Ground.data }, { on := 19, ground := Ground.guard }], guard := some (19, false) }) (v := (.bool false)) rfl (by kernel_rfl) (by kernel_rfl) (by kernel_rfl) (fun _ _ _ h => h) (Or.inl ⟨by rfl, ?_⟩) hHeld ?_
    · intro W hSW
      obtain ⟨s0, s1, _⟩ := hSW
      go_simp
    try simp only [Act.put, List.setIfInBounds_toArray, List.set_cons_zero, List.set_cons_succ]
    refine wpAnyH_take (i := 24) (oi := { dst := some 52, op := Op.pick (Operand.tmp 47) (Operand.const (Value.bool true)) (Operand.tmp 51), type := 4, pos := "law.go:57", after := #[{ on := 19, ground := Ground.data }, { on := 23, ground := Ground.data }, { on := 13, ground := Ground.guard }], guard := some (13, true) }) (v := (.bool false)) rfl (by kernel_rfl) (by kernel_rfl) (by kernel_rfl) (fun _ _ _ h => h) (Or.inl ⟨by rfl, ?_⟩) hHeld ?_
    · intro W hSW
      obtain ⟨s0, s1, _⟩ := hSW
      go_simp
    try simp only [Act.put, List.setIfInBounds_toArray, List.set_cons_zero, List.set_cons_succ]
    refine wpAnyH_take (i := 25) (oi := { dst := some 53, op := Op.pick (Operand.tmp 41) (Operand.tmp 52) (Operand.const (Value.bool false)), type := 4, pos := "law.go:57", after := #[{ on := 13, ground := Ground.data }, { on := 24, ground := Ground.data }, { on := 9, ground := Ground.guard }], guard := some (9, false) }) (v := (.bool false)) rfl (by kernel_rfl) (by kernel_rfl) (by kernel_rfl) (fun _ _ _ h => h) (Or.inl ⟨by rfl, ?_⟩) hHeld ?_
    · intro W hSW
      obtain ⟨s0, s1, _⟩ := hSW
      go_simp
    try simp only [Act.put, List.setIfInBounds_toArray, List.set_cons_zero, List.set_cons_succ]
    refine wpAnyH_take (i := 26) (oi := { dst := some 54, op := Op.pick (Operand.tmp 37) (Operand.const (Value.bool true)) (Operand.tmp 53), type := 4, pos := "law.go:57", after := #[{ on := 9, ground := Ground.data }, { on := 25, ground := Ground.data }], guard := none }) (v := (.bool false)) rfl (by kernel_rfl) (by kernel_rfl) (by kernel_rfl) (fun _ _ _ h => h) (Or.inl ⟨by rfl, ?_⟩) hHeld ?_
    · intro W hSW
      obtain ⟨s0, s1, _⟩ := hSW
      go_simp
    try simp only [Act.put, List.setIfInBounds_toArray, List.set_cons_zero, List.set_cons_succ]
    refine wpAnyH_done (by kernel_rfl) ?_ _
    (try go_wp2_with fail)
    go_meet
    exact ⟨rfl, Ga.out⟩
  case rest =>
    obtain ⟨rfl, hgx⟩ := hcut
    replace B1 := hid (B1.out.kept hgx (by simp))
    replace B2 := hid (B2.out.kept hgx (by simp))
    replace B3 := hid (B3.out.kept hgx (by simp))
    replace B4 := hid (B4.out.kept hgx (by simp))
    replace G := hid (grown_trans G.out hgx)
    clear hgx c0 c1 q1 q2
    go_wp2_with (first
      | (go_at_call 12; refine (AW.out _).mono ?_; rintro e wd ⟨rfl, hg⟩; replace G := hid (grown_trans G.out hg); replace B1 := hid (B1.out.kept hg (by simp)); replace B2 := hid (B2.out.kept hg (by simp)); replace B3 := hid (B3.out.kept hg (by simp)); replace B4 := hid (B4.out.kept hg (by simp)); clear hg; obtain ⟨x0, x1, _, _⟩ := two_cells B1.out; obtain ⟨y0, y1, _, _⟩ := two_cells B2.out; obtain ⟨z0, z1, _, _⟩ := two_cells B3.out; obtain ⟨t0, t1, _, _⟩ := two_cells B4.out)
      | (go_at_call 21; refine calls_at (args := #[vl 3 1]) rfl ?_; refine (T1.out _).mono ?_; rintro e we ⟨rfl, hg⟩; replace G := hid (grown_trans G.out hg); replace B1 := hid (B1.out.kept hg (by simp)); replace B2 := hid (B2.out.kept hg (by simp)); replace B3 := hid (B3.out.kept hg (by simp)); replace B4 := hid (B4.out.kept hg (by simp)); clear hg; obtain ⟨x0, x1, _, _⟩ := two_cells B1.out; obtain ⟨y0, y1, _, _⟩ := two_cells B2.out; obtain ⟨z0, z1, _, _⟩ := two_cells B3.out; obtain ⟨t0, t1, _, _⟩ := two_cells B4.out)
      | (go_at_call 21; refine calls_at (args := #[vl 1 n]) rfl ?_; refine (TI.out _).mono ?_; rintro e we ⟨rfl, hg⟩; replace G := hid (grown_trans G.out hg); (try (replace B1 := hid (B1.out.kept hg (by simp)); replace B2 := hid (B2.out.kept hg (by simp)); replace B3 := hid (B3.out.kept hg (by simp)); replace B4 := hid (B4.out.kept hg (by simp)))); clear hg)
      | (go_at_call 22; refine (IN.out _).mono ?_; rintro e we ⟨rfl, hg⟩; replace G := hid (grown_trans G.out hg); (try (replace B1 := hid (B1.out.kept hg (by simp)); replace B2 := hid (B2.out.kept hg (by simp)); replace B3 := hid (B3.out.kept hg (by simp)); replace B4 := hid (B4.out.kept hg (by simp)))); clear hg)
      | (go_at_call 13; refine calls_at (args := #[vl 1 n, vl 1 n]) rfl ?_; refine (S1.out _).mono ?_; rintro e we ⟨rfl, hg⟩; replace G := hid (grown_trans G.out hg); (try (replace B1 := hid (B1.out.kept hg (by simp)); replace B2 := hid (B2.out.kept hg (by simp)); replace B3 := hid (B3.out.kept hg (by simp)); replace B4 := hid (B4.out.kept hg (by simp)))); clear hg)
      | (go_at_call 23; refine (BO.out _).mono ?_; rintro e we ⟨rfl, hg⟩; replace G := hid (grown_trans G.out hg); (try (replace B1 := hid (B1.out.kept hg (by simp)); replace B2 := hid (B2.out.kept hg (by simp)); replace B3 := hid (B3.out.kept hg (by simp)); replace B4 := hid (B4.out.kept hg (by simp)))); clear hg)
      | (go_at_call 13; refine calls_at (args := #[vl 3 1, vl 3 1]) rfl ?_; refine (S2.out _).mono ?_; rintro e we ⟨rfl, hg⟩; replace G := hid (grown_trans G.out hg); (try (replace B1 := hid (B1.out.kept hg (by simp)); replace B2 := hid (B2.out.kept hg (by simp)); replace B3 := hid (B3.out.kept hg (by simp)); replace B4 := hid (B4.out.kept hg (by simp)))); clear hg)
      | (go_at_call 24; refine (Z2.out _).mono ?_; rintro e we ⟨rfl, hg⟩; replace G := hid (grown_trans G.out hg); (try (replace B1 := hid (B1.out.kept hg (by simp)); replace B2 := hid (B2.out.kept hg (by simp)); replace B3 := hid (B3.out.kept hg (by simp)); replace B4 := hid (B4.out.kept hg (by simp)))); clear hg)
      | (go_at_call 13; refine calls_at (args := #[vl 2 0, vl 2 0]) rfl ?_; refine (S3.out _).mono ?_; rintro e we ⟨rfl, hg⟩; replace G := hid (grown_trans G.out hg); (try (replace B1 := hid (B1.out.kept hg (by simp)); replace B2 := hid (B2.out.kept hg (by simp)); replace B3 := hid (B3.out.kept hg (by simp)); replace B4 := hid (B4.out.kept hg (by simp)))); clear hg))

    go_ret
    exact ⟨rfl, G.out⟩
set_option maxRecDepth 100000 in
set_option maxHeartbeats 4000000 in
theorem edges_n0 (q : Nat) (n : Int) (w : World) (hq : nanB q = true) : Calls Try.prog 4 #[.int .u64 q, .int .i64 n, .bool false] w (GrP (.bool true) w) := by
  have FR : ∀ W, (callFunc 16 #[.int .u64 (q : Int)]).run Try.prog W = .ok (.value (.float .f64 q)) W := fun W => from_run _ W
  have F0 : Hid (∀ W, Calls Try.prog 17 #[.float .f64 0] W (GrP (vl 2 0) W)) := fun W => float_any 0 W
  have U0 : Hid (∀ W, Calls Try.prog 18 #[.string ⟨#[45]⟩, vl 2 0] W (GrP (vl 2 (-9223372036854775808)) W)) := fun W => neg_zero W
  have Q1 : Hid (∀ W, Calls Try.prog 9 #[.string ⟨#[61, 61]⟩, vl 2 0, vl 2 (-9223372036854775808)] W (GrP (tw (vl 3 1) 0) W)) := fun W => bin_float _ 0 (-9223372036854775808) _ _ W known_eql_2 (fun V => num_eql 0 9223372036854775808 V)
  have T1 : Hid (∀ W, Calls Try.prog 21 #[vl 3 1] W (GrP (.bool true) W)) := fun W => true_any 3 1 W
  have T0 : Hid (∀ W, Calls Try.prog 21 #[vl 3 0] W (GrP (.bool false) W)) := fun W => true_any 3 0 W
  have TI : Hid (∀ W, Calls Try.prog 21 #[vl 1 n] W (GrP (.bool false) W)) := fun W => true_any 1 n W
  have IN : Hid (∀ W, Calls Try.prog 22 #[.int .i64 n] W (GrP (vl 1 n) W)) := fun W => int_any n W
  have BO : Hid (∀ W, Calls Try.prog 23 #[.bool false] W (GrP (vl 3 0) W)) := fun W => bool_any false W
  have Z2 : Hid (∀ W, Calls Try.prog 24 #[.int .i64 2] W (GrP (vl 2 0) W)) := fun W => zero_two W
  have S1 : Hid (∀ W, Calls Try.prog 13 #[vl 1 n, vl 1 n] W (GrP (.bool true) W)) := fun W => is_same 1 n W
  have S2 : Hid (∀ W, Calls Try.prog 13 #[vl 3 0, vl 3 0] W (GrP (.bool true) W)) := fun W => is_same 3 0 W
  have S3 : Hid (∀ W, Calls Try.prog 13 #[vl 2 0, vl 2 0] W (GrP (.bool true) W)) := fun W => is_same 2 0 W
  have AW : Hid (∀ W, Calls Try.prog 12 #[] W (GrP (.bool true) W)) := fun W => awake_any W
  have NN : Hid (∀ W, Calls Try.prog 19 #[] W (StP (.int .i64 9221120237041090561) W)) := fun W => nan_num W
  have FQ : Hid (∀ W, Calls Try.prog 17 #[.float .f64 q] W (GrP (vl 2 9221120237041090561) W)) := fun W => by
    have := float_any q W
    unfold oneN at this
    rw [hq] at this
    exact this
  have q1 : (FloatKind.f64.format.order q q != some .eq) = true := hq
  have q2 : (FloatKind.f64.format.order q q == some .eq) = false := by
    cases h : (FloatKind.f64.format.order q q == some .eq)
    · rfl
    · rw [bne, h] at q1; cases q1
  clear hq
  unfold GrP at *
  have G := hid (grown_refl w none)
  go_enter Try.func4, Try.ntmps4
  go_upto_region 3 with (first
    | (go_at_call 17; refine calls_at (args := #[.float .f64 q]) rfl ?_; refine (FQ.out _).mono ?_; rintro e v1 ⟨rfl, hg⟩; replace G := hid (grown_trans G.out hg); clear hg))
  have B1 := hid (Blk.new v1 23 #[.int .i64 2, .int .i64 9221120237041090561])
  replace G := hid (grown_alloc G.out (Obj.cells #[.int .i64 2, .int .i64 9221120237041090561] 23))
  generalize v1.alloc (Obj.cells #[.int .i64 2, .int .i64 9221120237041090561] 23) = w1 at *
  generalize v1.heap.size = b1 at *
  go_upto_region 4 with (first
    | (go_at_call 17; refine calls_at (args := #[.float .f64 0]) rfl ?_; refine (F0.out _).mono ?_; rintro e v ⟨rfl, hg⟩; replace G := hid (grown_trans G.out hg); replace B1 := hid (B1.out.kept hg (by simp)); clear hg)
    | (go_at_call 18; refine (U0.out _).mono ?_; rintro e v2 ⟨rfl, hg⟩; replace G := hid (grown_trans G.out hg); replace B1 := hid (B1.out.kept hg (by simp)); clear hg))
  have B2 : Hid (Blk ((v2.alloc (Obj.cells #[.int .i64 2, .int .i64 0] 23)).alloc (Obj.cells #[.int .i64 2, .int .i64 (-9223372036854775808)] 23)) v2.heap.size 23 #[.int .i64 2, .int .i64 0]) := (Blk.new v2 23 _).alloc _
  have B3 : Hid (Blk ((v2.alloc (Obj.cells #[.int .i64 2, .int .i64 0] 23)).alloc (Obj.cells #[.int .i64 2, .int .i64 (-9223372036854775808)] 23)) (v2.heap.size + 1) 23 #[.int .i64 2, .int .i64 (-9223372036854775808)]) := hid (by simpa using Blk.new (v2.alloc (Obj.cells #[.int .i64 2, .int .i64 0] 23)) 23 #[.int .i64 2, .int .i64 (-9223372036854775808)])
  replace B1 := hid ((B1.out.alloc (Obj.cells #[.int .i64 2, .int .i64 0] 23)).alloc (Obj.cells #[.int .i64 2, .int .i64 (-9223372036854775808)] 23))
  replace G := hid (grown_alloc (grown_alloc G.out (Obj.cells #[.int .i64 2, .int .i64 0] 23)) (Obj.cells #[.int .i64 2, .int .i64 (-9223372036854775808)] 23))
  generalize (v2.alloc (Obj.cells #[.int .i64 2, .int .i64 0] 23)).alloc (Obj.cells #[.int .i64 2, .int .i64 (-9223372036854775808)] 23) = w2 at *
  generalize v2.heap.size + 1 = b3 at *
  generalize v2.heap.size = b2 at *
  obtain ⟨c0, c1, _, _⟩ := two_cells B2.out
  obtain ⟨d0, d1, _, _⟩ := two_cells B3.out
  go_upto_region 5 with (first
    | (go_at_call 9; refine (Q1.out _).mono ?_; rintro e v3 ⟨rfl, hg⟩; replace G := hid (grown_trans G.out hg); replace B1 := hid (B1.out.kept hg (by simp)); replace B2 := hid (B2.out.kept hg (by simp)); replace B3 := hid (B3.out.kept hg (by simp)); clear hg))
  have B4 := hid (Blk.new v3 23 #[.int .i64 3, .int .i64 1])
  replace G := hid (grown_alloc G.out (Obj.cells #[.int .i64 3, .int .i64 1] 23))
  replace B1 := hid (B1.out.alloc (Obj.cells #[.int .i64 3, .int .i64 1] 23))
  replace B2 := hid (B2.out.alloc (Obj.cells #[.int .i64 3, .int .i64 1] 23))
  replace B3 := hid (B3.out.alloc (Obj.cells #[.int .i64 3, .int .i64 1] 23))
  generalize v3.alloc (Obj.cells #[.int .i64 3, .int .i64 1] 23) = w3 at *
  generalize v3.heap.size = b4 at *
  clear c0 c1 d0 d1
  obtain ⟨c0, c1, _, _⟩ := two_cells B1.out
  go_upto_region 8 with fail
  go_cut [54] (fun v54 wx => v54 = .bool false ∧ w3.grownBy wx none)
  case first =>
    clear G B1 B2 B3 B4
    go_quiet (first | (go_at_call 19; refine Calls.quiet_of_same (NN.out _)))
    (try go_wp2_with fail)
    go_meet
    exact ⟨rfl, ⟨rfl, rfl, rfl, Nat.le_refl _, fun _ _ _ => rfl⟩⟩
  case rest =>
    obtain ⟨rfl, hgx⟩ := hcut
    replace B1 := hid (B1.out.kept hgx (by simp))
    replace B2 := hid (B2.out.kept hgx (by simp))
    replace B3 := hid (B3.out.kept hgx (by simp))
    replace B4 := hid (B4.out.kept hgx (by simp))
    replace G := hid (grown_trans G.out hgx)
    clear hgx c0 c1 q1 q2
    go_wp2_with (first
      | (go_at_call 12; refine (AW.out _).mono ?_; rintro e wd ⟨rfl, hg⟩; replace G := hid (grown_trans G.out hg); replace B1 := hid (B1.out.kept hg (by simp)); replace B2 := hid (B2.out.kept hg (by simp)); replace B3 := hid (B3.out.kept hg (by simp)); replace B4 := hid (B4.out.kept hg (by simp)); clear hg; obtain ⟨x0, x1, _, _⟩ := two_cells B1.out; obtain ⟨y0, y1, _, _⟩ := two_cells B2.out; obtain ⟨z0, z1, _, _⟩ := two_cells B3.out; obtain ⟨t0, t1, _, _⟩ := two_cells B4.out)
      | (go_at_call 21; refine calls_at (args := #[vl 3 1]) rfl ?_; refine (T1.out _).mono ?_; rintro e we ⟨rfl, hg⟩; replace G := hid (grown_trans G.out hg); replace B1 := hid (B1.out.kept hg (by simp)); replace B2 := hid (B2.out.kept hg (by simp)); replace B3 := hid (B3.out.kept hg (by simp)); replace B4 := hid (B4.out.kept hg (by simp)); clear hg; obtain ⟨x0, x1, _, _⟩ := two_cells B1.out; obtain ⟨y0, y1, _, _⟩ := two_cells B2.out; obtain ⟨z0, z1, _, _⟩ := two_cells B3.out; obtain ⟨t0, t1, _, _⟩ := two_cells B4.out)
      | (go_at_call 21; refine calls_at (args := #[vl 3 0]) rfl ?_; refine (T0.out _).mono ?_; rintro e we ⟨rfl, hg⟩; replace G := hid (grown_trans G.out hg); replace B1 := hid (B1.out.kept hg (by simp)); replace B2 := hid (B2.out.kept hg (by simp)); replace B3 := hid (B3.out.kept hg (by simp)); replace B4 := hid (B4.out.kept hg (by simp)); clear hg; obtain ⟨x0, x1, _, _⟩ := two_cells B1.out; obtain ⟨y0, y1, _, _⟩ := two_cells B2.out; obtain ⟨z0, z1, _, _⟩ := two_cells B3.out; obtain ⟨t0, t1, _, _⟩ := two_cells B4.out)
      | (go_at_call 21; refine calls_at (args := #[vl 1 n]) rfl ?_; refine (TI.out _).mono ?_; rintro e we ⟨rfl, hg⟩; replace G := hid (grown_trans G.out hg); (try (replace B1 := hid (B1.out.kept hg (by simp)); replace B2 := hid (B2.out.kept hg (by simp)); replace B3 := hid (B3.out.kept hg (by simp)); replace B4 := hid (B4.out.kept hg (by simp)))); clear hg)
      | (go_at_call 22; refine (IN.out _).mono ?_; rintro e we ⟨rfl, hg⟩; replace G := hid (grown_trans G.out hg); (try (replace B1 := hid (B1.out.kept hg (by simp)); replace B2 := hid (B2.out.kept hg (by simp)); replace B3 := hid (B3.out.kept hg (by simp)); replace B4 := hid (B4.out.kept hg (by simp)))); clear hg)
      | (go_at_call 13; refine calls_at (args := #[vl 1 n, vl 1 n]) rfl ?_; refine (S1.out _).mono ?_; rintro e we ⟨rfl, hg⟩; replace G := hid (grown_trans G.out hg); (try (replace B1 := hid (B1.out.kept hg (by simp)); replace B2 := hid (B2.out.kept hg (by simp)); replace B3 := hid (B3.out.kept hg (by simp)); replace B4 := hid (B4.out.kept hg (by simp)))); clear hg)
      | (go_at_call 23; refine (BO.out _).mono ?_; rintro e we ⟨rfl, hg⟩; replace G := hid (grown_trans G.out hg); (try (replace B1 := hid (B1.out.kept hg (by simp)); replace B2 := hid (B2.out.kept hg (by simp)); replace B3 := hid (B3.out.kept hg (by simp)); replace B4 := hid (B4.out.kept hg (by simp)))); clear hg)
      | (go_at_call 13; refine calls_at (args := #[vl 3 0, vl 3 0]) rfl ?_; refine (S2.out _).mono ?_; rintro e we ⟨rfl, hg⟩; replace G := hid (grown_trans G.out hg); (try (replace B1 := hid (B1.out.kept hg (by simp)); replace B2 := hid (B2.out.kept hg (by simp)); replace B3 := hid (B3.out.kept hg (by simp)); replace B4 := hid (B4.out.kept hg (by simp)))); clear hg)
      | (go_at_call 24; refine (Z2.out _).mono ?_; rintro e we ⟨rfl, hg⟩; replace G := hid (grown_trans G.out hg); (try (replace B1 := hid (B1.out.kept hg (by simp)); replace B2 := hid (B2.out.kept hg (by simp)); replace B3 := hid (B3.out.kept hg (by simp)); replace B4 := hid (B4.out.kept hg (by simp)))); clear hg)
      | (go_at_call 13; refine calls_at (args := #[vl 2 0, vl 2 0]) rfl ?_; refine (S3.out _).mono ?_; rintro e we ⟨rfl, hg⟩; replace G := hid (grown_trans G.out hg); (try (replace B1 := hid (B1.out.kept hg (by simp)); replace B2 := hid (B2.out.kept hg (by simp)); replace B3 := hid (B3.out.kept hg (by simp)); replace B4 := hid (B4.out.kept hg (by simp)))); clear hg))

    go_ret
    exact ⟨rfl, G.out⟩
set_option maxRecDepth 100000 in
set_option maxHeartbeats 4000000 in
theorem edges_p0 (q : Nat) (n : Int) (w : World) (hq : nanB q = false) (h1 : q < 18446744073709551616) : Calls Try.prog 4 #[.int .u64 q, .int .i64 n, .bool false] w (GrP (.bool true) w) := by
  have FR : ∀ W, (callFunc 16 #[.int .u64 (q : Int)]).run Try.prog W = .ok (.value (.float .f64 q)) W := fun W => from_run _ W
  have F0 : Hid (∀ W, Calls Try.prog 17 #[.float .f64 0] W (GrP (vl 2 0) W)) := fun W => float_any 0 W
  have U0 : Hid (∀ W, Calls Try.prog 18 #[.string ⟨#[45]⟩, vl 2 0] W (GrP (vl 2 (-9223372036854775808)) W)) := fun W => neg_zero W
  have Q1 : Hid (∀ W, Calls Try.prog 9 #[.string ⟨#[61, 61]⟩, vl 2 0, vl 2 (-9223372036854775808)] W (GrP (tw (vl 3 1) 0) W)) := fun W => bin_float _ 0 (-9223372036854775808) _ _ W known_eql_2 (fun V => num_eql 0 9223372036854775808 V)
  have T1 : Hid (∀ W, Calls Try.prog 21 #[vl 3 1] W (GrP (.bool true) W)) := fun W => true_any 3 1 W
  have T0 : Hid (∀ W, Calls Try.prog 21 #[vl 3 0] W (GrP (.bool false) W)) := fun W => true_any 3 0 W
  have TI : Hid (∀ W, Calls Try.prog 21 #[vl 1 n] W (GrP (.bool false) W)) := fun W => true_any 1 n W
  have IN : Hid (∀ W, Calls Try.prog 22 #[.int .i64 n] W (GrP (vl 1 n) W)) := fun W => int_any n W
  have BO : Hid (∀ W, Calls Try.prog 23 #[.bool false] W (GrP (vl 3 0) W)) := fun W => bool_any false W
  have Z2 : Hid (∀ W, Calls Try.prog 24 #[.int .i64 2] W (GrP (vl 2 0) W)) := fun W => zero_two W
  have S1 : Hid (∀ W, Calls Try.prog 13 #[vl 1 n, vl 1 n] W (GrP (.bool true) W)) := fun W => is_same 1 n W
  have S2 : Hid (∀ W, Calls Try.prog 13 #[vl 3 0, vl 3 0] W (GrP (.bool true) W)) := fun W => is_same 3 0 W
  have S3 : Hid (∀ W, Calls Try.prog 13 #[vl 2 0, vl 2 0] W (GrP (.bool true) W)) := fun W => is_same 2 0 W
  have AW : Hid (∀ W, Calls Try.prog 12 #[] W (GrP (.bool true) W)) := fun W => awake_any W
  have FQ : Hid (∀ W, Calls Try.prog 17 #[.float .f64 q] W (GrP (vl 2 (IntKind.i64.wrap q)) W)) := fun W => by
    have := float_any q W
    unfold oneN at this
    rw [hq] at this
    exact this
  have q1 : (FloatKind.f64.format.order q q != some .eq) = false := hq
  have q2 : (FloatKind.f64.format.order q q == some .eq) = true := by
    cases h : (FloatKind.f64.format.order q q == some .eq)
    · rw [bne, h] at q1; cases q1
    · rfl
  have hu : IntKind.u64.wrap (IntKind.i64.wrap q) = (q : Int) := by
    rw [IntKind.wrap_i64, IntKind.wrap_u64]; omega
  have OQ : Hid (∀ W, Calls Try.prog 20 #[vl 2 (IntKind.i64.wrap q)] W (GrP (.float .f64 q) W)) := fun W => by
    have := of_any 2 (IntKind.i64.wrap q) W
    rw [hu] at this
    exact this
  generalize IntKind.i64.wrap (q : Int) = r at *
  clear hq
  unfold GrP at *
  have G := hid (grown_refl w none)
  go_enter Try.func4, Try.ntmps4
  go_upto_region 3 with (first
    | (go_at_call 17; refine calls_at (args := #[.float .f64 q]) rfl ?_; refine (FQ.out _).mono ?_; rintro e v1 ⟨rfl, hg⟩; replace G := hid (grown_trans G.out hg); clear hg))
  have B1 := hid (Blk.new v1 23 #[.int .i64 2, .int .i64 r])
  replace G := hid (grown_alloc G.out (Obj.cells #[.int .i64 2, .int .i64 r] 23))
  generalize v1.alloc (Obj.cells #[.int .i64 2, .int .i64 r] 23) = w1 at *
  generalize v1.heap.size = b1 at *
  go_upto_region 4 with (first
    | (go_at_call 17; refine calls_at (args := #[.float .f64 0]) rfl ?_; refine (F0.out _).mono ?_; rintro e v ⟨rfl, hg⟩; replace G := hid (grown_trans G.out hg); replace B1 := hid (B1.out.kept hg (by simp)); clear hg)
    | (go_at_call 18; refine (U0.out _).mono ?_; rintro e v2 ⟨rfl, hg⟩; replace G := hid (grown_trans G.out hg); replace B1 := hid (B1.out.kept hg (by simp)); clear hg))
  have B2 : Hid (Blk ((v2.alloc (Obj.cells #[.int .i64 2, .int .i64 0] 23)).alloc (Obj.cells #[.int .i64 2, .int .i64 (-9223372036854775808)] 23)) v2.heap.size 23 #[.int .i64 2, .int .i64 0]) := (Blk.new v2 23 _).alloc _
  have B3 : Hid (Blk ((v2.alloc (Obj.cells #[.int .i64 2, .int .i64 0] 23)).alloc (Obj.cells #[.int .i64 2, .int .i64 (-9223372036854775808)] 23)) (v2.heap.size + 1) 23 #[.int .i64 2, .int .i64 (-9223372036854775808)]) := hid (by simpa using Blk.new (v2.alloc (Obj.cells #[.int .i64 2, .int .i64 0] 23)) 23 #[.int .i64 2, .int .i64 (-9223372036854775808)])
  replace B1 := hid ((B1.out.alloc (Obj.cells #[.int .i64 2, .int .i64 0] 23)).alloc (Obj.cells #[.int .i64 2, .int .i64 (-9223372036854775808)] 23))
  replace G := hid (grown_alloc (grown_alloc G.out (Obj.cells #[.int .i64 2, .int .i64 0] 23)) (Obj.cells #[.int .i64 2, .int .i64 (-9223372036854775808)] 23))
  generalize (v2.alloc (Obj.cells #[.int .i64 2, .int .i64 0] 23)).alloc (Obj.cells #[.int .i64 2, .int .i64 (-9223372036854775808)] 23) = w2 at *
  generalize v2.heap.size + 1 = b3 at *
  generalize v2.heap.size = b2 at *
  obtain ⟨c0, c1, _, _⟩ := two_cells B2.out
  obtain ⟨d0, d1, _, _⟩ := two_cells B3.out
  go_upto_region 5 with (first
    | (go_at_call 9; refine (Q1.out _).mono ?_; rintro e v3 ⟨rfl, hg⟩; replace G := hid (grown_trans G.out hg); replace B1 := hid (B1.out.kept hg (by simp)); replace B2 := hid (B2.out.kept hg (by simp)); replace B3 := hid (B3.out.kept hg (by simp)); clear hg))
  have B4 := hid (Blk.new v3 23 #[.int .i64 3, .int .i64 1])
  replace G := hid (grown_alloc G.out (Obj.cells #[.int .i64 3, .int .i64 1] 23))
  replace B1 := hid (B1.out.alloc (Obj.cells #[.int .i64 3, .int .i64 1] 23))
  replace B2 := hid (B2.out.alloc (Obj.cells #[.int .i64 3, .int .i64 1] 23))
  replace B3 := hid (B3.out.alloc (Obj.cells #[.int .i64 3, .int .i64 1] 23))
  generalize v3.alloc (Obj.cells #[.int .i64 3, .int .i64 1] 23) = w3 at *
  generalize v3.heap.size = b4 at *
  clear c0 c1 d0 d1
  obtain ⟨c0, c1, _, _⟩ := two_cells B1.out
  go_upto_region 8 with fail
  go_cut [54] (fun v54 wx => v54 = .bool false ∧ w3.grownBy wx none)
  case first =>
    have SS : Hid (∀ W, w3.grownBy W none → W.cell? ⟨b1, 0, none⟩ = some (.int .i64 2) ∧ W.cell? ⟨b1, 1, none⟩ = some (.int .i64 r)) := fun W hW => by
      obtain ⟨q0, q1, _, _⟩ := two_cells (B1.out.kept hW (by simp))
      exact ⟨q0, q1⟩
    have hS : (fun V : World => V.cell? ⟨b1, 0, none⟩ = some (.int .i64 2) ∧ V.cell? ⟨b1, 1, none⟩ = some (.int .i64 r) ∧ w3.grownBy V none) w3.drew := ⟨c0, c1, grown_drew (grown_refl _ _)⟩
    clear G B1 B2 B3 B4 c0 c1
    refine wp_region_held_drew (S := fun V => V.cell? ⟨b1, 0, none⟩ = some (.int .i64 2) ∧ V.cell? ⟨b1, 1, none⟩ = some (.int .i64 r) ∧ w3.grownBy V none) (by kernel_rfl) hS (fun hHeld => ?_)
    clear hS
    refine wpAnyH_take (i := 0) (oi := { dst := some 28, op := Op.move (Operand.tmp 7), type := 37, pos := "law.go:57", after := #[], guard := none }) (v := (.float .f64 q)) rfl (by kernel_rfl) (by kernel_rfl) (by kernel_rfl) (fun _ _ _ h => h) (Or.inl ⟨by rfl, ?_⟩) hHeld ?_
    · intro W hSW
      obtain ⟨s0, s1, _⟩ := hSW
      go_simp
    try simp only [Act.put, List.setIfInBounds_toArray, List.set_cons_zero, List.set_cons_succ]
    refine wpAnyH_take (i := 1) (oi := { dst := some 29, op := Op.move (Operand.tmp 7), type := 37, pos := "law.go:57", after := #[], guard := none }) (v := (.float .f64 q)) rfl (by kernel_rfl) (by kernel_rfl) (by kernel_rfl) (fun _ _ _ h => h) (Or.inl ⟨by rfl, ?_⟩) hHeld ?_
    · intro W hSW
      obtain ⟨s0, s1, _⟩ := hSW
      go_simp
    try simp only [Act.put, List.setIfInBounds_toArray, List.set_cons_zero, List.set_cons_succ]
    refine wpAnyH_take (i := 2) (oi := { dst := some 30, op := Op.binOp BinOp.neq 37 (Operand.tmp 28) (Operand.tmp 29) 37, type := 4, pos := "law.go:57", after := #[{ on := 0, ground := Ground.data }, { on := 1, ground := Ground.data }], guard := none }) (v := (.bool false)) rfl (by kernel_rfl) (by kernel_rfl) (by kernel_rfl) (fun _ _ _ h => h) (Or.inl ⟨by rfl, ?_⟩) hHeld ?_
    · intro W hSW
      obtain ⟨s0, s1, _⟩ := hSW
      go_simp
    try simp only [Act.put, List.setIfInBounds_toArray, List.set_cons_zero, List.set_cons_succ]
    refine wpAnyH_take (i := 3) (oi := { dst := some 31, op := Op.move (Operand.tmp 30), type := 4, pos := "law.go:57", after := #[{ on := 2, ground := Ground.data }], guard := none }) (v := (.bool false)) rfl (by kernel_rfl) (by kernel_rfl) (by kernel_rfl) (fun _ _ _ h => h) (Or.inl ⟨by rfl, ?_⟩) hHeld ?_
    · intro W hSW
      obtain ⟨s0, s1, _⟩ := hSW
      go_simp
    try simp only [Act.put, List.setIfInBounds_toArray, List.set_cons_zero, List.set_cons_succ]
    refine wpAnyH_take (i := 4) (oi := { dst := some 32, op := Op.fieldAddr 23 (Operand.tmp 8) 1, type := 0, pos := "law.go:57", after := #[{ on := 3, ground := Ground.guard }], guard := some (3, true) }) (v := undef) rfl (by kernel_rfl) (by kernel_rfl) (by kernel_rfl) (fun _ _ _ h => h) (Or.inr ⟨by rfl, rfl⟩) hHeld ?_
    try simp only [Act.put, List.setIfInBounds_toArray, List.set_cons_zero, List.set_cons_succ]
    refine wpAnyH_take (i := 5) (oi := { dst := some 33, op := Op.load 2 (Operand.tmp 32), type := 2, pos := "law.go:57", after := #[{ on := 4, ground := Ground.data }, { on := 3, ground := Ground.guard }], guard := some (3, true) }) (v := undef) rfl (by kernel_rfl) (by kernel_rfl) (by kernel_rfl) (fun _ _ _ h => h) (Or.inr ⟨by rfl, rfl⟩) hHeld ?_
    try simp only [Act.put, List.setIfInBounds_toArray, List.set_cons_zero, List.set_cons_succ]
    refine wpAnyH_take (i := 6) (oi := { dst := some 34, op := Op.call { callee := Callee.value (Operand.func 19), args := #[], argTypes := #[] }, type := 2, pos := "law.go:57", after := #[{ on := 3, ground := Ground.chain }, { on := 3, ground := Ground.guard }], guard := some (3, true) }) (v := undef) rfl (by kernel_rfl) (by kernel_rfl) (by kernel_rfl) (fun _ _ _ h => h) (Or.inr ⟨by rfl, rfl⟩) hHeld ?_
    try simp only [Act.put, List.setIfInBounds_toArray, List.set_cons_zero, List.set_cons_succ]
    refine wpAnyH_take (i := 7) (oi := { dst := some 35, op := Op.binOp BinOp.neq 2 (Operand.tmp 33) (Operand.tmp 34) 2, type := 4, pos := "law.go:57", after := #[{ on := 5, ground := Ground.data }, { on := 6, ground := Ground.data }, { on := 3, ground := Ground.guard }], guard := some (3, true) }) (v := undef) rfl (by kernel_rfl) (by kernel_rfl) (by kernel_rfl) (fun _ _ _ h => h) (Or.inr ⟨by rfl, rfl⟩) hHeld ?_
    try simp only [Act.put, List.setIfInBounds_toArray, List.set_cons_zero, List.set_cons_succ]
    refine wpAnyH_take (i := 8) (oi := { dst := some 36, op := Op.pick (Operand.tmp 31) (Operand.tmp 35) (Operand.const (Value.bool false)), type := 4, pos := "law.go:57", after := #[{ on := 3, ground := Ground.data }, { on := 7, ground := Ground.data }], guard := none }) (v := (.bool false)) rfl (by kernel_rfl) (by kernel_rfl) (by kernel_rfl) (fun _ _ _ h => h) (Or.inl ⟨by rfl, ?_⟩) hHeld ?_
    · intro W hSW
      obtain ⟨s0, s1, _⟩ := hSW
      go_simp
    try simp only [Act.put, List.setIfInBounds_toArray, List.set_cons_zero, List.set_cons_succ]
    refine wpAnyH_take (i := 9) (oi := { dst := some 37, op := Op.move (Operand.tmp 36), type := 4, pos := "law.go:57", after := #[{ on := 8, ground := Ground.data }, { on := 6, ground := Ground.chain }], guard := none }) (v := (.bool false)) rfl (by kernel_rfl) (by kernel_rfl) (by kernel_rfl) (fun _ _ _ h => h) (Or.inl ⟨by rfl, ?_⟩) hHeld ?_
    · intro W hSW
      obtain ⟨s0, s1, _⟩ := hSW
      go_simp
    try simp only [Act.put, List.setIfInBounds_toArray, List.set_cons_zero, List.set_cons_succ]
    refine wpAnyH_take (i := 10) (oi := { dst := some 38, op := Op.move (Operand.tmp 7), type := 37, pos := "law.go:57", after := #[{ on := 9, ground := Ground.guard }], guard := some (9, false) }) (v := (.float .f64 q)) rfl (by kernel_rfl) (by kernel_rfl) (by kernel_rfl) (fun _ _ _ h => h) (Or.inl ⟨by rfl, ?_⟩) hHeld ?_
    · intro W hSW
      obtain ⟨s0, s1, _⟩ := hSW
      go_simp
    try simp only [Act.put, List.setIfInBounds_toArray, List.set_cons_zero, List.set_cons_succ]
    refine wpAnyH_take (i := 11) (oi := { dst := some 39, op := Op.move (Operand.tmp 7), type := 37, pos := "law.go:57", after := #[{ on := 9, ground := Ground.guard }], guard := some (9, false) }) (v := (.float .f64 q)) rfl (by kernel_rfl) (by kernel_rfl) (by kernel_rfl) (fun _ _ _ h => h) (Or.inl ⟨by rfl, ?_⟩) hHeld ?_
    · intro W hSW
      obtain ⟨s0, s1, _⟩ := hSW
      go_simp
    try simp only [Act.put, List.setIfInBounds_toArray, List.set_cons_zero, List.set_cons_succ]
    refine wpAnyH_take (i := 12) (oi := { dst := some 40, op := Op.binOp BinOp.eql 37 (Operand.tmp 38) (Operand.tmp 39) 37, type := 4, pos := "law.go:57", after := #[{ on := 10, ground := Ground.data }, { on := 11, ground := Ground.data }, { on := 9, ground := Ground.guard }], guard := some (9, false) }) (v := (.bool true)) rfl (by kernel_rfl) (by kernel_rfl) (by kernel_rfl) (fun _ _ _ h => h) (Or.inl ⟨by rfl, ?_⟩) hHeld ?_
    · intro W hSW
      obtain ⟨s0, s1, _⟩ := hSW
      go_simp
    try simp only [Act.put, List.setIfInBounds_toArray, List.set_cons_zero, List.set_cons_succ]
    refine wpAnyH_take (i := 13) (oi := { dst := some 41, op := Op.move (Operand.tmp 40), type := 4, pos := "law.go:57", after := #[{ on := 12, ground := Ground.data }, { on := 9, ground := Ground.chain }, { on := 9, ground := Ground.guard }], guard := some (9, false) }) (v := (.bool true)) rfl (by kernel_rfl) (by kernel_rfl) (by kernel_rfl) (fun _ _ _ h => h) (Or.inl ⟨by rfl, ?_⟩) hHeld ?_
    · intro W hSW
      obtain ⟨s0, s1, _⟩ := hSW
      go_simp
    try simp only [Act.put, List.setIfInBounds_toArray, List.set_cons_zero, List.set_cons_succ]
    refine wpAnyH_take (i := 14) (oi := { dst := some 42, op := Op.fieldAddr 23 (Operand.tmp 8) 1, type := 0, pos := "law.go:57", after := #[{ on := 13, ground := Ground.guard }], guard := some (13, true) }) (v := (.pointer (some ⟨b1, 1, none⟩))) rfl (by kernel_rfl) (by kernel_rfl) (by kernel_rfl) (fun _ _ _ h => h) (Or.inl ⟨by rfl, ?_⟩) hHeld ?_
    · intro W hSW
      obtain ⟨s0, s1, _⟩ := hSW
      go_simp
    try simp only [Act.put, List.setIfInBounds_toArray, List.set_cons_zero, List.set_cons_succ]
    refine wpAnyH_take (i := 15) (oi := { dst := some 43, op := Op.load 2 (Operand.tmp 42), type := 2, pos := "law.go:57", after := #[{ on := 14, ground := Ground.data }, { on := 13, ground := Ground.guard }], guard := some (13, true) }) (v := (.int .i64 r)) rfl (by kernel_rfl) (by kernel_rfl) (by kernel_rfl) (fun _ _ _ h => h) (Or.inl ⟨by rfl, ?_⟩) hHeld ?_
    · intro W hSW
      obtain ⟨s0, s1, _⟩ := hSW
      go_simp
    try simp only [Act.put, List.setIfInBounds_toArray, List.set_cons_zero, List.set_cons_succ]
    refine wpAnyH_take (i := 16) (oi := { dst := some 44, op := Op.convert 2 36 (Operand.tmp 43), type := 36, pos := "law.go:57", after := #[{ on := 15, ground := Ground.data }, { on := 13, ground := Ground.guard }], guard := some (13, true) }) (v := (.int .u64 q)) rfl (by kernel_rfl) (by kernel_rfl) (by kernel_rfl) (fun _ _ _ h => h) (Or.inl ⟨by rfl, ?_⟩) hHeld ?_
    · intro W hSW
      obtain ⟨s0, s1, _⟩ := hSW
      go_simp
    try simp only [Act.put, List.setIfInBounds_toArray, List.set_cons_zero, List.set_cons_succ]
    refine wpAnyH_take (i := 17) (oi := { dst := some 45, op := Op.move (Operand.tmp 0), type := 36, pos := "law.go:57", after := #[{ on := 13, ground := Ground.guard }], guard := some (13, true) }) (v := (.int .u64 q)) rfl (by kernel_rfl) (by kernel_rfl) (by kernel_rfl) (fun _ _ _ h => h) (Or.inl ⟨by rfl, ?_⟩) hHeld ?_
    · intro W hSW
      obtain ⟨s0, s1, _⟩ := hSW
      go_simp
    try simp only [Act.put, List.setIfInBounds_toArray, List.set_cons_zero, List.set_cons_succ]
    refine wpAnyH_take (i := 18) (oi := { dst := some 46, op := Op.binOp BinOp.neq 36 (Operand.tmp 44) (Operand.tmp 45) 36, type := 4, pos := "law.go:57", after := #[{ on := 16, ground := Ground.data }, { on := 17, ground := Ground.data }, { on := 13, ground := Ground.guard }], guard := some (13, true) }) (v := (.bool false)) rfl (by kernel_rfl) (by kernel_rfl) (by kernel_rfl) (fun _ _ _ h => h) (Or.inl ⟨by rfl, ?_⟩) hHeld ?_
    · intro W hSW
      obtain ⟨s0, s1, _⟩ := hSW
      go_simp
    try simp only [Act.put, List.setIfInBounds_toArray, List.set_cons_zero, List.set_cons_succ]
    refine wpAnyH_take (i := 19) (oi := { dst := some 47, op := Op.move (Operand.tmp 46), type := 4, pos := "law.go:57", after := #[{ on := 18, ground := Ground.data }, { on := 13, ground := Ground.chain }, { on := 13, ground := Ground.guard }], guard := some (13, true) }) (v := (.bool false)) rfl (by kernel_rfl) (by kernel_rfl) (by kernel_rfl) (fun _ _ _ h => h) (Or.inl ⟨by rfl, ?_⟩) hHeld ?_
    · intro W hSW
      obtain ⟨s0, s1, _⟩ := hSW
      go_simp
    try simp only [Act.put, List.setIfInBounds_toArray, List.set_cons_zero, List.set_cons_succ]
    refine wpAnyH_take (i := 20) (oi := { dst := some 48, op := Op.load 23 (Operand.tmp 8), type := 23, pos := "law.go:57", after := #[{ on := 19, ground := Ground.guard }], guard := some (19, false) }) (v := (vl 2 r)) rfl (by kernel_rfl) (by kernel_rfl) (by kernel_rfl) (fun _ _ _ h => h) (Or.inl ⟨by rfl, ?_⟩) hHeld ?_
    · intro W hSW
      obtain ⟨s0, s1, _⟩ := hSW
      go_simp
    try simp only [Act.put, List.setIfInBounds_toArray, List.set_cons_zero, List.set_cons_succ]
    refine wpAnyH_take (i := 22) (oi := { dst := some 50, op := Op.move (Operand.tmp 7), type := 37, pos := "law.go:57", after := #[{ on := 19, ground := Ground.guard }], guard := some (19, false) }) (v := (.float .f64 q)) rfl (by kernel_rfl) (by kernel_rfl) (by kernel_rfl) (fun _ _ _ h => h) (Or.inl ⟨by rfl, ?_⟩) hHeld ?_
    · intro W hSW
      obtain ⟨s0, s1, _⟩ := hSW
      go_simp
    try simp only [Act.put, List.setIfInBounds_toArray, List.set_cons_zero, List.set_cons_succ]
    refine wpAnyH_ready (rs := [21]) (by kernel_rfl) (by simp) ?_
    refine AllReadyH.cons (o := { dst := some 49, op := Op.call { callee := Callee.value (Operand.func 20), args := #[Operand.tmp 48], argTypes := #[23] }, type := 37, pos := "law.go:57", after := #[{ on := 20, ground := Ground.data }, { on := 19, ground := Ground.chain }, { on := 19, ground := Ground.guard }], guard := some (19, false) }) rfl (fun K hK => ?_) AllReadyH.nil
    go_simp
    refine (OQ.out _).mono ?_
    rintro e wa ⟨rfl, hg⟩
    go_wp2_with fail
    have Ga := hid (grown_trans hHeld.2.2 hg)
    obtain ⟨s0, s1⟩ := SS.out wa Ga.out
    refine hK.out _ _ ⟨s0, s1, Ga.out⟩ (fun hHeld0 => ?_)
    clear hK K hHeld hg
    have hHeld := hHeld0
    clear hHeld0
    try simp only [Act.put, List.setIfInBounds_toArray, List.set_cons_zero, List.set_cons_succ]
    refine wpAnyH_take (i := 23) (oi := { dst := some 51, op := Op.binOp BinOp.neq 37 (Operand.tmp 49) (Operand.tmp 50) 37, type := 4, pos := "law.go:57", after := #[{ on := 21, ground := Ground.data }, { on := 22, ground := Ground.data }, { on := 19, ground := Ground.guard }], guard := some (19, false) }) (v := (.bool false)) rfl (by kernel_rfl) (by kernel_rfl) (by kernel_rfl) (fun _ _ _ h => h) (Or.inl ⟨by rfl, ?_⟩) hHeld ?_
    · intro W hSW
      obtain ⟨s0, s1, _⟩ := hSW
      go_simp
    try simp only [Act.put, List.setIfInBounds_toArray, List.set_cons_zero, List.set_cons_succ]
    refine wpAnyH_take (i := 24) (oi := { dst := some 52, op := Op.pick (Operand.tmp 47) (Operand.const (Value.bool true)) (Operand.tmp 51), type := 4, pos := "law.go:57", after := #[{ on := 19, ground := Ground.data }, { on := 23, ground := Ground.data }, { on := 13, ground := Ground.guard }], guard := some (13, true) }) (v := (.bool false)) rfl (by kernel_rfl) (by kernel_rfl) (by kernel_rfl) (fun _ _ _ h => h) (Or.inl ⟨by rfl, ?_⟩) hHeld ?_
    · intro W hSW
      obtain ⟨s0, s1, _⟩ := hSW
      go_simp
    try simp only [Act.put, List.setIfInBounds_toArray, List.set_cons_zero, List.set_cons_succ]
    refine wpAnyH_take (i := 25) (oi := { dst := some 53, op := Op.pick (Operand.tmp 41) (Operand.tmp 52) (Operand.const (Value.bool false)), type := 4, pos := "law.go:57", after := #[{ on := 13, ground := Ground.data }, { on := 24, ground := Ground.data }, { on := 9, ground := Ground.guard }], guard := some (9, false) }) (v := (.bool false)) rfl (by kernel_rfl) (by kernel_rfl) (by kernel_rfl) (fun _ _ _ h => h) (Or.inl ⟨by rfl, ?_⟩) hHeld ?_
    · intro W hSW
      obtain ⟨s0, s1, _⟩ := hSW
      go_simp
    try simp only [Act.put, List.setIfInBounds_toArray, List.set_cons_zero, List.set_cons_succ]
    refine wpAnyH_take (i := 26) (oi := { dst := some 54, op := Op.pick (Operand.tmp 37) (Operand.const (Value.bool true)) (Operand.tmp 53), type := 4, pos := "law.go:57", after := #[{ on := 9, ground := Ground.data }, { on := 25, ground := Ground.data }], guard := none }) (v := (.bool false)) rfl (by kernel_rfl) (by kernel_rfl) (by kernel_rfl) (fun _ _ _ h => h) (Or.inl ⟨by rfl, ?_⟩) hHeld ?_
    · intro W hSW
      obtain ⟨s0, s1, _⟩ := hSW
      go_simp
    try simp only [Act.put, List.setIfInBounds_toArray, List.set_cons_zero, List.set_cons_succ]
    refine wpAnyH_done (by kernel_rfl) ?_ _
    (try go_wp2_with fail)
    go_meet
    exact ⟨rfl, Ga.out⟩
  case rest =>
    obtain ⟨rfl, hgx⟩ := hcut
    replace B1 := hid (B1.out.kept hgx (by simp))
    replace B2 := hid (B2.out.kept hgx (by simp))
    replace B3 := hid (B3.out.kept hgx (by simp))
    replace B4 := hid (B4.out.kept hgx (by simp))
    replace G := hid (grown_trans G.out hgx)
    clear hgx c0 c1 q1 q2
    go_wp2_with (first
      | (go_at_call 12; refine (AW.out _).mono ?_; rintro e wd ⟨rfl, hg⟩; replace G := hid (grown_trans G.out hg); replace B1 := hid (B1.out.kept hg (by simp)); replace B2 := hid (B2.out.kept hg (by simp)); replace B3 := hid (B3.out.kept hg (by simp)); replace B4 := hid (B4.out.kept hg (by simp)); clear hg; obtain ⟨x0, x1, _, _⟩ := two_cells B1.out; obtain ⟨y0, y1, _, _⟩ := two_cells B2.out; obtain ⟨z0, z1, _, _⟩ := two_cells B3.out; obtain ⟨t0, t1, _, _⟩ := two_cells B4.out)
      | (go_at_call 21; refine calls_at (args := #[vl 3 1]) rfl ?_; refine (T1.out _).mono ?_; rintro e we ⟨rfl, hg⟩; replace G := hid (grown_trans G.out hg); replace B1 := hid (B1.out.kept hg (by simp)); replace B2 := hid (B2.out.kept hg (by simp)); replace B3 := hid (B3.out.kept hg (by simp)); replace B4 := hid (B4.out.kept hg (by simp)); clear hg; obtain ⟨x0, x1, _, _⟩ := two_cells B1.out; obtain ⟨y0, y1, _, _⟩ := two_cells B2.out; obtain ⟨z0, z1, _, _⟩ := two_cells B3.out; obtain ⟨t0, t1, _, _⟩ := two_cells B4.out)
      | (go_at_call 21; refine calls_at (args := #[vl 3 0]) rfl ?_; refine (T0.out _).mono ?_; rintro e we ⟨rfl, hg⟩; replace G := hid (grown_trans G.out hg); replace B1 := hid (B1.out.kept hg (by simp)); replace B2 := hid (B2.out.kept hg (by simp)); replace B3 := hid (B3.out.kept hg (by simp)); replace B4 := hid (B4.out.kept hg (by simp)); clear hg; obtain ⟨x0, x1, _, _⟩ := two_cells B1.out; obtain ⟨y0, y1, _, _⟩ := two_cells B2.out; obtain ⟨z0, z1, _, _⟩ := two_cells B3.out; obtain ⟨t0, t1, _, _⟩ := two_cells B4.out)
      | (go_at_call 21; refine calls_at (args := #[vl 1 n]) rfl ?_; refine (TI.out _).mono ?_; rintro e we ⟨rfl, hg⟩; replace G := hid (grown_trans G.out hg); (try (replace B1 := hid (B1.out.kept hg (by simp)); replace B2 := hid (B2.out.kept hg (by simp)); replace B3 := hid (B3.out.kept hg (by simp)); replace B4 := hid (B4.out.kept hg (by simp)))); clear hg)
      | (go_at_call 22; refine (IN.out _).mono ?_; rintro e we ⟨rfl, hg⟩; replace G := hid (grown_trans G.out hg); (try (replace B1 := hid (B1.out.kept hg (by simp)); replace B2 := hid (B2.out.kept hg (by simp)); replace B3 := hid (B3.out.kept hg (by simp)); replace B4 := hid (B4.out.kept hg (by simp)))); clear hg)
      | (go_at_call 13; refine calls_at (args := #[vl 1 n, vl 1 n]) rfl ?_; refine (S1.out _).mono ?_; rintro e we ⟨rfl, hg⟩; replace G := hid (grown_trans G.out hg); (try (replace B1 := hid (B1.out.kept hg (by simp)); replace B2 := hid (B2.out.kept hg (by simp)); replace B3 := hid (B3.out.kept hg (by simp)); replace B4 := hid (B4.out.kept hg (by simp)))); clear hg)
      | (go_at_call 23; refine (BO.out _).mono ?_; rintro e we ⟨rfl, hg⟩; replace G := hid (grown_trans G.out hg); (try (replace B1 := hid (B1.out.kept hg (by simp)); replace B2 := hid (B2.out.kept hg (by simp)); replace B3 := hid (B3.out.kept hg (by simp)); replace B4 := hid (B4.out.kept hg (by simp)))); clear hg)
      | (go_at_call 13; refine calls_at (args := #[vl 3 0, vl 3 0]) rfl ?_; refine (S2.out _).mono ?_; rintro e we ⟨rfl, hg⟩; replace G := hid (grown_trans G.out hg); (try (replace B1 := hid (B1.out.kept hg (by simp)); replace B2 := hid (B2.out.kept hg (by simp)); replace B3 := hid (B3.out.kept hg (by simp)); replace B4 := hid (B4.out.kept hg (by simp)))); clear hg)
      | (go_at_call 24; refine (Z2.out _).mono ?_; rintro e we ⟨rfl, hg⟩; replace G := hid (grown_trans G.out hg); (try (replace B1 := hid (B1.out.kept hg (by simp)); replace B2 := hid (B2.out.kept hg (by simp)); replace B3 := hid (B3.out.kept hg (by simp)); replace B4 := hid (B4.out.kept hg (by simp)))); clear hg)
      | (go_at_call 13; refine calls_at (args := #[vl 2 0, vl 2 0]) rfl ?_; refine (S3.out _).mono ?_; rintro e we ⟨rfl, hg⟩; replace G := hid (grown_trans G.out hg); (try (replace B1 := hid (B1.out.kept hg (by simp)); replace B2 := hid (B2.out.kept hg (by simp)); replace B3 := hid (B3.out.kept hg (by simp)); replace B4 := hid (B4.out.kept hg (by simp)))); clear hg))

    go_ret
    exact ⟨rfl, G.out⟩
theorem edges_law (q : Nat) (n : Int) (b : Bool) (w : World) (h1 : q < 18446744073709551616) : Calls Try.prog 4 #[.int .u64 q, .int .i64 n, .bool b] w (GrP (.bool true) w) := by
  cases hq : nanB q with
  | true => cases b with
    | true => exact edges_n1 q n w hq
    | false => exact edges_n0 q n w hq
  | false => cases b with
    | true => exact edges_p1 q n w hq h1
    | false => exact edges_p0 q n w hq h1
end Go.Proofs.Ytnbolfogmhlanaa
