/-
  awake: nought by nought is no number; one by nought below is below all.
-/
import Derived.Test.YtnbolfogmhlanaaVe
import Derived.Deep.RegionHeld3
namespace Go.Proofs.Ytnbolfogmhlanaa
open Go.RowKit
theorem un_drew {w w1 : World} (h : w.drew.grownBy w1 none) : w.grownBy w1 none := ⟨h.os, h.tape, h.output, h.size, h.block⟩
theorem un_drewA {w w1 : World} {o : Obj} (h : (w.drew.alloc o).grownBy w1 none) : w.grownBy w1 none := un_drew (grown_trans (grown_alloc (grown_refl _ _) o) h)
set_option maxRecDepth 100000 in
set_option maxHeartbeats 2000000 in
theorem awake_any (w : World) : Calls Try.prog 12 #[] w (GrP (.bool true) w) := by
  have F0 : Hid (∀ W, Calls Try.prog 17 #[.float .f64 0] W (GrP (vl 2 0) W)) := fun W => float_any 0 W
  have F1 : Hid (∀ W, Calls Try.prog 17 #[.float .f64 4607182418800017408] W (GrP (vl 2 4607182418800017408) W)) := fun W => float_any 4607182418800017408 W
  have F2 : Hid (∀ W, Calls Try.prog 17 #[.float .f64 18318360957983683996] W (GrP (vl 2 (-128383115725867620)) W)) := fun W => float_any 18318360957983683996 W
  have U0 : Hid (∀ W, Calls Try.prog 18 #[.string ⟨#[45]⟩, vl 2 0] W (GrP (vl 2 (-9223372036854775808)) W)) := fun W => neg_zero W
  have Q0 : Hid (∀ W, Calls Try.prog 9 #[.string ⟨#[47]⟩, vl 2 0, vl 2 0] W (GrP (tw (vl 2 9221120237041090561) 0) W)) := fun W => bin_float _ 0 0 _ _ W known_quo_2 num_zero
  have Q1 : Hid (∀ W, Calls Try.prog 9 #[.string ⟨#[61, 61]⟩, vl 2 9221120237041090561, vl 2 9221120237041090561] W (GrP (tw (vl 3 0) 0) W)) := fun W => bin_float _ 9221120237041090561 9221120237041090561 _ _ W known_eql_2 (fun V => num_eql 9221120237041090561 9221120237041090561 V)
  have Q2 : Hid (∀ W, Calls Try.prog 9 #[.string ⟨#[47]⟩, vl 2 4607182418800017408, vl 2 (-9223372036854775808)] W (GrP (tw (vl 2 (-4503599627370496)) 0) W)) := fun W => bin_float _ 4607182418800017408 (-9223372036854775808) _ _ W known_quo_2 num_one
  have Q3 : Hid (∀ W, Calls Try.prog 9 #[.string ⟨#[60]⟩, vl 2 (-4503599627370496), vl 2 (-128383115725867620)] W (GrP (tw (vl 3 1) 0) W)) := fun W => bin_float _ (-4503599627370496) (-128383115725867620) _ _ W known_lss_2 (fun V => num_lss 18442240474082181120 18318360957983683996 V)
  have T0 : Hid (∀ W, Calls Try.prog 21 #[vl 3 0] W (GrP (.bool false) W)) := fun W => true_any 3 0 W
  have T1 : Hid (∀ W, Calls Try.prog 21 #[vl 3 1] W (GrP (.bool true) W)) := fun W => true_any 3 1 W
  unfold GrP at *
  have G := hid (grown_refl w none)
  go_enter Try.func12, Try.ntmps12
  go_upto_region 2 with (first
    | (go_at_call 17; refine (F0.out _).mono ?_; rintro e v ⟨rfl, hg⟩; replace G := hid (grown_trans G.out hg); clear hg)
    | (go_at_call 9; refine (Q0.out _).mono ?_; rintro e w3 ⟨rfl, hg⟩; replace G := hid (grown_trans G.out hg); clear hg))
  have B1 := hid (Blk.new w3 23 #[.int .i64 2, .int .i64 9221120237041090561])
  replace G := hid (grown_alloc G.out (Obj.cells #[.int .i64 2, .int .i64 9221120237041090561] 23))
  generalize w3.alloc (Obj.cells #[.int .i64 2, .int .i64 9221120237041090561] 23) = w4 at *
  generalize w3.heap.size = b1 at *
  obtain ⟨a0, a1, _, _⟩ := two_cells B1.out
  go_upto_region 3 with (first
    | (go_at_call 9; refine (Q1.out _).mono ?_; rintro e w5 ⟨rfl, hg⟩; replace G := hid (grown_trans G.out hg); replace B1 := hid (B1.out.kept hg (by simp)); clear hg))
  have B2 := hid (Blk.new w5 23 #[.int .i64 3, .int .i64 0])
  replace G := hid (grown_alloc G.out (Obj.cells #[.int .i64 3, .int .i64 0] 23))
  replace B1 := hid (B1.out.alloc (Obj.cells #[.int .i64 3, .int .i64 0] 23))
  clear a0 a1
  generalize w5.alloc (Obj.cells #[.int .i64 3, .int .i64 0] 23) = w6 at *
  generalize w5.heap.size = b2 at *
  go_upto_region 4 with (first
    | (go_at_call 17; refine calls_at (args := #[.float .f64 4607182418800017408]) rfl ?_; refine (F1.out _).mono ?_; rintro e w7 ⟨rfl, hg⟩; replace G := hid (grown_trans G.out hg); replace B1 := hid (B1.out.kept hg (by simp)); replace B2 := hid (B2.out.kept hg (by simp)); clear hg)
    | (go_at_call 17; refine calls_at (args := #[.float .f64 0]) rfl ?_; refine (F0.out _).mono ?_; rintro e w7 ⟨rfl, hg⟩; replace G := hid (grown_trans G.out hg); replace B1 := hid (B1.out.kept hg (by simp)); replace B2 := hid (B2.out.kept hg (by simp)); clear hg)
    | (go_at_call 18; refine (U0.out _).mono ?_; rintro e w7 ⟨rfl, hg⟩; replace G := hid (grown_trans G.out hg); replace B1 := hid (B1.out.kept hg (by simp)); replace B2 := hid (B2.out.kept hg (by simp)); clear hg)
    | (go_at_call 9; refine (Q2.out _).mono ?_; rintro e w7 ⟨rfl, hg⟩; replace G := hid (grown_trans G.out hg); replace B1 := hid (B1.out.kept hg (by simp)); replace B2 := hid (B2.out.kept hg (by simp)); clear hg))
  have B3 := hid (Blk.new w7 23 #[.int .i64 2, .int .i64 (-4503599627370496)])
  replace G := hid (grown_alloc G.out (Obj.cells #[.int .i64 2, .int .i64 (-4503599627370496)] 23))
  replace B1 := hid (B1.out.alloc (Obj.cells #[.int .i64 2, .int .i64 (-4503599627370496)] 23))
  replace B2 := hid (B2.out.alloc (Obj.cells #[.int .i64 2, .int .i64 (-4503599627370496)] 23))
  generalize w7.alloc (Obj.cells #[.int .i64 2, .int .i64 (-4503599627370496)] 23) = w8 at *
  generalize w7.heap.size = b3 at *
  clear F0 F1 U0 Q0 Q1 Q2
  go_cut [7, 8] (fun vx vy wx => vy = .int .i64 0 ∧ ∃ K, vx = .pointer (some ⟨K, 0, none⟩) ∧ w8.heap.size ≤ K ∧ Blk wx K 23 #[.int .i64 3, .int .i64 1] ∧ w8.grownBy wx none)
  case first =>
    clear G B1 B2
    have SS : Hid (∀ W, w8.grownBy W none → W.cell? ⟨b3, 0, none⟩ = some (.int .i64 2) ∧ W.cell? ⟨b3, 1, none⟩ = some (.int .i64 (-4503599627370496))) := fun W hW => by
      obtain ⟨q0, q1, _, _⟩ := two_cells (B3.out.kept hW (by simp))
      exact ⟨q0, q1⟩
    obtain ⟨x0, x1⟩ := SS.out w8 (grown_refl _ _)
    go_region_held3 (fun V => V.cell? ⟨b3, 0, none⟩ = some (.int .i64 2) ∧ V.cell? ⟨b3, 1, none⟩ = some (.int .i64 (-4503599627370496))) (first | assumption | exact SS.out _ (grown_drew (grown_refl _ _)) | exact SS.out _ (grown_drew (grown_alloc (grown_refl _ _) _)) | exact SS.out _ (grown_alloc Ga.out _) | go_keep) (first
      | (go_at_call 17; refine (F2.out _).mono ?_; rintro e wa ⟨rfl, gW⟩; have Ga : Hid (w8.grownBy wa none) := (by first | exact un_drew gW | exact un_drewA gW); have SK4 := SS.out wa Ga.out; (try (have BA := hid (Blk.kept (Blk.drew (Blk.new w8 23 #[.int .i64 0, .int .i64 0])) gW (by simp)))); clear gW)
      | (go_at_call 9; refine (Q3.out _).mono ?_; rintro e wb ⟨rfl, gW⟩; have Gb : Hid (w8.grownBy wb none) := (by first | exact grown_trans Ga.out gW | exact grown_trans (grown_alloc Ga.out _) gW); have SK5 := SS.out wb Gb.out; (first
          | (have BK := hid (BA.out.kept gW (by simp)); have SK6 := SS.out ((wb.setCell ⟨w8.heap.size, 0, none⟩ (.int .i64 3)).setCell ⟨w8.heap.size, 1, none⟩ (.int .i64 1)) (set_two Gb.out (Nat.le_refl _) _ _); obtain ⟨z0, z1, f0, f1⟩ := two_cells BK.out)
          | (have BK := hid ((Blk.new wa 23 #[.int .i64 0, .int .i64 0]).kept gW (by simp)); have SK6 := SS.out ((wb.setCell ⟨wa.heap.size, 0, none⟩ (.int .i64 3)).setCell ⟨wa.heap.size, 1, none⟩ (.int .i64 1)) (set_two Gb.out Ga.out.size _ _); obtain ⟨z0, z1, f0, f1⟩ := two_cells BK.out)
          | (have SK6 := SS.out (wb.alloc (.cells #[.int .i64 0, .int .i64 0] 23)) (grown_alloc Gb.out _); have SK7 := SS.out (wb.alloc (.cells #[.int .i64 3, .int .i64 1] 23)) (grown_alloc Gb.out _))); clear gW))
    all_goals
      (try go_wp2_with fail)
      go_meet
      first
      | exact ⟨rfl, _, rfl, Gb.out.size, Blk.new wb 23 _, grown_alloc Gb.out _⟩
      | exact ⟨rfl, _, rfl, Nat.le_refl _, blk_two BK.out _ _, set_two Gb.out (Nat.le_refl _) _ _⟩
      | exact ⟨rfl, _, rfl, Ga.out.size, blk_two BK.out _ _, set_two Gb.out Ga.out.size _ _⟩
  case rest =>
    obtain ⟨rfl, K, rfl, hK, hbk, hgx⟩ := hcut
    have K1 := hid (B1.out.kept hgx (by simp))
    have K2 := hid (B2.out.kept hgx (by simp))
    have K3 := hid hbk
    replace G := hid (grown_trans G.out hgx)
    clear hgx hbk hK B1 B2 B3
    obtain ⟨x0, x1, _, _⟩ := two_cells K1.out
    obtain ⟨y0, y1, _, _⟩ := two_cells K2.out
    obtain ⟨z0, z1, _, _⟩ := two_cells K3.out
    go_wp2_with (first
      | (go_at_call 21; refine calls_at (args := #[vl 3 0]) rfl ?_; refine (T0.out _).mono ?_; rintro e wd ⟨rfl, hg⟩; replace G := hid (grown_trans G.out hg); replace K3 := hid (K3.out.kept hg (by simp)); obtain ⟨p0, p1, _, _⟩ := two_cells K3.out; clear hg)
      | (go_at_call 21; refine calls_at (args := #[vl 3 1]) rfl ?_; refine (T1.out _).mono ?_; rintro e we ⟨rfl, hg⟩; replace G := hid (grown_trans G.out hg); clear hg))
    go_ret
    exact ⟨rfl, G.out⟩
end Go.Proofs.Ytnbolfogmhlanaa
