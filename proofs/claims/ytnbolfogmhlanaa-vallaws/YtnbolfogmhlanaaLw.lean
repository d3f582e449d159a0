/-
  ValLaws: whole numbers wrap: what is added is taken away again; a quotient and its rest make the number again.
-/
import Derived.Test.YtnbolfogmhlanaaVf
namespace Go.Proofs.Ytnbolfogmhlanaa
open Go.RowKit
theorem wrap_eq (x : Int) : IntKind.i64.wrap x = (x + 9223372036854775808) % 18446744073709551616 - 9223372036854775808 := by
  rw [IntKind.wrap_i64]
theorem back (a b : Int) (h0 : -9223372036854775808 ≤ a) (h1 : a ≤ 9223372036854775807) : IntKind.i64.wrap (IntKind.i64.wrap (a + b) - b) = a := by
  rw [wrap_eq, wrap_eq]; omega
theorem wrap_mul (x y : Int) : IntKind.i64.wrap (IntKind.i64.wrap x * y) = IntKind.i64.wrap (x * y) := by
  rw [wrap_eq, wrap_eq x, wrap_eq (x * y)]
  obtain ⟨k, hk⟩ : ∃ k, (x + 9223372036854775808) % 18446744073709551616 - 9223372036854775808 = x + k * 18446744073709551616 := ⟨-((x + 9223372036854775808) / 18446744073709551616), by omega⟩
  rw [hk, Int.add_mul]
  have : k * 18446744073709551616 * y = (k * y) * 18446744073709551616 := by rw [Int.mul_assoc, Int.mul_comm 18446744073709551616 y, ← Int.mul_assoc]
  rw [this]
  generalize k * y = z
  omega
theorem wrap_addw (x y : Int) : IntKind.i64.wrap (IntKind.i64.wrap x + y) = IntKind.i64.wrap (x + y) := by
  rw [wrap_eq, wrap_eq x, wrap_eq (x + y)]; omega
theorem wrap_id (a : Int) (h0 : -9223372036854775808 ≤ a) (h1 : a ≤ 9223372036854775807) : IntKind.i64.wrap a = a := by rw [wrap_eq]; omega
theorem again (a b : Int) (h0 : -9223372036854775808 ≤ a) (h1 : a ≤ 9223372036854775807) : IntKind.i64.wrap (IntKind.i64.wrap (IntKind.i64.wrap (a.tdiv b) * b) + a.tmod b) = a := by
  rw [wrap_mul, wrap_addw, Int.tdiv_mul_add_tmod, wrap_id a h0 h1]
theorem sign_mod (a b : Int) : a.tmod b = 0 ∨ decide (a.tmod b < 0) = decide (a < 0) := by
  by_cases ha : a < 0
  · by_cases h : a.tmod b = 0
    · exact Or.inl h
    · refine Or.inr ?_
      have h1 : (-a).tmod b = - a.tmod b := Int.neg_tmod ..
      have h2 : 0 ≤ (-a).tmod b := Int.tmod_nonneg b (by omega)
      rw [decide_eq_true ha, decide_eq_true (by omega)]
  · have h2 : 0 ≤ a.tmod b := Int.tmod_nonneg b (by omega)
    exact Or.inr (by rw [decide_eq_false ha, decide_eq_false (by omega)])
set_option maxRecDepth 100000 in
set_option maxHeartbeats 4000000 in
theorem laws_some (a b : Int) (w : World) (hb : ¬ b = 0) (h0 : -9223372036854775808 ≤ a) (h1 : a ≤ 9223372036854775807) : Calls Try.prog 5 #[.int .i64 a, .int .i64 b] w (GrP (.bool true) w) := by
  have IA : Hid (∀ W, Calls Try.prog 22 #[.int .i64 a] W (GrP (vl 1 a) W)) := fun W => int_any a W
  have IB : Hid (∀ W, Calls Try.prog 22 #[.int .i64 b] W (GrP (vl 1 b) W)) := fun W => int_any b W
  have AW : Hid (∀ W, Calls Try.prog 12 #[] W (GrP (.bool true) W)) := fun W => awake_any W
  have N1 : Hid (∀ W, Calls Try.prog 9 #[.string ⟨#[43]⟩, vl 1 a, vl 1 b] W (GrP (tw (vl 1 (IntKind.i64.wrap (a + b))) 0) W)) := fun W => bin_int _ _ _ _ _ _ W known_add_1 (who_add a b)
  have N2 : Hid (∀ W, Calls Try.prog 9 #[.string ⟨#[45]⟩, vl 1 (IntKind.i64.wrap (a + b)), vl 1 b] W (GrP (tw (vl 1 a) 0) W)) := fun W => bin_int _ _ _ _ _ _ W known_sub_1 (fun V => by have := who_sub (IntKind.i64.wrap (a + b)) b V; rw [back a b h0 h1] at this; exact this)
  have N3 : Hid (∀ W, Calls Try.prog 9 #[.string ⟨#[47]⟩, vl 1 a, vl 1 b] W (GrP (tw (vl 1 (IntKind.i64.wrap (a.tdiv b))) 0) W)) := fun W => bin_int _ _ _ _ _ _ W known_quo_1 (fun V => who_quo a b V hb)
  have N4 : Hid (∀ W, Calls Try.prog 9 #[.string ⟨#[37]⟩, vl 1 a, vl 1 b] W (GrP (tw (vl 1 (a.tmod b)) 0) W)) := fun W => bin_int _ _ _ _ _ _ W known_rem_1 (fun V => who_rem a b V hb)
  have N5 : Hid (∀ W, Calls Try.prog 9 #[.string ⟨#[42]⟩, vl 1 (IntKind.i64.wrap (a.tdiv b)), vl 1 b] W (GrP (tw (vl 1 (IntKind.i64.wrap (IntKind.i64.wrap (a.tdiv b) * b))) 0) W)) := fun W => bin_int _ _ _ _ _ _ W known_mul_1 (who_mul _ _)
  have N6 : Hid (∀ W, Calls Try.prog 9 #[.string ⟨#[43]⟩, vl 1 (IntKind.i64.wrap (IntKind.i64.wrap (a.tdiv b) * b)), vl 1 (a.tmod b)] W (GrP (tw (vl 1 a) 0) W)) := fun W => bin_int _ _ _ _ _ _ W known_add_1 (fun V => by have := who_add (IntKind.i64.wrap (IntKind.i64.wrap (a.tdiv b) * b)) (a.tmod b) V; rw [again a b h0 h1] at this; exact this)
  have hs := sign_mod a b
  generalize IntKind.i64.wrap (IntKind.i64.wrap (a.tdiv b) * b) = p at *
  generalize IntKind.i64.wrap (a.tdiv b) = q at *
  generalize a.tmod b = r at *
  generalize IntKind.i64.wrap (a + b) = x at *
  replace hs := hid hs
  clear h0 h1
  unfold GrP at *
  have G := hid (grown_refl w none)
  go_enter Try.func5, Try.ntmps5
  go_upto_region 2 with (first
    | (go_at_call 22; refine calls_at (args := #[.int .i64 a]) rfl ?_; refine (IA.out _).mono ?_; rintro e v ⟨rfl, hg⟩; replace G := hid (grown_trans G.out hg); clear hg)
    | (go_at_call 22; refine calls_at (args := #[.int .i64 b]) rfl ?_; refine (IB.out _).mono ?_; rintro e v ⟨rfl, hg⟩; replace G := hid (grown_trans G.out hg); clear hg)
    | (go_at_call 9; refine (N1.out _).mono ?_; rintro e v1 ⟨rfl, hg⟩; replace G := hid (grown_trans G.out hg); clear hg))
  have B1 := hid (Blk.new v1 23 #[.int .i64 1, .int .i64 x])
  replace G := hid (grown_alloc G.out (Obj.cells #[.int .i64 1, .int .i64 x] 23))
  generalize v1.alloc (Obj.cells #[.int .i64 1, .int .i64 x] 23) = w1 at *
  generalize v1.heap.size = b1 at *
  go_cut [7, 8] (fun vx vy wx => vy = .int .i64 0 ∧ ∃ K, vx = .pointer (some ⟨K, 0, none⟩) ∧ w1.heap.size ≤ K ∧ Blk wx K 23 #[.int .i64 1, .int .i64 a] ∧ w1.grownBy wx none)
  case first =>
    clear G hs
    have SS : Hid (∀ W, w1.grownBy W none → W.cell? ⟨b1, 0, none⟩ = some (.int .i64 1) ∧ W.cell? ⟨b1, 1, none⟩ = some (.int .i64 x)) := fun W hW => by
      obtain ⟨q0, q1, _, _⟩ := two_cells (B1.out.kept hW (by simp))
      exact ⟨q0, q1⟩
    obtain ⟨x0, x1⟩ := SS.out w1 (grown_refl _ _)
    go_region_held3 (fun V => V.cell? ⟨b1, 0, none⟩ = some (.int .i64 1) ∧ V.cell? ⟨b1, 1, none⟩ = some (.int .i64 x)) (first | assumption | exact SS.out _ (grown_drew (grown_refl _ _)) | exact SS.out _ (grown_drew (grown_alloc (grown_refl _ _) _)) | exact SS.out _ (grown_alloc Ga.out _) | go_keep) (first
      | (go_at_call 22; refine (IB.out _).mono ?_; rintro e wa ⟨rfl, gW⟩; have Ga : Hid (w1.grownBy wa none) := (by first | exact un_drew gW | exact un_drewA gW); have SK4 := SS.out wa Ga.out; (try (have BA := hid (Blk.kept (Blk.drew (Blk.new w1 23 #[.int .i64 0, .int .i64 0])) gW (by simp)))); clear gW)
      | (go_at_call 9; refine (N2.out _).mono ?_; rintro e wb ⟨rfl, gW⟩; have Gb : Hid (w1.grownBy wb none) := (by first | exact grown_trans Ga.out gW | exact grown_trans (grown_alloc Ga.out _) gW); have SK5 := SS.out wb Gb.out; (first
          | (have BK := hid (BA.out.kept gW (by simp)); have SK6 := SS.out ((wb.setCell ⟨w1.heap.size, 0, none⟩ (.int .i64 1)).setCell ⟨w1.heap.size, 1, none⟩ (.int .i64 a)) (set_two Gb.out (Nat.le_refl _) _ _); obtain ⟨z0, z1, f0, f1⟩ := two_cells BK.out)
          | (have BK := hid ((Blk.new wa 23 #[.int .i64 0, .int .i64 0]).kept gW (by simp)); have SK6 := SS.out ((wb.setCell ⟨wa.heap.size, 0, none⟩ (.int .i64 1)).setCell ⟨wa.heap.size, 1, none⟩ (.int .i64 a)) (set_two Gb.out Ga.out.size _ _); obtain ⟨z0, z1, f0, f1⟩ := two_cells BK.out)
          | (have SK6 := SS.out (wb.alloc (.cells #[.int .i64 0, .int .i64 0] 23)) (grown_alloc Gb.out _); have SK7 := SS.out (wb.alloc (.cells #[.int .i64 1, .int .i64 a] 23)) (grown_alloc Gb.out _))); clear gW))
    all_goals
      (try go_wp2_with fail)
      go_meet
      first
      | exact ⟨rfl, _, rfl, Gb.out.size, Blk.new wb 23 _, grown_alloc Gb.out _⟩
      | exact ⟨rfl, _, rfl, Nat.le_refl _, blk_two BK.out _ _, set_two Gb.out (Nat.le_refl _) _ _⟩
      | exact ⟨rfl, _, rfl, Ga.out.size, blk_two BK.out _ _, set_two Gb.out Ga.out.size _ _⟩
  case rest =>
    obtain ⟨rfl, K, rfl, hK, hbk, hgx⟩ := hcut
    have B2 := hid hbk
    replace G := hid (grown_trans G.out hgx)
    clear hgx hbk hK B1
    go_upto_region 4 with (first
      | (go_at_call 22; refine calls_at (args := #[.int .i64 a]) rfl ?_; refine (IA.out _).mono ?_; rintro e v ⟨rfl, hg⟩; replace G := hid (grown_trans G.out hg); replace B2 := hid (B2.out.kept hg (by simp)); clear hg)
      | (go_at_call 22; refine calls_at (args := #[.int .i64 b]) rfl ?_; refine (IB.out _).mono ?_; rintro e v ⟨rfl, hg⟩; replace G := hid (grown_trans G.out hg); replace B2 := hid (B2.out.kept hg (by simp)); clear hg)
      | (go_at_call 9; refine (N3.out _).mono ?_; rintro e v2 ⟨rfl, hg⟩; replace G := hid (grown_trans G.out hg); replace B2 := hid (B2.out.kept hg (by simp)); clear hg))
    have B3 := hid (Blk.new v2 23 #[.int .i64 1, .int .i64 q])
    replace G := hid (grown_alloc G.out (Obj.cells #[.int .i64 1, .int .i64 q] 23))
    replace B2 := hid (B2.out.alloc (Obj.cells #[.int .i64 1, .int .i64 q] 23))
    generalize v2.alloc (Obj.cells #[.int .i64 1, .int .i64 q] 23) = w2 at *
    generalize v2.heap.size = b3 at *
    go_upto_region 5 with (first
      | (go_at_call 22; refine calls_at (args := #[.int .i64 a]) rfl ?_; refine (IA.out _).mono ?_; rintro e v ⟨rfl, hg⟩; replace G := hid (grown_trans G.out hg); replace B2 := hid (B2.out.kept hg (by simp)); replace B3 := hid (B3.out.kept hg (by simp)); clear hg)
      | (go_at_call 22; refine calls_at (args := #[.int .i64 b]) rfl ?_; refine (IB.out _).mono ?_; rintro e v ⟨rfl, hg⟩; replace G := hid (grown_trans G.out hg); replace B2 := hid (B2.out.kept hg (by simp)); replace B3 := hid (B3.out.kept hg (by simp)); clear hg)
      | (go_at_call 9; refine (N4.out _).mono ?_; rintro e v3 ⟨rfl, hg⟩; replace G := hid (grown_trans G.out hg); replace B2 := hid (B2.out.kept hg (by simp)); replace B3 := hid (B3.out.kept hg (by simp)); clear hg))
    have B4 := hid (Blk.new v3 23 #[.int .i64 1, .int .i64 r])
    replace G := hid (grown_alloc G.out (Obj.cells #[.int .i64 1, .int .i64 r] 23))
    replace B2 := hid (B2.out.alloc (Obj.cells #[.int .i64 1, .int .i64 r] 23))
    replace B3 := hid (B3.out.alloc (Obj.cells #[.int .i64 1, .int .i64 r] 23))
    generalize v3.alloc (Obj.cells #[.int .i64 1, .int .i64 r] 23) = w3 at *
    generalize v3.heap.size = b4 at *
    have hb2 : (b == 0) = false := by simpa using hb
    go_upto_region 9 with (first
      | (go_at_call 12; refine (AW.out _).mono ?_; rintro e w4 ⟨rfl, hg⟩; replace G := hid (grown_trans G.out hg); replace B2 := hid (B2.out.kept hg (by simp)); replace B3 := hid (B3.out.kept hg (by simp)); replace B4 := hid (B4.out.kept hg (by simp)); clear hg; obtain ⟨c0, c1, _, _⟩ := two_cells B2.out))
    clear c0 c1 B2
    go_cut [13, 14] (fun vx vy wx => vy = .int .i64 0 ∧ ∃ K, vx = .pointer (some ⟨K, 0, none⟩) ∧ w4.heap.size ≤ K ∧ Blk wx K 23 #[.int .i64 1, .int .i64 p] ∧ w4.grownBy wx none)
    case first =>
      clear G hs
      have SS : Hid (∀ W, w4.grownBy W none → W.cell? ⟨b3, 0, none⟩ = some (.int .i64 1) ∧ W.cell? ⟨b3, 1, none⟩ = some (.int .i64 q)) := fun W hW => by
        obtain ⟨q0, q1, _, _⟩ := two_cells (B3.out.kept hW (by simp))
        exact ⟨q0, q1⟩
      obtain ⟨x0, x1⟩ := SS.out w4 (grown_refl _ _)
      go_region_held3 (fun V => V.cell? ⟨b3, 0, none⟩ = some (.int .i64 1) ∧ V.cell? ⟨b3, 1, none⟩ = some (.int .i64 q)) (first | assumption | exact SS.out _ (grown_drew (grown_refl _ _)) | exact SS.out _ (grown_drew (grown_alloc (grown_refl _ _) _)) | exact SS.out _ (grown_alloc Ga.out _) | go_keep) (first
        | (go_at_call 22; refine (IB.out _).mono ?_; rintro e wa ⟨rfl, gW⟩; have Ga : Hid (w4.grownBy wa none) := (by first | exact un_drew gW | exact un_drewA gW); have SK4 := SS.out wa Ga.out; (try (have BA := hid (Blk.kept (Blk.drew (Blk.new w4 23 #[.int .i64 0, .int .i64 0])) gW (by simp)))); clear gW)
        | (go_at_call 9; refine (N5.out _).mono ?_; rintro e wb ⟨rfl, gW⟩; have Gb : Hid (w4.grownBy wb none) := (by first | exact grown_trans Ga.out gW | exact grown_trans (grown_alloc Ga.out _) gW); have SK5 := SS.out wb Gb.out; (first
            | (have BK := hid (BA.out.kept gW (by simp)); have SK6 := SS.out ((wb.setCell ⟨w4.heap.size, 0, none⟩ (.int .i64 1)).setCell ⟨w4.heap.size, 1, none⟩ (.int .i64 p)) (set_two Gb.out (Nat.le_refl _) _ _); obtain ⟨z0, z1, f0, f1⟩ := two_cells BK.out)
            | (have BK := hid ((Blk.new wa 23 #[.int .i64 0, .int .i64 0]).kept gW (by simp)); have SK6 := SS.out ((wb.setCell ⟨wa.heap.size, 0, none⟩ (.int .i64 1)).setCell ⟨wa.heap.size, 1, none⟩ (.int .i64 p)) (set_two Gb.out Ga.out.size _ _); obtain ⟨z0, z1, f0, f1⟩ := two_cells BK.out)
            | (have SK6 := SS.out (wb.alloc (.cells #[.int .i64 0, .int .i64 0] 23)) (grown_alloc Gb.out _); have SK7 := SS.out (wb.alloc (.cells #[.int .i64 1, .int .i64 p] 23)) (grown_alloc Gb.out _))); clear gW))
      all_goals
        (try go_wp2_with fail)
        go_meet
        first
        | exact ⟨rfl, _, rfl, Gb.out.size, Blk.new wb 23 _, grown_alloc Gb.out _⟩
        | exact ⟨rfl, _, rfl, Nat.le_refl _, blk_two BK.out _ _, set_two Gb.out (Nat.le_refl _) _ _⟩
        | exact ⟨rfl, _, rfl, Ga.out.size, blk_two BK.out _ _, set_two Gb.out Ga.out.size _ _⟩
    case rest =>
      obtain ⟨rfl, K, rfl, hK, hbk, hgx⟩ := hcut
      have B5 := hid hbk
      replace B4 := hid (B4.out.kept hgx (by simp))
      replace G := hid (grown_trans G.out hgx)
      clear hgx hbk hK B3
      obtain ⟨c0, c1, _, _⟩ := two_cells B5.out
      obtain ⟨d0, d1, _, _⟩ := two_cells B4.out
      go_upto_region 11 with (first
        | (go_at_call 9; refine (N6.out _).mono ?_; rintro e v5 ⟨rfl, hg⟩; replace G := hid (grown_trans G.out hg); replace B4 := hid (B4.out.kept hg (by simp)); clear hg))
      have B6 := hid (Blk.new v5 23 #[.int .i64 1, .int .i64 a])
      replace G := hid (grown_alloc G.out (Obj.cells #[.int .i64 1, .int .i64 a] 23))
      replace B4 := hid (B4.out.alloc (Obj.cells #[.int .i64 1, .int .i64 a] 23))
      generalize v5.alloc (Obj.cells #[.int .i64 1, .int .i64 a] 23) = w5 at *
      generalize v5.heap.size = b6 at *
      clear c0 c1 d0 d1
      obtain ⟨c0, c1, _, _⟩ := two_cells B6.out
      obtain ⟨d0, d1, _, _⟩ := two_cells B4.out
      by_cases hr : r = 0
      · subst hr
        go_wp2
        go_ret
        exact ⟨rfl, G.out⟩
      · have hr2 : (r == 0) = false := by simpa using hr
        have h := hid (hs.out.resolve_left hr)
        clear hs
        go_wp2
        go_ret
        refine ⟨?_, G.out⟩
        show Ending.returned (.bool (decide (r < 0) == decide (a < 0))) = _
        rw [h.out]
        simp
set_option maxRecDepth 100000 in
set_option maxHeartbeats 4000000 in
theorem laws_none (a : Int) (w : World) (h0 : -9223372036854775808 ≤ a) (h1 : a ≤ 9223372036854775807) : Calls Try.prog 5 #[.int .i64 a, .int .i64 0] w (GrP (.bool true) w) := by
  have IA : Hid (∀ W, Calls Try.prog 22 #[.int .i64 a] W (GrP (vl 1 a) W)) := fun W => int_any a W
  have IB : Hid (∀ W, Calls Try.prog 22 #[.int .i64 0] W (GrP (vl 1 0) W)) := fun W => int_any 0 W
  have AW : Hid (∀ W, Calls Try.prog 12 #[] W (GrP (.bool true) W)) := fun W => awake_any W
  have N1 : Hid (∀ W, Calls Try.prog 9 #[.string ⟨#[43]⟩, vl 1 a, vl 1 0] W (GrP (tw (vl 1 (IntKind.i64.wrap (a + 0))) 0) W)) := fun W => bin_int _ _ _ _ _ _ W known_add_1 (who_add a 0)
  have N2 : Hid (∀ W, Calls Try.prog 9 #[.string ⟨#[45]⟩, vl 1 (IntKind.i64.wrap (a + 0)), vl 1 0] W (GrP (tw (vl 1 a) 0) W)) := fun W => bin_int _ _ _ _ _ _ W known_sub_1 (fun V => by have := who_sub (IntKind.i64.wrap (a + 0)) 0 V; rw [back a 0 h0 h1] at this; exact this)
  have N3 : Hid (∀ W, Calls Try.prog 9 #[.string ⟨#[47]⟩, vl 1 a, vl 1 0] W (GrP (tw (vl 0 0) 3) W)) := fun W => bin_int _ _ _ _ _ _ W known_quo_1 (fun V => zero_quo a V)
  have N4 : Hid (∀ W, Calls Try.prog 9 #[.string ⟨#[37]⟩, vl 1 a, vl 1 0] W (GrP (tw (vl 0 0) 3) W)) := fun W => bin_int _ _ _ _ _ _ W known_rem_1 (fun V => zero_rem a V)
  generalize IntKind.i64.wrap (a + 0) = x at *
  clear h0 h1
  unfold GrP at *
  have G := hid (grown_refl w none)
  go_enter Try.func5, Try.ntmps5
  go_upto_region 2 with (first
    | (go_at_call 22; refine calls_at (args := #[.int .i64 a]) rfl ?_; refine (IA.out _).mono ?_; rintro e v ⟨rfl, hg⟩; replace G := hid (grown_trans G.out hg); clear hg)
    | (go_at_call 22; refine calls_at (args := #[.int .i64 0]) rfl ?_; refine (IB.out _).mono ?_; rintro e v ⟨rfl, hg⟩; replace G := hid (grown_trans G.out hg); clear hg)
    | (go_at_call 9; refine (N1.out _).mono ?_; rintro e v1 ⟨rfl, hg⟩; replace G := hid (grown_trans G.out hg); clear hg))
  have B1 := hid (Blk.new v1 23 #[.int .i64 1, .int .i64 x])
  replace G := hid (grown_alloc G.out (Obj.cells #[.int .i64 1, .int .i64 x] 23))
  generalize v1.alloc (Obj.cells #[.int .i64 1, .int .i64 x] 23) = w1 at *
  generalize v1.heap.size = b1 at *
  go_cut [7, 8] (fun vx vy wx => vy = .int .i64 0 ∧ ∃ K, vx = .pointer (some ⟨K, 0, none⟩) ∧ w1.heap.size ≤ K ∧ Blk wx K 23 #[.int .i64 1, .int .i64 a] ∧ w1.grownBy wx none)
  case first =>
    clear G
    have SS : Hid (∀ W, w1.grownBy W none → W.cell? ⟨b1, 0, none⟩ = some (.int .i64 1) ∧ W.cell? ⟨b1, 1, none⟩ = some (.int .i64 x)) := fun W hW => by
      obtain ⟨q0, q1, _, _⟩ := two_cells (B1.out.kept hW (by simp))
      exact ⟨q0, q1⟩
    obtain ⟨x0, x1⟩ := SS.out w1 (grown_refl _ _)
    go_region_held3 (fun V => V.cell? ⟨b1, 0, none⟩ = some (.int .i64 1) ∧ V.cell? ⟨b1, 1, none⟩ = some (.int .i64 x)) (first | assumption | exact SS.out _ (grown_drew (grown_refl _ _)) | exact SS.out _ (grown_drew (grown_alloc (grown_refl _ _) _)) | exact SS.out _ (grown_alloc Ga.out _) | go_keep) (first
      | (go_at_call 22; refine (IB.out _).mono ?_; rintro e wa ⟨rfl, gW⟩; have Ga : Hid (w1.grownBy wa none) := (by first | exact un_drew gW | exact un_drewA gW); have SK4 := SS.out wa Ga.out; (try (have BA := hid (Blk.kept (Blk.drew (Blk.new w1 23 #[.int .i64 0, .int .i64 0])) gW (by simp)))); clear gW)
      | (go_at_call 9; refine (N2.out _).mono ?_; rintro e wb ⟨rfl, gW⟩; have Gb : Hid (w1.grownBy wb none) := (by first | exact grown_trans Ga.out gW | exact grown_trans (grown_alloc Ga.out _) gW); have SK5 := SS.out wb Gb.out; (first
          | (have BK := hid (BA.out.kept gW (by simp)); have SK6 := SS.out ((wb.setCell ⟨w1.heap.size, 0, none⟩ (.int .i64 1)).setCell ⟨w1.heap.size, 1, none⟩ (.int .i64 a)) (set_two Gb.out (Nat.le_refl _) _ _); obtain ⟨z0, z1, f0, f1⟩ := two_cells BK.out)
          | (have BK := hid ((Blk.new wa 23 #[.int .i64 0, .int .i64 0]).kept gW (by simp)); have SK6 := SS.out ((wb.setCell ⟨wa.heap.size, 0, none⟩ (.int .i64 1)).setCell ⟨wa.heap.size, 1, none⟩ (.int .i64 a)) (set_two Gb.out Ga.out.size _ _); obtain ⟨z0, z1, f0, f1⟩ := two_cells BK.out)
          | (have SK6 := SS.out (wb.alloc (.cells #[.int .i64 0, .int .i64 0] 23)) (grown_alloc Gb.out _); have SK7 := SS.out (wb.alloc (.cells #[.int .i64 1, .int .i64 a] 23)) (grown_alloc Gb.out _))); clear gW))
    all_goals
      (try go_wp2_with fail)
      go_meet
      first
      | exact ⟨rfl, _, rfl, Gb.out.size, Blk.new wb 23 _, grown_alloc Gb.out _⟩
      | exact ⟨rfl, _, rfl, Nat.le_refl _, blk_two BK.out _ _, set_two Gb.out (Nat.le_refl _) _ _⟩
      | exact ⟨rfl, _, rfl, Ga.out.size, blk_two BK.out _ _, set_two Gb.out Ga.out.size _ _⟩
  case rest =>
    obtain ⟨rfl, K, rfl, hK, hbk, hgx⟩ := hcut
    have B2 := hid hbk
    replace G := hid (grown_trans G.out hgx)
    clear hgx hbk hK B1
    go_upto_region 4 with (first
      | (go_at_call 22; refine calls_at (args := #[.int .i64 a]) rfl ?_; refine (IA.out _).mono ?_; rintro e v ⟨rfl, hg⟩; replace G := hid (grown_trans G.out hg); replace B2 := hid (B2.out.kept hg (by simp)); clear hg)
      | (go_at_call 22; refine calls_at (args := #[.int .i64 0]) rfl ?_; refine (IB.out _).mono ?_; rintro e v ⟨rfl, hg⟩; replace G := hid (grown_trans G.out hg); replace B2 := hid (B2.out.kept hg (by simp)); clear hg)
      | (go_at_call 9; refine (N3.out _).mono ?_; rintro e v2 ⟨rfl, hg⟩; replace G := hid (grown_trans G.out hg); replace B2 := hid (B2.out.kept hg (by simp)); clear hg))
    have B3 := hid (Blk.new v2 23 #[.int .i64 0, .int .i64 0])
    replace G := hid (grown_alloc G.out (Obj.cells #[.int .i64 0, .int .i64 0] 23))
    replace B2 := hid (B2.out.alloc (Obj.cells #[.int .i64 0, .int .i64 0] 23))
    generalize v2.alloc (Obj.cells #[.int .i64 0, .int .i64 0] 23) = w2 at *
    generalize v2.heap.size = b3 at *
    go_upto_region 5 with (first
      | (go_at_call 22; refine calls_at (args := #[.int .i64 a]) rfl ?_; refine (IA.out _).mono ?_; rintro e v ⟨rfl, hg⟩; replace G := hid (grown_trans G.out hg); replace B2 := hid (B2.out.kept hg (by simp)); replace B3 := hid (B3.out.kept hg (by simp)); clear hg)
      | (go_at_call 22; refine calls_at (args := #[.int .i64 0]) rfl ?_; refine (IB.out _).mono ?_; rintro e v ⟨rfl, hg⟩; replace G := hid (grown_trans G.out hg); replace B2 := hid (B2.out.kept hg (by simp)); replace B3 := hid (B3.out.kept hg (by simp)); clear hg)
      | (go_at_call 9; refine (N4.out _).mono ?_; rintro e v3 ⟨rfl, hg⟩; replace G := hid (grown_trans G.out hg); replace B2 := hid (B2.out.kept hg (by simp)); replace B3 := hid (B3.out.kept hg (by simp)); clear hg))
    have B4 := hid (Blk.new v3 23 #[.int .i64 0, .int .i64 0])
    replace G := hid (grown_alloc G.out (Obj.cells #[.int .i64 0, .int .i64 0] 23))
    replace B2 := hid (B2.out.alloc (Obj.cells #[.int .i64 0, .int .i64 0] 23))
    replace B3 := hid (B3.out.alloc (Obj.cells #[.int .i64 0, .int .i64 0] 23))
    generalize v3.alloc (Obj.cells #[.int .i64 0, .int .i64 0] 23) = w3 at *
    generalize v3.heap.size = b4 at *
    go_wp2_with (first
      | (go_at_call 12; refine (AW.out _).mono ?_; rintro e w4 ⟨rfl, hg⟩; replace G := hid (grown_trans G.out hg); replace B2 := hid (B2.out.kept hg (by simp)); replace B3 := hid (B3.out.kept hg (by simp)); replace B4 := hid (B4.out.kept hg (by simp)); clear hg; obtain ⟨c0, c1, _, _⟩ := two_cells B2.out; obtain ⟨d0, d1, _, _⟩ := two_cells B3.out; obtain ⟨e0, e1, _, _⟩ := two_cells B4.out))
    go_ret
    exact ⟨rfl, G.out⟩
theorem laws_law (a b : Int) (w : World) (h0 : -9223372036854775808 ≤ a) (h1 : a ≤ 9223372036854775807) : Calls Try.prog 5 #[.int .i64 a, .int .i64 b] w (GrP (.bool true) w) := by
  by_cases hb : b = 0
  · subst hb; exact laws_none a w h0 h1
  · exact laws_some a b w hb h0 h1
end Go.Proofs.Ytnbolfogmhlanaa
