/-
  Conv, and the law's walk.
-/
import Derived.Test.YtnbolfogmhlanaaCw
namespace Go.Proofs.Ytnbolfogmhlanaa
open Ieee Go.RowKit
set_option maxRecDepth 100000 in
theorem conv_float (n r : Int) (F : Nat) (w : World) (hc : ∀ W, (convert 2 37 (.int .i64 n)).run Try.prog W = .ok (.float .f64 F) W) (hF : ∀ W, Calls Try.prog 17 #[.float .f64 F] W (GrP (vl 2 r) W)) : Calls Try.prog 25 #[.int .i64 2, vl 1 n] w (GrP (tw (vl 2 r) 0) w) := by
  have C17 := hid hF
  clear hF
  unfold GrP at *
  go_enter Try.func25, Try.ntmps25
  go_wp2_with (first
    | (go_at_call 17; refine (C17.out _).mono ?_; rintro e w1 ⟨rfl, hg⟩; have B1 : Hid (Blk w1 (w.heap.size + 1) 23 #[.int .i64 0, .int .i64 0]) := (Blk.kept (by simpa using Blk.new (w.alloc (Obj.cells #[.int .i64 1, .int .i64 n] 23)) 23 #[.int .i64 0, .int .i64 0]) hg (by simp)); obtain ⟨c0, c1, f0, f1⟩ := two_cells B1.out; have G1 := hid (grown_trans (grow2 (grow1 w _) _) hg); clear hg))
  obtain ⟨z0, z1, _, _⟩ := two_cells (blk_two B1.out (.int .i64 2) (.int .i64 r))
  refine bodyPost_ret (v := tw (vl 2 r) 0) (by simp [results, Try.results25, go_sem, z0, z1]) rfl ⟨rfl, ?_⟩
  exact set_two G1.out (by omega) _ _
set_option maxRecDepth 100000 in
theorem conv_int (r t k j : Int) (F : Nat) (w : World) (hO : ∀ W, Calls Try.prog 20 #[vl 2 r] W (GrP (.float .f64 F) W)) (hC : ∀ W, Calls Try.prog 37 #[.float .f64 F] W (GrP (tw (vl t k) j) W)) : Calls Try.prog 25 #[.int .i64 1, vl 2 r] w (GrP (tw (vl t k) j) w) := by
  have C20 := hid hO
  have C37 := hid hC
  clear hO hC
  unfold GrP at *
  go_enter Try.func25, Try.ntmps25
  go_wp2_with (first
    | (go_at_call 20; refine (C20.out _).mono ?_; rintro e w2 ⟨rfl, hg⟩; have B2 : Hid (Blk w2 (w.heap.size + 1) 23 #[.int .i64 0, .int .i64 0]) := (Blk.kept (by simpa using Blk.new (w.alloc (Obj.cells #[.int .i64 2, .int .i64 r] 23)) 23 #[.int .i64 0, .int .i64 0]) hg (by simp)); have G2 := hid (grown_trans (grow2 (grow1 w _) _) hg); clear hg)
    | (go_at_call 37; refine (C37.out _).mono ?_; rintro e w1 ⟨rfl, hg⟩; have B1 := hid (B2.out.kept hg (by simp)); obtain ⟨c0, c1, f0, f1⟩ := two_cells B1.out; have G1 := hid (grown_trans G2.out hg); clear hg))
  obtain ⟨z0, z1, _, _⟩ := two_cells (blk_two B1.out (.int .i64 t) (.int .i64 k))
  refine bodyPost_ret (v := tw (vl t k) j) (by simp [results, Try.results25, go_sem, z0, z1]) rfl ⟨rfl, ?_⟩
  exact set_two G1.out (by omega) _ _
set_option maxRecDepth 100000 in
set_option maxHeartbeats 2000000 in
/-- It is too great: then it was near to the greatest. -/
theorem convs_trap (n r : Int) (w : World) (h1 : ∀ W, Calls Try.prog 25 #[.int .i64 2, vl 1 n] W (GrP (tw (vl 2 r) 0) W)) (h2 : ∀ W, Calls Try.prog 25 #[.int .i64 1, vl 2 r] W (GrP (tw (vl 0 0) 4) W)) (hn : 9223372036854775295 < n) :
    Calls Try.prog 7 #[.int .i64 n] w (GrP (.bool true) w) := by
  have CI : Hid (∀ W, Calls Try.prog 22 #[.int .i64 n] W (GrP (vl 1 n) W)) := fun W => int_any n W
  have AW : Hid (∀ W, Calls Try.prog 12 #[] W (GrP (.bool true) W)) := fun W => awake_any W
  have C1 := hid h1
  have C2 := hid h2
  have q1 : (-9007199254740992 : Int) ≤ n := by omega
  have q2 : ¬ n ≤ (9007199254740992 : Int) := by omega
  clear h1 h2
  unfold GrP at *
  have G := hid (grown_refl w none)
  go_enter Try.func7, Try.ntmps7
  go_upto_region 2 with (first
    | (go_at_call 22; refine (CI.out _).mono ?_; rintro e v ⟨rfl, hg⟩; replace G := hid (grown_trans G.out hg); clear hg)
    | (go_at_call 25; refine (C1.out _).mono ?_; rintro e v1 ⟨rfl, hg⟩; replace G := hid (grown_trans G.out hg); clear hg))
  replace G := hid (grown_alloc G.out (Obj.cells #[.int .i64 2, .int .i64 r] 23))
  have B1 := hid (Blk.new v1 23 #[.int .i64 2, .int .i64 r])
  generalize v1.alloc (Obj.cells #[.int .i64 2, .int .i64 r] 23) = w1 at *
  generalize v1.heap.size = b1 at *
  obtain ⟨x0, x1, _, _⟩ := two_cells B1.out
  go_upto_region 3 with (first
    | (go_at_call 25; refine (C2.out _).mono ?_; rintro e v2 ⟨rfl, hg⟩; replace G := hid (grown_trans G.out hg); clear hg))
  replace G := hid (grown_alloc G.out (Obj.cells #[.int .i64 0, .int .i64 0] 23))
  have B2 := hid (Blk.new v2 23 #[.int .i64 0, .int .i64 0])
  generalize v2.alloc (Obj.cells #[.int .i64 0, .int .i64 0] 23) = w2 at *
  generalize v2.heap.size = b2 at *
  clear x0 x1
  go_wp2_with (first
    | (go_at_call 12; refine (AW.out _).mono ?_; rintro e v3 ⟨rfl, hg⟩; replace G := hid (grown_trans G.out hg); obtain ⟨y0, y1, _, _⟩ := two_cells (B2.out.kept hg (by simp)); clear hg))
  go_ret
  exact ⟨rfl, G.out⟩
set_option maxRecDepth 100000 in
set_option maxHeartbeats 2000000 in
/-- It is not: then it is near. -/
theorem convs_some (n r k : Int) (w : World) (h1 : ∀ W, Calls Try.prog 25 #[.int .i64 2, vl 1 n] W (GrP (tw (vl 2 r) 0) W)) (h2 : ∀ W, Calls Try.prog 25 #[.int .i64 1, vl 2 r] W (GrP (tw (vl 1 k) 0) W)) (hs : -9007199254740992 ≤ n → n ≤ 9007199254740992 → k = n) (hd0 : k ≤ n + 512) (hd1 : n ≤ k + 512) :
    Calls Try.prog 7 #[.int .i64 n] w (GrP (.bool true) w) := by
  have CI : Hid (∀ W, Calls Try.prog 22 #[.int .i64 n] W (GrP (vl 1 n) W)) := fun W => int_any n W
  have AW : Hid (∀ W, Calls Try.prog 12 #[] W (GrP (.bool true) W)) := fun W => awake_any W
  have C1 := hid h1
  have C2 := hid h2
  have HS := hid hs
  have u1 : Hid (n ≤ k → IntKind.u64.wrap (IntKind.u64.wrap k - IntKind.u64.wrap n) ≤ 512) := fun h => by
    rw [IntKind.wrap_u64, IntKind.wrap_u64, IntKind.wrap_u64]; omega
  have u2 : Hid (k < n → IntKind.u64.wrap (IntKind.u64.wrap n - IntKind.u64.wrap k) ≤ 512) := fun h => by
    rw [IntKind.wrap_u64, IntKind.wrap_u64, IntKind.wrap_u64]; omega
  clear h1 h2 hs hd0 hd1
  unfold GrP at *
  have G := hid (grown_refl w none)
  go_enter Try.func7, Try.ntmps7
  go_upto_region 2 with (first
    | (go_at_call 22; refine (CI.out _).mono ?_; rintro e v ⟨rfl, hg⟩; replace G := hid (grown_trans G.out hg); clear hg)
    | (go_at_call 25; refine (C1.out _).mono ?_; rintro e v1 ⟨rfl, hg⟩; replace G := hid (grown_trans G.out hg); clear hg))
  replace G := hid (grown_alloc G.out (Obj.cells #[.int .i64 2, .int .i64 r] 23))
  have B1 := hid (Blk.new v1 23 #[.int .i64 2, .int .i64 r])
  generalize v1.alloc (Obj.cells #[.int .i64 2, .int .i64 r] 23) = w1 at *
  generalize v1.heap.size = b1 at *
  obtain ⟨x0, x1, _, _⟩ := two_cells B1.out
  go_upto_region 3 with (first
    | (go_at_call 25; refine (C2.out _).mono ?_; rintro e v2 ⟨rfl, hg⟩; replace G := hid (grown_trans G.out hg); clear hg))
  replace G := hid (grown_alloc G.out (Obj.cells #[.int .i64 1, .int .i64 k] 23))
  have B2 := hid (Blk.new v2 23 #[.int .i64 1, .int .i64 k])
  generalize v2.alloc (Obj.cells #[.int .i64 1, .int .i64 k] 23) = w2 at *
  generalize v2.heap.size = b2 at *
  clear x0 x1
  by_cases hsm : -9007199254740992 ≤ n ∧ n ≤ 9007199254740992
  · obtain ⟨q1, q2⟩ := hsm
    have hk := HS.out q1 q2
    subst hk
    have u3 := u1.out (Int.le_refl _)
    clear HS u1 u2
    go_wp2_with (first
      | (go_at_call 12; refine (AW.out _).mono ?_; rintro e v3 ⟨rfl, hg⟩; replace G := hid (grown_trans G.out hg); obtain ⟨y0, y1, _, _⟩ := two_cells (B2.out.kept hg (by simp)); clear hg))
    go_ret
    exact ⟨rfl, G.out⟩
  · by_cases hlt : k < n
    · have u3 := u2.out hlt
      clear HS u1 u2
      by_cases q1 : -9007199254740992 ≤ n
      · have q2 : ¬ n ≤ 9007199254740992 := fun h => hsm ⟨q1, h⟩
        clear hsm
        go_wp2_with (first
          | (go_at_call 12; refine (AW.out _).mono ?_; rintro e v3 ⟨rfl, hg⟩; replace G := hid (grown_trans G.out hg); obtain ⟨y0, y1, _, _⟩ := two_cells (B2.out.kept hg (by simp)); clear hg))
        go_ret
        exact ⟨rfl, G.out⟩
      · clear hsm
        go_wp2_with (first
          | (go_at_call 12; refine (AW.out _).mono ?_; rintro e v3 ⟨rfl, hg⟩; replace G := hid (grown_trans G.out hg); obtain ⟨y0, y1, _, _⟩ := two_cells (B2.out.kept hg (by simp)); clear hg))
        go_ret
        exact ⟨rfl, G.out⟩
    · have u3 := u1.out (by omega)
      clear HS u1 u2
      by_cases q1 : -9007199254740992 ≤ n
      · have q2 : ¬ n ≤ 9007199254740992 := fun h => hsm ⟨q1, h⟩
        clear hsm
        go_wp2_with (first
          | (go_at_call 12; refine (AW.out _).mono ?_; rintro e v3 ⟨rfl, hg⟩; replace G := hid (grown_trans G.out hg); obtain ⟨y0, y1, _, _⟩ := two_cells (B2.out.kept hg (by simp)); clear hg))
        go_ret
        exact ⟨rfl, G.out⟩
      · clear hsm
        go_wp2_with (first
          | (go_at_call 12; refine (AW.out _).mono ?_; rintro e v3 ⟨rfl, hg⟩; replace G := hid (grown_trans G.out hg); obtain ⟨y0, y1, _, _⟩ := two_cells (B2.out.kept hg (by simp)); clear hg))
        go_ret
        exact ⟨rfl, G.out⟩
end Go.Proofs.Ytnbolfogmhlanaa
