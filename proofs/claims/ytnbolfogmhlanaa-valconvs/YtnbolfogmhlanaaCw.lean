/-
  Conv: of a whole number to a number, of a number to a whole one.
-/
import Derived.Test.YtnbolfogmhlanaaCv
import Derived.Test.YtnbolfogmhlanaaVf
namespace Go.Proofs.Ytnbolfogmhlanaa
open Ieee Go.RowKit
theorem trunc_run (q q' : Nat) (w : World) (s : Bool) (M : Nat) (i : Int) (hd : double.read q = .number s M i) (hw : double.write ((double.read q).integral .zero) = q') : (callFunc 46 #[.float .f64 q]).run Try.prog w = .ok (.value (.float .f64 q')) w := by
  have h : (callFunc 46 #[.float .f64 q]).run Try.prog w = ((Extern.MathFloor.toIntegral "math.archTrunc" .zero #[.float .f64 q]).bind fun v => .pure (.value v)).run Try.prog w := by kernel_rfl
  have g : ∀ d : Datum, FloatKind.f64.decode q = d → d = .number s M i → Extern.MathFloor.toIntegral "math.archTrunc" .zero #[.float .f64 q] = .pure (.float .f64 (FloatKind.f64.encode ((FloatKind.f64.decode q).integral .zero))) := fun d e1 e2 => by
    show (match FloatKind.f64.decode q with
      | .nan s t => if FloatKind.f64.format.quiet t = t then (pure (.float .f64 q) : Sem Value) else do
          let kept ← choose (.extern "math.Floor,Ceil,Trunc,RoundToEven.signallingNaN kept" 2)
          pure (.float .f64 (if kept == 1 then q else FloatKind.f64.encode (.nan s (FloatKind.f64.format.quiet t))))
      | d => pure (.float .f64 (FloatKind.f64.encode (d.integral .zero)))) = _
    rw [e1, e2]
    rfl
  rw [h, g _ hd rfl]
  have e2 : FloatKind.f64.encode ((FloatKind.f64.decode q).integral .zero) = q' := hw
  rw [e2]
  rfl
set_option maxRecDepth 100000 in
theorem trunc_any (q q' : Nat) (w : World) (hr : ∀ W, (callFunc 46 #[.float .f64 q]).run Try.prog W = .ok (.value (.float .f64 q')) W) : Calls Try.prog 44 #[.float .f64 q] w (StP (.float .f64 q') w) := by
  unfold StP
  go_enter Try.func44, Try.ntmps44
  go_wp2
  go_ret
  exact ⟨rfl, rfl⟩
set_option maxRecDepth 100000 in
/-- A number that is too great. -/
theorem cut_trap (q q' : Nat) (w : World) (hT : ∀ W, Calls Try.prog 44 #[.float .f64 q] W (StP (.float .f64 q') W)) (hn : nanB q' = false) (h1 : cmpF .lss q' 14114281232179134464 = false) (h2 : cmpF .geq q' 4890909195324358656 = true) :
    Calls Try.prog 37 #[.float .f64 q] w (GrP (tw (vl 0 0) 4) w) := by
  have C44 := hid hT
  have C34 : Hid (∀ W, Calls Try.prog 34 #[.float .f64 q'] W (StP (.bool false) W)) := fun W => by
    have := isNaN_any q' W
    rw [hn] at this
    exact this
  unfold cmpF at h1 h2
  simp only [] at h1 h2
  clear hT hn
  unfold GrP
  go_enter Try.func37, Try.ntmps37
  go_wp2_with (first
    | (go_at_call 44; refine (C44.out _).mono ?_; rintro e w1 ⟨rfl, hw⟩; replace hw := hw.symm; subst hw)
    | (go_at_call 34; refine (C34.out _).mono ?_; rintro e w1 ⟨rfl, hw⟩; replace hw := hw.symm; subst hw))
  refine bodyPost_ret (v := tw (vl 0 0) 4) (by simp [results, Try.results37, go_sem]) rfl ⟨rfl, ?_⟩
  exact grow1 w _
set_option maxRecDepth 100000 in
/-- A number that is not. -/
theorem cut_some (q q' : Nat) (k : Int) (w : World) (hT : ∀ W, Calls Try.prog 44 #[.float .f64 q] W (StP (.float .f64 q') W)) (hn : nanB q' = false) (h1 : cmpF .lss q' 14114281232179134464 = false) (h2 : cmpF .geq q' 4890909195324358656 = false)
    (hk : ∀ W, (convert 37 2 (.float .f64 q')).run Try.prog W = .ok (.int .i64 k) W) :
    Calls Try.prog 37 #[.float .f64 q] w (GrP (tw (vl 1 k) 0) w) := by
  have C44 := hid hT
  have C34 : Hid (∀ W, Calls Try.prog 34 #[.float .f64 q'] W (StP (.bool false) W)) := fun W => by
    have := isNaN_any q' W
    rw [hn] at this
    exact this
  have C22 : Hid (∀ W, Calls Try.prog 22 #[.int .i64 k] W (GrP (vl 1 k) W)) := fun W => int_any k W
  unfold cmpF at h1 h2
  simp only [] at h1 h2
  clear hT hn
  unfold GrP at *
  go_enter Try.func37, Try.ntmps37
  go_wp2_with (first
    | (go_at_call 44; refine (C44.out _).mono ?_; rintro e w1 ⟨rfl, hw⟩; replace hw := hw.symm; subst hw)
    | (go_at_call 34; refine (C34.out _).mono ?_; rintro e w1 ⟨rfl, hw⟩; replace hw := hw.symm; subst hw)
    | (go_at_call 22; refine (C22.out _).mono ?_; rintro e w1 ⟨rfl, hg⟩; have B1 := hid ((Blk.new w 23 #[.int .i64 0, .int .i64 0]).kept hg (by simp)); obtain ⟨c0, c1, f0, f1⟩ := two_cells B1.out; have G1 := hid (grown_trans (grow1 _ _) hg); clear hg))
  obtain ⟨z0, z1, _, _⟩ := two_cells (blk_two B1.out (.int .i64 1) (.int .i64 k))
  refine bodyPost_ret (v := tw (vl 1 k) 0) (by simp [results, Try.results37, go_sem, z0, z1]) rfl ⟨rfl, ?_⟩
  exact set_two G1.out (Nat.le_refl _) _ _
end Go.Proofs.Ytnbolfogmhlanaa
