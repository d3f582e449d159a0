/-
  The interpreter: a conversion.
-/
import Derived.Test.YtajoncmmdeahnaaGreatDoorKIj
import Derived.Deep.RegionHeld3
namespace Go.Proofs.YtajoncmmdeahnaaGreatDoor
open Go.RowKit
namespace Ip
set_option maxRecDepth 100000 in
set_option maxHeartbeats 40000000 in
theorem ex_27 {X : Xm} {L : Fl} {E : Env} {R : Rc} {d c nm : Nat} (hL : FlC L) (hE : MeC X E 151 vV R.ex) (x : Pd) (q : Value) (w : World) (st : Ms) (hA : CaA w X E d c nm st) (hk : KsP w (PX X) q x.kids) (hx : exprM L E R d x st ≠ .error none) (hkd : x.kind = 27) :
    Calls Tryz.prog 151 #[.pointer (some ⟨c, 0, none⟩), ndV x q] w (InP vV X E d c nm w (exprM L E R d x st)) := by
  have hM0 := (Fm.start hA hk).grow (grown_alloc (grown_refl _ none) (.cells #[.int .i64 0, .int .i64 0] 115))
  have hB0 : Blk ((w.alloc (.cells (ndC x q) 121)).alloc (.cells #[.int .i64 0, .int .i64 0] 115)) (w.heap.size + 1) 115 #[.int .i64 0, .int .i64 0] := by simpa using Blk.new (w.alloc (.cells (ndC x q) 121)) 115 #[.int .i64 0, .int .i64 0]
  unfold ndC at hM0 hB0
  have M0 := hid hM0
  have B0 := hid hB0
  have HX := hid hx
  have KD := hid hkd
  have HE := hid hE
  have HL := hid hL
  unfold ndV
  clear hM0 hB0 hx hA hk hkd hE hL
  go_enter Tryz.func151, Tryz.ntmps151
  go_wp2_with fail
  generalize (w.alloc (Obj.cells #[Value.int IntKind.i64 x.kind, Value.int IntKind.i64 x.ty, Value.string x.txt, Value.int IntKind.i64 x.num, Value.slice none 0 0, Value.string x.nm, Value.int IntKind.i64 x.pl, q] 121)).alloc (Obj.cells #[Value.int IntKind.i64 0, Value.int IntKind.i64 0] 115) = wa at *
  have D0 := hid (M0.out.grow (grown_drew (grown_refl wa none)))
  have E0 := hid (B0.out.kept (grown_drew (grown_refl wa none)) (by simp))
  obtain ⟨a0, a1, a2⟩ := M0.out.at
  obtain ⟨n0, n1, n2, n3, n4, n5, n6, n7⟩ := M0.out.cells
  go_region_law (go_simp; go_at_call 107; refine (step_any x q _ st D0.out.a (bnd_ne HX.out)).mono ?_; intro e w1 hh; rcases InP.cases hh (bnd_ne HX.out) with ⟨n, s1, hz, rfl, hM, hF⟩ | ⟨_, s1, hz, rfl, hA1, hF⟩; (case inl => exact ⟨rfl, by rw [exprM_eq, bnd_err hz]; exact ⟨rfl, hM, D0.out.f.trans hF⟩⟩); have HZ1 := hid (And.intro hz trivial); have M1 := hid (D0.out.call hA1 hF); have B1 := hid (D0.out.keep hF (Nat.le_add_right _ 1) E0.out); have HN1 : Hid (exprT L E R d x s1 ≠ .error none) := hid (by have h := HX.out; rw [exprM_eq, bnd_ok hz] at h; exact h); clear a0 a1 a2 n0 n1 n2 n3 n4 n5 n6 n7 hz hA1 hF hh; obtain ⟨a0, a1, a2⟩ := M1.out.at; obtain ⟨n0, n1, n2, n3, n4, n5, n6, n7⟩ := M1.out.cells; rw [KD.out] at n0)
  all_goals
    have HT := hid (exprT_27 L E R d x KD.out)
    have HN2 : Hid ((kidM x 0 (R.ex d) >>= fun v => resM (convM L x.ty v) >>= fun r => needM r.2 >>= fun _ => pure r.1) s1 ≠ .error none) := hid (by have h := HN1.out; rw [HT.out] at h; exact h)
    obtain ⟨y, hy, hky⟩ := kidM_ne (bnd_ne HN2.out)
    obtain ⟨g, cap, qy, hq, hi, hl1, hl2, hg, ⟨k0, k1, k2, k3, k4, k5, k6, k7⟩, hk⟩ := M1.out.k.kid 0 y hy
    simp only [Nat.mul_zero, Nat.zero_add] at k0 k1 k2 k3 k4 k5 k6 k7
    have MD := hid (M1.out.grow (grown_drew (grown_refl w1 none)))
    have BD := hid (B1.out.kept (grown_drew (grown_refl w1 none)) (by simp))
    have KY := hid (KsP.fr hk (Kp.of_none _ (grown_drew (grown_refl w1 none))))
    have HKY := hid (And.intro hky trivial)
    have K8 : Hid (∀ W W' : World, W.grownBy W' none → (W.cell? ⟨g, 0, none⟩ = some (.int .i64 y.kind) ∧ W.cell? ⟨g, 1, none⟩ = some (.int .i64 y.ty) ∧ W.cell? ⟨g, 2, none⟩ = some (.string y.txt) ∧ W.cell? ⟨g, 3, none⟩ = some (.int .i64 y.num) ∧ W.cell? ⟨g, 4, none⟩ = some (.slice none 0 0) ∧ W.cell? ⟨g, 5, none⟩ = some (.string y.nm) ∧ W.cell? ⟨g, 6, none⟩ = some (.int .i64 y.pl) ∧ W.cell? ⟨g, 7, none⟩ = some qy) → (W'.cell? ⟨g, 0, none⟩ = some (.int .i64 y.kind) ∧ W'.cell? ⟨g, 1, none⟩ = some (.int .i64 y.ty) ∧ W'.cell? ⟨g, 2, none⟩ = some (.string y.txt) ∧ W'.cell? ⟨g, 3, none⟩ = some (.int .i64 y.num) ∧ W'.cell? ⟨g, 4, none⟩ = some (.slice none 0 0) ∧ W'.cell? ⟨g, 5, none⟩ = some (.string y.nm) ∧ W'.cell? ⟨g, 6, none⟩ = some (.int .i64 y.pl) ∧ W'.cell? ⟨g, 7, none⟩ = some qy)) := hid (fun W W' hg h => by
      have e : W'.heap[g]? = W.heap[g]? := hg.block g (cell_lt h.1) (by simp)
      exact ⟨cell_same h.1 e, cell_same h.2.1 e, cell_same h.2.2.1 e, cell_same h.2.2.2.1 e, cell_same h.2.2.2.2.1 e, cell_same h.2.2.2.2.2.1 e, cell_same h.2.2.2.2.2.2.1 e, cell_same h.2.2.2.2.2.2.2 e⟩)
    have HN3 : Hid (R.ex d y s1 ≠ .error none) := hid (by have h := bnd_ne HN2.out; rw [hky] at h; exact h)
    subst hq
    clear hk hky hy hg
    have MDa := hid (MD.out.grow (grown_alloc (grown_refl w1.drew none) (.cells #[.int .i64 0, .int .i64 0] 115)))
    have BDa := hid (BD.out.alloc (.cells #[.int .i64 0, .int .i64 0] 115))
    have KYa := hid (KsP.fr KY.out (Kp.of_none _ (grown_alloc (grown_refl w1.drew none) (.cells #[.int .i64 0, .int .i64 0] 115))))
    have TDa : Hid (Blk (w1.drew.alloc (.cells #[.int .i64 0, .int .i64 0] 115)) w1.heap.size 115 #[.int .i64 0, .int .i64 0]) := hid (Blk.new w1.drew 115 #[.int .i64 0, .int .i64 0])
    have SZ : Hid (w.heap.size + 1 < w1.heap.size) := hid B1.out.lt
    have MA1 := hid (M1.out.grow (grown_alloc (grown_refl w1 none) (.cells #[.int .i64 0, .int .i64 0] 115)))
    obtain ⟨m0, m1, m2, m3, m4, m5, m6, m7⟩ := MA1.out.cells
    rw [KD.out] at m0
    obtain ⟨l0, l1, l2, l3, l4, l5, l6, l7⟩ := K8.out w1 (w1.alloc (.cells #[.int .i64 0, .int .i64 0] 115)) (grown_alloc (grown_refl w1 none) _) ⟨k0, k1, k2, k3, k4, k5, k6, k7⟩
    go_wp2_with fail
    go_region_law (first
      | (go_simp; go_at_call 151; refine (HE.out d y qy c nm _ s1 MD.out.a KY.out HN3.out).mono ?_; intro e w2 hh; rcases InP.cases hh HN3.out with ⟨n, s9, hz, rfl, hM, hF⟩ | ⟨v, s2, hz, rfl, hA2, hF⟩; (case inl => exact ⟨rfl, by rw [exprM_eq, bnd_ok HZ1.out.1, HT.out, HKY.out.1, bnd_err hz]; exact ⟨rfl, hM, MD.out.f.trans hF⟩⟩); have HZ2 := hid (And.intro hz trivial); have B2 := hid (MD.out.keep hF (Nat.le_add_right _ 1) BD.out); have M2 := hid (MD.out.call hA2 hF); obtain ⟨r, hr⟩ := resM_ne (bnd_ne (by have h := HN2.out; rw [HKY.out.1, bnd_ok hz] at h; exact h)); have HR := hid hr; clear a0 a1 a2 n0 n1 n2 n3 n4 n5 n6 n7; obtain ⟨n0, n1, n2, n3, n4, n5, n6, n7⟩ := M2.out.cells; clear hz hA2 hF hh hr k0 k1 k2 k3 k4 k5 k6 k7 m0 m1 m2 m3 m4 m5 m6 m7 l0 l1 l2 l3 l4 l5 l6 l7; have MA2 := hid (M2.out.grow (grown_alloc (grown_refl w2 none) (.cells #[.int .i64 0, .int .i64 0] 115))); obtain ⟨m0, m1, m2, m3, m4, m5, m6, m7⟩ := MA2.out.cells)
      | (go_simp; go_at_call 151; refine (HE.out d y qy c nm _ s1 MDa.out.a KYa.out HN3.out).mono ?_; intro e w2 hh; rcases InP.cases hh HN3.out with ⟨n, s9, hz, rfl, hM, hF⟩ | ⟨v, s2, hz, rfl, hA2, hF⟩; (case inl => exact ⟨rfl, by rw [exprM_eq, bnd_ok HZ1.out.1, HT.out, HKY.out.1, bnd_err hz]; exact ⟨rfl, hM, MDa.out.f.trans hF⟩⟩); have HZ2 := hid (And.intro hz trivial); have B2 := hid (MDa.out.keep hF (Nat.le_add_right _ 1) BDa.out); have M2 := hid (MDa.out.call hA2 hF); have T2 := hid (MDa.out.keep hF (by have := SZ.out; omega) TDa.out); obtain ⟨r, hr⟩ := resM_ne (bnd_ne (by have h := HN2.out; rw [HKY.out.1, bnd_ok hz] at h; exact h)); have HR := hid hr; clear a0 a1 a2 n0 n1 n2 n3 n4 n5 n6 n7; obtain ⟨n0, n1, n2, n3, n4, n5, n6, n7⟩ := M2.out.cells; clear hz hA2 hF hh hr k0 k1 k2 k3 k4 k5 k6 k7 m0 m1 m2 m3 m4 m5 m6 m7 l0 l1 l2 l3 l4 l5 l6 l7; have MA2 := hid (M2.out.grow (grown_alloc (grown_refl w2 none) (.cells #[.int .i64 0, .int .i64 0] 115))); obtain ⟨m0, m1, m2, m3, m4, m5, m6, m7⟩ := MA2.out.cells)
      | (go_simp; go_at_call 187; refine (convC HL.out x.ty v r HR.out _).mono ?_; rintro e w3 ⟨rfl, hg⟩; have M3 := hid (M2.out.grow hg); have B3 := hid ((B2.out).kept hg (by simp)); have T3 := hid (T2.out.kept hg (by simp)); obtain ⟨t0, t1, g0, g1⟩ := Vl.two_cells T3.out; clear n0 n1 n2 n3 n4 n5 n6 n7 m0 m1 m2 m3 m4 m5 m6 m7 hg; unfold vV)
      | (go_simp; go_at_call 187; refine (convC HL.out x.ty v r HR.out _).mono ?_; rintro e w3 ⟨rfl, hg⟩; have MA := M2.out.grow (grown_alloc (grown_refl w2 none) (.cells #[.int .i64 0, .int .i64 0] 115)); have M3 := hid (MA.grow hg); have B3 := hid ((B2.out.alloc (.cells #[.int .i64 0, .int .i64 0] 115)).kept hg (by simp)); have T3 := hid ((Blk.new w2 115 #[.int .i64 0, .int .i64 0]).kept hg (by simp)); obtain ⟨t0, t1, g0, g1⟩ := Vl.two_cells T3.out; have SZ2 : Hid (w.heap.size + 1 < w2.heap.size) := hid B2.out.lt; clear n0 n1 n2 n3 n4 n5 n6 n7 m0 m1 m2 m3 m4 m5 m6 m7 hg; unfold vV)
      | (go_simp; go_at_call 187; refine (convC HL.out x.ty v r HR.out _).mono ?_; rintro e w3 ⟨rfl, hg⟩; have M3 := hid (M2.out.grow hg); have B3 := hid ((B2.out).kept hg (by simp)); clear n0 n1 n2 n3 n4 n5 n6 n7 m0 m1 m2 m3 m4 m5 m6 m7 hg; unfold vV))
  all_goals
    first
      | (have M4 := hid (M3.out.wrote (Nat.lt_of_succ_lt SZ2.out) (grown_set (grown_set (grown_refl w3 (some w2.heap.size)) 0 (.int .i64 r.1.1)) 1 (.int .i64 r.1.2)))
         have B4 := hid (B3.out.kept (grown_set (grown_set (grown_refl w3 (some w2.heap.size)) 0 (.int .i64 r.1.1)) 1 (.int .i64 r.1.2)) (fun e => by injection e with e; have := SZ2.out; omega))
         have T4 := hid (Vl.blk_two T3.out (.int .i64 r.1.1) (.int .i64 r.1.2))
         obtain ⟨t0, t1, g0, g1⟩ := Vl.two_cells T4.out
         obtain ⟨c0, c1, f0, f1⟩ := Vl.two_cells B4.out
         by_cases h0 : r.2 = 0
         · have CN : Hid (∀ W, Calls Tryz.prog 148 #[.int .i64 r.2] W fun e w' => e = .returned (.tuple #[]) ∧ w' = W) := by rw [h0]; exact need_ok
           have EN := hid (needM_0 h0 s2)
           clear h0
           go_wp2_with (go_at_call 148; refine (CN.out _).mono ?_; rintro e w5 ⟨rfl, hw⟩; replace hw := hw.symm; subst hw)
           obtain ⟨z0, z1, _, _⟩ := Vl.two_cells (Vl.blk_two B4.out (.int .i64 r.1.1) (.int .i64 r.1.2))
           refine bodyPost_ret (v := vV r.1) (by simp [vV, results, Tryz.results151, go_sem, z0, z1]) rfl ?_
           rw [exprM_eq, bnd_ok HZ1.out.1, HT.out, HKY.out.1, bnd_ok HZ2.out.1, HR.out]
           rw [show (resM (some r) >>= fun r => needM r.2 >>= fun _ => pure r.1) = (needM r.2 >>= fun _ => pure r.1) from rfl, bnd_ok EN.out]
           exact ⟨rfl, M4.out.two _ _⟩
         · have CN : Hid (∀ W, Calls Tryz.prog 148 #[.int .i64 r.2] W fun e w' => e = .panicked (TrV r.2) ∧ w' = W) := hid (fun W => need_trap r.2 h0 W)
           have EN := hid (needM_1 h0 s2)
           clear h0
           go_wp2_with (go_at_call 148; refine (CN.out _).mono ?_; rintro e w5 ⟨rfl, hw⟩; replace hw := hw.symm; subst hw)
           refine ⟨rfl, ?_⟩
           rw [exprM_eq, bnd_ok HZ1.out.1, HT.out, HKY.out.1, bnd_ok HZ2.out.1, HR.out]
           rw [show (resM (some r) >>= fun r => needM r.2 >>= fun _ => pure r.1) = (needM r.2 >>= fun _ => pure r.1) from rfl, bnd_err EN.out]
           exact ⟨rfl, M4.out.a.ma, M4.out.f⟩)
      | (have M4 := hid (M3.out.wrote (Nat.lt_of_succ_lt SZ.out) (grown_set (grown_set (grown_refl w3 (some w1.heap.size)) 0 (.int .i64 r.1.1)) 1 (.int .i64 r.1.2)))
         have B4 := hid (B3.out.kept (grown_set (grown_set (grown_refl w3 (some w1.heap.size)) 0 (.int .i64 r.1.1)) 1 (.int .i64 r.1.2)) (fun e => by injection e with e; have := SZ.out; omega))
         have T4 := hid (Vl.blk_two T3.out (.int .i64 r.1.1) (.int .i64 r.1.2))
         obtain ⟨t0, t1, g0, g1⟩ := Vl.two_cells T4.out
         obtain ⟨c0, c1, f0, f1⟩ := Vl.two_cells B4.out
         by_cases h0 : r.2 = 0
         · have CN : Hid (∀ W, Calls Tryz.prog 148 #[.int .i64 r.2] W fun e w' => e = .returned (.tuple #[]) ∧ w' = W) := by rw [h0]; exact need_ok
           have EN := hid (needM_0 h0 s2)
           clear h0
           go_wp2_with (go_at_call 148; refine (CN.out _).mono ?_; rintro e w5 ⟨rfl, hw⟩; replace hw := hw.symm; subst hw)
           obtain ⟨z0, z1, _, _⟩ := Vl.two_cells (Vl.blk_two B4.out (.int .i64 r.1.1) (.int .i64 r.1.2))
           refine bodyPost_ret (v := vV r.1) (by simp [vV, results, Tryz.results151, go_sem, z0, z1]) rfl ?_
           rw [exprM_eq, bnd_ok HZ1.out.1, HT.out, HKY.out.1, bnd_ok HZ2.out.1, HR.out]
           rw [show (resM (some r) >>= fun r => needM r.2 >>= fun _ => pure r.1) = (needM r.2 >>= fun _ => pure r.1) from rfl, bnd_ok EN.out]
           exact ⟨rfl, M4.out.two _ _⟩
         · have CN : Hid (∀ W, Calls Tryz.prog 148 #[.int .i64 r.2] W fun e w' => e = .panicked (TrV r.2) ∧ w' = W) := hid (fun W => need_trap r.2 h0 W)
           have EN := hid (needM_1 h0 s2)
           clear h0
           go_wp2_with (go_at_call 148; refine (CN.out _).mono ?_; rintro e w5 ⟨rfl, hw⟩; replace hw := hw.symm; subst hw)
           refine ⟨rfl, ?_⟩
           rw [exprM_eq, bnd_ok HZ1.out.1, HT.out, HKY.out.1, bnd_ok HZ2.out.1, HR.out]
           rw [show (resM (some r) >>= fun r => needM r.2 >>= fun _ => pure r.1) = (needM r.2 >>= fun _ => pure r.1) from rfl, bnd_err EN.out]
           exact ⟨rfl, M4.out.a.ma, M4.out.f⟩)
      | (have M4 := hid (M3.out.grow (grown_alloc (grown_refl w3 none) (.cells #[.int .i64 r.1.1, .int .i64 r.1.2] 115)))
         have B4 := hid (B3.out.alloc (.cells #[.int .i64 r.1.1, .int .i64 r.1.2] 115))
         have T4 := hid (Blk.new w3 115 #[.int .i64 r.1.1, .int .i64 r.1.2])
         obtain ⟨t0, t1, g0, g1⟩ := Vl.two_cells T4.out
         obtain ⟨c0, c1, f0, f1⟩ := Vl.two_cells B4.out
         by_cases h0 : r.2 = 0
         · have CN : Hid (∀ W, Calls Tryz.prog 148 #[.int .i64 r.2] W fun e w' => e = .returned (.tuple #[]) ∧ w' = W) := by rw [h0]; exact need_ok
           have EN := hid (needM_0 h0 s2)
           clear h0
           go_wp2_with (go_at_call 148; refine (CN.out _).mono ?_; rintro e w5 ⟨rfl, hw⟩; replace hw := hw.symm; subst hw)
           obtain ⟨z0, z1, _, _⟩ := Vl.two_cells (Vl.blk_two B4.out (.int .i64 r.1.1) (.int .i64 r.1.2))
           refine bodyPost_ret (v := vV r.1) (by simp [vV, results, Tryz.results151, go_sem, z0, z1]) rfl ?_
           rw [exprM_eq, bnd_ok HZ1.out.1, HT.out, HKY.out.1, bnd_ok HZ2.out.1, HR.out]
           rw [show (resM (some r) >>= fun r => needM r.2 >>= fun _ => pure r.1) = (needM r.2 >>= fun _ => pure r.1) from rfl, bnd_ok EN.out]
           exact ⟨rfl, M4.out.two _ _⟩
         · have CN : Hid (∀ W, Calls Tryz.prog 148 #[.int .i64 r.2] W fun e w' => e = .panicked (TrV r.2) ∧ w' = W) := hid (fun W => need_trap r.2 h0 W)
           have EN := hid (needM_1 h0 s2)
           clear h0
           go_wp2_with (go_at_call 148; refine (CN.out _).mono ?_; rintro e w5 ⟨rfl, hw⟩; replace hw := hw.symm; subst hw)
           refine ⟨rfl, ?_⟩
           rw [exprM_eq, bnd_ok HZ1.out.1, HT.out, HKY.out.1, bnd_ok HZ2.out.1, HR.out]
           rw [show (resM (some r) >>= fun r => needM r.2 >>= fun _ => pure r.1) = (needM r.2 >>= fun _ => pure r.1) from rfl, bnd_err EN.out]
           exact ⟨rfl, M4.out.a.ma, M4.out.f⟩)
end Ip
end Go.Proofs.YtajoncmmdeahnaaGreatDoor
