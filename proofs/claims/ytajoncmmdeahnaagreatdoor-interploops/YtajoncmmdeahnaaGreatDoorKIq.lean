/-
  The interpreter: a call. The interpreter: a statement. The interpreter: a statement without blocks. The interpreter: names told, variables assigned; all statements.
-/
import Derived.Test.YtajoncmmdeahnaaGreatDoorKIj
import Derived.Deep.CutRange
namespace Go.Proofs.YtajoncmmdeahnaaGreatDoor
open Go.RowKit
namespace Ip
section
variable {X : Xm} {E : Env} {d c nm : Nat} {w W W' : World} {x b : Pd} {q qb : Value} {pa : Option Addr} {pcap tb ci mi j : Nat} {ps : List ByteArray} {f : Vm} {s s' : Ms}
end
theorem zero123 (w : World) : (zeroValue 123).run Tryz.prog w = .ok (.agg #[.slice none 0 0, .int .i64 0, .int .i64 0, .string ⟨#[]⟩, .int .i64 0, .slice none 0 0, .string ⟨#[]⟩, .int .i64 0, .slice none 0 0]) w := by kernel_rfl
theorem called_any {X : Xm} {E : Env} {R : Rc} (hE : MeC X E 151 vV R.ex) (hB : MeC X E 61 bU R.bl) : MeC X E 184 vV (calledM E R) := by
  have _ := hE
  have _ := hB
  intro _ _ _ _ _ _ _ _ _ hx
  exact absurd rfl hx
end Ip
end Go.Proofs.YtajoncmmdeahnaaGreatDoor
namespace Go.Proofs.YtajoncmmdeahnaaGreatDoor
open Go.RowKit
namespace Ip
def stmtT (R : Rc) (k d : Nat) (n : Pd) : In Bool :=
  if n.kind = 9 then branchM R d n
  else if n.kind = 10 then loopM R d n k
  else if n.kind = 11 then kidM n 0 (R.ex d) >>= fun v => answerM v >>= fun _ => pure true
  else if n.kind = 7 then kidM n 0 (R.ex d) >>= fun v => defineM n.txt v >>= fun _ => pure false
  else if n.kind = 8 then kidM n 0 (R.ex d) >>= fun v => assignM n.txt v >>= fun _ => pure false
  else if n.kind = 12 then kidM n 0 (R.ex d) >>= fun v => (if trueV v then pure () else trap 2) >>= fun _ => pure false
  else if n.kind = 13 then kidM n 0 (R.ex d) >>= fun _ => pure false
  else pure false
theorem stmtM_eq (E : Env) (R : Rc) (k d : Nat) (n : Pd) : stmtM E R k d n = stepM E n >>= fun _ => stmtT R k d n := rfl
theorem stmtT_9 (R : Rc) (k d : Nat) (n : Pd) (h : n.kind = 9) : stmtT R k d n = branchM R d n := by
  unfold stmtT
  rw [if_pos h]
theorem stmtT_10 (R : Rc) (k d : Nat) (n : Pd) (h : n.kind = 10) : stmtT R k d n = loopM R d n k := by
  unfold stmtT
  rw [if_neg (by omega), if_pos h]
theorem stmtT_11 (R : Rc) (k d : Nat) (n : Pd) (h : n.kind = 11) : stmtT R k d n = (kidM n 0 (R.ex d) >>= fun v => answerM v >>= fun _ => pure true) := by
  unfold stmtT
  rw [if_neg (by omega), if_neg (by omega), if_pos h]
theorem stmtT_7 (R : Rc) (k d : Nat) (n : Pd) (h : n.kind = 7) : stmtT R k d n = (kidM n 0 (R.ex d) >>= fun v => defineM n.txt v >>= fun _ => pure false) := by
  unfold stmtT
  rw [if_neg (by omega), if_neg (by omega), if_neg (by omega), if_pos h]
theorem stmtT_8 (R : Rc) (k d : Nat) (n : Pd) (h : n.kind = 8) : stmtT R k d n = (kidM n 0 (R.ex d) >>= fun v => assignM n.txt v >>= fun _ => pure false) := by
  unfold stmtT
  rw [if_neg (by omega), if_neg (by omega), if_neg (by omega), if_neg (by omega), if_pos h]
theorem stmtT_12 (R : Rc) (k d : Nat) (n : Pd) (h : n.kind = 12) : stmtT R k d n = (kidM n 0 (R.ex d) >>= fun v => (if trueV v then pure () else trap 2) >>= fun _ => pure false) := by
  unfold stmtT
  rw [if_neg (by omega), if_neg (by omega), if_neg (by omega), if_neg (by omega), if_neg (by omega), if_pos h]
theorem stmtT_13 (R : Rc) (k d : Nat) (n : Pd) (h : n.kind = 13) : stmtT R k d n = (kidM n 0 (R.ex d) >>= fun _ => pure false) := by
  unfold stmtT
  rw [if_neg (by omega), if_neg (by omega), if_neg (by omega), if_neg (by omega), if_neg (by omega), if_neg (by omega), if_pos h]
set_option maxRecDepth 100000 in
set_option maxHeartbeats 8000000 in
theorem st_9 {X : Xm} {E : Env} {R : Rc} {k d c nm : Nat} (h149 : MeC X E 149 bU (branchM R)) (x : Pd) (q : Value) (w : World) (st : Ms) (hA : CaA w X E d c nm st) (hk : KsP w (PX X) q x.kids) (hx : stmtM E R k d x st ≠ .error none) (hkd : x.kind = 9) :
    Calls Tryz.prog 108 #[.pointer (some ⟨c, 0, none⟩), ndV x q] w (InP bU X E d c nm w (stmtM E R k d x st)) := by
  have hM0 := Fm.start hA hk
  unfold ndC at hM0
  have M0 := hid hM0
  have HX := hid hx
  have KD := hid hkd
  clear hkd
  unfold ndV
  clear hM0 hx hA hk
  go_enter Tryz.func108, Tryz.ntmps108
  go_wp2_with fail
  generalize w.alloc (Obj.cells #[Value.int IntKind.i64 x.kind, Value.int IntKind.i64 x.ty, Value.string x.txt, Value.int IntKind.i64 x.num, Value.slice none 0 0, Value.string x.nm, Value.int IntKind.i64 x.pl, q] 121) = wa at *
  have D0 := hid (M0.out.grow (grown_drew (grown_refl wa none)))
  obtain ⟨a0, a1, a2⟩ := M0.out.at
  obtain ⟨n0, n1, n2, n3, n4, n5, n6, n7⟩ := M0.out.cells
  go_region_law (go_simp; go_at_call 107; refine (step_any x (q) _ st D0.out.a (bnd_ne HX.out)).mono ?_; intro e w1 hh; rcases InP.cases hh (bnd_ne HX.out) with ⟨n, s1, hz, rfl, hM, hF⟩ | ⟨_, s1, hz, rfl, hA1, hF⟩; (case inl => exact ⟨rfl, by rw [stmtM_eq, bnd_err hz]; exact ⟨rfl, hM, D0.out.f.trans hF⟩⟩); have HZ1 := hid (And.intro hz trivial); have M1 := hid (D0.out.call hA1 hF); have HN1 : Hid (stmtT R k d x s1 ≠ .error none) := hid (by have h := HX.out; rw [stmtM_eq, bnd_ok hz] at h; exact h); clear a0 a1 a2 n0 n1 n2 n3 n4 n5 n6 n7 hz hA1 hF hh; obtain ⟨a0, a1, a2⟩ := M1.out.at; obtain ⟨n0, n1, n2, n3, n4, n5, n6, n7⟩ := M1.out.cells; rw [KD.out] at n0)
  all_goals
    have hT := stmtT_9 R k d x KD.out
    have HN2 : Hid (branchM R d x s1 ≠ .error none) := hid (by have h := HN1.out; rw [hT] at h; exact h)
    go_wp2_with (go_at_call 149; refine Vl.calls_at (args := #[.pointer (some ⟨c, 0, none⟩), ndV x q]) (by unfold ndV; rw [KD.out]) ?_; refine (h149 d x q c nm _ s1 M1.out.a M1.out.k HN2.out).mono ?_; intro e w2 hh; rcases InP.cases hh HN2.out with ⟨n, s2, hz, rfl, hM, hF⟩ | ⟨v, s2, hz, rfl, hA2, hF⟩; (case inl => exact ⟨rfl, by rw [stmtM_eq, bnd_ok HZ1.out.1, hT, show (branchM R d x) s1 = _ from hz]; exact ⟨rfl, hM, M1.out.f.trans hF⟩⟩); have HZ2 := hid (And.intro hT hz); have M2 := hid (M1.out.call hA2 hF); unfold bU; clear a0 a1 a2 n0 n1 n2 n3 n4 n5 n6 n7 hz hA2 hF hh hT)
    go_ret
    rw [stmtM_eq, bnd_ok HZ1.out.1, HZ2.out.1, show (branchM R d x) s1 = _ from HZ2.out.2]
    exact ⟨rfl, M2.out.a, M2.out.f⟩
set_option maxRecDepth 100000 in
set_option maxHeartbeats 8000000 in
theorem st_10 {X : Xm} {E : Env} {R : Rc} {k d c nm : Nat} (h150 : MeC X E 150 bU (fun d x => loopM R d x k)) (x : Pd) (q : Value) (w : World) (st : Ms) (hA : CaA w X E d c nm st) (hk : KsP w (PX X) q x.kids) (hx : stmtM E R k d x st ≠ .error none) (hkd : x.kind = 10) :
    Calls Tryz.prog 108 #[.pointer (some ⟨c, 0, none⟩), ndV x q] w (InP bU X E d c nm w (stmtM E R k d x st)) := by
  have hM0 := Fm.start hA hk
  unfold ndC at hM0
  have M0 := hid hM0
  have HX := hid hx
  have KD := hid hkd
  clear hkd
  unfold ndV
  clear hM0 hx hA hk
  go_enter Tryz.func108, Tryz.ntmps108
  go_wp2_with fail
  generalize w.alloc (Obj.cells #[Value.int IntKind.i64 x.kind, Value.int IntKind.i64 x.ty, Value.string x.txt, Value.int IntKind.i64 x.num, Value.slice none 0 0, Value.string x.nm, Value.int IntKind.i64 x.pl, q] 121) = wa at *
  have D0 := hid (M0.out.grow (grown_drew (grown_refl wa none)))
  obtain ⟨a0, a1, a2⟩ := M0.out.at
  obtain ⟨n0, n1, n2, n3, n4, n5, n6, n7⟩ := M0.out.cells
  go_region_law (go_simp; go_at_call 107; refine (step_any x (q) _ st D0.out.a (bnd_ne HX.out)).mono ?_; intro e w1 hh; rcases InP.cases hh (bnd_ne HX.out) with ⟨n, s1, hz, rfl, hM, hF⟩ | ⟨_, s1, hz, rfl, hA1, hF⟩; (case inl => exact ⟨rfl, by rw [stmtM_eq, bnd_err hz]; exact ⟨rfl, hM, D0.out.f.trans hF⟩⟩); have HZ1 := hid (And.intro hz trivial); have M1 := hid (D0.out.call hA1 hF); have HN1 : Hid (stmtT R k d x s1 ≠ .error none) := hid (by have h := HX.out; rw [stmtM_eq, bnd_ok hz] at h; exact h); clear a0 a1 a2 n0 n1 n2 n3 n4 n5 n6 n7 hz hA1 hF hh; obtain ⟨a0, a1, a2⟩ := M1.out.at; obtain ⟨n0, n1, n2, n3, n4, n5, n6, n7⟩ := M1.out.cells; rw [KD.out] at n0)
  all_goals
    have hT := stmtT_10 R k d x KD.out
    have HN2 : Hid (loopM R d x k s1 ≠ .error none) := hid (by have h := HN1.out; rw [hT] at h; exact h)
    go_wp2_with (go_at_call 150; refine Vl.calls_at (args := #[.pointer (some ⟨c, 0, none⟩), ndV x q]) (by unfold ndV; rw [KD.out]) ?_; refine (h150 d x q c nm _ s1 M1.out.a M1.out.k HN2.out).mono ?_; intro e w2 hh; rcases InP.cases hh HN2.out with ⟨n, s2, hz, rfl, hM, hF⟩ | ⟨v, s2, hz, rfl, hA2, hF⟩; (case inl => exact ⟨rfl, by rw [stmtM_eq, bnd_ok HZ1.out.1, hT, show (loopM R d x k) s1 = _ from hz]; exact ⟨rfl, hM, M1.out.f.trans hF⟩⟩); have HZ2 := hid (And.intro hT hz); have M2 := hid (M1.out.call hA2 hF); unfold bU; clear a0 a1 a2 n0 n1 n2 n3 n4 n5 n6 n7 hz hA2 hF hh hT)
    go_ret
    rw [stmtM_eq, bnd_ok HZ1.out.1, HZ2.out.1, show (loopM R d x k) s1 = _ from HZ2.out.2]
    exact ⟨rfl, M2.out.a, M2.out.f⟩
end Ip
end Go.Proofs.YtajoncmmdeahnaaGreatDoor
namespace Go.Proofs.YtajoncmmdeahnaaGreatDoor
open Go.RowKit
namespace Ip
set_option maxRecDepth 100000 in
set_option maxHeartbeats 8000000 in
theorem st_13 {X : Xm} {E : Env} {R : Rc} {k d c nm : Nat} (hE : MeC X E 151 vV R.ex) (x : Pd) (q : Value) (w : World) (st : Ms) (hA : CaA w X E d c nm st) (hk : KsP w (PX X) q x.kids) (hx : stmtM E R k d x st ≠ .error none) (hkd : x.kind = 13) :
    Calls Tryz.prog 108 #[.pointer (some ⟨c, 0, none⟩), ndV x q] w (InP bU X E d c nm w (stmtM E R k d x st)) := by
  have hM0 := Fm.start hA hk
  unfold ndC at hM0
  have M0 := hid hM0
  have HX := hid hx
  have KD := hid hkd
  have HE := hid hE
  clear hkd hE
  unfold ndV
  clear hM0 hx hA hk
  go_enter Tryz.func108, Tryz.ntmps108
  go_wp2_with fail
  generalize w.alloc (Obj.cells #[Value.int IntKind.i64 x.kind, Value.int IntKind.i64 x.ty, Value.string x.txt, Value.int IntKind.i64 x.num, Value.slice none 0 0, Value.string x.nm, Value.int IntKind.i64 x.pl, q] 121) = wa at *
  have D0 := hid (M0.out.grow (grown_drew (grown_refl wa none)))
  obtain ⟨a0, a1, a2⟩ := M0.out.at
  obtain ⟨n0, n1, n2, n3, n4, n5, n6, n7⟩ := M0.out.cells
  go_region_law (go_simp; go_at_call 107; refine (step_any x (q) _ st D0.out.a (bnd_ne HX.out)).mono ?_; intro e w1 hh; rcases InP.cases hh (bnd_ne HX.out) with ⟨n, s1, hz, rfl, hM, hF⟩ | ⟨_, s1, hz, rfl, hA1, hF⟩; (case inl => exact ⟨rfl, by rw [stmtM_eq, bnd_err hz]; exact ⟨rfl, hM, D0.out.f.trans hF⟩⟩); have HZ1 := hid (And.intro hz trivial); have M1 := hid (D0.out.call hA1 hF); have HN1 : Hid (stmtT R k d x s1 ≠ .error none) := hid (by have h := HX.out; rw [stmtM_eq, bnd_ok hz] at h; exact h); clear a0 a1 a2 n0 n1 n2 n3 n4 n5 n6 n7 hz hA1 hF hh; obtain ⟨a0, a1, a2⟩ := M1.out.at; obtain ⟨n0, n1, n2, n3, n4, n5, n6, n7⟩ := M1.out.cells; rw [KD.out] at n0)
  all_goals
    have hT := stmtT_13 R k d x KD.out
    have HT := hid hT
    have HN2 : Hid (stmtT R k d x s1 ≠ .error none) := HN1
    rw [hT] at HN2
    obtain ⟨y, hy, hky⟩ := kidM_ne (bnd_ne HN2.out)
    obtain ⟨g, cap, qy, hq, hi, hl1, hl2, hg, ⟨k0, k1, k2, k3, k4, k5, k6, k7⟩, hkk⟩ := M1.out.k.kid 0 y hy
    simp only [Nat.mul_zero, Nat.zero_add] at k0 k1 k2 k3 k4 k5 k6 k7
    have KY := hid hkk
    have HKY := hid (And.intro hky trivial)
    have HN3 : Hid (R.ex d y s1 ≠ .error none) := hid (by have h := bnd_ne HN2.out; rw [hky] at h; exact h)
    have HG := hid (cell_lt k0)
    subst hq
    clear hT hkk hky hy hg
    go_wp2_with (go_at_call 151; refine (HE.out d y qy c nm _ s1 M1.out.a KY.out HN3.out).mono ?_; intro e w2 hh; rcases InP.cases hh HN3.out with ⟨n, s9, hz, rfl, hM, hF⟩ | ⟨v, s2, hz, rfl, hA2, hF⟩; (case inl => exact ⟨rfl, by rw [stmtM_eq, bnd_ok HZ1.out.1, HT.out, HKY.out.1, bnd_err hz]; exact ⟨rfl, hM, M1.out.f.trans hF⟩⟩); have HZ2 := hid (And.intro hz trivial); have M2 := hid (M1.out.call hA2 hF); clear a0 a1 a2 n0 n1 n2 n3 n4 n5 n6 n7 hz hA2 hF hh k0 k1 k2 k3 k4 k5 k6 k7; unfold vV)
    go_ret
    rw [stmtM_eq, bnd_ok HZ1.out.1, HT.out, HKY.out.1, bnd_ok HZ2.out.1]
    exact ⟨rfl, M2.out.a, M2.out.f⟩
set_option maxRecDepth 100000 in
set_option maxHeartbeats 8000000 in
theorem st_12 {X : Xm} {E : Env} {R : Rc} {k d c nm : Nat} (hE : MeC X E 151 vV R.ex) (x : Pd) (q : Value) (w : World) (st : Ms) (hA : CaA w X E d c nm st) (hk : KsP w (PX X) q x.kids) (hx : stmtM E R k d x st ≠ .error none) (hkd : x.kind = 12) :
    Calls Tryz.prog 108 #[.pointer (some ⟨c, 0, none⟩), ndV x q] w (InP bU X E d c nm w (stmtM E R k d x st)) := by
  have hM0 := Fm.start hA hk
  unfold ndC at hM0
  have M0 := hid hM0
  have HX := hid hx
  have KD := hid hkd
  have HE := hid hE
  clear hkd hE
  unfold ndV
  clear hM0 hx hA hk
  go_enter Tryz.func108, Tryz.ntmps108
  go_wp2_with fail
  generalize w.alloc (Obj.cells #[Value.int IntKind.i64 x.kind, Value.int IntKind.i64 x.ty, Value.string x.txt, Value.int IntKind.i64 x.num, Value.slice none 0 0, Value.string x.nm, Value.int IntKind.i64 x.pl, q] 121) = wa at *
  have D0 := hid (M0.out.grow (grown_drew (grown_refl wa none)))
  obtain ⟨a0, a1, a2⟩ := M0.out.at
  obtain ⟨n0, n1, n2, n3, n4, n5, n6, n7⟩ := M0.out.cells
  go_region_law (go_simp; go_at_call 107; refine (step_any x (q) _ st D0.out.a (bnd_ne HX.out)).mono ?_; intro e w1 hh; rcases InP.cases hh (bnd_ne HX.out) with ⟨n, s1, hz, rfl, hM, hF⟩ | ⟨_, s1, hz, rfl, hA1, hF⟩; (case inl => exact ⟨rfl, by rw [stmtM_eq, bnd_err hz]; exact ⟨rfl, hM, D0.out.f.trans hF⟩⟩); have HZ1 := hid (And.intro hz trivial); have M1 := hid (D0.out.call hA1 hF); have HN1 : Hid (stmtT R k d x s1 ≠ .error none) := hid (by have h := HX.out; rw [stmtM_eq, bnd_ok hz] at h; exact h); clear a0 a1 a2 n0 n1 n2 n3 n4 n5 n6 n7 hz hA1 hF hh; obtain ⟨a0, a1, a2⟩ := M1.out.at; obtain ⟨n0, n1, n2, n3, n4, n5, n6, n7⟩ := M1.out.cells; rw [KD.out] at n0)
  all_goals
    have hT := stmtT_12 R k d x KD.out
    have HT := hid hT
    have HN2 : Hid (stmtT R k d x s1 ≠ .error none) := HN1
    rw [hT] at HN2
    obtain ⟨y, hy, hky⟩ := kidM_ne (bnd_ne HN2.out)
    obtain ⟨g, cap, qy, hq, hi, hl1, hl2, hg, ⟨k0, k1, k2, k3, k4, k5, k6, k7⟩, hkk⟩ := M1.out.k.kid 0 y hy
    simp only [Nat.mul_zero, Nat.zero_add] at k0 k1 k2 k3 k4 k5 k6 k7
    have KY := hid hkk
    have HKY := hid (And.intro hky trivial)
    have HN3 : Hid (R.ex d y s1 ≠ .error none) := hid (by have h := bnd_ne HN2.out; rw [hky] at h; exact h)
    have HG := hid (cell_lt k0)
    subst hq
    clear hT hkk hky hy hg
    go_wp2_with (go_at_call 151; refine (HE.out d y qy c nm _ s1 M1.out.a KY.out HN3.out).mono ?_; intro e w2 hh; rcases InP.cases hh HN3.out with ⟨n, s9, hz, rfl, hM, hF⟩ | ⟨v, s2, hz, rfl, hA2, hF⟩; (case inl => exact ⟨rfl, by rw [stmtM_eq, bnd_ok HZ1.out.1, HT.out, HKY.out.1, bnd_err hz]; exact ⟨rfl, hM, M1.out.f.trans hF⟩⟩); have HZ2 := hid (And.intro hz trivial); have M2 := hid (M1.out.call hA2 hF); clear a0 a1 a2 n0 n1 n2 n3 n4 n5 n6 n7 hz hA2 hF hh k0 k1 k2 k3 k4 k5 k6 k7; skip)
    cases ht : trueV v with
    | true =>
      have TC : Hid (∀ W, Calls Tryz.prog 153 #[vV v] W (Vl.GrP (.bool true) W)) := hid (fun W => by have h := trueC v W; rw [ht] at h; exact h)
      have HTT := hid ht
      clear ht
      go_wp2_with (go_at_call 153; refine (TC.out _).mono ?_; rintro e w3 ⟨rfl, hg⟩; have M3 := hid (M2.out.grow hg); clear hg)
      go_ret
      rw [stmtM_eq, bnd_ok HZ1.out.1, HT.out, HKY.out.1, bnd_ok HZ2.out.1, HTT.out]
      exact ⟨rfl, M3.out.a, M3.out.f⟩
    | false =>
      have TC : Hid (∀ W, Calls Tryz.prog 153 #[vV v] W (Vl.GrP (.bool false) W)) := hid (fun W => by have h := trueC v W; rw [ht] at h; exact h)
      have CN : Hid (∀ W, Calls Tryz.prog 148 #[.int .i64 (2 : Nat)] W fun e w' => e = .panicked (TrV 2) ∧ w' = W) := hid (fun W => need_trap 2 (by decide) W)
      have HTT := hid ht
      clear ht
      go_wp2_with (first
        | (go_at_call 153; refine (TC.out _).mono ?_; rintro e w3 ⟨rfl, hg⟩; have M3 := hid (M2.out.grow hg); clear hg)
        | (go_at_call 148; refine (CN.out _).mono ?_; rintro e w5 ⟨rfl, hw⟩; replace hw := hw.symm; subst hw))
      refine ⟨rfl, ?_⟩
      rw [stmtM_eq, bnd_ok HZ1.out.1, HT.out, HKY.out.1, bnd_ok HZ2.out.1, HTT.out]
      exact ⟨rfl, M3.out.a.ma, M3.out.f⟩
theorem Fm.answer {X : Xm} {E : Env} {d c nm : Nat} {w0 w : World} {x : Pd} {q : Value} {st : Ms} (h : Fm X E d c nm w0 x q w st) (v : V) : CaA ((w.setCell ⟨c, 3, none⟩ (.int .i64 v.1)).setCell ⟨c, 4, none⟩ (.int .i64 v.2)) X E d c nm { st with ans := v } ∧ FrM X c nm w0 ((w.setCell ⟨c, 3, none⟩ (.int .i64 v.1)).setCell ⟨c, 4, none⟩ (.int .i64 v.2)) := by
  have G : w.grownBy ((w.setCell ⟨c, 3, none⟩ (.int .i64 v.1)).setCell ⟨c, 4, none⟩ (.int .i64 v.2)) (some c) := grown_set (grown_set (grown_refl w (some c)) 3 _) 4 _
  have hC := h.a.ca
  have hM := h.a.ma.keptR G hC.c
  have B2 : Blk ((w.setCell ⟨c, 3, none⟩ (.int .i64 v.1)).setCell ⟨c, 4, none⟩ (.int .i64 v.2)) c 129 #[.pointer (some ⟨X.m, 0, none⟩), .int .i64 d, .map (some nm), .int .i64 v.1, .int .i64 v.2] := by simpa using (hC.blk.set 3 (.int .i64 v.1)).set 4 (.int .i64 v.2)
  exact ⟨⟨⟨hM.ok, hM.hi, hM.blk, hM.bod, hM.glo, hM.vis, hM.le, hM.fu⟩, ⟨B2, hC.nam.kept G (fun e => hC.ne (Option.some.inj e).symm), hC.c, hC.nm, hC.d⟩⟩, h.f.trans (FrM.of G (fun r e => by injection e with e; exact Or.inr (Or.inr (Or.inr (Or.inl e.symm)))))⟩
set_option maxRecDepth 100000 in
set_option maxHeartbeats 8000000 in
theorem st_11 {X : Xm} {E : Env} {R : Rc} {k d c nm : Nat} (hE : MeC X E 151 vV R.ex) (x : Pd) (q : Value) (w : World) (st : Ms) (hA : CaA w X E d c nm st) (hk : KsP w (PX X) q x.kids) (hx : stmtM E R k d x st ≠ .error none) (hkd : x.kind = 11) :
    Calls Tryz.prog 108 #[.pointer (some ⟨c, 0, none⟩), ndV x q] w (InP bU X E d c nm w (stmtM E R k d x st)) := by
  have hM0 := Fm.start hA hk
  unfold ndC at hM0
  have M0 := hid hM0
  have HX := hid hx
  have KD := hid hkd
  have HE := hid hE
  clear hkd hE
  unfold ndV
  clear hM0 hx hA hk
  go_enter Tryz.func108, Tryz.ntmps108
  go_wp2_with fail
  generalize w.alloc (Obj.cells #[Value.int IntKind.i64 x.kind, Value.int IntKind.i64 x.ty, Value.string x.txt, Value.int IntKind.i64 x.num, Value.slice none 0 0, Value.string x.nm, Value.int IntKind.i64 x.pl, q] 121) = wa at *
  have D0 := hid (M0.out.grow (grown_drew (grown_refl wa none)))
  obtain ⟨a0, a1, a2⟩ := M0.out.at
  obtain ⟨n0, n1, n2, n3, n4, n5, n6, n7⟩ := M0.out.cells
  go_region_law (go_simp; go_at_call 107; refine (step_any x (q) _ st D0.out.a (bnd_ne HX.out)).mono ?_; intro e w1 hh; rcases InP.cases hh (bnd_ne HX.out) with ⟨n, s1, hz, rfl, hM, hF⟩ | ⟨_, s1, hz, rfl, hA1, hF⟩; (case inl => exact ⟨rfl, by rw [stmtM_eq, bnd_err hz]; exact ⟨rfl, hM, D0.out.f.trans hF⟩⟩); have HZ1 := hid (And.intro hz trivial); have M1 := hid (D0.out.call hA1 hF); have HN1 : Hid (stmtT R k d x s1 ≠ .error none) := hid (by have h := HX.out; rw [stmtM_eq, bnd_ok hz] at h; exact h); clear a0 a1 a2 n0 n1 n2 n3 n4 n5 n6 n7 hz hA1 hF hh; obtain ⟨a0, a1, a2⟩ := M1.out.at; obtain ⟨n0, n1, n2, n3, n4, n5, n6, n7⟩ := M1.out.cells; rw [KD.out] at n0)
  all_goals
    have hT := stmtT_11 R k d x KD.out
    have HT := hid hT
    have HN2 : Hid (stmtT R k d x s1 ≠ .error none) := HN1
    rw [hT] at HN2
    obtain ⟨y, hy, hky⟩ := kidM_ne (bnd_ne HN2.out)
    obtain ⟨g, cap, qy, hq, hi, hl1, hl2, hg, ⟨k0, k1, k2, k3, k4, k5, k6, k7⟩, hkk⟩ := M1.out.k.kid 0 y hy
    simp only [Nat.mul_zero, Nat.zero_add] at k0 k1 k2 k3 k4 k5 k6 k7
    have KY := hid hkk
    have HKY := hid (And.intro hky trivial)
    have HN3 : Hid (R.ex d y s1 ≠ .error none) := hid (by have h := bnd_ne HN2.out; rw [hky] at h; exact h)
    have HG := hid (cell_lt k0)
    subst hq
    clear hT hkk hky hy hg
    go_wp2_with (go_at_call 151; refine (HE.out d y qy c nm _ s1 M1.out.a KY.out HN3.out).mono ?_; intro e w2 hh; rcases InP.cases hh HN3.out with ⟨n, s9, hz, rfl, hM, hF⟩ | ⟨v, s2, hz, rfl, hA2, hF⟩; (case inl => exact ⟨rfl, by rw [stmtM_eq, bnd_ok HZ1.out.1, HT.out, HKY.out.1, bnd_err hz]; exact ⟨rfl, hM, M1.out.f.trans hF⟩⟩); have HZ2 := hid (And.intro hz trivial); have M2 := hid (M1.out.call hA2 hF); clear a0 a1 a2 n0 n1 n2 n3 n4 n5 n6 n7 hz hA2 hF hh k0 k1 k2 k3 k4 k5 k6 k7; have c3 := M2.out.a.ca.blk.cell 3; have c4 := M2.out.a.ca.blk.cell 4; have f3 := M2.out.a.ca.blk.frozen 3; have f4 := M2.out.a.ca.blk.frozen 4; simp at c3 c4; unfold vV)
    go_ret
    rw [stmtM_eq, bnd_ok HZ1.out.1, HT.out, HKY.out.1, bnd_ok HZ2.out.1]
    exact ⟨rfl, M2.out.answer v⟩
end Ip
end Go.Proofs.YtajoncmmdeahnaaGreatDoor
namespace Go.Proofs.YtajoncmmdeahnaaGreatDoor
open Go.RowKit
namespace Ip
theorem defineM_ne {s : ByteArray} {v : V} {st : Ms} (h : defineM s v st ≠ .error none) : ¬ 1000000 < s.size ∧ st.wr < 1000000 ∧ defineM s v st = .ok ((), { st with nam := updV st.nam s v, wr := st.wr + 1 }) := by
  unfold defineM at h ⊢
  by_cases h1 : 1000000 < s.size ∨ 1000000 ≤ st.wr
  · rw [if_pos h1] at h
    exact absurd rfl h
  · exact ⟨fun h2 => h1 (Or.inl h2), Nat.lt_of_not_le (fun h2 => h1 (Or.inr h2)), if_neg h1⟩
theorem CaA.define {X : Xm} {E : Env} {d c nm : Nat} {w : World} {st : Ms} (hA : CaA w X E d c nm st) {s : ByteArray} {v : V} (h : defineM s v st ≠ .error none) : ∃ w', (Instr.mapUpdate 78 (.map (some nm)) (.string s) (.agg #[.int .i64 v.1, .int .i64 v.2])).run Tryz.prog w = .ok () w' ∧ CaA w' X E d c nm { st with nam := updV st.nam s v, wr := st.wr + 1 } ∧ FrM X c nm w w' := by
  obtain ⟨h1, h2, h3⟩ := defineM_ne h
  obtain ⟨w', hr, hm, hg⟩ := hA.ca.nam.store Tryz.underlying78 (by unfold maxLen; omega) s (max1 h1) (vV v)
  exact ⟨w', hr, hA.setNam hg hm⟩
set_option maxRecDepth 100000 in
set_option maxHeartbeats 8000000 in
theorem st_7 {X : Xm} {E : Env} {R : Rc} {k d c nm : Nat} (hE : MeC X E 151 vV R.ex) (x : Pd) (q : Value) (w : World) (st : Ms) (hA : CaA w X E d c nm st) (hk : KsP w (PX X) q x.kids) (hx : stmtM E R k d x st ≠ .error none) (hkd : x.kind = 7) :
    Calls Tryz.prog 108 #[.pointer (some ⟨c, 0, none⟩), ndV x q] w (InP bU X E d c nm w (stmtM E R k d x st)) := by
  have hM0 := Fm.start hA hk
  unfold ndC at hM0
  have M0 := hid hM0
  have HX := hid hx
  have KD := hid hkd
  have HE := hid hE
  clear hkd hE
  unfold ndV
  clear hM0 hx hA hk
  go_enter Tryz.func108, Tryz.ntmps108
  go_wp2_with fail
  generalize w.alloc (Obj.cells #[Value.int IntKind.i64 x.kind, Value.int IntKind.i64 x.ty, Value.string x.txt, Value.int IntKind.i64 x.num, Value.slice none 0 0, Value.string x.nm, Value.int IntKind.i64 x.pl, q] 121) = wa at *
  have D0 := hid (M0.out.grow (grown_drew (grown_refl wa none)))
  obtain ⟨a0, a1, a2⟩ := M0.out.at
  obtain ⟨n0, n1, n2, n3, n4, n5, n6, n7⟩ := M0.out.cells
  go_region_law (go_simp; go_at_call 107; refine (step_any x (q) _ st D0.out.a (bnd_ne HX.out)).mono ?_; intro e w1 hh; rcases InP.cases hh (bnd_ne HX.out) with ⟨n, s1, hz, rfl, hM, hF⟩ | ⟨_, s1, hz, rfl, hA1, hF⟩; (case inl => exact ⟨rfl, by rw [stmtM_eq, bnd_err hz]; exact ⟨rfl, hM, D0.out.f.trans hF⟩⟩); have HZ1 := hid (And.intro hz trivial); have M1 := hid (D0.out.call hA1 hF); have HN1 : Hid (stmtT R k d x s1 ≠ .error none) := hid (by have h := HX.out; rw [stmtM_eq, bnd_ok hz] at h; exact h); clear a0 a1 a2 n0 n1 n2 n3 n4 n5 n6 n7 hz hA1 hF hh; obtain ⟨a0, a1, a2⟩ := M1.out.at; obtain ⟨n0, n1, n2, n3, n4, n5, n6, n7⟩ := M1.out.cells; rw [KD.out] at n0)
  all_goals
    have hT := stmtT_7 R k d x KD.out
    have HT := hid hT
    have HN2 : Hid (stmtT R k d x s1 ≠ .error none) := HN1
    rw [hT] at HN2
    obtain ⟨y, hy, hky⟩ := kidM_ne (bnd_ne HN2.out)
    obtain ⟨g, cap, qy, hq, hi, hl1, hl2, hg, ⟨k0, k1, k2, k3, k4, k5, k6, k7⟩, hkk⟩ := M1.out.k.kid 0 y hy
    simp only [Nat.mul_zero, Nat.zero_add] at k0 k1 k2 k3 k4 k5 k6 k7
    have KY := hid hkk
    have HKY := hid (And.intro hky trivial)
    have HN3 : Hid (R.ex d y s1 ≠ .error none) := hid (by have h := bnd_ne HN2.out; rw [hky] at h; exact h)
    have HG := hid (cell_lt k0)
    subst hq
    clear hT hkk hky hy hg
    have MD := hid (M1.out.grow (grown_drew (grown_refl w1 none)))
    have KDD := hid (KsP.fr KY.out (Kp.of_none _ (grown_drew (grown_refl w1 none))))
    clear KY
    go_wp2_with fail
    go_region_law (go_simp; go_at_call 151; refine (HE.out d y qy c nm _ s1 MD.out.a KDD.out HN3.out).mono ?_; intro e w2 hh; rcases InP.cases hh HN3.out with ⟨n, s9, hz, rfl, hM, hF⟩ | ⟨v, s2, hz, rfl, hA2, hF⟩; (case inl => exact ⟨rfl, by rw [stmtM_eq, bnd_ok HZ1.out.1, HT.out, HKY.out.1, bnd_err hz]; exact ⟨rfl, hM, MD.out.f.trans hF⟩⟩); have HZ2 := hid (And.intro hz trivial); have M2 := hid (MD.out.call hA2 hF); clear a0 a1 a2 n0 n1 n2 n3 n4 n5 n6 n7 hz hA2 hF hh k0 k1 k2 k3 k4 k5 k6 k7; have a2 := M2.out.at.2.2; have n2 := M2.out.cells.2.2.1; have HN4 : Hid (defineM x.txt v s2 ≠ .error none) := hid (bnd_ne (by have h := HN2.out; rw [HKY.out.1, bnd_ok HZ2.out.1] at h; exact h)); obtain ⟨w3, hrun, hA3, hF3⟩ := M2.out.a.define HN4.out; have RS := hid (And.intro hA3 (M2.out.f.trans hF3)); have HD := hid (defineM_ne HN4.out).2.2; clear hA3 hF3; unfold vV)
    all_goals
      (try go_wp2_with fail)
      go_ret
      rw [stmtM_eq, bnd_ok HZ1.out.1, HT.out, HKY.out.1, bnd_ok HZ2.out.1, bnd_ok HD.out]
      exact ⟨rfl, RS.out⟩
set_option maxRecDepth 100000 in
set_option maxHeartbeats 8000000 in
theorem st_8 {X : Xm} {E : Env} {R : Rc} {k d c nm : Nat} (hE : MeC X E 151 vV R.ex) (x : Pd) (q : Value) (w : World) (st : Ms) (hA : CaA w X E d c nm st) (hk : KsP w (PX X) q x.kids) (hx : stmtM E R k d x st ≠ .error none) (hkd : x.kind = 8) :
    Calls Tryz.prog 108 #[.pointer (some ⟨c, 0, none⟩), ndV x q] w (InP bU X E d c nm w (stmtM E R k d x st)) := by
  have hM0 := Fm.start hA hk
  unfold ndC at hM0
  have M0 := hid hM0
  have HX := hid hx
  have KD := hid hkd
  have HE := hid hE
  clear hkd hE
  unfold ndV
  clear hM0 hx hA hk
  go_enter Tryz.func108, Tryz.ntmps108
  go_wp2_with fail
  generalize w.alloc (Obj.cells #[Value.int IntKind.i64 x.kind, Value.int IntKind.i64 x.ty, Value.string x.txt, Value.int IntKind.i64 x.num, Value.slice none 0 0, Value.string x.nm, Value.int IntKind.i64 x.pl, q] 121) = wa at *
  have D0 := hid (M0.out.grow (grown_drew (grown_refl wa none)))
  obtain ⟨a0, a1, a2⟩ := M0.out.at
  obtain ⟨n0, n1, n2, n3, n4, n5, n6, n7⟩ := M0.out.cells
  go_region_law (go_simp; go_at_call 107; refine (step_any x (q) _ st D0.out.a (bnd_ne HX.out)).mono ?_; intro e w1 hh; rcases InP.cases hh (bnd_ne HX.out) with ⟨n, s1, hz, rfl, hM, hF⟩ | ⟨_, s1, hz, rfl, hA1, hF⟩; (case inl => exact ⟨rfl, by rw [stmtM_eq, bnd_err hz]; exact ⟨rfl, hM, D0.out.f.trans hF⟩⟩); have HZ1 := hid (And.intro hz trivial); have M1 := hid (D0.out.call hA1 hF); have HN1 : Hid (stmtT R k d x s1 ≠ .error none) := hid (by have h := HX.out; rw [stmtM_eq, bnd_ok hz] at h; exact h); clear a0 a1 a2 n0 n1 n2 n3 n4 n5 n6 n7 hz hA1 hF hh; obtain ⟨a0, a1, a2⟩ := M1.out.at; obtain ⟨n0, n1, n2, n3, n4, n5, n6, n7⟩ := M1.out.cells; rw [KD.out] at n0)
  all_goals
    have hT := stmtT_8 R k d x KD.out
    have HT := hid hT
    have HN2 : Hid (stmtT R k d x s1 ≠ .error none) := HN1
    rw [hT] at HN2
    obtain ⟨y, hy, hky⟩ := kidM_ne (bnd_ne HN2.out)
    obtain ⟨g, cap, qy, hq, hi, hl1, hl2, hg, ⟨k0, k1, k2, k3, k4, k5, k6, k7⟩, hkk⟩ := M1.out.k.kid 0 y hy
    simp only [Nat.mul_zero, Nat.zero_add] at k0 k1 k2 k3 k4 k5 k6 k7
    have KY := hid hkk
    have HKY := hid (And.intro hky trivial)
    have HN3 : Hid (R.ex d y s1 ≠ .error none) := hid (by have h := bnd_ne HN2.out; rw [hky] at h; exact h)
    have HG := hid (cell_lt k0)
    subst hq
    clear hT hkk hky hy hg
    have MD := hid (M1.out.grow (grown_drew (grown_refl w1 none)))
    have KDD := hid (KsP.fr KY.out (Kp.of_none _ (grown_drew (grown_refl w1 none))))
    clear KY
    go_wp2_with fail
    go_region_law (first
      | (go_simp; go_at_call 151; refine (HE.out d y qy c nm _ s1 MD.out.a KDD.out HN3.out).mono ?_; intro e w2 hh; rcases InP.cases hh HN3.out with ⟨n, s9, hz, rfl, hM, hF⟩ | ⟨v, s2, hz, rfl, hA2, hF⟩; (case inl => exact ⟨rfl, by rw [stmtM_eq, bnd_ok HZ1.out.1, HT.out, HKY.out.1, bnd_err hz]; exact ⟨rfl, hM, MD.out.f.trans hF⟩⟩); have HZ2 := hid (And.intro hz trivial); have M2 := hid (MD.out.call hA2 hF); clear a0 a1 a2 n0 n1 n2 n3 n4 n5 n6 n7 hz hA2 hF hh k0 k1 k2 k3 k4 k5 k6 k7; have n2 := M2.out.cells.2.2.1; have HN4 : Hid (assignM x.txt v s2 ≠ .error none) := hid (bnd_ne (by have h := HN2.out; rw [HKY.out.1, bnd_ok HZ2.out.1] at h; exact h)))
      | (go_simp; go_at_call 152; refine (assign_any x.txt v _ s2 M2.out.a HN4.out).mono ?_; intro e w3 hh; rcases InP.cases hh HN4.out with ⟨n, s9, hz, rfl, hM, hF⟩ | ⟨_, s3, hz, rfl, hA3, hF⟩; (case inl => exact ⟨rfl, by rw [stmtM_eq, bnd_ok HZ1.out.1, HT.out, HKY.out.1, bnd_ok HZ2.out.1, bnd_err hz]; exact ⟨rfl, hM, M2.out.f.trans hF⟩⟩); have RS := hid (And.intro hA3 (M2.out.f.trans hF)); have HD := hid (And.intro hz trivial); clear hz hA3 hF hh))
    all_goals
      (try go_wp2_with fail)
      go_ret
      rw [stmtM_eq, bnd_ok HZ1.out.1, HT.out, HKY.out.1, bnd_ok HZ2.out.1, bnd_ok HD.out.1]
      exact ⟨rfl, RS.out⟩
theorem stmtT_o (R : Rc) (k d : Nat) (n : Pd) (h : ¬ (n.kind = 9 ∨ n.kind = 10 ∨ n.kind = 11 ∨ n.kind = 7 ∨ n.kind = 8 ∨ n.kind = 12 ∨ n.kind = 13)) : stmtT R k d n = pure false := by
  unfold stmtT
  rw [if_neg (by omega), if_neg (by omega), if_neg (by omega), if_neg (by omega), if_neg (by omega), if_neg (by omega), if_neg (by omega)]
set_option maxRecDepth 100000 in
set_option maxHeartbeats 8000000 in
theorem st_o {X : Xm} {E : Env} {R : Rc} {k d c nm : Nat} (x : Pd) (q : Value) (w : World) (st : Ms) (hA : CaA w X E d c nm st) (hk : KsP w (PX X) q x.kids) (hx : stmtM E R k d x st ≠ .error none) (hkd : ¬ (x.kind = 9 ∨ x.kind = 10 ∨ x.kind = 11 ∨ x.kind = 7 ∨ x.kind = 8 ∨ x.kind = 12 ∨ x.kind = 13)) :
    Calls Tryz.prog 108 #[.pointer (some ⟨c, 0, none⟩), ndV x q] w (InP bU X E d c nm w (stmtM E R k d x st)) := by
  have hM0 := Fm.start hA hk
  unfold ndC at hM0
  have M0 := hid hM0
  have HX := hid hx
  have KN := hid hkd
  have KE : Hid ((x.kind == 9) = false ∧ (x.kind == 10) = false ∧ (x.kind == 11) = false ∧ (x.kind == 7) = false ∧ (x.kind == 8) = false ∧ (x.kind == 12) = false ∧ (x.kind == 13) = false) := hid (by simp only [beq_eq_false_iff_ne]; omega)
  clear hkd
  unfold ndV
  clear hM0 hx hA hk
  go_enter Tryz.func108, Tryz.ntmps108
  go_wp2_with fail
  generalize w.alloc (Obj.cells #[Value.int IntKind.i64 x.kind, Value.int IntKind.i64 x.ty, Value.string x.txt, Value.int IntKind.i64 x.num, Value.slice none 0 0, Value.string x.nm, Value.int IntKind.i64 x.pl, q] 121) = wa at *
  have D0 := hid (M0.out.grow (grown_drew (grown_refl wa none)))
  obtain ⟨a0, a1, a2⟩ := M0.out.at
  obtain ⟨n0, n1, n2, n3, n4, n5, n6, n7⟩ := M0.out.cells
  go_region_law (go_simp; go_at_call 107; refine (step_any x (q) _ st D0.out.a (bnd_ne HX.out)).mono ?_; intro e w1 hh; rcases InP.cases hh (bnd_ne HX.out) with ⟨n, s1, hz, rfl, hM, hF⟩ | ⟨_, s1, hz, rfl, hA1, hF⟩; (case inl => exact ⟨rfl, by rw [stmtM_eq, bnd_err hz]; exact ⟨rfl, hM, D0.out.f.trans hF⟩⟩); have HZ1 := hid (And.intro hz trivial); have M1 := hid (D0.out.call hA1 hF); have HN1 : Hid (stmtT R k d x s1 ≠ .error none) := hid (by have h := HX.out; rw [stmtM_eq, bnd_ok hz] at h; exact h); clear a0 a1 a2 n0 n1 n2 n3 n4 n5 n6 n7 hz hA1 hF hh; obtain ⟨a0, a1, a2⟩ := M1.out.at; obtain ⟨n0, n1, n2, n3, n4, n5, n6, n7⟩ := M1.out.cells)
  all_goals
    have HT := hid (stmtT_o R k d x KN.out)
    obtain ⟨e1, e2, e3, e4, e5, e6, e7⟩ := KE.out
    go_wp2
    go_ret
    rw [stmtM_eq, bnd_ok HZ1.out.1, HT.out]
    exact ⟨rfl, M1.out.a, M1.out.f⟩
theorem statement_any {X : Xm} {E : Env} {R : Rc} {k : Nat} (hE : MeC X E 151 vV R.ex) (hB : MeC X E 61 bU R.bl) : MeC X E 108 bU (stmtM E R k) := by
  intro d x q c nm w st hA hk hx
  by_cases h9 : x.kind = 9
  · exact st_9 (branch_any hE hB) x q w st hA hk hx h9
  by_cases h10 : x.kind = 10
  · exact st_10 (loop_any hE hB) x q w st hA hk hx h10
  by_cases h11 : x.kind = 11
  · exact st_11 hE x q w st hA hk hx h11
  by_cases h7 : x.kind = 7
  · exact st_7 hE x q w st hA hk hx h7
  by_cases h8 : x.kind = 8
  · exact st_8 hE x q w st hA hk hx h8
  by_cases h12 : x.kind = 12
  · exact st_12 hE x q w st hA hk hx h12
  by_cases h13 : x.kind = 13
  · exact st_13 hE x q w st hA hk hx h13
  exact st_o x q w st hA hk hx (by omega)
end Ip
end Go.Proofs.YtajoncmmdeahnaaGreatDoor
