/-
  The checker over trees: a block; all that call themselves. The checker over trees: a parameter. The checker: a number without its sign. The checker over trees: a global's literal. The checker over trees: a global. The checker: whether a block ends in a return on each way. The checker: whether it looks at a test is kept by all that looks at what stands below.
-/
import Derived.Test.YtajoncmmdeahnaaGreatDoorKCl6
namespace Go.Proofs.YtajoncmmdeahnaaGreatDoor
open Go.RowKit
namespace Ck
def blockT (F : Fn) (k : Nat) (R : Rc) (n : Nd) (l : Nat) : Ck Nd := mapI (fun _ => statementC F k R) 0 n.kids >>= fun ks => forgetC l >>= fun _ => doneC (withKids n ks) >>= fun _ => pure (withKids n ks)
theorem block_eq (F : Fn) (k : Nat) (R : Rc) (n : Nd) (st : Cs) (h : n.kind = 6) : blockF F k R n st = blockT F k R n st.pass.length st := by
  unfold blockF blockT
  rw [if_neg (fun hh => hh h), ← mapC_I]
theorem block_not (F : Fn) (k : Nat) (R : Rc) (n : Nd) (st : Cs) (h : n.kind ≠ 6) : blockF F k R n st = .error (some 125) := by
  unfold blockF
  rw [if_pos h]
set_option maxRecDepth 100000 in
set_option maxHeartbeats 2000000 in
theorem block_any {X : Xc} {F : Fn} {k : Nat} {R : Rc} (hS : ElC X F 180 (statementC F k R)) : ElC X F 139 (blockF F k R) := by
  intro n g o lo hi cs w st hC hn p1 p2 p3 hB hx
  have HP := hid (Pl.mk p1 p2 p3)
  have N0 := NS.start hC hn hB
  obtain ⟨p, c, c0, c1, c2, c3, c4, hk, hf⟩ := N0.cells
  by_cases hkd : n.kind ≠ 6
  · rw [block_not F k R n st hkd]
    have C97 : Hid (∀ W, Calls Tryz.prog 97 #[.int .i64 (125 : Nat)] W fun e w' => e = .panicked (RjV 125) ∧ w' = W) := fun W => reject_any 125 W
    have e1 : (n.kind == 6) = false := by rw [beq_eq_false_iff_ne]; exact hkd
    generalize n.kind = kd at *
    clear hk hx hC hn hB N0 hf c1 c2 c3 c4 hS
    go_enter Tryz.func139, Tryz.ntmps139
    go_wp2_with (go_at_call 97; refine (C97.out _).mono ?_; rintro e w2 ⟨rfl, hw⟩; replace hw := hw.symm; subst hw; clear C97)
    exact ⟨rfl, rfl, FrN.refl _ _ _ _ _ _⟩
  replace hkd : n.kind = 6 := Decidable.of_not_not hkd
  rw [block_eq F k R n st hkd] at hx ⊢
  have HX := hid (bnd_ne hx)
  have HXX := hid hx
  have L0 := hid (LH.start (φ := fun _ => statementC F k R) N0 hk c0 c1 c2 c3 c4)
  have HS := hid hS
  have HKD := hid (And.intro hkd trivial)
  obtain ⟨L, hL⟩ : ∃ L, n.kids.length = L := ⟨_, rfl⟩
  rw [hL] at L0 c4 hk
  have Lmax := ksI_len hk
  rw [hkd] at c0
  obtain ⟨pv, hR⟩ := hC
  obtain ⟨pa, cap, rfl⟩ := hR.form
  have z2 := hR.blk.cell 2
  simp at z2
  clear hx hn hB N0 hk hf hS c1 c2 c3 hL hR hkd
  generalize hPL : st.pass.length = pl at *
  go_enter Tryz.func139, Tryz.ntmps139
  go_wp2
  go_loopw [22] (fun i wr => ∃ (j : Nat) (ys : List Nd) (s : Cs), i = .int .i64 j ∧ LH X F g o lo hi w n p c L (fun _ => statementC F k R) st j ys s wr) (fun i _ => L - (intOf i).toNat)
  case atStart => exact ⟨0, [], st, rfl, L0.out⟩
  case round =>
    obtain ⟨j, ys, s, rfl, hh⟩ := hrel
    clear L0 c4 c0 z2
    have c4 := hh.c4
    have hj := hh.le
    have j0 : (0 : Int) ≤ j := by omega
    by_cases hlt : j < L
    · have j1 : (j : Int) < L := by omega
      obtain ⟨g', x, m, m', rfl, _, hne, hgg, call, frn, err, step⟩ := hh.next HP.out hlt HX.out
      have FN := hid frn
      have ER := hid err
      have ST := hid step
      have HN := hid hne
      have CC := hid (call 180 _ HS.out HN.out)
      clear frn err step hne hh call
      go_wp2_with (go_at_call 180; refine CC.out.mono ?_; intro e w1 hh; rcases CkT.cases hh HN.out with ⟨e1, hz, rfl, hF⟩ | ⟨y, s', hz, rfl, hN, hA, hF⟩; (case inl => exact ⟨rfl, by unfold blockT; rw [bnd_err (ER.out _ hz)]; exact ⟨rfl, (FN.out _ hF).1⟩⟩); have L1 := hid (ST.out y s' w1 hz hN hA hF); clear hz hN hA hF hh CC)
      go_roundw
      case rel => exact ⟨j + 1, ys ++ [y], s', by go_num, L1.out⟩
      case measure => simp [intOf]; omega
    · have j1 : ¬ (j : Int) < L := by omega
      have e1 : j = L := by omega
      subst e1
      obtain ⟨z1, z2, z3, z4⟩ := hh.done
      have HZ := hid (And.intro z1 trivial)
      have N9 := hid z3
      have HN2 : Hid (forgetC pl s ≠ .error none) := hid (by have h := HXX.out; unfold blockT at h; rw [bnd_ok z1] at h; exact bnd_ne h)
      clear z1 z2 z3 z4 hh HS
      go_wp2_with (first
        | (go_at_call 140; refine (forget_any pl _ N9.out.a HN2.out).mono ?_; intro e w2 hh; rcases CkP.cases hh HN2.out with ⟨e1, hz, rfl, hF⟩ | ⟨t, s2, v, hz, rfl, hv, hA, hF⟩; (case inl => exact ⟨rfl, by unfold blockT; rw [bnd_ok HZ.out.1, bnd_err hz]; exact ⟨rfl, N9.out.bad HP.out hF⟩⟩); have hv' : v = .tuple #[] := hv; subst hv'; have HZ2 := hid (And.intro hz trivial); have N2 := hid (N9.out.frc HP.out hF hA); obtain ⟨p1', c1', d0, d1, d2, d3, d4, hk1, hf1⟩ := N2.out.cells; have HN3 : Hid (doneC (withKids n ys) s2 ≠ .error none) := hid (by have h := HXX.out; unfold blockT at h; rw [bnd_ok HZ.out.1, bnd_ok hz] at h; exact bnd_ne h); clear hz hA hF hh hk1 c4)
        | (go_at_call 136; refine (done_any (withKids n ys) p1' c1' _ N2.out.a HN3.out).mono ?_; intro e w3 hh; rcases CkP.cases hh HN3.out with ⟨e1, hz, rfl, hF⟩ | ⟨t, s3, v, hz, rfl, hv, hA, hF⟩; (case inl => exact ⟨rfl, by unfold blockT; rw [bnd_ok HZ.out.1, bnd_ok HZ2.out.1, bnd_err hz]; exact ⟨rfl, N2.out.bad HP.out hF⟩⟩); have hv' : v = .tuple #[] := hv; subst hv'; have HZ3 := hid (And.intro hz trivial); have N3 := hid (N2.out.frc HP.out hF hA); clear hz hA hF hh))
      refine bodyPost_ret (v := .tuple #[]) (by simp [results, Tryz.results139, go_sem]) rfl ?_
      unfold blockT
      rw [bnd_ok HZ.out.1, bnd_ok HZ2.out.1, bnd_ok HZ3.out.1]
      exact N3.out.ok
theorem block_rc (X : Xc) (F : Fn) (k : Nat) : ∀ j, ElC X F 139 (rc F k j).block
  | 0 => fun _ _ _ _ _ _ _ _ _ _ _ _ _ _ hx => absurd rfl hx
  | j + 1 => block_any (statement_any (expr_any X F k) (block_rc X F k j))
end Ck
end Go.Proofs.YtajoncmmdeahnaaGreatDoor
namespace Go.Proofs.YtajoncmmdeahnaaGreatDoor
open Go.RowKit
namespace Ck
def parM (F : Fn) (k : Nat) (n : Nd) : Ck Nd := mapC (exprC F k) n.kids >>= fun ks => knowC n.txt n.ty >>= fun _ => doneC (withKids n ks) >>= fun _ => pure (withKids n ks)
theorem par_eq (F : Fn) (k : Nat) (n : Nd) (h : n.kind = 5) : parameterC F k n = parM F k n := by
  unfold parameterC
  rw [if_neg (fun hh => hh h)]
  rfl
theorem par_not (F : Fn) (k : Nat) (n : Nd) (st : Cs) (h : n.kind ≠ 5) : parameterC F k n st = .error (some 125) := by
  unfold parameterC
  rw [if_pos h]
  rfl
set_option maxRecDepth 100000 in
set_option maxHeartbeats 2000000 in
theorem parameter_any {X : Xc} {F : Fn} {k : Nat} (hE : ElC X F 211 (exprC F k)) : ElC X F 138 (parameterC F k) := by
  intro n g o lo hi cs w st hC hn p1 p2 p3 hB hx
  have HP := hid (Pl.mk p1 p2 p3)
  have N0 := hid (NS.start hC hn hB)
  obtain ⟨p, c, c0, c1, c2, c3, c4, hk, hf⟩ := N0.out.cells
  by_cases hkd : n.kind ≠ 5
  · rw [par_not F k n st hkd]
    have C97 : Hid (∀ W, Calls Tryz.prog 97 #[.int .i64 (125 : Nat)] W fun e w' => e = .panicked (RjV 125) ∧ w' = W) := fun W => reject_any 125 W
    have e1 : (n.kind == 5) = false := by rw [beq_eq_false_iff_ne]; exact hkd
    generalize n.kind = kd at *
    clear hk hx hC hn hB N0 hf c1 c2 c3 c4 hE
    go_enter Tryz.func138, Tryz.ntmps138
    go_wp2_with (go_at_call 97; refine (C97.out _).mono ?_; rintro e w2 ⟨rfl, hw⟩; replace hw := hw.symm; subst hw; clear C97)
    exact ⟨rfl, rfl, FrN.refl _ _ _ _ _ _⟩
  replace hkd : n.kind = 5 := Decidable.of_not_not hkd
  rw [par_eq F k n hkd] at hx ⊢
  have HK := hid hk
  have HE := hid hE
  have LB : Hid (X.low ≤ lo) := hid (by omega)
  have HN := hid hx
  clear hE hk hx hC hn hB hf
  rw [hkd] at c0
  go_enter Tryz.func138, Tryz.ntmps138
  go_wp2_with (go_at_call 176; refine (exprs_any _ HE.out N0.out.a HK.out LB.out p3 (bnd_ne HN.out)).mono ?_; intro e w1 hh; rcases CkL.cases hh (bnd_ne HN.out) with ⟨m, hz, rfl, hF⟩ | ⟨ks, s1, hz, rfl, hK, hA, hF⟩; (case inl => exact ⟨rfl, by unfold parM; rw [bnd_err hz]; exact ⟨rfl, N0.out.badI HP.out hF⟩⟩); have HZ1 := hid (And.intro hz trivial); have N1 := hid (N0.out.kids HP.out c4 hK hA hF); obtain ⟨p1', c1', d0, d1, d2, d3, d4, hk1, hf1⟩ := N1.out.cells; have HN2 : Hid (knowC n.txt n.ty s1 ≠ .error none) := hid (by have h := HN.out; unfold parM at h; rw [bnd_ok hz] at h; exact bnd_ne h); clear c0 c1 c2 c3 c4 hz hK hA hF hh hk1)
  have GD : Hid (w1.grownBy w1.drew none) := hid (grown_drew (grown_refl _ _))
  have KA : Hid (∀ W, w1.grownBy W none → Calls Tryz.prog 179 #[.pointer (some ⟨X.c, 0, none⟩), .string (withKids n ks).txt, .int .i64 (withKids n ks).ty] W (CkP uK X F W (knowC n.txt n.ty s1))) := hid (fun W hW => know_any _ _ W (N1.out.a.kept hW) HN2.out)
  go_region_law (go_simp; go_at_call 179; refine (KA.out _ GD.out).mono ?_; intro e w2 hh; rcases CkP.cases hh HN2.out with ⟨m, hz, rfl, hF⟩ | ⟨t, s2, v, hz, rfl, hv, hA, hF⟩; (case inl => exact ⟨rfl, by unfold parM; rw [bnd_ok HZ1.out.1, bnd_err hz]; exact ⟨rfl, N1.out.bad HP.out ((FrC.nil GD.out).trans hF)⟩⟩); have hv' : v = .tuple #[] := hv; subst hv'; have HZ2 := hid (And.intro hz trivial); have N2 := hid (N1.out.frc HP.out ((FrC.nil GD.out).trans hF) hA); have HN3 : Hid (doneC (withKids n ks) s2 ≠ .error none) := hid (by have h := HN.out; unfold parM at h; rw [bnd_ok HZ1.out.1, bnd_ok hz] at h; exact bnd_ne h); clear hz hA hF hh)
  all_goals
    clear d0 d1 d2 d3 d4
    obtain ⟨p2', c2', d0, d1, d2, d3, d4, hk1, hf1⟩ := N2.out.cells
    clear hk1
    go_wp2_with (go_at_call 136; refine (done_any (withKids n ks) p2' c2' _ N2.out.a HN3.out).mono ?_; intro e w3 hh; rcases CkP.cases hh HN3.out with ⟨e1, hz, rfl, hF⟩ | ⟨t, s3, v, hz, rfl, hv, hA, hF⟩; (case inl => exact ⟨rfl, by unfold parM; rw [bnd_ok HZ1.out.1, bnd_ok HZ2.out.1, bnd_err hz]; exact ⟨rfl, N2.out.bad HP.out hF⟩⟩); have hv' : v = .tuple #[] := hv; subst hv'; have HZ3 := hid (And.intro hz trivial); have N3 := hid (N2.out.frc HP.out hF hA); clear hz hA hF hh)
    go_end0
    unfold parM
    rw [bnd_ok HZ1.out.1, bnd_ok HZ2.out.1, bnd_ok HZ3.out.1]
    exact N3.out.ok
end Ck
end Go.Proofs.YtajoncmmdeahnaaGreatDoor
namespace Go.Proofs.YtajoncmmdeahnaaGreatDoor
open Go.RowKit
namespace Ck
def unsN (k n : Int) : Int := if 0 ≤ n then n else if k = 20 then - n else if k = 21 then n + 9223372036854775808 else n
theorem xor_low (n : Int) (h0 : n < 0) (h1 : -9223372036854775808 ≤ n) : bits .xor .i64 n (-9223372036854775808) = n + 9223372036854775808 := by
  obtain ⟨m, hm⟩ := Int.eq_ofNat_of_zero_le (show 0 ≤ n + 9223372036854775808 by omega)
  have e : n = (m : Int) - 9223372036854775808 := by omega
  subst e
  have h2 : m < 2 ^ 63 := by omega
  have a1 : (BitVec.ofInt 64 ((m : Int) - 9223372036854775808)).toNat = m + 2 ^ 63 := by
    rw [BitVec.toNat_ofInt]
    omega
  have a2 : (BitVec.ofInt 64 (-9223372036854775808)).toNat = 2 ^ 63 := by decide
  have a3 : (m + 2 ^ 63) ^^^ 2 ^ 63 = m := by
    have h1 := Nat.two_pow_add_eq_or_of_lt h2 1
    rw [Nat.mul_one] at h1
    rw [Nat.add_comm, h1]
    apply Nat.eq_of_testBit_eq
    intro i
    rw [Nat.testBit_xor, Nat.testBit_or, Nat.testBit_two_pow]
    by_cases hi : 63 = i
    · subst hi
      rw [Nat.testBit_lt_two_pow h2]
      simp
    · simp [hi]
  show IntKind.i64.wrap ((BitVec.ofInt 64 ((m : Int) - 9223372036854775808) ^^^ BitVec.ofInt 64 (-9223372036854775808)).toNat : Int) = _
  rw [BitVec.toNat_xor, a1, a2, a3, IntKind.wrap_i64]
  omega
def UgP (k t : Int) (s : ByteArray) (n : Int) (p : Option Addr) (l c : Nat) (w : World) (e : Ending) (w' : World) : Prop := e = .returned (.agg #[.int .i64 k, .int .i64 t, .string s, .int .i64 n, .slice p l c]) ∧ w.grownBy w' none
set_option maxRecDepth 100000 in
set_option maxHeartbeats 1000000 in
theorem uns_pos (k t : Int) (s : ByteArray) (n : Int) (p : Option Addr) (l c : Nat) (w : World) (h : 0 ≤ n) : Calls Tryz.prog 178 #[.agg #[.int .i64 k, .int .i64 t, .string s, .int .i64 n, .slice p l c]] w (UgP k t s (n) p l c w) := by
  have e : decide (0 ≤ n) = true := decide_eq_true h
  have B : Hid (Blk ((w.alloc (.cells #[.int .i64 k, .int .i64 t, .string s, .int .i64 (n), .slice p l c] 27)).alloc (.cells #[.int .i64 k, .int .i64 t, .string s, .int .i64 (n), .slice p l c] 27)) (w.heap.size + 1) 27 #[.int .i64 k, .int .i64 t, .string s, .int .i64 (n), .slice p l c]) := hid (by have h := Blk.new (w.alloc (.cells #[.int .i64 k, .int .i64 t, .string s, .int .i64 (n), .slice p l c] 27)) 27 #[.int .i64 k, .int .i64 t, .string s, .int .i64 (n), .slice p l c]; rw [World.size_alloc] at h; exact h)
  go_enter Tryz.func178, Tryz.ntmps178
  go_wp2
  refine bodyPost_ret (Pm.results_nd rfl _ _ (w.heap.size + 1) rfl B.out) rfl ?_
  exact ⟨rfl, grown_alloc (grown_alloc (grown_refl _ _) _) _⟩
set_option maxRecDepth 100000 in
set_option maxHeartbeats 1000000 in
theorem uns_int (t : Int) (s : ByteArray) (n : Int) (p : Option Addr) (l c : Nat) (w : World) (h : n < 0) (h2 : -9223372036854775807 ≤ n) : Calls Tryz.prog 178 #[.agg #[.int .i64 20, .int .i64 t, .string s, .int .i64 n, .slice p l c]] w (UgP 20 t s (- n) p l c w) := by
  have e : decide (0 ≤ n) = false := decide_eq_false (by omega)
  have e2 : IntKind.i64.wrap (- n) = - n := by rw [IntKind.wrap_i64]; omega
  have B : Hid (Blk ((w.alloc (.cells #[.int .i64 20, .int .i64 t, .string s, .int .i64 (- n), .slice p l c] 27)).alloc (.cells #[.int .i64 20, .int .i64 t, .string s, .int .i64 (- n), .slice p l c] 27)) (w.heap.size + 1) 27 #[.int .i64 20, .int .i64 t, .string s, .int .i64 (- n), .slice p l c]) := hid (by have h := Blk.new (w.alloc (.cells #[.int .i64 20, .int .i64 t, .string s, .int .i64 (- n), .slice p l c] 27)) 27 #[.int .i64 20, .int .i64 t, .string s, .int .i64 (- n), .slice p l c]; rw [World.size_alloc] at h; exact h)
  go_enter Tryz.func178, Tryz.ntmps178
  go_wp2
  refine bodyPost_ret (Pm.results_nd rfl _ _ (w.heap.size + 1) rfl B.out) rfl ?_
  exact ⟨rfl, grown_alloc (grown_alloc (grown_refl _ _) _) _⟩
set_option maxRecDepth 100000 in
set_option maxHeartbeats 1000000 in
theorem uns_float (t : Int) (s : ByteArray) (n : Int) (p : Option Addr) (l c : Nat) (w : World) (h : n < 0) (h2 : -9223372036854775807 ≤ n) : Calls Tryz.prog 178 #[.agg #[.int .i64 21, .int .i64 t, .string s, .int .i64 n, .slice p l c]] w (UgP 21 t s (n + 9223372036854775808) p l c w) := by
  have e : decide (0 ≤ n) = false := decide_eq_false (by omega)
  have e2 := xor_low n h (by omega)
  have B : Hid (Blk ((w.alloc (.cells #[.int .i64 21, .int .i64 t, .string s, .int .i64 (n + 9223372036854775808), .slice p l c] 27)).alloc (.cells #[.int .i64 21, .int .i64 t, .string s, .int .i64 (n + 9223372036854775808), .slice p l c] 27)) (w.heap.size + 1) 27 #[.int .i64 21, .int .i64 t, .string s, .int .i64 (n + 9223372036854775808), .slice p l c]) := hid (by have h := Blk.new (w.alloc (.cells #[.int .i64 21, .int .i64 t, .string s, .int .i64 (n + 9223372036854775808), .slice p l c] 27)) 27 #[.int .i64 21, .int .i64 t, .string s, .int .i64 (n + 9223372036854775808), .slice p l c]; rw [World.size_alloc] at h; exact h)
  go_enter Tryz.func178, Tryz.ntmps178
  go_wp2
  refine bodyPost_ret (Pm.results_nd rfl _ _ (w.heap.size + 1) rfl B.out) rfl ?_
  exact ⟨rfl, grown_alloc (grown_alloc (grown_refl _ _) _) _⟩
set_option maxRecDepth 100000 in
set_option maxHeartbeats 1000000 in
theorem uns_other (k t : Int) (s : ByteArray) (n : Int) (p : Option Addr) (l c : Nat) (w : World) (h : n < 0) (h1 : k ≠ 20) (h2 : k ≠ 21) : Calls Tryz.prog 178 #[.agg #[.int .i64 k, .int .i64 t, .string s, .int .i64 n, .slice p l c]] w (UgP k t s (n) p l c w) := by
  have e : decide (0 ≤ n) = false := decide_eq_false (by omega)
  have e1 : (k == 20) = false := by rw [beq_eq_false_iff_ne]; exact h1
  have e2 : (k == 21) = false := by rw [beq_eq_false_iff_ne]; exact h2
  have B : Hid (Blk ((w.alloc (.cells #[.int .i64 k, .int .i64 t, .string s, .int .i64 (n), .slice p l c] 27)).alloc (.cells #[.int .i64 k, .int .i64 t, .string s, .int .i64 (n), .slice p l c] 27)) (w.heap.size + 1) 27 #[.int .i64 k, .int .i64 t, .string s, .int .i64 (n), .slice p l c]) := hid (by have h := Blk.new (w.alloc (.cells #[.int .i64 k, .int .i64 t, .string s, .int .i64 (n), .slice p l c] 27)) 27 #[.int .i64 k, .int .i64 t, .string s, .int .i64 (n), .slice p l c]; rw [World.size_alloc] at h; exact h)
  go_enter Tryz.func178, Tryz.ntmps178
  go_wp2
  refine bodyPost_ret (Pm.results_nd rfl _ _ (w.heap.size + 1) rfl B.out) rfl ?_
  exact ⟨rfl, grown_alloc (grown_alloc (grown_refl _ _) _) _⟩
theorem unsigned_any (k t n : Int) (s : ByteArray) (p : Option Addr) (l c : Nat) (w : World) (h : -9223372036854775807 ≤ n) : Calls Tryz.prog 178 #[.agg #[.int .i64 k, .int .i64 t, .string s, .int .i64 n, .slice p l c]] w (UgP k t s (unsN k n) p l c w) := by
  unfold unsN
  by_cases h1 : 0 ≤ n
  · rw [if_pos h1]
    exact uns_pos k t s n p l c w h1
  rw [if_neg h1]
  by_cases h2 : k = 20
  · rw [if_pos h2]
    subst h2
    exact uns_int t s n p l c w (by omega) h
  rw [if_neg h2]
  by_cases h3 : k = 21
  · rw [if_pos h3]
    subst h3
    exact uns_float t s n p l c w (by omega) h
  rw [if_neg h3]
  exact uns_other k t s n p l c w (by omega) h2 h3
end Ck
end Go.Proofs.YtajoncmmdeahnaaGreatDoor
namespace Go.Proofs.YtajoncmmdeahnaaGreatDoor
open Go.RowKit
namespace Ck
theorem unsgn_eq (n : Nd) : unsgn n = .mk n.kind n.ty n.txt (unsN n.kind n.num) n.kids := by
  unfold unsgn unsN
  cases n with
  | mk k t s m ks =>
    show (if 0 ≤ m then _ else if k = 20 then _ else if k = 21 then _ else _) = Nd.mk k t s (if 0 ≤ m then m else if k = 20 then - m else if k = 21 then m + 9223372036854775808 else m) ks
    by_cases h1 : 0 ≤ m
    · rw [if_pos h1, if_pos h1]
    rw [if_neg h1, if_neg h1]
    by_cases h2 : k = 20
    · rw [if_pos h2, if_pos h2]
      rfl
    rw [if_neg h2, if_neg h2]
    by_cases h3 : k = 21
    · rw [if_pos h3, if_pos h3]
      rfl
    rw [if_neg h3, if_neg h3]
theorem done_uns (M : Nd) (p : Option Addr) (c : Nat) {X : Xc} {F : Fn} {st : Cs} (W : World) (h1 : CkA W X F st) (h2 : doneC (unsgn M) st ≠ .error none) : Calls Tryz.prog 136 #[.pointer (some ⟨X.c, 0, none⟩), .agg #[.int .i64 M.kind, .int .i64 M.ty, .string M.txt, .int .i64 (unsN M.kind M.num), .slice p M.kids.length c]] W (CkP uK X F W (doneC (unsgn M) st)) := by
  rw [unsgn_eq] at h2 ⊢
  exact done_any (.mk M.kind M.ty M.txt (unsN M.kind M.num) M.kids) p c W h1 h2
theorem const_eq (F : Fn) (k : Nat) (n : Nd) (st : Cs) (h : lit3 n.kind = true) (h2 : ¬ n.num < -9223372036854775807) : constantC F k n st = (mapC (exprC F k) n.kids >>= fun ks => typeOfC F (withKids n ks) >>= fun t => doneC (unsgn (withTy (withKids n ks) t)) >>= fun _ => (pure (withTy (withKids n ks) t) : Ck Nd)) st := by
  unfold constantC
  rw [if_neg (by rw [h]; decide), if_neg h2]
theorem const_not (F : Fn) (k : Nat) (n : Nd) (st : Cs) (h : lit3 n.kind = false) : constantC F k n st = .error (some 125) := by
  unfold constantC
  rw [if_pos h]
  rfl
set_option maxRecDepth 100000 in
set_option maxHeartbeats 2000000 in
theorem constant_any {X : Xc} {F : Fn} {k : Nat} (hE : ElC X F 211 (exprC F k)) : ElC X F 134 (constantC F k) := by
  intro n g o lo hi cs w st hC hn p1 p2 p3 hB hx
  have hp : Pl X g lo hi := ⟨p1, p2, p3⟩
  have HP := hid hp
  have N0 := hid (NS.start hC hn hB)
  obtain ⟨p, c, c0, c1, c2, c3, c4, hk, hf⟩ := N0.out.cells
  have HK := hid hk
  have C97 : Hid (∀ W, Calls Tryz.prog 97 #[.int .i64 (125 : Nat)] W fun e w' => e = .panicked (RjV 125) ∧ w' = W) := fun W => reject_any 125 W
  have C175 : Hid (∀ W, Calls Tryz.prog 175 #[.int .i64 n.kind] W fun e w' => e = .returned (.bool (lit3 n.kind)) ∧ w' = W) := fun W => isLiteral_any n.kind W
  have HE := hid hE
  have LB : Hid (X.low ≤ lo) := hid (by omega)
  have HX := hid hx
  clear hE hk hx hC hn hp
  cases hkd : lit3 n.kind with
  | false =>
    rw [hkd] at C175
    rw [const_not F k n st hkd]
    clear hkd HX HE HK c1 c2 c3
    go_enter Tryz.func134, Tryz.ntmps134
    go_wp2_with (first
      | (go_at_call 175; refine (C175.out _).mono ?_; rintro e w2 ⟨rfl, hw⟩; replace hw := hw.symm; subst hw; clear C175)
      | (go_at_call 97; refine (C97.out _).mono ?_; rintro e w2 ⟨rfl, hw⟩; replace hw := hw.symm; subst hw; clear C97))
    exact ⟨rfl, rfl, FrN.refl _ _ _ _ _ _⟩
  | true =>
    rw [hkd] at C175
    have hnum : ¬ n.num < -9223372036854775807 := fun h => by
      have h2 := HX.out
      unfold constantC at h2
      rw [if_neg (by rw [hkd]; decide), if_pos h] at h2
      exact h2 rfl
    have HNUM : Hid (-9223372036854775807 ≤ n.num) := hid (by omega)
    have EQ := hid (And.intro (const_eq F k n st hkd hnum) trivial)
    have HN : Hid ((mapC (exprC F k) n.kids >>= fun ks => typeOfC F (withKids n ks) >>= fun t => doneC (unsgn (withTy (withKids n ks) t)) >>= fun _ => (pure (withTy (withKids n ks) t) : Ck Nd)) st ≠ .error none) := hid (by rw [← EQ.out.1]; exact HX.out)
    clear hkd hnum C97
    go_enter Tryz.func134, Tryz.ntmps134
    go_wp2_with (first
      | (go_at_call 175; refine (C175.out _).mono ?_; rintro e w2 ⟨rfl, hw⟩; replace hw := hw.symm; subst hw; clear C175)
      | (go_at_call 176; refine (exprs_any _ HE.out N0.out.a HK.out LB.out p3 (bnd_ne HN.out)).mono ?_; intro e w1 hh; rcases CkL.cases hh (bnd_ne HN.out) with ⟨m, hz, rfl, hF⟩ | ⟨ks, s1, hz, rfl, hK, hA, hF⟩; (case inl => exact ⟨rfl, by rw [EQ.out.1, bnd_err hz]; exact ⟨rfl, N0.out.badI HP.out hF⟩⟩); have HZ1 := hid (And.intro hz trivial); have N1 := hid (N0.out.kids HP.out c4 hK hA hF); obtain ⟨p1', c1', d0, d1, d2, d3, d4, hk1, hf1⟩ := N1.out.cells; have HK1 := hid hk1; have hn2 : typeOfC F (withKids n ks) s1 ≠ .error none := (by have h := HN.out; rw [bnd_ok hz] at h; exact bnd_ne h); clear c0 c1 c2 c3 c4 hz hK hA hF hh hk1; have HN2 := hid hn2; clear hn2)
      | (go_at_call 177; refine (typeOf_any (withKids n ks) p1' c1' _ _ N1.out.a (NS.kv HK1.out) HN2.out).mono ?_; intro e w2 hh; rcases CkP.cases hh HN2.out with ⟨m, hz, rfl, hF⟩ | ⟨t, s2, v, hz, rfl, hv, hA, hF⟩; (case inl => exact ⟨rfl, by rw [EQ.out.1, bnd_ok HZ1.out.1, bnd_err hz]; exact ⟨rfl, N1.out.bad HP.out hF⟩⟩); have hv' : v = .int .i64 t := hv; subst hv'; have HZ2 := hid (And.intro hz trivial); have N2 := hid (N1.out.frc HP.out hF hA); obtain ⟨p2', c2', e0, e1, e2, e3, e4, hk2, hf2⟩ := N2.out.cells; have ff := hf2 (o + 1); have N3 := hid (N2.out.ty HP.out t); obtain ⟨p3', c3', f0, f1, f2, f3, f4, hk3, hf3⟩ := N3.out.cells; have HN3 : Hid (doneC (unsgn (withTy (withKids n ks) t)) s2 ≠ .error none) := hid (by have h := HN.out; rw [bnd_ok HZ1.out.1, bnd_ok hz] at h; exact bnd_ne h); clear d0 d1 d2 d3 d4 hz hA hF hh hk2 hk3)
      | (go_at_call 178; refine (unsigned_any _ _ (withTy (withKids n ks) t).num _ _ _ _ _ HNUM.out).mono ?_; rintro e w5 ⟨rfl, hg⟩; have N5 := hid (N3.out.grown HP.out hg); have DM := hid (done_uns (withTy (withKids n ks) t) p3' c3' w5 N5.out.a HN3.out); clear hg)
      | (go_at_call 136; refine DM.out.mono ?_; intro e w3 hh; rcases CkP.cases hh HN3.out with ⟨m, hz, rfl, hF⟩ | ⟨u, s3, v, hz, rfl, hv, hA, hF⟩; (case inl => exact ⟨rfl, by rw [EQ.out.1, bnd_ok HZ1.out.1, bnd_ok HZ2.out.1, bnd_err hz]; exact ⟨rfl, N5.out.bad HP.out hF⟩⟩); have hv' : v = .tuple #[] := hv; subst hv'; have HZ3 := hid (And.intro hz trivial); have N4 := hid (N5.out.frc HP.out hF hA); clear hz hA hF hh))
    go_end0
    rw [EQ.out.1, bnd_ok HZ1.out.1, bnd_ok HZ2.out.1, bnd_ok HZ3.out.1]
    exact N4.out.ok
end Ck
end Go.Proofs.YtajoncmmdeahnaaGreatDoor
namespace Go.Proofs.YtajoncmmdeahnaaGreatDoor
open Go.RowKit
namespace Ck
def glC : Ck Unit := fun st => if 1000000 ≤ st.gl then .error none else (limitC (st.gl + 1) 16) { st with gl := st.gl + 1 }
def globT (n : Nd) (ks : List Nd) : Ck Nd := fitsC (withKids n ks) n.ty >>= fun _ => doneC (withKids n ks) >>= fun _ => glC >>= fun _ => pure (withKids n ks)
def globM (F : Fn) (k : Nat) (n : Nd) : Ck Nd := mapI (fun _ => constantC F k) 0 n.kids >>= globT n
theorem glob_eq (F : Fn) (k : Nat) (n : Nd) : globalC F k n = globM F k n := by
  unfold globalC globM
  rw [← mapC_I]
  rfl
theorem gl_bad {st : Cs} (h : ¬ 1000000 ≤ st.gl) (h2 : (16 : Int) < (st.gl : Int) + 1) : glC st = .error (some 125) := by
  unfold glC limitC
  rw [if_neg h, if_pos (by omega)]
  rfl
theorem gl_ok {st : Cs} (h : ¬ 1000000 ≤ st.gl) (h2 : ¬ (16 : Int) < (st.gl : Int) + 1) : glC st = .ok ((), { st with gl := st.gl + 1 }) := by
  unfold glC limitC
  rw [if_neg h, if_neg (by omega)]
  rfl
set_option maxRecDepth 100000 in
set_option maxHeartbeats 4000000 in
theorem global_any {X : Xc} {F : Fn} {k : Nat} (hS : ElC X F 134 (constantC F k)) : ElC X F 98 (globalC F k) := by
  intro n g o lo hi cs w st hC hn p1 p2 p3 hB hx
  rw [glob_eq] at hx ⊢
  have HP := hid (Pl.mk p1 p2 p3)
  have N0 := NS.start hC hn hB
  obtain ⟨p, c, c0, c1, c2, c3, c4, hk, hf⟩ := N0.cells
  have HX := hid (bnd_ne hx)
  have HXX := hid hx
  have L0 := hid (LH.start (φ := fun _ => constantC F k) N0 hk c0 c1 c2 c3 c4)
  have HS := hid hS
  obtain ⟨L, hL⟩ : ∃ L, n.kids.length = L := ⟨_, rfl⟩
  rw [hL] at L0 c4 hk
  have Lmax := ksI_len hk
  clear hx hn hB N0 hk hf hS c0 c1 c2 c3 hL hC
  go_enter Tryz.func98, Tryz.ntmps98
  go_wp2
  go_loopw [10] (fun i wr => ∃ (j : Nat) (ys : List Nd) (s : Cs), i = .int .i64 j ∧ LH X F g o lo hi w n p c L (fun _ => constantC F k) st j ys s wr) (fun i _ => L - (intOf i).toNat)
  case atStart => exact ⟨0, [], st, rfl, L0.out⟩
  case round =>
    obtain ⟨j, ys, s, rfl, hh⟩ := hrel
    clear L0 c4
    have c4 := hh.c4
    have hj := hh.le
    have j0 : (0 : Int) ≤ j := by omega
    by_cases hlt : j < L
    · have j1 : (j : Int) < L := by omega
      obtain ⟨g', x, m, m', rfl, _, hne, hgg, call, frn, err, step⟩ := hh.next HP.out hlt HX.out
      have FN := hid frn
      have ER := hid err
      have ST := hid step
      have HN := hid hne
      have CC := hid (call 134 _ HS.out HN.out)
      clear frn err step hne hh call
      go_wp2_with (go_at_call 134; refine CC.out.mono ?_; intro e w1 hh; rcases CkT.cases hh HN.out with ⟨e1, hz, rfl, hF⟩ | ⟨y, s', hz, rfl, hN, hA, hF⟩; (case inl => exact ⟨rfl, by unfold globM; rw [bnd_err (ER.out _ hz)]; exact ⟨rfl, (FN.out _ hF).1⟩⟩); have L1 := hid (ST.out y s' w1 hz hN hA hF); clear hz hN hA hF hh CC)
      go_roundw
      case rel => exact ⟨j + 1, ys ++ [y], s', by go_num, L1.out⟩
      case measure => simp [intOf]; omega
    · have j1 : ¬ (j : Int) < L := by omega
      have e1 : j = L := by omega
      subst e1
      obtain ⟨z1, z2, z3, z4⟩ := hh.done
      have HZ := hid (And.intro z1 trivial)
      have N9 := hid z3
      have HG : Hid (globT n ys s ≠ .error none) := hid (by have h := HXX.out; unfold globM at h; rw [bnd_ok z1] at h; exact h)
      have EQ : Hid (globM F k n st = globT n ys s ∧ True) := hid ⟨by unfold globM; rw [bnd_ok z1], trivial⟩
      clear z1 z2 z3 z4 hh HS c4 HXX HX
      obtain ⟨p1', c1', d0, d1, d2, d3, d4, hk1, hf1⟩ := N9.out.cells
      have HK1 := hid hk1
      have GD : Hid (wr.grownBy wr.drew none) := hid (grown_drew (grown_refl _ _))
      have FA : Hid (∀ W, wr.grownBy W none → Calls Tryz.prog 135 #[.agg #[.int .i64 (withKids n ys).kind, .int .i64 (withKids n ys).ty, .string (withKids n ys).txt, .int .i64 (withKids n ys).num, .slice p1' (withKids n ys).kids.length c1'], .int .i64 (withKids n ys).ty] W (CkP uK X F W (fitsC (withKids n ys) n.ty s))) := hid (fun W hW => fits_any (withKids n ys) p1' c1' n.ty (fun _ => True) W (N9.out.a.kept hW) ((NS.kv HK1.out).kept hW))
      clear hk1
      go_wp2_with fail
      go_region_law (go_simp; go_at_call 135; refine (FA.out _ GD.out).mono ?_; intro e w2 hh; rcases CkP.cases hh (fits_ne _ _ _) with ⟨m, hz, rfl, hF⟩ | ⟨t, s2, v, hz, rfl, hv, hA, hF⟩; (case inl => exact ⟨rfl, by rw [EQ.out.1]; unfold globT; rw [bnd_err hz]; exact ⟨rfl, N9.out.bad HP.out ((FrC.nil GD.out).trans hF)⟩⟩); have hv' : v = .tuple #[] := hv; subst hv'; have HZ2 := hid (And.intro hz trivial); have N2 := hid (N9.out.frc HP.out ((FrC.nil GD.out).trans hF) hA); have HN3 : Hid (doneC (withKids n ys) s2 ≠ .error none) := hid (by have h := HG.out; unfold globT at h; rw [bnd_ok hz] at h; exact bnd_ne h); clear hz hA hF hh)
      all_goals
        clear d0 d1 d2 d3 d4
        obtain ⟨p2', c2', d0, d1, d2, d3, d4, hk1, hf2⟩ := N2.out.cells
        clear hk1
        go_wp2_with (first
          | (go_at_call 136; refine (done_any (withKids n ys) p2' c2' _ N2.out.a HN3.out).mono ?_; intro e w3 hh; rcases CkP.cases hh HN3.out with ⟨e1, hz, rfl, hF⟩ | ⟨t, s3, v, hz, rfl, hv, hA, hF⟩; (case inl => exact ⟨rfl, by rw [EQ.out.1]; unfold globT; rw [bnd_ok HZ2.out.1, bnd_err hz]; exact ⟨rfl, N2.out.bad HP.out hF⟩⟩); have hv' : v = .tuple #[] := hv; subst hv'; have HZ3 := hid (And.intro hz trivial); have N3 := hid (N2.out.frc HP.out hF hA); obtain ⟨pv, hR⟩ := hA; have y4 := hR.blk.cell 4; have x4 := hR.blk.frozen 4; simp at y4; have hgl : ¬ 1000000 ≤ s3.gl := (fun hh => by have h := HG.out; unfold globT at h; rw [bnd_ok HZ2.out.1, bnd_ok hz] at h; refine bnd_ne h ?_; unfold glC; rw [if_pos hh]); have wi : IntKind.i64.wrap ((s3.gl : Int) + 1) = (s3.gl : Int) + 1 := (by rw [IntKind.wrap_i64]; omega); have F4 := hid (FrC.c (X := X) (grown_set (grown_refl w3 (some X.c)) 4 (.int .i64 ((s3.gl : Int) + 1)))); have R4 : Hid (CkR (w3.setCell ⟨X.c, 4, none⟩ (.int .i64 ((s3.gl : Int) + 1))) X F { s3 with gl := s3.gl + 1 } pv) := hid (hR.upd (st' := { s3 with gl := s3.gl + 1 }) (grown_set (grown_refl _ (some X.c)) 4 _) (by have := hR.blk.set 4 (.int .i64 ((s3.gl : Int) + 1)); simpa using this) rfl rfl rfl rfl); have N4 := hid (N3.out.frc HP.out F4.out ⟨pv, R4.out⟩); have HGL := hid hgl; clear hz hF hh hR R4 hgl)
          | (go_at_call 137; refine (limit_any ((s3.gl : Int) + 1) 16 _).mono ?_; rintro e w5 ⟨hh, hw⟩; subst hw; by_cases hm : (16 : Int) < (s3.gl : Int) + 1; (case pos => rw [if_pos hm] at hh; subst hh; exact ⟨rfl, by rw [EQ.out.1]; unfold globT; rw [bnd_ok HZ2.out.1, bnd_ok HZ3.out.1, bnd_err (gl_bad HGL.out hm)]; exact ⟨rfl, N3.out.bad HP.out F4.out⟩⟩); rw [if_neg hm] at hh; subst hh; have HZ4 := hid (And.intro (gl_ok HGL.out hm) trivial); clear hm))
        refine bodyPost_ret (v := .tuple #[]) (by simp [results, Tryz.results98, go_sem]) rfl ?_
        rw [EQ.out.1]
        unfold globT
        rw [bnd_ok HZ2.out.1, bnd_ok HZ3.out.1, bnd_ok HZ4.out.1]
        exact N4.out.ok
end Ck
end Go.Proofs.YtajoncmmdeahnaaGreatDoor
namespace Go.Proofs.YtajoncmmdeahnaaGreatDoor
open Go.RowKit
namespace Ck
def EnP (b : Bool) (w : World) (e : Ending) (w' : World) : Prop := e = .returned (.bool b) ∧ w.grownBy w' none
def EnC (P : Nat → Prop) (x : Nd) : Prop := ∀ (W : World) (p : Option Addr) (c : Nat), KsV W P (.slice p x.kids.length c) x.kids → Calls Tryz.prog 141 #[.agg #[.int .i64 x.kind, .int .i64 x.ty, .string x.txt, .int .i64 x.num, .slice p x.kids.length c]] W (EnP (endsB x) W)
theorem endsL_last : ∀ {l : List Nd} {m : Nat} {x : Nd}, l.length = m + 1 → l[m]? = some x → endsL l = endsB x
  | [], _, _, h, _ => by cases h
  | [y], m, x, h, hx => by
    have e : m = 0 := by simpa using h.symm
    subst e
    have e2 : y = x := by simpa using hx
    subst e2
    rw [endsL]
  | y :: z :: r, m, x, h, hx => by
    cases m with
    | zero => simp at h
    | succ m =>
      rw [endsL]
      exact endsL_last (by simpa using h) (by simpa using hx)
theorem three {l : List Nd} (h : l.length = 3) : ∃ a b d, l = [a, b, d] := by
  cases l with
  | nil => cases h
  | cons a l =>
    cases l with
    | nil => cases h
    | cons b l =>
      cases l with
      | nil => cases h
      | cons d l =>
        have h2 : l.length = 0 := by simpa using h
        rw [List.eq_nil_of_length_eq_zero h2]
        exact ⟨a, b, d, rfl⟩
section
variable {P : Nat → Prop} (k t : Int) (s : ByteArray) (n : Int) (p : Option Addr) (c : Nat) (w : World)
set_option maxRecDepth 100000 in
theorem ends_ret (l : Nat) : Calls Tryz.prog 141 #[.agg #[.int .i64 11, .int .i64 t, .string s, .int .i64 n, .slice p l c]] w (EnP true w) := by
  go_enter Tryz.func141, Tryz.ntmps141
  go_wp2
  go_ret
  exact ⟨rfl, grown_alloc (grown_refl _ _) _⟩
set_option maxRecDepth 100000 in
theorem ends_none (l : Nat) (h1 : k ≠ 11) (h2 : k ≠ 6) (h3 : k ≠ 9) : Calls Tryz.prog 141 #[.agg #[.int .i64 k, .int .i64 t, .string s, .int .i64 n, .slice p l c]] w (EnP false w) := by
  have e1 : (k == 11) = false := by rw [beq_eq_false_iff_ne]; exact h1
  have e2 : (k == 6) = false := by rw [beq_eq_false_iff_ne]; exact h2
  have e3 : (k == 9) = false := by rw [beq_eq_false_iff_ne]; exact h3
  go_enter Tryz.func141, Tryz.ntmps141
  go_wp2
  go_ret
  exact ⟨rfl, grown_alloc (grown_refl _ _) _⟩
set_option maxRecDepth 100000 in
theorem ends_empty : Calls Tryz.prog 141 #[.agg #[.int .i64 6, .int .i64 t, .string s, .int .i64 n, .slice p 0 c]] w (EnP false w) := by
  go_enter Tryz.func141, Tryz.ntmps141
  go_wp2
  go_ret
  exact ⟨rfl, grown_alloc (grown_refl _ _) _⟩
set_option maxRecDepth 100000 in
theorem ends_not3 (l : Nat) (h : l ≠ 3) : Calls Tryz.prog 141 #[.agg #[.int .i64 9, .int .i64 t, .string s, .int .i64 n, .slice p l c]] w (EnP false w) := by
  have e1 : ((l : Int) == 3) = false := by rw [beq_eq_false_iff_ne]; omega
  go_enter Tryz.func141, Tryz.ntmps141
  go_wp2
  go_ret
  exact ⟨rfl, grown_alloc (grown_refl _ _) _⟩
set_option maxRecDepth 100000 in
set_option maxHeartbeats 1000000 in
theorem ends_block {ks : List Nd} {m : Nat} (hl : ks.length = m + 1) (hm : (m : Int) + 1 ≤ 9223372036854775807) (hk : KsV w P (.slice p (m + 1) c) ks) (ih : ∀ y ∈ ks, EnC P y) : Calls Tryz.prog 141 #[.agg #[.int .i64 6, .int .i64 t, .string s, .int .i64 n, .slice p (m + 1) c]] w (EnP (endsL ks) w) := by
  have GA := hid (grown_alloc (grown_refl w none) (.cells #[.int .i64 6, .int .i64 t, .string s, .int .i64 n, .slice p (m + 1) c] 27))
  have hk1 := hk.kept GA.out
  obtain ⟨g, hp, _, hat⟩ := hk1.at m (by omega)
  subst hp
  obtain ⟨q, c0, c1, c2, c3, c4, hkq⟩ := hat.cells
  rw [Nat.mul_comm 5 m] at c0 c1 c2 c3 c4
  have hx : ks[m]? = some ks[m] := List.getElem?_eq_getElem (by omega)
  have EL := hid (And.intro (endsL_last hl hx) trivial)
  have IH := ih ks[m] (List.getElem_mem _)
  obtain ⟨p', cap', hq, _⟩ := hkq.form
  subst hq
  have CC := hid (IH _ _ _ hkq)
  have w1 : IntKind.i64.wrap ((m : Int) + 1 - 1) = (m : Int) := by rw [IntKind.wrap_i64]; omega
  have i0 : (0 : Int) < (m : Int) + 1 := by omega
  have i1 : (m : Int) < (m : Int) + 1 := by omega
  have i2 : (0 : Int) ≤ (m : Int) := by omega
  rw [EL.out.1]
  clear IH hx hat hk1 hk ih hkq EL
  generalize ks[m] = x at *
  generalize endsB x = R at *
  go_enter Tryz.func141, Tryz.ntmps141
  go_wp2_with (go_at_call 141; refine CC.out.mono ?_; rintro e w2 ⟨rfl, hg⟩; have G2 := hid (grown_none GA.out hg); clear hg CC)
  go_ret
  exact ⟨rfl, G2.out⟩
set_option maxRecDepth 100000 in
set_option maxHeartbeats 1000000 in
theorem ends_if {a b d : Nd} (hk : KsV w P (.slice p 3 c) [a, b, d]) (ihb : EnC P b) (ihd : EnC P d) : Calls Tryz.prog 141 #[.agg #[.int .i64 9, .int .i64 t, .string s, .int .i64 n, .slice p 3 c]] w (EnP (endsB b && endsB d) w) := by
  have GA := hid (grown_alloc (grown_refl w none) (.cells #[.int .i64 9, .int .i64 t, .string s, .int .i64 n, .slice p 3 c] 27))
  have hk1 := hid (hk.kept GA.out)
  obtain ⟨g, hp, _, hat⟩ := hk1.out.at 1 (by simp)
  subst hp
  obtain ⟨q, c0, c1, c2, c3, c4, hkq⟩ := hat.cells
  simp only [List.getElem_cons_succ, List.getElem_cons_zero, Nat.mul_one, Nat.reduceAdd] at c0 c1 c2 c3 c4 hkq
  obtain ⟨p', cap', hq, _⟩ := hkq.form
  subst hq
  have CB := hid (ihb _ _ _ hkq)
  clear hat hkq hk ihb
  cases hb : endsB b with
  | false =>
    rw [hb] at CB
    rw [Bool.false_and]
    go_enter Tryz.func141, Tryz.ntmps141
    go_wp2_with (go_at_call 141; refine CB.out.mono ?_; rintro e w2 ⟨rfl, hg⟩; have G2 := hid (grown_none GA.out hg); clear hg CB)
    go_ret
    exact ⟨rfl, G2.out⟩
  | true =>
    rw [hb] at CB
    rw [Bool.true_and]
    have B0 := hid (Blk.new w 27 #[.int .i64 9, .int .i64 t, .string s, .int .i64 n, .slice (some ⟨g, 0, none⟩) 3 c])
    have ID := hid ihd
    clear ihd
    generalize hR : endsB d = R at *
    go_enter Tryz.func141, Tryz.ntmps141
    go_wp2_with (first
      | (go_at_call 141; refine CB.out.mono ?_; rintro e w2 ⟨rfl, hg⟩; have G2 := hid (grown_none GA.out hg); have b4 := (B0.out.kept hg (by simp)).cell 4; simp at b4; have hk2 := hk1.out.kept hg; obtain ⟨g2, hp2, _, hat2⟩ := hk2.at 2 (by simp); injection hp2 with hp2; injection hp2 with hp2; subst hp2; obtain ⟨q2, d0, d1, d2, d3, d4, hkq2⟩ := hat2.cells; simp only [List.getElem_cons_succ, List.getElem_cons_zero, Nat.reduceAdd, Nat.reduceMul] at d0 d1 d2 d3 d4 hkq2; obtain ⟨p2, cap2, hq2, _⟩ := hkq2.form; subst hq2; have CD := hid (ID.out _ _ _ hkq2); rw [hR] at CD; clear hat2 hkq2 hk2 hg CB ID)
      | (go_at_call 141; refine CD.out.mono ?_; rintro e w3 ⟨rfl, hg⟩; have G3 := hid (grown_none G2.out hg); clear hg CD))
    go_ret
    exact ⟨rfl, G3.out⟩
end
set_option maxRecDepth 100000 in
theorem ends_any (P : Nat → Prop) : ∀ x : Nd, EnC P x := Nd.indA fun k t s n ks ih W p c hk => by
  show Calls Tryz.prog 141 #[.agg #[.int .i64 k, .int .i64 t, .string s, .int .i64 n, .slice p ks.length c]] W (EnP (endsB (.mk k t s n ks)) W)
  replace hk : KsV W P (.slice p ks.length c) ks := hk
  have hlen : (ks.length : Int) ≤ 9223372036854775807 := by
    obtain ⟨p', cap, e, k1, k2, _⟩ := hk.form
    unfold maxLen at k2
    omega
  rw [endsB]
  by_cases h1 : k = 11
  · rw [if_pos h1]
    subst h1
    exact ends_ret t s n p c W _
  rw [if_neg h1]
  by_cases h2 : k = 6
  · rw [if_pos h2]
    subst h2
    cases hl : ks.length with
    | zero =>
      rw [List.eq_nil_of_length_eq_zero hl, endsL]
      exact ends_empty t s n p c W
    | succ m =>
      rw [hl] at hk
      exact ends_block t s n p c W hl (by omega) hk ih
  rw [if_neg h2]
  by_cases h3 : k = 9
  · rw [if_pos h3]
    subst h3
    by_cases hl : ks.length = 3
    · rw [decide_eq_true hl, Bool.true_and]
      obtain ⟨a, b, d, rfl⟩ := three hl
      rw [endsT, endsA, endsA, endsA, Bool.and_true]
      exact ends_if t s n p c W hk (ih b (by simp)) (ih d (by simp))
    · rw [decide_eq_false hl, Bool.false_and]
      exact ends_not3 t s n p c W _ hl
  rw [if_neg h3]
  exact ends_none k t s n p c W _ h1 h2 h3
end Ck
end Go.Proofs.YtajoncmmdeahnaaGreatDoor
namespace Go.Proofs.YtajoncmmdeahnaaGreatDoor
open Go.RowKit
namespace Ck
def KpT {α : Type} (f : Ck α) : Prop := ∀ p a q, f p = .ok (a, q) → q.te = p.te
theorem KpT.bind {α β : Type} {f : Ck α} {g : α → Ck β} (hf : KpT f) (hg : ∀ a, KpT (g a)) : KpT (f >>= g) := fun p a q h => by
  have h : Ck.bnd f g p = .ok (a, q) := h
  unfold Ck.bnd at h
  cases hx : f p with
  | error e => rw [hx] at h; cases h
  | ok z =>
    obtain ⟨b, r⟩ := z
    rw [hx] at h
    exact (hg b r a q h).trans (hf p b r hx)
theorem KpT.pure {α : Type} (a : α) : KpT (Pure.pure a : Ck α) := fun p b q h => by
  have h : (Except.ok (a, p) : Rk α) = .ok (b, q) := h
  injection h with h
  injection h with _ h
  rw [h]
theorem KpT.rej {α : Type} (n : Nat) : KpT (rej n : Ck α) := fun p b q h => by
  have h : (Except.error (some n) : Rk α) = .ok (b, q) := h
  cases h
theorem KpT.uns {α : Type} : KpT (uns : Ck α) := fun p b q h => by
  have h : (Except.error none : Rk α) = .ok (b, q) := h
  cases h
theorem KpT.ite {α : Type} {c : Prop} [Decidable c] {f g : Ck α} (hf : KpT f) (hg : KpT g) : KpT (if c then f else g) := by
  by_cases h : c
  · rw [if_pos h]; exact hf
  · rw [if_neg h]; exact hg
theorem kp_need (b : Bool) : KpT (needC b) := by unfold needC; exact KpT.ite (KpT.pure _) (KpT.rej _)
theorem kp_done (n : Nd) : KpT (doneC n) := fun p a q h => by
  unfold doneC at h
  split at h
  · cases h
  · split at h
    · cases h
    · split at h
      · cases h
      · injection h with h
        injection h with _ h
        rw [← h]
theorem kp_variable (s : ByteArray) : KpT (variableC s) := fun p a q h => by
  unfold variableC at h
  split at h
  · cases h
  · split at h
    · cases h
    · injection h with h
      injection h with _ h
      rw [← h]
theorem kp_know (s : ByteArray) (t : Int) : KpT (knowC s t) := fun p a q h => by
  unfold knowC at h
  split at h
  · cases h
  · split at h
    · cases h
    · injection h with h
      injection h with _ h
      rw [← h]
theorem kp_forget (k : Nat) : KpT (forgetC k) := fun p a q h => by
  unfold forgetC at h
  split at h
  · cases h
  · injection h with h
    injection h with _ h
    rw [← h]
theorem kp_fits (n : Nd) (t : Int) : KpT (fitsC n t) := by unfold fitsC; exact KpT.ite (KpT.rej _) (KpT.pure _)
theorem kp_callL : ∀ (ps : List Int) (xs : List Nd), KpT (callL ps xs)
  | [], [] => by unfold callL; exact KpT.pure _
  | [], _ :: _ => by unfold callL; exact KpT.pure _
  | _ :: _, [] => by unfold callL; exact KpT.pure _
  | p :: ps, x :: xs => by
    unfold callL
    exact KpT.bind (kp_need _) fun _ => kp_callL ps xs
theorem kp_call (F : Fn) (n : Nd) : KpT (callC F n) := by
  unfold callC
  refine KpT.ite KpT.uns ?_
  split
  · exact KpT.rej _
  · exact KpT.ite (KpT.rej _) (KpT.bind (kp_callL _ _) fun _ => KpT.pure _)
theorem kp_ahead (n : Nd) : KpT (aheadC n) := by
  unfold aheadC
  exact KpT.ite (KpT.rej _) (KpT.ite (KpT.bind (kp_need _) fun _ => KpT.pure _) (KpT.ite (KpT.bind (kp_need _) fun _ => KpT.pure _) (KpT.rej _)))
theorem kp_between (n : Nd) : KpT (betweenC n) := by
  unfold betweenC
  refine KpT.ite (KpT.rej _) ?_
  show KpT (match sgK n.txt.data.toList with | 1 => _ | 2 => _ | 3 => _ | 4 => _ | 5 => _ | _ => _)
  split <;> first | exact KpT.rej _ | exact KpT.bind (kp_need _) fun _ => KpT.pure _
theorem kp_converted (n : Nd) : KpT (convertedC n) := by
  unfold convertedC
  exact KpT.ite (KpT.rej _) (KpT.bind (kp_need _) fun _ => KpT.pure _)
theorem kp_typeOf (F : Fn) (n : Nd) : KpT (typeOfC F n) := by
  unfold typeOfC
  exact KpT.ite (KpT.pure _) (KpT.ite (KpT.pure _) (KpT.ite (KpT.pure _) (KpT.ite (kp_variable _) (KpT.ite (kp_call _ _) (KpT.ite (kp_ahead _) (KpT.ite (kp_between _) (kp_converted _)))))))
theorem kp_mapC {f : Nd → Ck Nd} (hf : ∀ x, KpT (f x)) : ∀ l, KpT (mapC f l)
  | [] => by unfold mapC; exact KpT.pure _
  | x :: r => by
    unfold mapC
    exact KpT.bind (hf x) fun _ => KpT.bind (kp_mapC hf r) fun _ => KpT.pure _
theorem kp_expr (F : Fn) : ∀ k n, KpT (exprC F k n)
  | 0, _ => by unfold exprC; exact KpT.uns
  | k + 1, n => by
    unfold exprC
    exact KpT.ite (KpT.rej _) (KpT.bind (kp_mapC (kp_expr F k) _) fun _ => KpT.bind (kp_typeOf F _) fun _ => KpT.bind (kp_done _) fun _ => KpT.pure _)
theorem kp_lineT (n : Nd) : KpT (lineT n) := by
  unfold lineT
  refine KpT.ite (kp_know _ _) (KpT.ite (KpT.bind (kp_variable _) fun _ => kp_fits _ _) (KpT.ite ?_ (KpT.ite (kp_fits _ _) (KpT.pure _))))
  intro p a q h
  unfold returnedC at h
  split at h
  · cases h
  · exact kp_fits _ _ p a q h
theorem kp_line (F : Fn) (k : Nat) (n : Nd) : KpT (lineC F k n) := by
  unfold lineC
  refine KpT.bind (KpT.ite (KpT.rej _) (KpT.pure _)) fun _ => KpT.bind (kp_mapC (kp_expr F k) _) fun ks => KpT.bind (kp_lineT (withKids n ks)) fun _ => KpT.pure _
theorem kp_branchL (F : Fn) (k : Nat) {R : Rc} (hR : ∀ x, KpT (R.block x)) : ∀ (l : List Nd) (i : Nat), KpT (branchL F k R i l)
  | [], i => by cases i <;> (unfold branchL; exact KpT.pure _)
  | x :: r, 0 => by
    unfold branchL
    exact KpT.bind (kp_expr F k x) fun _ => KpT.bind (KpT.ite (KpT.rej _) (KpT.pure _)) fun _ => KpT.bind (kp_branchL F k hR r 1) fun _ => KpT.pure _
  | x :: r, i + 1 => by
    unfold branchL
    exact KpT.bind (hR x) fun _ => KpT.bind (kp_branchL F k hR r (i + 2)) fun _ => KpT.pure _
theorem kp_statement (F : Fn) (k : Nat) {R : Rc} (hR : ∀ x, KpT (R.block x)) (n : Nd) : KpT (statementC F k R n) := by
  unfold statementC
  refine KpT.bind (KpT.ite ?_ (KpT.ite (kp_line F k n) (KpT.rej _))) fun _ => KpT.bind (kp_done _) fun _ => KpT.pure _
  unfold branchesC
  exact KpT.bind (kp_branchL F k hR _ _) fun _ => KpT.pure _
theorem kp_block (F : Fn) (k : Nat) : ∀ j n, KpT ((rc F k j).block n)
  | 0, _ => KpT.uns
  | j + 1, n => by
    intro p a q h
    have h : blockF F k (rc F k j) n p = .ok (a, q) := h
    unfold blockF at h
    split at h
    · cases h
    · exact KpT.bind (kp_mapC (kp_statement F k (kp_block F k j)) _) (fun _ => KpT.bind (kp_forget _) fun _ => KpT.bind (kp_done _) fun _ => KpT.pure _) p a q h
theorem kp_parameter (F : Fn) (k : Nat) (n : Nd) : KpT (parameterC F k n) := by
  unfold parameterC
  exact KpT.ite (KpT.rej _) (KpT.bind (kp_mapC (kp_expr F k) _) fun _ => KpT.bind (kp_know _ _) fun _ => KpT.bind (kp_done _) fun _ => KpT.pure _)
end Ck
end Go.Proofs.YtajoncmmdeahnaaGreatDoor
