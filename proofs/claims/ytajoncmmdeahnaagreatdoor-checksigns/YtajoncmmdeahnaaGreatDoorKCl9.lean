/-
  The checker over trees: a block; all that call themselves. The checker over trees: a parameter. The checker: a number without its sign.
-/
import Derived.Test.YtajoncmmdeahnaaGreatDoorKCl6
namespace Go.Proofs.YtajoncmmdeahnaaGreatDoor
open Go.RowKit
namespace Ck
def blockT (F : Fn) (k : Nat) (R : Rc) (n : Nd) (l : Nat) : Ck Nd := mapI (fun _ => statementC F k R) 0 n.kids >>= fun ks => forgetC l >>= fun _ => doneC (withKids n ks) >>= fun _ => pure (withKids n ks)
theorem block_eq (F : Fn) (k : Nat) (R : Rc) (n : Nd) (st : Cs) (h : n.kind = 6) : blockF F k R n st = blockT F k R n st.pass.length st := by
  unfold blockF blockT
  rw [if_neg (fun hh => hh h), ← mapC_I]
theorem block_not (F : Fn) (k : Nat) (R : Rc) (n : Nd) (st : Cs) (h : n.kind ≠ 6) : blockF F k R n st = .error (some 125) := by
  unfold blockF
  rw [if_pos h]
set_option maxRecDepth 100000 in
set_option maxHeartbeats 2000000 in
theorem block_any {X : Xc} {F : Fn} {k : Nat} {R : Rc} (hS : ElC X F 180 (statementC F k R)) : ElC X F 139 (blockF F k R) := by
  intro n g o lo hi cs w st hC hn p1 p2 p3 hB hx
  have HP := hid (Pl.mk p1 p2 p3)
  have N0 := NS.start hC hn hB
  obtain ⟨p, c, c0, c1, c2, c3, c4, hk, hf⟩ := N0.cells
  by_cases hkd : n.kind ≠ 6
  · rw [block_not F k R n st hkd]
    have C97 : Hid (∀ W, Calls Tryz.prog 97 #[.int .i64 (125 : Nat)] W fun e w' => e = .panicked (RjV 125) ∧ w' = W) := fun W => reject_any 125 W
    have e1 : (n.kind == 6) = false := by rw [beq_eq_false_iff_ne]; exact hkd
    generalize n.kind = kd at *
    clear hk hx hC hn hB N0 hf c1 c2 c3 c4 hS
    go_enter Tryz.func139, Tryz.ntmps139
    go_wp2_with (go_at_call 97; refine (C97.out _).mono ?_; rintro e w2 ⟨rfl, hw⟩; replace hw := hw.symm; subst hw; clear C97)
    exact ⟨rfl, rfl, FrN.refl _ _ _ _ _ _⟩
  replace hkd : n.kind = 6 := Decidable.of_not_not hkd
  rw [block_eq F k R n st hkd] at hx ⊢
  have HX := hid (bnd_ne hx)
  have HXX := hid hx
  have L0 := hid (LH.start (φ := fun _ => statementC F k R) N0 hk c0 c1 c2 c3 c4)
  have HS := hid hS
  have HKD := hid (And.intro hkd trivial)
  obtain ⟨L, hL⟩ : ∃ L, n.kids.length = L := ⟨_, rfl⟩
  rw [hL] at L0 c4 hk
  have Lmax := ksI_len hk
  rw [hkd] at c0
  obtain ⟨pv, hR⟩ := hC
  obtain ⟨pa, cap, rfl⟩ := hR.form
  have z2 := hR.blk.cell 2
  simp at z2
  clear hx hn hB N0 hk hf hS c1 c2 c3 hL hR hkd
  generalize hPL : st.pass.length = pl at *
  go_enter Tryz.func139, Tryz.ntmps139
  go_wp2
  go_loopw [22] (fun i wr => ∃ (j : Nat) (ys : List Nd) (s : Cs), i = .int .i64 j ∧ LH X F g o lo hi w n p c L (fun _ => statementC F k R) st j ys s wr) (fun i _ => L - (intOf i).toNat)
  case atStart => exact ⟨0, [], st, rfl, L0.out⟩
  case round =>
    obtain ⟨j, ys, s, rfl, hh⟩ := hrel
    clear L0 c4 c0 z2
    have c4 := hh.c4
    have hj := hh.le
    have j0 : (0 : Int) ≤ j := by omega
    by_cases hlt : j < L
    · have j1 : (j : Int) < L := by omega
      obtain ⟨g', x, m, m', rfl, _, hne, hgg, call, frn, err, step⟩ := hh.next HP.out hlt HX.out
      have FN := hid frn
      have ER := hid err
      have ST := hid step
      have HN := hid hne
      have CC := hid (call 180 _ HS.out HN.out)
      clear frn err step hne hh call
      go_wp2_with (go_at_call 180; refine CC.out.mono ?_; intro e w1 hh; rcases CkT.cases hh HN.out with ⟨e1, hz, rfl, hF⟩ | ⟨y, s', hz, rfl, hN, hA, hF⟩; (case inl => exact ⟨rfl, by unfold blockT; rw [bnd_err (ER.out _ hz)]; exact ⟨rfl, (FN.out _ hF).1⟩⟩); have L1 := hid (ST.out y s' w1 hz hN hA hF); clear hz hN hA hF hh CC)
      go_roundw
      case rel => exact ⟨j + 1, ys ++ [y], s', by go_num, L1.out⟩
      case measure => simp [intOf]; omega
    · have j1 : ¬ (j : Int) < L := by omega
      have e1 : j = L := by omega
      subst e1
      obtain ⟨z1, z2, z3, z4⟩ := hh.done
      have HZ := hid (And.intro z1 trivial)
      have N9 := hid z3
      have HN2 : Hid (forgetC pl s ≠ .error none) := hid (by have h := HXX.out; unfold blockT at h; rw [bnd_ok z1] at h; exact bnd_ne h)
      clear z1 z2 z3 z4 hh HS
      go_wp2_with (first
        | (go_at_call 140; refine (forget_any pl _ N9.out.a HN2.out).mono ?_; intro e w2 hh; rcases CkP.cases hh HN2.out with ⟨e1, hz, rfl, hF⟩ | ⟨t, s2, v, hz, rfl, hv, hA, hF⟩; (case inl => exact ⟨rfl, by unfold blockT; rw [bnd_ok HZ.out.1, bnd_err hz]; exact ⟨rfl, N9.out.bad HP.out hF⟩⟩); have hv' : v = .tuple #[] := hv; subst hv'; have HZ2 := hid (And.intro hz trivial); have N2 := hid (N9.out.frc HP.out hF hA); obtain ⟨p1', c1', d0, d1, d2, d3, d4, hk1, hf1⟩ := N2.out.cells; have HN3 : Hid (doneC (withKids n ys) s2 ≠ .error none) := hid (by have h := HXX.out; unfold blockT at h; rw [bnd_ok HZ.out.1, bnd_ok hz] at h; exact bnd_ne h); clear hz hA hF hh hk1 c4)
        | (go_at_call 136; refine (done_any (withKids n ys) p1' c1' _ N2.out.a HN3.out).mono ?_; intro e w3 hh; rcases CkP.cases hh HN3.out with ⟨e1, hz, rfl, hF⟩ | ⟨t, s3, v, hz, rfl, hv, hA, hF⟩; (case inl => exact ⟨rfl, by unfold blockT; rw [bnd_ok HZ.out.1, bnd_ok HZ2.out.1, bnd_err hz]; exact ⟨rfl, N2.out.bad HP.out hF⟩⟩); have hv' : v = .tuple #[] := hv; subst hv'; have HZ3 := hid (And.intro hz trivial); have N3 := hid (N2.out.frc HP.out hF hA); clear hz hA hF hh))
      refine bodyPost_ret (v := .tuple #[]) (by simp [results, Tryz.results139, go_sem]) rfl ?_
      unfold blockT
      rw [bnd_ok HZ.out.1, bnd_ok HZ2.out.1, bnd_ok HZ3.out.1]
      exact N3.out.ok
/-- A block, with as much fuel as one likes. -/
theorem block_rc (X : Xc) (F : Fn) (k : Nat) : ∀ j, ElC X F 139 (rc F k j).block
  | 0 => fun _ _ _ _ _ _ _ _ _ _ _ _ _ _ hx => absurd rfl hx
  | j + 1 => block_any (statement_any (expr_any X F k) (block_rc X F k j))
end Ck
end Go.Proofs.YtajoncmmdeahnaaGreatDoor
namespace Go.Proofs.YtajoncmmdeahnaaGreatDoor
open Go.RowKit
namespace Ck
def parM (F : Fn) (k : Nat) (n : Nd) : Ck Nd := mapC (exprC F k) n.kids >>= fun ks => knowC n.txt n.ty >>= fun _ => doneC (withKids n ks) >>= fun _ => pure (withKids n ks)
theorem par_eq (F : Fn) (k : Nat) (n : Nd) (h : n.kind = 5) : parameterC F k n = parM F k n := by
  unfold parameterC
  rw [if_neg (fun hh => hh h)]
  rfl
theorem par_not (F : Fn) (k : Nat) (n : Nd) (st : Cs) (h : n.kind ≠ 5) : parameterC F k n st = .error (some 125) := by
  unfold parameterC
  rw [if_pos h]
  rfl
set_option maxRecDepth 100000 in
set_option maxHeartbeats 2000000 in
theorem parameter_any {X : Xc} {F : Fn} {k : Nat} (hE : ElC X F 211 (exprC F k)) : ElC X F 138 (parameterC F k) := by
  intro n g o lo hi cs w st hC hn p1 p2 p3 hB hx
  have HP := hid (Pl.mk p1 p2 p3)
  have N0 := hid (NS.start hC hn hB)
  obtain ⟨p, c, c0, c1, c2, c3, c4, hk, hf⟩ := N0.out.cells
  by_cases hkd : n.kind ≠ 5
  · rw [par_not F k n st hkd]
    have C97 : Hid (∀ W, Calls Tryz.prog 97 #[.int .i64 (125 : Nat)] W fun e w' => e = .panicked (RjV 125) ∧ w' = W) := fun W => reject_any 125 W
    have e1 : (n.kind == 5) = false := by rw [beq_eq_false_iff_ne]; exact hkd
    generalize n.kind = kd at *
    clear hk hx hC hn hB N0 hf c1 c2 c3 c4 hE
    go_enter Tryz.func138, Tryz.ntmps138
    go_wp2_with (go_at_call 97; refine (C97.out _).mono ?_; rintro e w2 ⟨rfl, hw⟩; replace hw := hw.symm; subst hw; clear C97)
    exact ⟨rfl, rfl, FrN.refl _ _ _ _ _ _⟩
  replace hkd : n.kind = 5 := Decidable.of_not_not hkd
  rw [par_eq F k n hkd] at hx ⊢
  have HK := hid hk
  have HE := hid hE
  have LB : Hid (X.low ≤ lo) := hid (by omega)
  have HN := hid hx
  clear hE hk hx hC hn hB hf
  rw [hkd] at c0
  go_enter Tryz.func138, Tryz.ntmps138
  go_wp2_with (go_at_call 176; refine (exprs_any _ HE.out N0.out.a HK.out LB.out p3 (bnd_ne HN.out)).mono ?_; intro e w1 hh; rcases CkL.cases hh (bnd_ne HN.out) with ⟨m, hz, rfl, hF⟩ | ⟨ks, s1, hz, rfl, hK, hA, hF⟩; (case inl => exact ⟨rfl, by unfold parM; rw [bnd_err hz]; exact ⟨rfl, N0.out.badI HP.out hF⟩⟩); have HZ1 := hid (And.intro hz trivial); have N1 := hid (N0.out.kids HP.out c4 hK hA hF); obtain ⟨p1', c1', d0, d1, d2, d3, d4, hk1, hf1⟩ := N1.out.cells; have HN2 : Hid (knowC n.txt n.ty s1 ≠ .error none) := hid (by have h := HN.out; unfold parM at h; rw [bnd_ok hz] at h; exact bnd_ne h); clear c0 c1 c2 c3 c4 hz hK hA hF hh hk1)
  have GD : Hid (w1.grownBy w1.drew none) := hid (grown_drew (grown_refl _ _))
  have KA : Hid (∀ W, w1.grownBy W none → Calls Tryz.prog 179 #[.pointer (some ⟨X.c, 0, none⟩), .string (withKids n ks).txt, .int .i64 (withKids n ks).ty] W (CkP uK X F W (knowC n.txt n.ty s1))) := hid (fun W hW => know_any _ _ W (N1.out.a.kept hW) HN2.out)
  go_region_law (go_simp; go_at_call 179; refine (KA.out _ GD.out).mono ?_; intro e w2 hh; rcases CkP.cases hh HN2.out with ⟨m, hz, rfl, hF⟩ | ⟨t, s2, v, hz, rfl, hv, hA, hF⟩; (case inl => exact ⟨rfl, by unfold parM; rw [bnd_ok HZ1.out.1, bnd_err hz]; exact ⟨rfl, N1.out.bad HP.out ((FrC.nil GD.out).trans hF)⟩⟩); have hv' : v = .tuple #[] := hv; subst hv'; have HZ2 := hid (And.intro hz trivial); have N2 := hid (N1.out.frc HP.out ((FrC.nil GD.out).trans hF) hA); have HN3 : Hid (doneC (withKids n ks) s2 ≠ .error none) := hid (by have h := HN.out; unfold parM at h; rw [bnd_ok HZ1.out.1, bnd_ok hz] at h; exact bnd_ne h); clear hz hA hF hh)
  all_goals
    clear d0 d1 d2 d3 d4
    obtain ⟨p2', c2', d0, d1, d2, d3, d4, hk1, hf1⟩ := N2.out.cells
    clear hk1
    go_wp2_with (go_at_call 136; refine (done_any (withKids n ks) p2' c2' _ N2.out.a HN3.out).mono ?_; intro e w3 hh; rcases CkP.cases hh HN3.out with ⟨e1, hz, rfl, hF⟩ | ⟨t, s3, v, hz, rfl, hv, hA, hF⟩; (case inl => exact ⟨rfl, by unfold parM; rw [bnd_ok HZ1.out.1, bnd_ok HZ2.out.1, bnd_err hz]; exact ⟨rfl, N2.out.bad HP.out hF⟩⟩); have hv' : v = .tuple #[] := hv; subst hv'; have HZ3 := hid (And.intro hz trivial); have N3 := hid (N2.out.frc HP.out hF hA); clear hz hA hF hh)
    go_end0
    unfold parM
    rw [bnd_ok HZ1.out.1, bnd_ok HZ2.out.1, bnd_ok HZ3.out.1]
    exact N3.out.ok
end Ck
end Go.Proofs.YtajoncmmdeahnaaGreatDoor
namespace Go.Proofs.YtajoncmmdeahnaaGreatDoor
open Go.RowKit
namespace Ck
def unsN (k n : Int) : Int := if 0 ≤ n then n else if k = 20 then - n else if k = 21 then n + 9223372036854775808 else n
theorem xor_low (n : Int) (h0 : n < 0) (h1 : -9223372036854775808 ≤ n) : bits .xor .i64 n (-9223372036854775808) = n + 9223372036854775808 := by
  obtain ⟨m, hm⟩ := Int.eq_ofNat_of_zero_le (show 0 ≤ n + 9223372036854775808 by omega)
  have e : n = (m : Int) - 9223372036854775808 := by omega
  subst e
  have h2 : m < 2 ^ 63 := by omega
  have a1 : (BitVec.ofInt 64 ((m : Int) - 9223372036854775808)).toNat = m + 2 ^ 63 := by
    rw [BitVec.toNat_ofInt]
    omega
  have a2 : (BitVec.ofInt 64 (-9223372036854775808)).toNat = 2 ^ 63 := by decide
  have a3 : (m + 2 ^ 63) ^^^ 2 ^ 63 = m := by
    have h1 := Nat.two_pow_add_eq_or_of_lt h2 1
    rw [Nat.mul_one] at h1
    rw [Nat.add_comm, h1]
    apply Nat.eq_of_testBit_eq
    intro i
    rw [Nat.testBit_xor, Nat.testBit_or, Nat.testBit_two_pow]
    by_cases hi : 63 = i
    · subst hi
      rw [Nat.testBit_lt_two_pow h2]
      simp
    · simp [hi]
  show IntKind.i64.wrap ((BitVec.ofInt 64 ((m : Int) - 9223372036854775808) ^^^ BitVec.ofInt 64 (-9223372036854775808)).toNat : Int) = _
  rw [BitVec.toNat_xor, a1, a2, a3, IntKind.wrap_i64]
  omega
def UgP (k t : Int) (s : ByteArray) (n : Int) (p : Option Addr) (l c : Nat) (w : World) (e : Ending) (w' : World) : Prop := e = .returned (.agg #[.int .i64 k, .int .i64 t, .string s, .int .i64 n, .slice p l c]) ∧ w.grownBy w' none
set_option maxRecDepth 100000 in
set_option maxHeartbeats 1000000 in
theorem uns_pos (k t : Int) (s : ByteArray) (n : Int) (p : Option Addr) (l c : Nat) (w : World) (h : 0 ≤ n) : Calls Tryz.prog 178 #[.agg #[.int .i64 k, .int .i64 t, .string s, .int .i64 n, .slice p l c]] w (UgP k t s (n) p l c w) := by
  have e : decide (0 ≤ n) = true := decide_eq_true h
  have B : Hid (Blk ((w.alloc (.cells #[.int .i64 k, .int .i64 t, .string s, .int .i64 (n), .slice p l c] 27)).alloc (.cells #[.int .i64 k, .int .i64 t, .string s, .int .i64 (n), .slice p l c] 27)) (w.heap.size + 1) 27 #[.int .i64 k, .int .i64 t, .string s, .int .i64 (n), .slice p l c]) := hid (by have h := Blk.new (w.alloc (.cells #[.int .i64 k, .int .i64 t, .string s, .int .i64 (n), .slice p l c] 27)) 27 #[.int .i64 k, .int .i64 t, .string s, .int .i64 (n), .slice p l c]; rw [World.size_alloc] at h; exact h)
  go_enter Tryz.func178, Tryz.ntmps178
  go_wp2
  refine bodyPost_ret (Pm.results_nd rfl _ _ (w.heap.size + 1) rfl B.out) rfl ?_
  exact ⟨rfl, grown_alloc (grown_alloc (grown_refl _ _) _) _⟩
set_option maxRecDepth 100000 in
set_option maxHeartbeats 1000000 in
theorem uns_int (t : Int) (s : ByteArray) (n : Int) (p : Option Addr) (l c : Nat) (w : World) (h : n < 0) (h2 : -9223372036854775807 ≤ n) : Calls Tryz.prog 178 #[.agg #[.int .i64 20, .int .i64 t, .string s, .int .i64 n, .slice p l c]] w (UgP 20 t s (- n) p l c w) := by
  have e : decide (0 ≤ n) = false := decide_eq_false (by omega)
  have e2 : IntKind.i64.wrap (- n) = - n := by rw [IntKind.wrap_i64]; omega
  have B : Hid (Blk ((w.alloc (.cells #[.int .i64 20, .int .i64 t, .string s, .int .i64 (- n), .slice p l c] 27)).alloc (.cells #[.int .i64 20, .int .i64 t, .string s, .int .i64 (- n), .slice p l c] 27)) (w.heap.size + 1) 27 #[.int .i64 20, .int .i64 t, .string s, .int .i64 (- n), .slice p l c]) := hid (by have h := Blk.new (w.alloc (.cells #[.int .i64 20, .int .i64 t, .string s, .int .i64 (- n), .slice p l c] 27)) 27 #[.int .i64 20, .int .i64 t, .string s, .int .i64 (- n), .slice p l c]; rw [World.size_alloc] at h; exact h)
  go_enter Tryz.func178, Tryz.ntmps178
  go_wp2
  refine bodyPost_ret (Pm.results_nd rfl _ _ (w.heap.size + 1) rfl B.out) rfl ?_
  exact ⟨rfl, grown_alloc (grown_alloc (grown_refl _ _) _) _⟩
set_option maxRecDepth 100000 in
set_option maxHeartbeats 1000000 in
theorem uns_float (t : Int) (s : ByteArray) (n : Int) (p : Option Addr) (l c : Nat) (w : World) (h : n < 0) (h2 : -9223372036854775807 ≤ n) : Calls Tryz.prog 178 #[.agg #[.int .i64 21, .int .i64 t, .string s, .int .i64 n, .slice p l c]] w (UgP 21 t s (n + 9223372036854775808) p l c w) := by
  have e : decide (0 ≤ n) = false := decide_eq_false (by omega)
  have e2 := xor_low n h (by omega)
  have B : Hid (Blk ((w.alloc (.cells #[.int .i64 21, .int .i64 t, .string s, .int .i64 (n + 9223372036854775808), .slice p l c] 27)).alloc (.cells #[.int .i64 21, .int .i64 t, .string s, .int .i64 (n + 9223372036854775808), .slice p l c] 27)) (w.heap.size + 1) 27 #[.int .i64 21, .int .i64 t, .string s, .int .i64 (n + 9223372036854775808), .slice p l c]) := hid (by have h := Blk.new (w.alloc (.cells #[.int .i64 21, .int .i64 t, .string s, .int .i64 (n + 9223372036854775808), .slice p l c] 27)) 27 #[.int .i64 21, .int .i64 t, .string s, .int .i64 (n + 9223372036854775808), .slice p l c]; rw [World.size_alloc] at h; exact h)
  go_enter Tryz.func178, Tryz.ntmps178
  go_wp2
  refine bodyPost_ret (Pm.results_nd rfl _ _ (w.heap.size + 1) rfl B.out) rfl ?_
  exact ⟨rfl, grown_alloc (grown_alloc (grown_refl _ _) _) _⟩
set_option maxRecDepth 100000 in
set_option maxHeartbeats 1000000 in
theorem uns_other (k t : Int) (s : ByteArray) (n : Int) (p : Option Addr) (l c : Nat) (w : World) (h : n < 0) (h1 : k ≠ 20) (h2 : k ≠ 21) : Calls Tryz.prog 178 #[.agg #[.int .i64 k, .int .i64 t, .string s, .int .i64 n, .slice p l c]] w (UgP k t s (n) p l c w) := by
  have e : decide (0 ≤ n) = false := decide_eq_false (by omega)
  have e1 : (k == 20) = false := by rw [beq_eq_false_iff_ne]; exact h1
  have e2 : (k == 21) = false := by rw [beq_eq_false_iff_ne]; exact h2
  have B : Hid (Blk ((w.alloc (.cells #[.int .i64 k, .int .i64 t, .string s, .int .i64 (n), .slice p l c] 27)).alloc (.cells #[.int .i64 k, .int .i64 t, .string s, .int .i64 (n), .slice p l c] 27)) (w.heap.size + 1) 27 #[.int .i64 k, .int .i64 t, .string s, .int .i64 (n), .slice p l c]) := hid (by have h := Blk.new (w.alloc (.cells #[.int .i64 k, .int .i64 t, .string s, .int .i64 (n), .slice p l c] 27)) 27 #[.int .i64 k, .int .i64 t, .string s, .int .i64 (n), .slice p l c]; rw [World.size_alloc] at h; exact h)
  go_enter Tryz.func178, Tryz.ntmps178
  go_wp2
  refine bodyPost_ret (Pm.results_nd rfl _ _ (w.heap.size + 1) rfl B.out) rfl ?_
  exact ⟨rfl, grown_alloc (grown_alloc (grown_refl _ _) _) _⟩
theorem unsigned_any (k t n : Int) (s : ByteArray) (p : Option Addr) (l c : Nat) (w : World) (h : -9223372036854775807 ≤ n) : Calls Tryz.prog 178 #[.agg #[.int .i64 k, .int .i64 t, .string s, .int .i64 n, .slice p l c]] w (UgP k t s (unsN k n) p l c w) := by
  unfold unsN
  by_cases h1 : 0 ≤ n
  · rw [if_pos h1]
    exact uns_pos k t s n p l c w h1
  rw [if_neg h1]
  by_cases h2 : k = 20
  · rw [if_pos h2]
    subst h2
    exact uns_int t s n p l c w (by omega) h
  rw [if_neg h2]
  by_cases h3 : k = 21
  · rw [if_pos h3]
    subst h3
    exact uns_float t s n p l c w (by omega) h
  rw [if_neg h3]
  exact uns_other k t s n p l c w (by omega) h2 h3
end Ck
end Go.Proofs.YtajoncmmdeahnaaGreatDoor
