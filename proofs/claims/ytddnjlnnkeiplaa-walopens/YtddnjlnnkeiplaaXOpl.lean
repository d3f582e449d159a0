/-
  Open, on a disk with no plan or one fall, leaves the logs that there are.
-/
import Derived.Test.YtddnjlnnkeiplaaXOpn
namespace Go.Proofs.Ytddnjlnnkeiplaa.X
open Go.RowKit Go.Maps
/-- Every log's cells are as they were. -/
def Kp (w w' : World) : Prop := ∀ i cs, Blk w i 77 cs → Blk w' i 77 cs
theorem Kp.trans {a b c : World} (h : Kp a b) (k : Kp b c) : Kp a c := fun i cs hb => k i cs (h i cs hb)
theorem Kp.none {w w' : World} (h : w.grownBy w' none) : Kp w w' := fun _ _ hb => hb.kept h (by simp)
theorem Kp.self {w w' : World} {d : Nat} (h : w.grownBy w' (some d)) (hd : ∃ cs, Blk w d 73 cs) : Kp w w' := fun i cs hb => by
  obtain ⟨cd, hd⟩ := hd
  exact hb.kept h (fun e => far_ne' hb hd (by decide) (Option.some.inj e))
theorem Kp.tend {w w' : World} {base d g : Nat} (h : TendP base d g w w') (hd : ∃ cs, Blk w d 73 cs) : Kp w w' := fun i cs hb => by
  obtain ⟨cd, hd⟩ := hd
  exact (h.keep i hb.lt (Or.inr ⟨far_ne' hb hd (by decide), cs, 77, (0, 0), hb, by decide, fun e => by cases e⟩)).trans hb
theorem Kp.log {w w' : World} {base : Nat} {o : Obj} (h : LT base w.heap.size (w.alloc o) w') : Kp w w' := fun i cs hb => by
  have h1 := hb.alloc o
  have hl := hb.lt
  refine (h.keep i h1.lt (Or.inr ⟨by omega, fun cs2 t2 fz2 h2 => ?_⟩)).trans h1
  rw [h1] at h2
  injection h2 with e
  injection e with e1 e2 e3
  subst e2
  exact ⟨by decide, by decide⟩
def OpenK (base d gp : Nat) (rm : Int) (w : World) (g' : Lg) (cut : Nat) (k' : Dk) (pl' : Option Fa) (e : Ending) (w' : World) : Prop :=
  ∃ b, e = .returned (.tuple #[.pointer (some ⟨b, 0, none⟩), .int .i64 cut, .int .i64 0]) ∧ w.heap.size ≤ b ∧ IsLog w' base b g' ∧ IsP w' base d gp false rm k' pl' ∧ LowP base gp w w' ∧ Kp w w'
def ShutK (base d gp : Nat) (rm : Int) (w : World) (k' : Dk) (pl' : Option Fa) (e : Ending) (w' : World) : Prop :=
  e = .returned (.tuple #[.pointer none, .int .i64 0, .int .i64 7]) ∧ IsP w' base d gp false rm k' pl' ∧ LowP base gp w w' ∧ Kp w w'
set_option maxRecDepth 100000 in
set_option maxHeartbeats 1000000 in
/-- The fall strikes at the Remove, or the disk is dead. -/
theorem openk_struck (base d gp : Nat) (rm : Int) (k : Dk) (pl : Option Fa) (L : Nat → OkChg) (w : World) (hd : IsP w base d gp false rm k pl) (hA : Able k L) (hq : ansQ pl k remC = 7) :
    Calls Try.prog 10 #[.pointer (some ⟨d, 0, none⟩)] w (ShutK base d gp rm w (nextQ pl k remC L) (planQ pl k remC)) := by
  have C1 : Hid (Calls Try.prog 39 #[.pointer (some ⟨d, 0, none⟩), .string ⟨#[108, 111, 103, 46, 110, 101, 119]⟩] w fun e w' => e = .returned (.int .i64 7) ∧ IsP w' base d gp false rm (nextQ pl k remC L) (planQ pl k remC) ∧ TendP base d gp w w') := (remove_q base d gp rm k pl _ L w hd hA fine_rem).mono (fun e w' h => by
    have h' : OpQ base d gp rm pl k remC L w e w' := h
    unfold OpQ at h'
    rw [hq] at h'
    exact h')
  have BD := hid hd.blk
  unfold ShutK
  clear hd hA hq
  generalize nextQ pl k remC L = k1 at *
  generalize planQ pl k remC = p1 at *
  go_enter Try.func10, Try.ntmps10
  go_wp2_with (go_at_call 39; refine C1.out.mono ?_; rintro e w1 ⟨rfl, d1, t1⟩; have D1 := hid d1; have T1 := hid (LowP.of_tendP t1 BD.out); have K1 := hid (Kp.tend t1 BD.out); clear d1 t1 C1 BD)
  go_ret3
  exact ⟨rfl, D1.out, T1.out, K1.out⟩
set_option maxRecDepth 100000 in
set_option maxHeartbeats 4000000 in
/-- It opens. -/
theorem openk_q (base d gp : Nat) (rm : Int) (k : Dk) (pl : Option Fa) (L L1 : Nat → OkChg) (g' : Lg) (x : Nat) (k1 k2 : Dk) (p1 : Option Fa) (w : World) (hd : IsP w base d gp false rm k pl) (hA : Able k L) (hx : ansQ pl k remC = x) (hx2 : x = 0 ∨ x = 2) (hk1 : nextQ pl k remC L = k1) (hp1 : planQ pl k remC = p1) (hd1 : k1.dead = false) (hA1 : Able k1 L1)
    (s : ByteArray) (hs : readS k1.now ⟨#[108, 111, 103]⟩ = s)
    (hld : ∀ W b, IsLog W base b (newL d) → Calls Try.prog 40 #[.pointer (some ⟨b, 0, none⟩), .string s] W fun e w' => e = .returned (.tuple #[]) ∧ IsLog w' base b g' ∧ LT base b W w')
    (hn : g'.len ≤ s.size) (hz : s.size ≤ 1000000)
    (hc : (s.size - g'.len = 0 ∧ k2 = syncD k1) ∨ (0 < s.size - g'.len ∧ ansQ p1 k1 (cutC g'.len) = 0 ∧ Fits (doF k1.now (cutC g'.len)) 1000000 ∧ k2 = syncD (stepD k1 (cutC g'.len)))) :
    Calls Try.prog 10 #[.pointer (some ⟨d, 0, none⟩)] w (OpenK base d gp rm w g' (s.size - g'.len) k2 p1) := by
  have C1 : Hid (Calls Try.prog 39 #[.pointer (some ⟨d, 0, none⟩), .string ⟨#[108, 111, 103, 46, 110, 101, 119]⟩] w fun e w' => e = .returned (.int .i64 (x : Nat)) ∧ IsP w' base d gp false rm k1 p1 ∧ TendP base d gp w w') := (remove_q base d gp rm k pl _ L w hd hA fine_rem).mono (fun e w' h => by
    have h' : OpQ base d gp rm pl k remC L w e w' := h
    unfold OpQ at h'
    rw [hx, hk1, hp1] at h'
    exact h')
  have C2 : Hid (∀ W, IsP W base d gp false rm k1 p1 → Calls Try.prog 32 #[.pointer (some ⟨d, 0, none⟩), .string ⟨#[108, 111, 103]⟩] W fun e w' => e = .returned (.tuple #[.string s, .int .i64 (readE k1.now ⟨#[108, 111, 103]⟩)]) ∧ W.grownBy w' none) := fun W hW => by
    have := read_q base d gp rm k1 p1 ⟨#[108, 111, 103]⟩ W hW hd1 log_name (by decide)
    rw [hs] at this
    exact this
  obtain ⟨hbd, hdw⟩ := hd.base
  have BD := hid hd.blk
  have rb := readE_two k1.now ⟨#[108, 111, 103]⟩
  have C3 := hid hld
  obtain ⟨c, hcc⟩ : ∃ c : Nat, c = s.size - g'.len := ⟨_, rfl⟩
  rw [← hcc] at hc ⊢
  have HC : Hid ((s.size : Int) - (g'.len : Int) = (c : Int)) := (by show (s.size : Int) - (g'.len : Int) = (c : Int); omega)
  have s0 : (s.size : Int) ≤ 1000000 := by omega
  have n0 : (g'.len : Int) ≤ 1000000 := by omega
  have hbw : base ≤ w.heap.size := by omega
  unfold OpenK
  rcases hc with ⟨hc0, rfl⟩ | ⟨hc0, hct, hcf, rfl⟩
  · have C6 : Hid (∀ W, IsP W base d gp false rm k1 p1 → Calls Try.prog 31 #[.pointer (some ⟨d, 0, none⟩)] W fun e w' => e = .returned (.int .i64 0) ∧ IsP w' base d gp false rm (syncD k1) p1 ∧ W.grownBy w' (some d)) := fun W hW => sync_q base d gp rm k1 p1 W hW hd1 hA1.small.now
    have y1 : ¬ (0 : Int) < (s.size : Int) - (g'.len : Int) := by omega
    clear hd hA hx hk1 hp1 hd1 hA1 hs hld hn hz hcc hc0
    generalize readE k1.now ⟨#[108, 111, 103]⟩ = y at *
    generalize syncD k1 = k2 at *
    rcases hx2 with rfl | rfl <;> rcases rb with rfl | rfl
    all_goals (
      go_enter Try.func10, Try.ntmps10
      go_wp2_with (first
        | (go_at_call 39; refine C1.out.mono ?_; rintro e w1 ⟨rfl, h1, t1⟩; have D1 := hid h1; have T1 := hid (LowP.of_tendP t1 BD.out); have K1 := hid (Kp.tend t1 BD.out); clear h1 t1 C1 BD)
        | (go_at_call 32; refine (C2.out _ D1.out).mono ?_; rintro e w2 ⟨rfl, g2⟩; have D2 := hid (D1.out.kept g2); have T2 := hid (LowP.trans T1.out (LowP.of_low (Low.of_none g2))); have K2 := hid (Kp.trans K1.out (Kp.none g2)); have hw2 : w.heap.size ≤ w2.heap.size := T2.out.size; clear g2 C2)
        | (go_at_call 40; refine (C3.out _ w2.heap.size (newL_is (by omega))).mono ?_; rintro e w3 ⟨rfl, l3, t3⟩; have L3 := hid l3; have K3 := hid (Kp.trans K2.out (Kp.log t3)); have D3 := hid (IsP.log (D2.out.kept (grown_alloc (grown_refl _ _) _)) (Blk.new w2 77 _) t3); have T3 := hid (LowP.trans T2.out (LowP.of_low (Low.trans (Low.of_none (grown_alloc (grown_refl _ _) _)) (Low.of_lt t3 ⟨_, Blk.new w2 77 _⟩)))); obtain ⟨_, vr1, vw1, hb1, _, _⟩ := L3.out; have e3 := hb1.g7.1.2.2.2.1; clear hb1 l3 t3 C3)
        | (go_at_call 31; refine (C6.out _ D3.out).mono ?_; rintro e w5 ⟨rfl, d5, g5⟩; have D5 := hid d5; obtain ⟨cd, hcd⟩ := D3.out.blk; have L5 := hid (L3.out.keptD hcd (Tend.of_self (base := base) g5 hbd)); have K5 := hid (Kp.trans K3.out (Kp.self g5 ⟨_, hcd⟩)); have T5 := hid (LowP.trans T3.out (LowP.of_low (Low.of_tend (Tend.of_self (base := base) g5 hbd) ⟨_, hcd⟩))); clear hcd d5 g5 C6))
      go_ret3
      exact ⟨w2.heap.size, (by rw [HC.out]; rfl), hw2, L5.out, D5.out, T5.out, K5.out⟩)
  · have C4 : Hid (∀ W, IsP W base d gp false rm k1 p1 → Calls Try.prog 41 #[.pointer (some ⟨d, 0, none⟩), .string ⟨#[108, 111, 103]⟩, .int .i64 g'.len] W fun e w' => e = .returned (.int .i64 0) ∧ IsP w' base d gp false rm (stepD k1 (cutC g'.len)) p1 ∧ TendP base d gp W w') := fun W hW => (truncate_q base d gp rm k1 p1 ⟨#[108, 111, 103]⟩ g'.len L1 W hW hA1 (fine_cut g'.len (by omega))).mono (fun e w' h => by
      have h' : OpQ base d gp rm p1 k1 (cutC g'.len) L1 W e w' := h
      unfold OpQ at h'
      obtain ⟨en, ep⟩ := nextQ_zero (L := L1) hct
      rw [hct, en, ep] at h'
      exact h')
    have C5 : Hid (∀ W, IsP W base d gp false rm (stepD k1 (cutC g'.len)) p1 → Calls Try.prog 31 #[.pointer (some ⟨d, 0, none⟩)] W fun e w' => e = .returned (.int .i64 0) ∧ IsP w' base d gp false rm (syncD (stepD k1 (cutC g'.len))) p1 ∧ W.grownBy w' (some d)) := fun W hW => sync_q base d gp rm _ p1 W hW hd1 hcf
    have y1 : (0 : Int) < (s.size : Int) - (g'.len : Int) := by omega
    clear hd hA hx hk1 hp1 hd1 hA1 hs hld hn hz hcc hc0 hct hcf
    generalize readE k1.now ⟨#[108, 111, 103]⟩ = y at *
    generalize stepD k1 (cutC g'.len) = k3 at *
    generalize syncD k3 = k2 at *
    rcases hx2 with rfl | rfl <;> rcases rb with rfl | rfl
    all_goals (
      go_enter Try.func10, Try.ntmps10
      go_wp2_with (first
        | (go_at_call 39; refine C1.out.mono ?_; rintro e w1 ⟨rfl, h1, t1⟩; have D1 := hid h1; have T1 := hid (LowP.of_tendP t1 BD.out); have K1 := hid (Kp.tend t1 BD.out); clear h1 t1 C1 BD)
        | (go_at_call 32; refine (C2.out _ D1.out).mono ?_; rintro e w2 ⟨rfl, g2⟩; have D2 := hid (D1.out.kept g2); have T2 := hid (LowP.trans T1.out (LowP.of_low (Low.of_none g2))); have K2 := hid (Kp.trans K1.out (Kp.none g2)); have hw2 : w.heap.size ≤ w2.heap.size := T2.out.size; clear g2 C2)
        | (go_at_call 40; refine (C3.out _ w2.heap.size (newL_is (by omega))).mono ?_; rintro e w3 ⟨rfl, l3, t3⟩; have L3 := hid l3; have K3 := hid (Kp.trans K2.out (Kp.log t3)); have D3 := hid (IsP.log (D2.out.kept (grown_alloc (grown_refl _ _) _)) (Blk.new w2 77 _) t3); have T3 := hid (LowP.trans T2.out (LowP.of_low (Low.trans (Low.of_none (grown_alloc (grown_refl _ _) _)) (Low.of_lt t3 ⟨_, Blk.new w2 77 _⟩)))); obtain ⟨_, vr1, vw1, hb1, _, _⟩ := L3.out; have e3 := hb1.g7.1.2.2.2.1; clear hb1 l3 t3 C3)
        | (go_at_call 41; refine (C4.out _ D3.out).mono ?_; rintro e w4 ⟨rfl, d4, t4⟩; have D4 := hid d4; obtain ⟨cd, hcd⟩ := D3.out.blk; have L4 := hid (log_keptP L3.out hcd t4); have T4 := hid (LowP.trans T3.out (LowP.of_tendP t4 ⟨_, hcd⟩)); have K4 := hid (Kp.trans K3.out (Kp.tend t4 ⟨_, hcd⟩)); clear hcd d4 t4 C4)
        | (go_at_call 31; refine (C5.out _ D4.out).mono ?_; rintro e w5 ⟨rfl, d5, g5⟩; have D5 := hid d5; obtain ⟨cd, hcd⟩ := D4.out.blk; have L5 := hid (L4.out.keptD hcd (Tend.of_self (base := base) g5 hbd)); have K5 := hid (Kp.trans K4.out (Kp.self g5 ⟨_, hcd⟩)); have T5 := hid (LowP.trans T4.out (LowP.of_low (Low.of_tend (Tend.of_self (base := base) g5 hbd) ⟨_, hcd⟩))); clear hcd d5 g5 C5))
      go_ret3
      exact ⟨w2.heap.size, (by rw [HC.out]; rfl), hw2, L5.out, D5.out, T5.out, K5.out⟩)
set_option maxRecDepth 100000 in
set_option maxHeartbeats 4000000 in
/-- The fall strikes at the Truncate. -/
theorem openk_struck2 (base d gp : Nat) (rm : Int) (k : Dk) (pl : Option Fa) (L L1 : Nat → OkChg) (g' : Lg) (x : Nat) (k1 : Dk) (p1 : Option Fa) (w : World) (hd : IsP w base d gp false rm k pl) (hA : Able k L) (hx : ansQ pl k remC = x) (hx2 : x = 0 ∨ x = 2) (hk1 : nextQ pl k remC L = k1) (hp1 : planQ pl k remC = p1) (hd1 : k1.dead = false) (hA1 : Able k1 L1)
    (s : ByteArray) (hs : readS k1.now ⟨#[108, 111, 103]⟩ = s)
    (hld : ∀ W b, IsLog W base b (newL d) → Calls Try.prog 40 #[.pointer (some ⟨b, 0, none⟩), .string s] W fun e w' => e = .returned (.tuple #[]) ∧ IsLog w' base b g' ∧ LT base b W w')
    (hn : g'.len ≤ s.size) (hz : s.size ≤ 1000000) (hc0 : 0 < s.size - g'.len) (hct : ansQ p1 k1 (cutC g'.len) = 7) :
    Calls Try.prog 10 #[.pointer (some ⟨d, 0, none⟩)] w (ShutK base d gp rm w (nextQ p1 k1 (cutC g'.len) L1) (planQ p1 k1 (cutC g'.len))) := by
  have C1 : Hid (Calls Try.prog 39 #[.pointer (some ⟨d, 0, none⟩), .string ⟨#[108, 111, 103, 46, 110, 101, 119]⟩] w fun e w' => e = .returned (.int .i64 (x : Nat)) ∧ IsP w' base d gp false rm k1 p1 ∧ TendP base d gp w w') := (remove_q base d gp rm k pl _ L w hd hA fine_rem).mono (fun e w' h => by
    have h' : OpQ base d gp rm pl k remC L w e w' := h
    unfold OpQ at h'
    rw [hx, hk1, hp1] at h'
    exact h')
  have C2 : Hid (∀ W, IsP W base d gp false rm k1 p1 → Calls Try.prog 32 #[.pointer (some ⟨d, 0, none⟩), .string ⟨#[108, 111, 103]⟩] W fun e w' => e = .returned (.tuple #[.string s, .int .i64 (readE k1.now ⟨#[108, 111, 103]⟩)]) ∧ W.grownBy w' none) := fun W hW => by
    have := read_q base d gp rm k1 p1 ⟨#[108, 111, 103]⟩ W hW hd1 log_name (by decide)
    rw [hs] at this
    exact this
  obtain ⟨hbd, hdw⟩ := hd.base
  have BD := hid hd.blk
  have rb := readE_two k1.now ⟨#[108, 111, 103]⟩
  have C3 := hid hld
  have s0 : (s.size : Int) ≤ 1000000 := by omega
  have n0 : (g'.len : Int) ≤ 1000000 := by omega
  have hbw : base ≤ w.heap.size := by omega
  unfold ShutK
  have C4 : Hid (∀ W, IsP W base d gp false rm k1 p1 → Calls Try.prog 41 #[.pointer (some ⟨d, 0, none⟩), .string ⟨#[108, 111, 103]⟩, .int .i64 g'.len] W fun e w' => e = .returned (.int .i64 7) ∧ IsP w' base d gp false rm (nextQ p1 k1 (cutC g'.len) L1) (planQ p1 k1 (cutC g'.len)) ∧ TendP base d gp W w') := fun W hW => (truncate_q base d gp rm k1 p1 ⟨#[108, 111, 103]⟩ g'.len L1 W hW hA1 (fine_cut g'.len (by omega))).mono (fun e w' h => by
    have h' : OpQ base d gp rm p1 k1 (cutC g'.len) L1 W e w' := h
    unfold OpQ at h'
    rw [hct] at h'
    exact h')
  have y1 : (0 : Int) < (s.size : Int) - (g'.len : Int) := by omega
  clear hd hA hx hk1 hp1 hd1 hA1 hs hld hn hz hc0 hct
  generalize readE k1.now ⟨#[108, 111, 103]⟩ = y at *
  generalize nextQ p1 k1 (cutC g'.len) L1 = k3 at *
  generalize planQ p1 k1 (cutC g'.len) = p3 at *
  rcases hx2 with rfl | rfl <;> rcases rb with rfl | rfl
  all_goals (
    go_enter Try.func10, Try.ntmps10
    go_wp2_with (first
      | (go_at_call 39; refine C1.out.mono ?_; rintro e w1 ⟨rfl, h1, t1⟩; have D1 := hid h1; have T1 := hid (LowP.of_tendP t1 BD.out); have K1 := hid (Kp.tend t1 BD.out); clear h1 t1 C1 BD)
      | (go_at_call 32; refine (C2.out _ D1.out).mono ?_; rintro e w2 ⟨rfl, g2⟩; have D2 := hid (D1.out.kept g2); have T2 := hid (LowP.trans T1.out (LowP.of_low (Low.of_none g2))); have K2 := hid (Kp.trans K1.out (Kp.none g2)); have hw2 : w.heap.size ≤ w2.heap.size := T2.out.size; clear g2 C2)
      | (go_at_call 40; refine (C3.out _ w2.heap.size (newL_is (by omega))).mono ?_; rintro e w3 ⟨rfl, l3, t3⟩; have L3 := hid l3; have K3 := hid (Kp.trans K2.out (Kp.log t3)); have D3 := hid (IsP.log (D2.out.kept (grown_alloc (grown_refl _ _) _)) (Blk.new w2 77 _) t3); have T3 := hid (LowP.trans T2.out (LowP.of_low (Low.trans (Low.of_none (grown_alloc (grown_refl _ _) _)) (Low.of_lt t3 ⟨_, Blk.new w2 77 _⟩)))); obtain ⟨_, vr1, vw1, hb1, _, _⟩ := L3.out; have e3 := hb1.g7.1.2.2.2.1; clear hb1 l3 t3 C3)
      | (go_at_call 41; refine (C4.out _ D3.out).mono ?_; rintro e w4 ⟨rfl, d4, t4⟩; have D4 := hid d4; obtain ⟨cd, hcd⟩ := D3.out.blk; have T4 := hid (LowP.trans T3.out (LowP.of_tendP t4 ⟨_, hcd⟩)); have K4 := hid (Kp.trans K3.out (Kp.tend t4 ⟨_, hcd⟩)); clear hcd d4 t4 C4))
    go_ret3
    exact ⟨rfl, D4.out, T4.out, K4.out⟩)
end Go.Proofs.Ytddnjlnnkeiplaa.X
