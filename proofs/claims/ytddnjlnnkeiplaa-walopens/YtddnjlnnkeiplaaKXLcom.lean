/-
  Open: what a disk holds, whose power is on and whose changes do not fail. Commit, on a disk with any room: all is sure, or there is no room, and what waited is gone.
-/
import Derived.Test.YtddnjlnnkeiplaaKXLput
import Derived.Test.YtddnjlnnkeiplaaKLopen
import Derived.Test.YtddnjlnnkeiplaaKXDel
namespace Go.Proofs.Ytddnjlnnkeiplaa.X
open Go.RowKit Go.Maps
variable {xt : Xt}
def OpenPost (xt : Xt) (base d : Nat) (w : World) (g' : Lg) (cut : Nat) (k' : Dk) (e : Ending) (w' : World) : Prop :=
  ∃ b, e = .returned (.tuple #[.pointer (some ⟨b, 0, none⟩), .int .i64 cut, .int .i64 0]) ∧ w.heap.size ≤ b ∧ IsLog w' base b g' ∧ IsDisk xt w' base d k' ∧ Low base w w'
set_option maxRecDepth 100000 in
set_option maxHeartbeats 4000000 in
theorem open_any (base d : Nat) (k : Dk) (g' : Lg) (w : World) (hd : IsDisk xt w base d k) (hdd : k.dead = false) (hS : Small k) (hS1 : Small (nextD k remC)) (hP : xt.pp = none ∧ xt.pn = 0 ∧ xt.pc = 0) (hZ : sizeF k.now ≤ 1000000000) (hZ1 : sizeF (nextD k remC).now ≤ 1000000000)
    (hld : ∀ W b, IsLog W base b (newL d) → Calls Try.prog 40 #[.pointer (some ⟨b, 0, none⟩), .string (readS (nextD k remC).now ⟨#[108, 111, 103]⟩)] W fun e w' => e = .returned (.tuple #[]) ∧ IsLog w' base b g' ∧ LT base b W w')
    (hn : g'.len ≤ (readS (nextD k remC).now ⟨#[108, 111, 103]⟩).size) (hz : (readS (nextD k remC).now ⟨#[108, 111, 103]⟩).size ≤ 1000000) (hf : Fits (doF (nextD k remC).now (cutC g'.len)) 1000000) :
    Calls Try.prog 10 #[.pointer (some ⟨d, 0, none⟩)] w (OpenPost xt base d w g' ((readS (nextD k remC).now ⟨#[108, 111, 103]⟩).size - g'.len) (openD k ((readS (nextD k remC).now ⟨#[108, 111, 103]⟩).size - g'.len) g'.len)) := by
  have hd1 := next_dead k remC hdd
  have C1 : Hid (Calls Try.prog 39 #[.pointer (some ⟨d, 0, none⟩), .string ⟨#[108, 111, 103, 46, 110, 101, 119]⟩] w fun e w' => e = .returned (.int .i64 (ansF k remC : Nat)) ∧ IsDisk xt w' base d (nextD k remC) ∧ Tend base d w w') := by
    have := remove_all base d k _ w hd hS fine_rem hP hZ
    rw [ans_old xt k _ (by decide), next_old xt k _ (by decide)] at this
    exact this
  have C2 : Hid (∀ W, IsDisk xt W base d (nextD k remC) → Calls Try.prog 32 #[.pointer (some ⟨d, 0, none⟩), .string ⟨#[108, 111, 103]⟩] W fun e w' => e = .returned (.tuple #[.string (readS (nextD k remC).now ⟨#[108, 111, 103]⟩), .int .i64 (readE (nextD k remC).now ⟨#[108, 111, 103]⟩)]) ∧ W.grownBy w' none) := fun W hW => read_any base d _ _ W hW hd1 log_name (by decide)
  have C4 : Hid (0 < (readS (nextD k remC).now ⟨#[108, 111, 103]⟩).size - g'.len → ∀ W, IsDisk xt W base d (nextD k remC) → Calls Try.prog 41 #[.pointer (some ⟨d, 0, none⟩), .string ⟨#[108, 111, 103]⟩, .int .i64 g'.len] W fun e w' => e = .returned (.int .i64 0) ∧ IsDisk xt w' base d (stepD (nextD k remC) (cutC g'.len)) ∧ Tend base d W w') := fun h0 W hW => by
    have ha := cut_ans (nextD k remC) g'.len hd1 (by omega) hn
    have := truncate_all base d (nextD k remC) ⟨#[108, 111, 103]⟩ g'.len W hW hS1 (fine_cut g'.len (by omega)) hP hZ1
    rw [ans_old xt _ _ (by show 1 < 4; decide), next_old xt _ _ (by show 1 < 4; decide)] at this
    have en : nextD (nextD k remC) (cutC g'.len) = stepD (nextD k remC) (cutC g'.len) := by rw [nextD, if_pos ha]
    change Calls Try.prog 41 _ W fun e w' => e = .returned (.int .i64 (ansF (nextD k remC) (cutC g'.len) : Nat)) ∧ IsDisk xt w' base d (nextD (nextD k remC) (cutC g'.len)) ∧ Tend base d W w' at this
    rw [ha, en] at this
    exact this
  have C5 : Hid (∀ W, IsDisk xt W base d (stepD (nextD k remC) (cutC g'.len)) → Calls Try.prog 31 #[.pointer (some ⟨d, 0, none⟩)] W fun e w' => e = .returned (.int .i64 0) ∧ IsDisk xt w' base d (syncD (stepD (nextD k remC) (cutC g'.len))) ∧ W.grownBy w' (some d)) := fun W hW => sync_any base d _ W hW hd1 hf
  have C6 : Hid (∀ W, IsDisk xt W base d (nextD k remC) → Calls Try.prog 31 #[.pointer (some ⟨d, 0, none⟩)] W fun e w' => e = .returned (.int .i64 0) ∧ IsDisk xt w' base d (syncD (nextD k remC)) ∧ W.grownBy w' (some d)) := fun W hW => sync_any base d _ W hW hd1 hS1.now
  have C3 := hid hld
  have hbd : base ≤ d := hd.1
  have hdw := hd.lt
  have BD := hid hd.blk
  have ra := rem_ans k hdd
  have rb := readE_two (nextD k remC).now ⟨#[108, 111, 103]⟩
  have eD : openD k ((readS (nextD k remC).now ⟨#[108, 111, 103]⟩).size - g'.len) g'.len = syncD (if 0 < (readS (nextD k remC).now ⟨#[108, 111, 103]⟩).size - g'.len then stepD (nextD k remC) (cutC g'.len) else nextD k remC) := rfl
  rw [eD]
  clear eD hd hdd hS hS1 hld hf hd1 hZ hZ1 hP
  generalize readE (nextD k remC).now ⟨#[108, 111, 103]⟩ = y at *
  generalize readS (nextD k remC).now ⟨#[108, 111, 103]⟩ = s at *
  generalize ansF k remC = x at *
  generalize stepD (nextD k remC) (cutC g'.len) = k2 at *
  generalize nextD k remC = k1 at *
  have s0 : (s.size : Int) ≤ 1000000 := by omega
  have n0 : (g'.len : Int) ≤ 1000000 := by omega
  obtain ⟨c, hc⟩ : ∃ c : Nat, c = s.size - g'.len := ⟨_, rfl⟩
  have HC : Hid ((s.size : Int) - (g'.len : Int) = (c : Int)) := (by show (s.size : Int) - (g'.len : Int) = (c : Int); omega)
  rw [← hc]
  rw [← hc] at C4
  have hbw : base ≤ w.heap.size := by omega
  rcases ra with rfl | rfl <;> rcases rb with rfl | rfl <;> by_cases hcut : 0 < c
  all_goals (
    first | rw [if_pos hcut] | rw [if_neg hcut]
    try have y1 : (0 : Int) < (s.size : Int) - (g'.len : Int) := by omega
    try have y1 : ¬ (0 : Int) < (s.size : Int) - (g'.len : Int) := by omega
    have HCUT := hid hcut
    clear hcut hc hn hz
    go_enter Try.func10, Try.ntmps10
    go_wp2_with (first
      | (go_at_call 39; refine C1.out.mono ?_; rintro e w1 ⟨rfl, h1, t1⟩; have D1 := hid h1; have T1 := hid (Low.of_tend (base := base) t1 BD.out); clear h1 t1 C1 BD)
      | (go_at_call 32; refine (C2.out _ D1.out).mono ?_; rintro e w2 ⟨rfl, g2⟩; have D2 := hid (D1.out.kept g2); have T2 := hid (Low.trans T1.out (Low.of_none g2)); have hw2 : w.heap.size ≤ w2.heap.size := T2.out.size; clear g2 C2)
      | (go_at_call 40; refine (C3.out _ w2.heap.size (newL_is (by omega))).mono ?_; rintro e w3 ⟨rfl, l3, t3⟩; have L3 := hid l3; have D3 := hid (IsDisk.keptL (D2.out.kept (grown_alloc (grown_refl _ _) _)) (Blk.new w2 77 _) t3); have T3 := hid (Low.trans T2.out (Low.trans (Low.of_none (grown_alloc (grown_refl _ _) _)) (Low.of_lt t3 ⟨_, Blk.new w2 77 _⟩))); obtain ⟨_, vr1, vw1, hb1, _, _⟩ := L3.out; have e3 := hb1.g7.1.2.2.2.1; clear hb1 l3 t3 C3)
      | (go_at_call 41; refine (C4.out HCUT.out _ D3.out).mono ?_; rintro e w4 ⟨rfl, d4, t4⟩; have D4 := hid d4; obtain ⟨cd, hcd⟩ := D3.out.blk; have L4 := hid (L3.out.keptD hcd t4); have T4 := hid (Low.trans T3.out (Low.of_tend (base := base) t4 ⟨_, hcd⟩)); clear hcd d4 t4 C4)
      | (go_at_call 31; refine (C5.out _ D4.out).mono ?_; rintro e w5 ⟨rfl, d5, g5⟩; have D5 := hid d5; obtain ⟨cd, hcd⟩ := D4.out.blk; have L5 := hid (L4.out.keptD hcd (Tend.of_self (base := base) g5 hbd)); have T5 := hid (Low.trans T4.out (Low.of_tend (Tend.of_self (base := base) g5 hbd) ⟨_, hcd⟩)); clear hcd d5 g5 C5)
      | (go_at_call 31; refine (C6.out _ D3.out).mono ?_; rintro e w5 ⟨rfl, d5, g5⟩; have D5 := hid d5; obtain ⟨cd, hcd⟩ := D3.out.blk; have L5 := hid (L3.out.keptD hcd (Tend.of_self (base := base) g5 hbd)); have T5 := hid (Low.trans T3.out (Low.of_tend (Tend.of_self (base := base) g5 hbd) ⟨_, hcd⟩)); clear hcd d5 g5 C6))
    go_ret3
    exact ⟨w2.heap.size, (by rw [HC.out]; rfl), hw2, L5.out, D5.out, T5.out⟩)
set_option maxRecDepth 100000 in
set_option maxHeartbeats 1000000 in
/-- A dead disk is not opened. -/
theorem open_dead (base d : Nat) (k : Dk) (w : World) (hd : IsDisk xt w base d k) (hdd : k.dead = true) (hS : Small k) (hP : xt.pp = none ∧ xt.pn = 0 ∧ xt.pc = 0) (hZ : sizeF k.now ≤ 1000000000) :
    Calls Try.prog 10 #[.pointer (some ⟨d, 0, none⟩)] w fun e w' => e = .returned (.tuple #[.pointer none, .int .i64 0, .int .i64 7]) ∧ Low base w w' := by
  have ea : ansF k remC = 7 := by unfold ansF; rw [hdd]; rfl
  have C1 : Hid (Calls Try.prog 39 #[.pointer (some ⟨d, 0, none⟩), .string ⟨#[108, 111, 103, 46, 110, 101, 119]⟩] w fun e w' => e = .returned (.int .i64 7) ∧ Tend base d w w') := (remove_all base d k _ w hd hS fine_rem hP hZ).mono (fun e w' h => by
    rw [ans_old xt k _ (by decide), next_old xt k _ (by decide)] at h
    have h' : e = .returned (.int .i64 (ansF k remC : Nat)) ∧ IsDisk xt w' base d (nextD k remC) ∧ Tend base d w w' := h
    rw [ea] at h'
    exact ⟨h'.1, h'.2.2⟩)
  have BD := hid hd.blk
  clear hd hdd hS ea hP hZ
  go_enter Try.func10, Try.ntmps10
  go_wp2_with (go_at_call 39; refine C1.out.mono ?_; rintro e w1 ⟨rfl, t1⟩; have T1 := hid (Low.of_tend (base := base) t1 BD.out); clear t1 C1 BD)
  go_ret3
  exact ⟨rfl, T1.out⟩
end Go.Proofs.Ytddnjlnnkeiplaa.X
namespace Go.Proofs.Ytddnjlnnkeiplaa.X
open Go.RowKit Go.Maps
variable {xt : Xt}
/-- Why so many bytes more may not be. -/
def putQ (xt : Xt) (k : Dk) (s : ByteArray) : Nat := growF xt k.now (s.size : Int)
theorem put_ans (k : Dk) (s : ByteArray) (hd : k.dead = false) : ansX xt k (putC s) = putQ xt k s := by
  have e : ansX xt k (putC s) = refX xt k.now (putC s) := by unfold ansX; rw [hd]; rfl
  rw [e]
  unfold refX putC putQ
  have h1 : ¬ (nameB ⟨#[108, 111, 103]⟩ = false ∨ ((0 : Nat) = 2 ∧ nameB ⟨#[]⟩ = false)) := by
    rw [log_name]
    rintro (h | h)
    · cases h
    · exact absurd h.1 (by decide)
  show (if _ then 30 else if (0 : Nat) ≤ 1 then growF xt k.now (if (0 : Nat) = 0 then _ else _) else _) = _
  rw [if_neg h1, if_pos (by decide), if_pos rfl]
theorem fine_put (s : ByteArray) (h : s.size ≤ 1000000) : Fine (putC s) := ⟨by show 0 ≤ 4; omega, by show 3 ≤ maxLen; decide, by show 0 ≤ maxLen; decide, h, by show (0 : Int) ≤ 9223372036854775807; decide⟩
/-- The disk behind put. -/
def putD (xt : Xt) (k : Dk) (s : ByteArray) : Dk := if putQ xt k s = 0 then syncD (stepD k (putC s)) else k
set_option maxRecDepth 100000 in
set_option maxHeartbeats 1000000 in
theorem put_x (base b : Nat) (g : Lg) (k : Dk) (s : ByteArray) (w : World) (h : IsLog w base b g) (hd : IsDisk xt w base g.d k) (hdd : k.dead = false) (hS : Small k) (hs : s.size ≤ 1000000) (hf : Fits (doF k.now (putC s)) 1000000) (hP : xt.pp = none ∧ xt.pn = 0 ∧ xt.pc = 0) (hZ : sizeF k.now ≤ 1000000000) :
    Calls Try.prog 43 #[.pointer (some ⟨b, 0, none⟩), .string s] w fun e w' => e = .returned (.int .i64 (putQ xt k s : Nat)) ∧ IsLog w' base b g ∧ IsDisk xt w' base g.d (putD xt k s) ∧ Low base w w' := by
  have CA0 := append_all base g.d k ⟨#[108, 111, 103]⟩ s w hd hS (fine_put s hs) hP hZ
  change Calls Try.prog 62 _ w fun e w' => e = .returned (.int .i64 (ansX xt k (putC s) : Nat)) ∧ IsDisk xt w' base g.d (nextX xt k (putC s)) ∧ Tend base g.d w w' at CA0
  have ea := put_ans (xt := xt) k s hdd
  have CS : Hid (∀ W, IsDisk xt W base g.d (stepD k (putC s)) → Calls Try.prog 31 #[.pointer (some ⟨g.d, 0, none⟩)] W fun e w' => e = .returned (.int .i64 0) ∧ IsDisk xt w' base g.d (syncD (stepD k (putC s))) ∧ W.grownBy w' (some g.d)) := fun W hW => sync_any base g.d _ W hW hdd hf
  have HL := hid h
  obtain ⟨cd, hcd⟩ := hd.blk
  have BD := hid hcd
  have hbd : base ≤ g.d := hd.1
  obtain ⟨_, vr, vw, hb, _, _⟩ := h
  have c0 := hb.g7.1.1
  clear hb hcd hd hs hf hS hdd hP hZ
  by_cases hq : putQ xt k s = 0
  · have en : nextX xt k (putC s) = stepD k (putC s) := by unfold nextX; rw [ea, if_pos hq]
    have eD : putD xt k s = syncD (stepD k (putC s)) := by unfold putD; rw [if_pos hq]
    rw [ea, en, hq] at CA0
    rw [hq, eD]
    have CA := hid CA0
    clear CA0 ea en eD hq
    generalize stepD k (putC s) = k1 at *
    generalize syncD k1 = k2 at *
    go_enter Try.func43, Try.ntmps43
    go_wp2_with (first
      | (go_at_call 62; refine CA.out.mono ?_; rintro e w1 ⟨rfl, h1, t1⟩; have D1 := hid h1; have L1 := hid (HL.out.keptD BD.out t1); have T1 := hid (Low.of_tend t1 ⟨_, BD.out⟩); obtain ⟨_, vr1, vw1, hb1, _, _⟩ := L1.out; have e0 := hb1.g7.1.1; clear hb1 h1 t1 CA)
      | (go_at_call 31; refine (CS.out _ D1.out).mono ?_; rintro e w2 ⟨rfl, h2, g2⟩; have D2 := hid h2; obtain ⟨cd1, hcd1⟩ := D1.out.blk; have L2 := hid (L1.out.keptD hcd1 (Tend.of_self (base := base) g2 hbd)); have T2 := hid (Low.trans T1.out (Low.of_tend (Tend.of_self (base := base) g2 hbd) ⟨_, hcd1⟩)); clear h2 g2 CS hcd1))
    go_ret
    exact ⟨rfl, L2.out, D2.out, T2.out⟩
  · have en : nextX xt k (putC s) = k := by unfold nextX; rw [ea, if_neg hq]
    have eD : putD xt k s = k := by unfold putD; rw [if_neg hq]
    rw [ea, en] at CA0
    rw [eD]
    have CA := hid CA0
    clear CA0 ea en eD CS
    generalize putQ xt k s = q at *
    have h1 : ((q : Int) == 0) = false := by simp; exact hq
    have h2 : ((q : Int) != 0) = true := by simp; exact hq
    clear hq
    go_enter Try.func43, Try.ntmps43
    go_wp2_with (go_at_call 62; refine CA.out.mono ?_; rintro e w1 ⟨rfl, h1, t1⟩; have D1 := hid h1; have L1 := hid (HL.out.keptD BD.out t1); have T1 := hid (Low.of_tend t1 ⟨_, BD.out⟩); clear h1 t1 CA)
    go_ret
    exact ⟨rfl, L1.out, D1.out, T1.out⟩
/-- The log behind a Commit. -/
def comX (xt : Xt) (k : Dk) (g : Lg) (r : ByteArray) : Lg := if putQ xt k (g.wait ++ Wi.frmS (⟨#[109]⟩ ++ r)) = 0 then comL g r else dropG g
set_option maxRecDepth 100000 in
set_option maxHeartbeats 1000000 in
theorem commit_x (base b : Nat) (g : Lg) (k : Dk) (r : ByteArray) (w : World) (h : IsLog w base b g) (hd : IsDisk xt w base g.d k) (hdd : k.dead = false) (hS : Small k) (hr : r.size ≤ 3900) (hw : g.wait.size ≤ 900000) (hl : g.recs.length ≤ 1000000) (hcm : g.com ≤ g.recs.length) (hn : g.len ≤ 1000000000)
    (hf : Fits (doF k.now (putC (g.wait ++ Wi.frmS (⟨#[109]⟩ ++ r)))) 1000000) (hP : xt.pp = none ∧ xt.pn = 0 ∧ xt.pc = 0) (hZ : sizeF k.now ≤ 1000000000) :
    Calls Try.prog 13 #[.pointer (some ⟨b, 0, none⟩), .string r] w fun e w' => e = .returned (.int .i64 (putQ xt k (g.wait ++ Wi.frmS (⟨#[109]⟩ ++ r)) : Nat)) ∧ IsLog w' base b (comX xt k g r) ∧ IsDisk xt w' base g.d (putD xt k (g.wait ++ Wi.frmS (⟨#[109]⟩ ++ r))) ∧ Low base w w' := by
  have hfs : (Wi.frmS (⟨#[109]⟩ ++ r)).size ≤ 5000 := by rw [Wi.frmS_size, ByteArray.size_append]; show 1 + r.size + 8 ≤ _; omega
  have hsz : (g.wait ++ Wi.frmS (⟨#[109]⟩ ++ r)).size ≤ 1000000 := by rw [ByteArray.size_append]; omega
  have C1 := hid (sealed_any base b g r w h (by omega) hr)
  have C2 : Hid (∀ W, w.grownBy W none → Calls Try.prog 43 #[.pointer (some ⟨b, 0, none⟩), .string (g.wait ++ Wi.frmS (⟨#[109]⟩ ++ r))] W fun e w' => e = .returned (.int .i64 (putQ xt k (g.wait ++ Wi.frmS (⟨#[109]⟩ ++ r)) : Nat)) ∧ IsLog w' base b g ∧ IsDisk xt w' base g.d (putD xt k (g.wait ++ Wi.frmS (⟨#[109]⟩ ++ r))) ∧ Low base W w') := fun W hW => put_x base b g k _ W (h.kept hW) (hd.kept hW) hdd hS hsz hf hP hZ
  have C3 : Hid (∀ W, IsLog W base b g → Calls Try.prog 44 #[.pointer (some ⟨b, 0, none⟩), .int .i64 (g.len + (g.wait ++ Wi.frmS (⟨#[109]⟩ ++ r)).size : Nat), .string r] W fun e w' => e = .returned (.tuple #[]) ∧ IsLog w' base b (comL g r) ∧ W.grownBy w' (some b)) := fun W hW => mark_any base b g _ r W hW hl
  have C4 : Hid (∀ W, IsLog W base b g → Calls Try.prog 12 #[.pointer (some ⟨b, 0, none⟩)] W fun e w' => e = .returned (.int .i64 g.wait.size) ∧ IsLog w' base b (dropG g) ∧ LT base b W w') := fun W hW => drop_any base b g W hW hcm hl (by omega)
  have hb0 : base ≤ b := h.1
  have z1 : ((g.wait ++ Wi.frmS (⟨#[109]⟩ ++ r)).size : Int) ≤ 1000000 := by omega
  have z2 : (g.len : Int) ≤ 1000000000 := by omega
  clear h hd hdd hS hr hw hl hf hfs hP hZ hcm
  unfold comX
  generalize g.wait ++ Wi.frmS (⟨#[109]⟩ ++ r) = S at *
  generalize putD xt k S = k2 at *
  by_cases hq : putQ xt k S = 0
  · rw [if_pos hq]
    rw [hq] at C2 ⊢
    clear C4 hq
    generalize comL g r = g2 at *
    have iw : IntKind.i64.wrap ((g.len : Int) + (S.size : Int)) = ((g.len + S.size : Nat) : Int) := by rw [IntKind.wrap_i64]; omega
    have iw2 : (g.len : Int) + (S.size : Int) = ((g.len + S.size : Nat) : Int) := by omega
    have IW2 := hid iw2
    clear iw2 hsz hn
    go_enter Try.func13, Try.ntmps13
    go_wp2_with (first
      | (go_at_call 42; refine C1.out.mono ?_; rintro e w1 ⟨rfl, g1⟩; have G1 := hid g1; clear g1 C1)
      | (go_at_call 43; refine (C2.out _ G1.out).mono ?_; rintro e w2 ⟨rfl, h2, d2, t2⟩; have L2 := hid h2; have D2 := hid d2; have T2 := hid (Low.trans (Low.of_none G1.out) t2); obtain ⟨_, vr1, vw1, hb1, _, _⟩ := L2.out; have e3 := hb1.g7.1.2.2.2.1; clear hb1 h2 d2 t2 C2)
      | (go_at_call 44; (refine calls_at (args := #[.pointer (some ⟨b, 0, none⟩), .int .i64 (g.len + S.size : Nat), .string r]) (by rw [← IW2.out]) ?_; refine (C3.out _ L2.out).mono ?_; rintro e w3 ⟨rfl, h3, g3⟩; have L3 := hid h3; obtain ⟨cs2, hb2⟩ := L2.out.blk; have D3 := hid (IsDisk.keptL D2.out hb2 (LT.of_self (base := base) g3 hb0)); have T3 := hid (Low.trans T2.out (Low.of_lt (LT.of_self (base := base) g3 hb0) ⟨_, hb2⟩)); clear h3 g3 hb2 C3)))
    go_ret
    exact ⟨rfl, L3.out, D3.out, T3.out⟩
  · rw [if_neg hq]
    clear C3
    generalize putQ xt k S = q at *
    generalize dropG g = g2 at *
    have h1 : ((q : Int) == 0) = false := by simp; exact hq
    have h2 : ((q : Int) != 0) = true := by simp; exact hq
    clear hq hsz hn
    go_enter Try.func13, Try.ntmps13
    go_wp2_with (first
      | (go_at_call 42; refine C1.out.mono ?_; rintro e w1 ⟨rfl, g1⟩; have G1 := hid g1; clear g1 C1)
      | (go_at_call 43; refine (C2.out _ G1.out).mono ?_; rintro e w2 ⟨rfl, h2, d2, t2⟩; have L2 := hid h2; have D2 := hid d2; have T2 := hid (Low.trans (Low.of_none G1.out) t2); clear h2 d2 t2 C2)
      | (go_at_call 12; refine (C4.out _ L2.out).mono ?_; rintro e w3 ⟨rfl, h3, t3⟩; have L3 := hid h3; obtain ⟨cs2, hb2⟩ := L2.out.blk; have D3 := hid (IsDisk.keptL D2.out hb2 t3); have T3 := hid (Low.trans T2.out (Low.of_lt t3 ⟨_, hb2⟩)); clear h3 t3 hb2 C4))
    go_ret
    exact ⟨rfl, L3.out, D3.out, T3.out⟩
end Go.Proofs.Ytddnjlnnkeiplaa.X
