/-
  sealed, put, Commit: what waits is made sure, with a marker behind it. Open: what a disk holds, whose power is on and whose changes do not fail.
-/
import Derived.Test.YtbhmmcelndmijaaGreatKLload
namespace Go.Proofs.YtbhmmcelndmijaaGreat
open Go.RowKit Go.Maps
/-- Types of cells that are neither a disk's nor a log's. -/
def FarT (t : TypeId) : Prop := t ≠ 96 ∧ t ≠ 87 ∧ t ≠ 111 ∧ t ≠ 5 ∧ t ≠ 120
/-- What a call may turn: nothing below base, and no cells of other types than a disk's and a log's. -/
structure Low (base : Nat) (w w' : World) : Prop where
  os : w'.os = w.os
  tape : w'.tape = w.tape
  output : w'.output = w.output
  size : w.heap.size ≤ w'.heap.size
  keep : ∀ i, i < w.heap.size → (i < base ∨ ∃ cs t fz, w.heap[i]? = some (.cells cs t fz) ∧ FarT t) → w'.heap[i]? = w.heap[i]?
theorem Low.of_none {base : Nat} {w w' : World} (h : w.grownBy w' none) : Low base w w' := ⟨h.os, h.tape, h.output, h.size, fun i hi _ => h.block i hi (by simp)⟩
theorem far_ne {w : World} {i b : Nat} {t T : TypeId} {cs cs' : Array Value} {fz : Nat × Nat} (hi : w.heap[i]? = some (.cells cs t fz)) (hb : Blk w b T cs') (ht : t ≠ T) : i ≠ b := fun e => by
  subst e
  have hb' : w.heap[i]? = some (.cells cs' T (0, 0)) := hb
  rw [hi] at hb'
  injection hb' with q
  injection q with q1 q2 q3
  exact ht q2
theorem Low.of_lt {base b : Nat} {w w' : World} (h : LT base b w w') (hb : ∃ cs, Blk w b 87 cs) : Low base w w' := ⟨h.os, h.tape, h.output, h.size, fun i hi hs => h.keep i hi (by
  rcases hs with hs | ⟨cs, t, fz, hc, f1, f2, f3, f4, f5⟩
  · exact Or.inl hs
  · obtain ⟨cs', hb⟩ := hb
    exact Or.inr ⟨far_ne hc hb f2, fun cs2 t2 fz2 h2 => by
      rw [hc] at h2
      injection h2 with q
      injection q with q1 q2 q3
      subst q2
      exact ⟨f3, f4⟩⟩)⟩
theorem Low.of_tend {base b : Nat} {w w' : World} (h : Tend base b w w') (hb : ∃ cs, Blk w b 96 cs) : Low base w w' := ⟨h.os, h.tape, h.output, h.size, fun i hi hs => h.keep i hi (by
  rcases hs with hs | ⟨cs, t, fz, hc, f1, f2, f3, f4, f5⟩
  · exact Or.inl hs
  · obtain ⟨cs', hb⟩ := hb
    exact Or.inr ⟨far_ne hc hb f1, cs, t, fz, hc, f5⟩)⟩
theorem Low.refl (base : Nat) (w : World) : Low base w w := Low.of_none (grown_refl _ _)
theorem Low.trans {base : Nat} {w w' w'' : World} (h : Low base w w') (k : Low base w' w'') : Low base w w'' :=
  ⟨k.os.trans h.os, k.tape.trans h.tape, k.output.trans h.output, Nat.le_trans h.size k.size, fun i hi hb => by
    have e := h.keep i hi hb
    refine (k.keep i (Nat.lt_of_lt_of_le hi h.size) ?_).trans e
    rw [e]
    exact hb⟩
theorem Low.grown {w w' w'' : World} (h0 : w.grownBy w' none) (h : Low w.heap.size w' w'') : w.grownBy w'' none :=
  ⟨h.os.trans h0.os, h.tape.trans h0.tape, h.output.trans h0.output, Nat.le_trans h0.size h.size, fun i hi _ => (h.keep i (Nat.lt_of_lt_of_le hi h0.size) (Or.inl hi)).trans (h0.block i hi (by simp))⟩
theorem Low.down {base base' : Nat} {w w' : World} (h : Low base w w') (hb : base' ≤ base) : Low base' w w' := ⟨h.os, h.tape, h.output, h.size, fun i hi hs => h.keep i hi (hs.imp (fun x => by omega) id)⟩
theorem strCells_by (t : ByteArray) : Lib.strCells t = Wi.byL t.data.toList := by
  rfl
theorem conv_row {w : World} {base : Nat} {v : Value} {t : ByteArray} (h : w.ownsRow base 5 1 v t.size (Lib.strCells t)) : (convert 85 9 v).run Tryz.prog w = .ok (.string t) w := by
  have e : t.data.toList.length = t.size := Array.length_toList
  rw [strCells_by, ← e] at h
  have := Wi.owned_str _ w base v h
  rw [this]
def putC (s : ByteArray) : Chg := ⟨0, ⟨#[108, 111, 103]⟩, s, ⟨#[]⟩, 0⟩
theorem log_name : nameB ⟨#[108, 111, 103]⟩ = true := by decide
theorem low_blk {base i : Nat} {w w' : World} {t : TypeId} {cs : Array Value} (h : Low base w w') (hb : Blk w i t cs) (hi : FarT t) : Blk w' i t cs := (h.keep i hb.lt (Or.inr ⟨cs, t, (0, 0), hb, hi⟩)).trans hb
theorem calls_at {P : Program} {f : Nat} {args args' : Array Value} {w : World} {Q : Ending → World → Prop} (h : args' = args) (c : Calls P f args w Q) : Calls P f args' w Q := h ▸ c
/-- A log behind a Commit. -/
def comL (g : Lg) (r : ByteArray) : Lg := { g with com := g.recs.length, len := g.len + (g.wait ++ Wi.frmS (⟨#[109]⟩ ++ r)).size, wait := ⟨#[]⟩, root := r, marked := true }
end Go.Proofs.YtbhmmcelndmijaaGreat
namespace Go.Proofs.YtbhmmcelndmijaaGreat
open Go.RowKit Go.Maps
def remC : Chg := ⟨3, ⟨#[108, 111, 103, 46, 110, 101, 119]⟩, ⟨#[]⟩, ⟨#[]⟩, 0⟩
def cutC (n : Nat) : Chg := ⟨4, ⟨#[108, 111, 103]⟩, ⟨#[]⟩, ⟨#[]⟩, n⟩
theorem new_name : nameB ⟨#[108, 111, 103, 46, 110, 101, 119]⟩ = true := by decide
theorem fine_rem : Fine remC := ⟨by decide, by decide, by decide, by decide, by decide⟩
theorem fine_cut (n : Nat) (h : n ≤ 1000000000) : Fine (cutC n) := ⟨by show 4 ≤ 4; omega, by show 3 ≤ maxLen; decide, by show 0 ≤ maxLen; decide, by show 0 ≤ 1000000; omega, by show (n : Int) ≤ _; omega⟩
/-- A log that was just made. -/
def newL (d : Nat) : Lg := ⟨d, [], 0, 0, ⟨#[]⟩, ⟨#[]⟩, false⟩
theorem newL_is {w : World} {base d : Nat} (hb : base ≤ w.heap.size) : IsLog (w.alloc (.cells #[.pointer (some ⟨d, 0, none⟩), .slice none 0 0, .int .i64 0, .int .i64 0, .slice none 0 0, .string ⟨#[]⟩, .bool false] 87)) base w.heap.size (newL d) :=
  ⟨hb, .slice none 0 0, .slice none 0 0, Blk.new w 87 _, ⟨rfl, Or.inl ⟨rfl, rfl⟩⟩, ⟨rfl, Or.inl ⟨rfl, rfl⟩⟩⟩
/-- The disk behind an opening. -/
def openD (k : Dk) (cut n : Nat) : Dk := syncD (if 0 < cut then stepD (nextD k remC) (cutC n) else nextD k remC)
def OpenPost (base d : Nat) (w : World) (g' : Lg) (cut : Nat) (k' : Dk) (e : Ending) (w' : World) : Prop :=
  ∃ b, e = .returned (.tuple #[.pointer (some ⟨b, 0, none⟩), .int .i64 cut, .int .i64 0]) ∧ w.heap.size ≤ b ∧ IsLog w' base b g' ∧ IsDisk w' base d k' ∧ Low base w w'
theorem refF_rem (l : FS) (n : ByteArray) (hn : nameB n = true) : refF l ⟨3, n, ⟨#[]⟩, ⟨#[]⟩, 0⟩ = if (getF l n).isSome then 0 else 2 := by
  unfold refF
  cases getF l n <;> simp [hn]
theorem refF_cut (l : FS) (n : ByteArray) (z : Int) (hn : nameB n = true) : refF l ⟨4, n, ⟨#[]⟩, ⟨#[]⟩, z⟩ = match getF l n with
    | none => 2
    | some s => if z < 0 ∨ (s.size : Int) < z then 1 else 0 := by
  unfold refF
  cases getF l n <;> simp [hn]
theorem rem_ans (k : Dk) (hd : k.dead = false) : ansF k remC = 0 ∨ ansF k remC = 2 := by
  have e : ansF k remC = refF k.now remC := by unfold ansF; rw [hd]; rfl
  rw [e, remC, refF_rem _ _ new_name]
  split
  · exact Or.inl rfl
  · exact Or.inr rfl
theorem next_dead (k : Dk) (c : Chg) (hd : k.dead = false) : (nextD k c).dead = false := by
  unfold nextD
  split
  · exact hd
  · exact hd
theorem cut_ans (k : Dk) (n : Nat) (hd : k.dead = false) (h0 : 0 < (readS k.now ⟨#[108, 111, 103]⟩).size) (hn : n ≤ (readS k.now ⟨#[108, 111, 103]⟩).size) : ansF k (cutC n) = 0 := by
  unfold readS at h0 hn
  have e : ansF k (cutC n) = refF k.now (cutC n) := by unfold ansF; rw [hd]; rfl
  rw [e, cutC, refF_cut _ _ _ log_name]
  cases hg : getF k.now ⟨#[108, 111, 103]⟩ with
  | none =>
    rw [hg] at h0
    exact absurd h0 (by decide)
  | some s =>
    rw [hg] at hn
    have hn' : n ≤ s.size := hn
    show (if _ then 1 else 0) = 0
    rw [if_neg (by omega)]
theorem readE_two (l : FS) (n : ByteArray) : readE l n = 0 ∨ readE l n = 2 := by
  unfold readE
  split
  · exact Or.inl rfl
  · exact Or.inr rfl
set_option maxRecDepth 100000 in
set_option maxHeartbeats 4000000 in
theorem open_any (base d : Nat) (k : Dk) (g' : Lg) (w : World) (hd : IsDisk w base d k) (hdd : k.dead = false) (hS : Small k) (hS1 : Small (nextD k remC))
    (hld : ∀ W b, IsLog W base b (newL d) → Calls Tryz.prog 37 #[.pointer (some ⟨b, 0, none⟩), .string (readS (nextD k remC).now ⟨#[108, 111, 103]⟩)] W fun e w' => e = .returned (.tuple #[]) ∧ IsLog w' base b g' ∧ LT base b W w')
    (hn : g'.len ≤ (readS (nextD k remC).now ⟨#[108, 111, 103]⟩).size) (hz : (readS (nextD k remC).now ⟨#[108, 111, 103]⟩).size ≤ 1000000) (hf : Fits (doF (nextD k remC).now (cutC g'.len)) 1000000) :
    Calls Tryz.prog 19 #[.pointer (some ⟨d, 0, none⟩)] w (OpenPost base d w g' ((readS (nextD k remC).now ⟨#[108, 111, 103]⟩).size - g'.len) (openD k ((readS (nextD k remC).now ⟨#[108, 111, 103]⟩).size - g'.len) g'.len)) := by
  have hd1 := next_dead k remC hdd
  have C1 : Hid (Calls Tryz.prog 35 #[.pointer (some ⟨d, 0, none⟩), .string ⟨#[108, 111, 103, 46, 110, 101, 119]⟩] w fun e w' => e = .returned (.int .i64 (ansF k remC : Nat)) ∧ IsDisk w' base d (nextD k remC) ∧ Tend base d w w') := remove_all base d k _ w hd hS fine_rem
  have C2 : Hid (∀ W, IsDisk W base d (nextD k remC) → Calls Tryz.prog 36 #[.pointer (some ⟨d, 0, none⟩), .string ⟨#[108, 111, 103]⟩] W fun e w' => e = .returned (.tuple #[.string (readS (nextD k remC).now ⟨#[108, 111, 103]⟩), .int .i64 (readE (nextD k remC).now ⟨#[108, 111, 103]⟩)]) ∧ W.grownBy w' none) := fun W hW => read_any base d _ _ W hW hd1 log_name (by decide)
  have C4 : Hid (0 < (readS (nextD k remC).now ⟨#[108, 111, 103]⟩).size - g'.len → ∀ W, IsDisk W base d (nextD k remC) → Calls Tryz.prog 38 #[.pointer (some ⟨d, 0, none⟩), .string ⟨#[108, 111, 103]⟩, .int .i64 g'.len] W fun e w' => e = .returned (.int .i64 0) ∧ IsDisk w' base d (stepD (nextD k remC) (cutC g'.len)) ∧ Tend base d W w') := fun h0 W hW => by
    have ha := cut_ans (nextD k remC) g'.len hd1 (by omega) hn
    have := truncate_all base d (nextD k remC) ⟨#[108, 111, 103]⟩ g'.len W hW hS1 (fine_cut g'.len (by omega))
    have en : nextD (nextD k remC) (cutC g'.len) = stepD (nextD k remC) (cutC g'.len) := by rw [nextD, if_pos ha]
    change Calls Tryz.prog 38 _ W fun e w' => e = .returned (.int .i64 (ansF (nextD k remC) (cutC g'.len) : Nat)) ∧ IsDisk w' base d (nextD (nextD k remC) (cutC g'.len)) ∧ Tend base d W w' at this
    rw [ha, en] at this
    exact this
  have C5 : Hid (∀ W, IsDisk W base d (stepD (nextD k remC) (cutC g'.len)) → Calls Tryz.prog 39 #[.pointer (some ⟨d, 0, none⟩)] W fun e w' => e = .returned (.int .i64 0) ∧ IsDisk w' base d (syncD (stepD (nextD k remC) (cutC g'.len))) ∧ W.grownBy w' (some d)) := fun W hW => sync_any base d _ W hW hd1 hf
  have C6 : Hid (∀ W, IsDisk W base d (nextD k remC) → Calls Tryz.prog 39 #[.pointer (some ⟨d, 0, none⟩)] W fun e w' => e = .returned (.int .i64 0) ∧ IsDisk w' base d (syncD (nextD k remC)) ∧ W.grownBy w' (some d)) := fun W hW => sync_any base d _ W hW hd1 hS1.now
  have C3 := hid hld
  have hbd : base ≤ d := hd.1
  have hdw := hd.lt
  have BD := hid hd.blk
  have ra := rem_ans k hdd
  have rb := readE_two (nextD k remC).now ⟨#[108, 111, 103]⟩
  have eD : openD k ((readS (nextD k remC).now ⟨#[108, 111, 103]⟩).size - g'.len) g'.len = syncD (if 0 < (readS (nextD k remC).now ⟨#[108, 111, 103]⟩).size - g'.len then stepD (nextD k remC) (cutC g'.len) else nextD k remC) := rfl
  rw [eD]
  clear eD hd hdd hS hS1 hld hf hd1
  generalize readE (nextD k remC).now ⟨#[108, 111, 103]⟩ = y at *
  generalize readS (nextD k remC).now ⟨#[108, 111, 103]⟩ = s at *
  generalize ansF k remC = x at *
  generalize stepD (nextD k remC) (cutC g'.len) = k2 at *
  generalize nextD k remC = k1 at *
  have s0 : (s.size : Int) ≤ 1000000 := by omega
  have n0 : (g'.len : Int) ≤ 1000000 := by omega
  obtain ⟨c, hc⟩ : ∃ c : Nat, c = s.size - g'.len := ⟨_, rfl⟩
  have HC : Hid ((s.size : Int) - (g'.len : Int) = (c : Int)) := (by show (s.size : Int) - (g'.len : Int) = (c : Int); omega)
  rw [← hc]
  rw [← hc] at C4
  have hbw : base ≤ w.heap.size := by omega
  rcases ra with rfl | rfl <;> rcases rb with rfl | rfl <;> by_cases hcut : 0 < c
  all_goals (
    first | rw [if_pos hcut] | rw [if_neg hcut]
    try have y1 : (0 : Int) < (s.size : Int) - (g'.len : Int) := by omega
    try have y1 : ¬ (0 : Int) < (s.size : Int) - (g'.len : Int) := by omega
    have HCUT := hid hcut
    clear hcut hc hn hz
    go_enter Tryz.func19, Tryz.ntmps19
    go_wp2_with (first
      | (go_at_call 35; refine C1.out.mono ?_; rintro e w1 ⟨rfl, h1, t1⟩; have D1 := hid h1; have T1 := hid (Low.of_tend (base := base) t1 BD.out); clear h1 t1 C1 BD)
      | (go_at_call 36; refine (C2.out _ D1.out).mono ?_; rintro e w2 ⟨rfl, g2⟩; have D2 := hid (D1.out.kept g2); have T2 := hid (Low.trans T1.out (Low.of_none g2)); have hw2 : w.heap.size ≤ w2.heap.size := T2.out.size; clear g2 C2)
      | (go_at_call 37; refine (C3.out _ w2.heap.size (newL_is (by omega))).mono ?_; rintro e w3 ⟨rfl, l3, t3⟩; have L3 := hid l3; have D3 := hid (IsDisk.keptL (D2.out.kept (grown_alloc (grown_refl _ _) _)) (Blk.new w2 87 _) t3); have T3 := hid (Low.trans T2.out (Low.trans (Low.of_none (grown_alloc (grown_refl _ _) _)) (Low.of_lt t3 ⟨_, Blk.new w2 87 _⟩))); obtain ⟨_, vr1, vw1, hb1, _, _⟩ := L3.out; have e3 := hb1.g7.1.2.2.2.1; clear hb1 l3 t3 C3)
      | (go_at_call 38; refine (C4.out HCUT.out _ D3.out).mono ?_; rintro e w4 ⟨rfl, d4, t4⟩; have D4 := hid d4; obtain ⟨cd, hcd⟩ := D3.out.blk; have L4 := hid (L3.out.keptD hcd t4); have T4 := hid (Low.trans T3.out (Low.of_tend (base := base) t4 ⟨_, hcd⟩)); clear hcd d4 t4 C4)
      | (go_at_call 39; refine (C5.out _ D4.out).mono ?_; rintro e w5 ⟨rfl, d5, g5⟩; have D5 := hid d5; obtain ⟨cd, hcd⟩ := D4.out.blk; have L5 := hid (L4.out.keptD hcd (Tend.of_self (base := base) g5 hbd)); have T5 := hid (Low.trans T4.out (Low.of_tend (Tend.of_self (base := base) g5 hbd) ⟨_, hcd⟩)); clear hcd d5 g5 C5)
      | (go_at_call 39; refine (C6.out _ D3.out).mono ?_; rintro e w5 ⟨rfl, d5, g5⟩; have D5 := hid d5; obtain ⟨cd, hcd⟩ := D3.out.blk; have L5 := hid (L3.out.keptD hcd (Tend.of_self (base := base) g5 hbd)); have T5 := hid (Low.trans T3.out (Low.of_tend (Tend.of_self (base := base) g5 hbd) ⟨_, hcd⟩)); clear hcd d5 g5 C6))
    go_ret3
    exact ⟨w2.heap.size, (by rw [HC.out]; rfl), hw2, L5.out, D5.out, T5.out⟩)
set_option maxRecDepth 100000 in
set_option maxHeartbeats 1000000 in
/-- A dead disk is not opened. -/
theorem open_dead (base d : Nat) (k : Dk) (w : World) (hd : IsDisk w base d k) (hdd : k.dead = true) (hS : Small k) :
    Calls Tryz.prog 19 #[.pointer (some ⟨d, 0, none⟩)] w fun e w' => e = .returned (.tuple #[.pointer none, .int .i64 0, .int .i64 7]) ∧ Low base w w' := by
  have ea : ansF k remC = 7 := by unfold ansF; rw [hdd]; rfl
  have C1 : Hid (Calls Tryz.prog 35 #[.pointer (some ⟨d, 0, none⟩), .string ⟨#[108, 111, 103, 46, 110, 101, 119]⟩] w fun e w' => e = .returned (.int .i64 7) ∧ Tend base d w w') := (remove_all base d k _ w hd hS fine_rem).mono (fun e w' h => by
    have h' : e = .returned (.int .i64 (ansF k remC : Nat)) ∧ IsDisk w' base d (nextD k remC) ∧ Tend base d w w' := h
    rw [ea] at h'
    exact ⟨h'.1, h'.2.2⟩)
  have BD := hid hd.blk
  clear hd hdd hS ea
  go_enter Tryz.func19, Tryz.ntmps19
  go_wp2_with (go_at_call 35; refine C1.out.mono ?_; rintro e w1 ⟨rfl, t1⟩; have T1 := hid (Low.of_tend (base := base) t1 BD.out); clear t1 C1 BD)
  go_ret3
  exact ⟨rfl, T1.out⟩
end Go.Proofs.YtbhmmcelndmijaaGreat
