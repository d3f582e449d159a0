/-
  What an opening finds in an empty file, and in a file with one record and a marker. awake: a record is there behind a crash, one that waited is not.
-/
import Derived.Test.YtddnjlnnkeiplaaKLopen
import Derived.Test.YtddnjlnnkeiplaaKPars
namespace Go.Proofs.Ytddnjlnnkeiplaa
open Go.RowKit Go.Maps
theorem un_empty : Un ⟨#[]⟩ 0 ⟨#[]⟩ 0 (Wi.unF ⟨#[]⟩ 0) := fun W => Wi.unframe_bad ⟨#[]⟩ 0 W (by decide) (by decide) (by decide +kernel)
theorem drop_new {base b : Nat} {g : Lg} (hc : g.com = g.recs.length) (hl : g.recs.length ≤ 1000000) (hw : g.wait = ⟨#[]⟩) (W : World) (h : IsLog W base b g) : Calls Try.prog 12 #[.pointer (some ⟨b, 0, none⟩)] W fun e w' => (∃ m : Nat, e = .returned (.int .i64 m)) ∧ IsLog w' base b g ∧ LT base b W w' := by
  refine (drop_full base b g W h hc hl (by rw [hw]; decide)).mono ?_
  rintro e w' ⟨he, hi, hg⟩
  refine ⟨⟨_, he⟩, ?_, LT.of_self hg h.1⟩
  obtain ⟨a1, a2, a3, a4, a5, a6, a7⟩ := g
  simp only at hw
  subst hw
  exact hi
theorem load_empty (base b d : Nat) (w : World) (h : IsLog w base b (newL d)) : Calls Try.prog 40 #[.pointer (some ⟨b, 0, none⟩), .string ⟨#[]⟩] w fun e w' => e = .returned (.tuple #[]) ∧ IsLog w' base b (newL d) ∧ LT base b w w' := by
  refine load_seq base b ⟨#[]⟩ 1 (fun _ => 0) (fun k => decide (k < 1)) (fun _ => newL d) (newL d) w h rfl (fun k hk => decide_eq_true hk) rfl rfl (fun _ => Nat.zero_le _) (fun k hk hr => ?_) (fun k hk W hW => ?_) (fun W hW => drop_new rfl (by show 0 ≤ 1000000; decide) rfl W hW)
  · have := of_decide_eq_true hr
    omega
  · obtain rfl : k = 0 := by omega
    refine (take_bad _ ⟨#[]⟩ ⟨#[]⟩ 0 0 _ W un_empty (by decide +kernel)).mono ?_
    rintro e w' ⟨he, hg⟩
    exact ⟨he, hW.kept hg, LT.of_none hg⟩
def waitA : ByteArray := ⟨#[]⟩ ++ Wi.frmS (⟨#[100]⟩ ++ ⟨#[97]⟩)
def rootA : ByteArray := ⟨#[114, 111, 111, 116]⟩
def fileA : ByteArray := waitA ++ Wi.frmS (⟨#[109]⟩ ++ ⟨#[114, 111, 111, 116]⟩)
theorem fileA_size : fileA.size = 23 := by decide +kernel
theorem un_a : Un fileA 0 (⟨#[100]⟩ ++ ⟨#[97]⟩) 10 0 := fun W => Wi.unframe_in fileA 0 W (by rw [fileA_size]; decide) (by decide) (by decide +kernel) _ 10 0 (Or.inl ⟨by decide +kernel, bytes_ext (by decide +kernel), by decide +kernel, rfl⟩)
theorem un_m : Un fileA 10 (⟨#[109]⟩ ++ ⟨#[114, 111, 111, 116]⟩) 23 0 := fun W => Wi.unframe_in fileA 10 W (by rw [fileA_size]; decide) (by rw [fileA_size]; decide) (by decide +kernel) _ 23 0 (Or.inl ⟨by decide +kernel, bytes_ext (by decide +kernel), by decide +kernel, rfl⟩)
theorem un_e : Un fileA 23 ⟨#[]⟩ 0 (Wi.unF fileA 23) := fun W => Wi.unframe_bad fileA 23 W (by rw [fileA_size]; decide) (by rw [fileA_size]; decide) (by decide +kernel)
def seqA : Nat → Nat
  | 0 => 0
  | 1 => 10
  | 2 => 23
  | _ => 0
/-- The log of that file. -/
def logA (d : Nat) : Lg := ⟨d, [(0, ⟨#[97]⟩)], 1, 23, ⟨#[]⟩, ⟨#[114, 111, 111, 116]⟩, true⟩
def seqG (d : Nat) : Nat → Lg
  | 0 => newL d
  | 1 => { newL d with recs := [] ++ [(0, ⟨#[97]⟩)] }
  | _ => logA d
theorem load_file (base b d : Nat) (w : World) (h : IsLog w base b (newL d)) : Calls Try.prog 40 #[.pointer (some ⟨b, 0, none⟩), .string fileA] w fun e w' => e = .returned (.tuple #[]) ∧ IsLog w' base b (logA d) ∧ LT base b w w' := by
  refine load_seq base b fileA 3 seqA (fun k => decide (k < 3)) (seqG d) (logA d) w h rfl (fun k hk => decide_eq_true hk) rfl rfl (fun k => ?_) (fun k hk hr => ?_) (fun k hk W hW => ?_) (fun W hW => drop_new rfl (by show 1 ≤ 1000000; decide) rfl W hW)
  · rw [fileA_size]
    match k with
    | 0 => decide
    | 1 => decide
    | 2 => decide
    | _ + 3 => exact Nat.zero_le _
  · have := of_decide_eq_true hr
    match k, hk with
    | 0, _ => decide
    | 1, _ => decide
    | 2, _ => omega
  · match k, hk with
    | 0, _ => exact take_rec base b (newL d) fileA ⟨#[97]⟩ 0 10 W hW (by show 0 ≤ 1000000; decide) un_a (by decide)
    | 1, _ => exact take_mark base b (seqG d 1) fileA ⟨#[114, 111, 111, 116]⟩ 10 23 W hW (by show 1 ≤ _; decide) un_m (by decide)
    | 2, _ =>
      refine (take_bad _ fileA ⟨#[]⟩ 23 0 _ W un_e (by decide +kernel)).mono ?_
      rintro e w' ⟨he, hg⟩
      exact ⟨he, hW.kept hg, LT.of_none hg⟩
end Go.Proofs.Ytddnjlnnkeiplaa
namespace Go.Proofs.Ytddnjlnnkeiplaa
open Go.RowKit Go.Maps
def k0 : Dk := ⟨[], [], [], 0, 0, false⟩
theorem small0 : Small k0 := ⟨fits_nil _, by decide, by decide, by decide⟩
theorem rem0 : nextD k0 remC = k0 := by rw [nextD, if_neg (by decide +kernel)]
theorem open0 (base d : Nat) (W : World) (hd : IsDisk W base d k0) : Calls Try.prog 10 #[.pointer (some ⟨d, 0, none⟩)] W (OpenPost base d W (newL d) 0 k0) := by
  have h := open_any base d k0 (newL d) W hd rfl small0 (by rw [rem0]; exact small0) (by rw [rem0]; exact fun W b hW => load_empty base b d W hW) (by rw [rem0]; exact Nat.zero_le _) (by rw [rem0]; decide) (by rw [rem0]; exact fits_nil _)
  have e2 : openD k0 ((readS (nextD k0 remC).now ⟨#[108, 111, 103]⟩).size - (newL d).len) (newL d).len = k0 := by rw [openD, rem0]; rfl
  rw [e2, rem0] at h
  exact h
/-- A log with one record that waits. -/
def wlog (d : Nat) : Lg := ⟨d, [(0, ⟨#[97]⟩)], 0, 0, waitA, ⟨#[]⟩, false⟩
/-- Its log and its disk behind the Commit. -/
def clog (d : Nat) : Lg := ⟨d, [(0, ⟨#[97]⟩)], 1, 23, ⟨#[]⟩, ⟨#[114, 111, 111, 116]⟩, true⟩
def filesA : FS := [(⟨#[108, 111, 103]⟩, fileA)]
def k2 : Dk := ⟨filesA, filesA, [], 0, 1, false⟩
theorem empty_app (s : ByteArray) : (⟨#[]⟩ ++ s : ByteArray) = s := bytes_ext (by rw [ByteArray.data_append]; simp)
theorem doA : doF [] (putC fileA) = filesA := by
  show putF [] ⟨#[108, 111, 103]⟩ (⟨#[]⟩ ++ fileA) = _
  rw [empty_app]
  rfl
theorem fitsA (B : Nat) (h : 23 ≤ B) : Fits filesA B := by
  refine ⟨by show 1 ≤ B; omega, ?_, ?_⟩
  · intro p hp
    obtain rfl := List.mem_singleton.1 hp
    show fileA.size ≤ B
    rw [fileA_size]
    exact h
  · intro p hp
    obtain rfl := List.mem_singleton.1 hp
    show 3 ≤ B
    omega
theorem k2_eq : syncD (stepD k0 (putC fileA)) = k2 := by
  unfold syncD stepD
  have e : doF k0.now (putC fileA) = filesA := doA
  rw [e]
  rfl
theorem clog_eq (d : Nat) : comL (wlog d) ⟨#[114, 111, 111, 116]⟩ = clog d := by
  unfold comL clog
  have e : (wlog d).wait ++ Wi.frmS (⟨#[109]⟩ ++ ⟨#[114, 111, 111, 116]⟩) = fileA := rfl
  rw [e, fileA_size]
  rfl
theorem commitA (base b d : Nat) (W : World) (h : IsLog W base b (wlog d)) (hd : IsDisk W base d k0) : Calls Try.prog 13 #[.pointer (some ⟨b, 0, none⟩), .string ⟨#[114, 111, 111, 116]⟩] W fun e w' => e = .returned (.int .i64 0) ∧ IsLog w' base b (clog d) ∧ IsDisk w' base d k2 ∧ Low base W w' := by
  have hw : (wlog d).wait.size ≤ 900000 := by show waitA.size ≤ _; decide +kernel
  have e : (wlog d).wait ++ Wi.frmS (⟨#[109]⟩ ++ ⟨#[114, 111, 111, 116]⟩) = fileA := rfl
  have c := commit_any base b (wlog d) k0 ⟨#[114, 111, 111, 116]⟩ W h hd rfl small0 (by decide) hw (by show 1 ≤ 1000000; decide) (by show 0 ≤ 1000000000; decide) (by rw [e]; show Fits (doF [] (putC fileA)) 1000000; rw [doA]; exact fitsA _ (by decide))
  rw [clog_eq, e, k2_eq] at c
  exact c
def k3 : Dk := ⟨filesA, filesA, [], 0, 1, true⟩
def k4 : Dk := ⟨filesA, filesA, [], 0, 1, false⟩
theorem small4 : Small k4 := ⟨fitsA _ (by decide), by decide, by decide, by decide⟩
theorem getA : getF filesA ⟨#[108, 111, 103]⟩ = some fileA := by
  unfold filesA getF
  rw [List.find?_cons]
  have : sameB ⟨#[108, 111, 103]⟩ ⟨#[108, 111, 103]⟩ = true := by decide +kernel
  rw [this]
  rfl
theorem getN : getF filesA ⟨#[108, 111, 103, 46, 110, 101, 119]⟩ = none := by
  unfold filesA getF
  rw [List.find?_cons]
  have : sameB ⟨#[108, 111, 103]⟩ ⟨#[108, 111, 103, 46, 110, 101, 119]⟩ = false := by decide +kernel
  rw [this]
  rfl
theorem readA : readS k4.now ⟨#[108, 111, 103]⟩ = fileA := by
  unfold readS
  have : getF k4.now ⟨#[108, 111, 103]⟩ = some fileA := getA
  rw [this]
  rfl
theorem rem4 : nextD k4 remC = k4 := by
  have e : ansF k4 remC = refF filesA remC := rfl
  rw [nextD, e, remC, refF_rem _ _ new_name, getN]
  rfl
theorem open4 (base d : Nat) (W : World) (hd : IsDisk W base d k4) : Calls Try.prog 10 #[.pointer (some ⟨d, 0, none⟩)] W (OpenPost base d W (logA d) 0 (openD k4 0 23)) := by
  have h := open_any base d k4 (logA d) W hd rfl small4 (by rw [rem4]; exact small4) (by rw [rem4, readA]; exact fun W b hW => load_file base b d W hW) (by rw [rem4, readA, fileA_size]; exact Nat.le_refl 23) (by rw [rem4, readA, fileA_size]; decide) (by
    rw [rem4]
    have := fits_do (C := 900000) (show Fits k4.now 50000 from fitsA _ (by decide)) (cutC (logA d).len) (by show 0 ≤ 900000; decide) (by show 3 ≤ 950001; decide) (by show 0 ≤ 950001; decide)
    exact this.mono (by decide))
  have e2 : (readS (nextD k4 remC).now ⟨#[108, 111, 103]⟩).size - (logA d).len = 0 := by rw [rem4, readA, fileA_size]; rfl
  rw [e2] at h
  exact h
def okL : Nat → OkChg := fun _ => ⟨⟨0, ⟨#[]⟩, ⟨#[]⟩, ⟨#[]⟩, 0⟩, ⟨by decide, by decide, by decide, by decide, by decide, by decide⟩⟩
theorem crash2 (base d : Nat) (W : World) (hd : IsDisk W base d k2) : Calls Try.prog 16 #[.pointer (some ⟨d, 0, none⟩), .int .i64 0, .int .i64 0] W fun e w' => e = .returned (.tuple #[]) ∧ IsDisk w' base d k3 ∧ W.grownBy w' (some d) :=
  crash_any base d k2 0 0 okL W hd rfl (fun i h => absurd h (Nat.not_lt_zero _)) (by decide) (by decide) (fitsA _ (by decide))
theorem up3 (base d : Nat) (W : World) (hd : IsDisk W base d k3) : Calls Try.prog 17 #[.pointer (some ⟨d, 0, none⟩)] W fun e w' => e = .returned (.bool true) ∧ IsDisk w' base d k4 ∧ W.grownBy w' (some d) :=
  up_any base d k3 W hd rfl
theorem self_low {base d : Nat} {w w' : World} (h : w.grownBy w' (some d)) (hd : base ≤ d) (hb : ∃ cs, Blk w d 73 cs) : Low base w w' := Low.of_tend (Tend.of_self (base := base) h hd) hb
theorem place_b (d : Nat) : (clog d).len + (clog d).wait.size = 23 := rfl
set_option maxRecDepth 100000 in
set_option maxHeartbeats 2000000 in
theorem lawake_any (w : World) : Calls Try.prog 11 #[] w fun e w' => e = .returned (.bool true) ∧ w.grownBy w' none := by
  have C9 := hid (new_any w)
  have O1 := hid (open0 w.heap.size w.heap.size)
  have A1 : Hid (∀ W b, IsLog W w.heap.size b (newL w.heap.size) → Calls Try.prog 22 #[.pointer (some ⟨b, 0, none⟩), .string ⟨#[97]⟩] W fun e w' => e = .returned (.tuple #[.int .i64 0, .int .i64 0]) ∧ IsLog w' w.heap.size b (wlog w.heap.size) ∧ LT w.heap.size b W w') := fun W b hW => lappend_any w.heap.size b (newL w.heap.size) ⟨#[97]⟩ W hW (by show 0 ≤ 100000; decide) (by show 0 ≤ 10000000; decide) (by show 0 ≤ 1000000000; decide) (by decide)
  have M1 := hid (commitA w.heap.size)
  have A2 : Hid (∀ W b, IsLog W w.heap.size b (clog w.heap.size) → Calls Try.prog 22 #[.pointer (some ⟨b, 0, none⟩), .string ⟨#[98]⟩] W fun e w' => e = .returned (.tuple #[.int .i64 23, .int .i64 0]) ∧ LT w.heap.size b W w') := fun W b hW => (lappend_any w.heap.size b (clog w.heap.size) ⟨#[98]⟩ W hW (by show 1 ≤ 100000; decide) (by show 0 ≤ 10000000; decide) (by show 23 ≤ 1000000000; decide) (by decide)).mono (fun e w' h => ⟨h.1, h.2.2⟩)
  have X2 := hid (crash2 w.heap.size w.heap.size)
  have U3 := hid (up3 w.heap.size w.heap.size)
  have O4 := hid (open4 w.heap.size w.heap.size)
  have R1 : Hid (∀ W b, IsLog W w.heap.size b (logA w.heap.size) → Calls Try.prog 21 #[.pointer (some ⟨b, 0, none⟩), .int .i64 0] W fun e w' => e = .returned (.tuple #[.string ⟨#[97]⟩, .int .i64 0]) ∧ W.grownBy w' none) := fun W b hW => lread_any w.heap.size b (logA w.heap.size) 0 W hW (fun i j hj hi => by have : j < 1 := hj; omega) (by show 1 ≤ 1000000; decide)
  have R2 : Hid (∀ W b, IsLog W w.heap.size b (logA w.heap.size) → Calls Try.prog 21 #[.pointer (some ⟨b, 0, none⟩), .int .i64 23] W fun e w' => e = .returned (.tuple #[.string ⟨#[]⟩, .int .i64 2]) ∧ W.grownBy w' none) := fun W b hW => lread_any w.heap.size b (logA w.heap.size) 23 W hW (fun i j hj hi => by have : j < 1 := hj; omega) (by show 1 ≤ 1000000; decide)
  have R3 : Hid (∀ W b, IsLog W w.heap.size b (logA w.heap.size) → Calls Try.prog 35 #[.pointer (some ⟨b, 0, none⟩)] W fun e w' => e = .returned (.tuple #[.string ⟨#[114, 111, 111, 116]⟩, .bool true]) ∧ W.grownBy w' none) := fun W b hW => lroot_any w.heap.size b (logA w.heap.size) W hW
  generalize hd0 : openD k4 0 23 = k5 at *
  clear hd0
  go_enter Try.func11, Try.ntmps11
  go_wp2_with (first
    | (go_at_call 9; refine C9.out.mono ?_; rintro e w1 ⟨rfl, d1, g1⟩; have D1 := hid d1; have G1 := hid g1; clear d1 g1 C9)
    | (go_at_call 10; refine (O1.out _ D1.out).mono ?_; rintro e w2 ⟨b, rfl, hb2, l2, d2, t2⟩; have L2 := hid l2; have D2 := hid d2; have T2 := hid t2; clear l2 d2 t2 hb2 O1)
    | (go_at_call 22; refine (A1.out _ _ L2.out).mono ?_; rintro e w3 ⟨rfl, l3, t3⟩; have L3 := hid l3; obtain ⟨cs2, hb2⟩ := L2.out.blk; have D3 := hid (IsDisk.keptL D2.out hb2 t3); have T3 := hid (Low.trans T2.out (Low.of_lt t3 ⟨_, hb2⟩)); clear l3 t3 hb2 A1)
    | (go_at_call 13; refine (M1.out _ _ _ L3.out D3.out).mono ?_; rintro e w4 ⟨rfl, l4, d4, t4⟩; have L4 := hid l4; have D4 := hid d4; have T4 := hid (Low.trans T3.out t4); clear l4 d4 t4 M1)
    | (go_at_call 22; refine (A2.out _ _ L4.out).mono ?_; rintro e w5 ⟨rfl, t5⟩; obtain ⟨cs4, hb4⟩ := L4.out.blk; have D5 := hid (IsDisk.keptL D4.out hb4 t5); have T5 := hid (Low.trans T4.out (Low.of_lt t5 ⟨_, hb4⟩)); clear t5 hb4 A2)
    | (go_at_call 16; refine (X2.out _ D5.out).mono ?_; rintro e w6 ⟨rfl, d6, g6⟩; have D6 := hid d6; have T6 := hid (Low.trans T5.out (self_low g6 (Nat.le_refl _) D5.out.blk)); clear d6 g6 X2)
    | (go_at_call 17; refine (U3.out _ D6.out).mono ?_; rintro e w7 ⟨rfl, d7, g7⟩; have D7 := hid d7; have T7 := hid (Low.trans T6.out (self_low g7 (Nat.le_refl _) D6.out.blk)); clear d7 g7 U3)
    | (go_at_call 10; refine (O4.out _ D7.out).mono ?_; rintro e w8 ⟨b8, rfl, hb8, l8, d8, t8⟩; have L8 := hid l8; have T8 := hid (Low.trans T7.out t8); clear l8 d8 t8 hb8 O4)
    | (go_at_call 21; refine (R1.out _ _ L8.out).mono ?_; rintro e w9 ⟨rfl, g9⟩; have L9 := hid (L8.out.kept g9); have T9 := hid (Low.trans T8.out (Low.of_none g9)); clear g9 R1)
    | (go_at_call 21; refine (R2.out _ _ L9.out).mono ?_; rintro e wa ⟨rfl, ga⟩; have LA := hid (L9.out.kept ga); have TA := hid (Low.trans T9.out (Low.of_none ga)); clear ga R2)
    | (go_at_call 35; refine (R3.out _ _ LA.out).mono ?_; rintro e wb ⟨rfl, gb⟩; have TB := hid (Low.trans TA.out (Low.of_none gb)); clear gb R3))
  go_ret
  exact ⟨rfl, Low.grown G1.out TB.out⟩
end Go.Proofs.Ytddnjlnnkeiplaa
