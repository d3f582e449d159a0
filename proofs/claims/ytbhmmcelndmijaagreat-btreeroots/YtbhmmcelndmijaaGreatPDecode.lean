/-
  Decode: the page of bytes, or the first error.
-/
import Derived.Test.YtbhmmcelndmijaaGreatPDec
namespace Go.Proofs.YtbhmmcelndmijaaGreat.Pa
open Go.RowKit
def noPg : Pg := ⟨false, [], [], []⟩
def endE (r : Rs) : Nat := failE r.e (endF r.s)
def decE (s : ByteArray) : Nat := if endE (takeP ⟨s, 0, 0⟩).2 ≠ 0 then endE (takeP ⟨s, 0, 0⟩).2 else if mayP (takeP ⟨s, 0, 0⟩).1 then 0 else 6
def decP (s : ByteArray) : Pg := if decE s = 0 then (takeP ⟨s, 0, 0⟩).1 else noPg
theorem takeP_fits (r : Rs) : (takeP r).1.fits := by
  have hn := oneN_lt (bolR r)
  have h1 := txtsN_len 64 (oneR (bolR r)) (oneN (bolR r))
  have h2 := txtsN_len 8192 (txtsN 64 (oneR (bolR r)) (oneN (bolR r))).2 (oneN (bolR r))
  have h3 := cntsN_len 2147483647 (txtsN 64 (oneR (bolR r)) (oneN (bolR r))).2 (oneN (bolR r) + 1)
  unfold takeP Pg.fits
  by_cases h : bolN r.s = 1
  · simp only [h, if_true, List.length_nil]
    omega
  · simp only [h, if_false, List.length_nil]
    omega
theorem takePg_any (b : Nat) (r : Rs) (w : World) (h : Rd w b r) (hr : (r.room : Int) ≤ 9223372036854775807) : Calls Tryz.prog 56 #[.pointer (some ⟨b, 0, none⟩)] w (TakePost w b (takeP r).1 (takeP r).2) := by
  by_cases hl : bolN r.s = 1
  · exact take_leaf b r w h hr hl
  · exact take_kids b r w h hr hl
def DecPost (w : World) (p : Pg) (n : Nat) (e : Ending) (w' : World) : Prop := ∃ v, e = .returned (.tuple #[v, .int .i64 n]) ∧ PgO w' w.heap.size v p ∧ w.grownBy w' none
theorem results_pg2 {fn : Func} {p u : Tmp} (h : fn.results = #[.cell p 70, .tmp u]) (tmps : Array Value) (w : World) (g : Nat) {x y z q : Value} (hp : tmps.getD p undef = .pointer (some ⟨g, 0, none⟩)) (hg : Blk w g 70 #[x, y, z, q]) :
    (results fn tmps).run Tryz.prog w = .ok (.tuple #[.agg #[x, y, z, q], tmps.getD u undef]) w := by
  rw [results_cell_tmp h, hp]
  have hl := run_loadVar_row (P := Tryz.prog) w g 70 70 #[x, y, z, q] (0, 0) _ hg Tryz.underlying70 rfl size25
  simp [asAddr, hl, Result.andThen]
set_option maxRecDepth 100000 in
set_option maxHeartbeats 1000000 in
theorem decode_any (s : ByteArray) (w : World) (hs : (s.size : Int) ≤ 9223372036854775807) : Calls Tryz.prog 33 #[.string s] w (DecPost w (decP s) (decE s)) := by
  have C2 : Hid (∀ W b, Rd W b ⟨s, 0, 0⟩ → Calls Tryz.prog 56 #[.pointer (some ⟨b, 0, none⟩)] W (TakePost W b (takeP ⟨s, 0, 0⟩).1 (takeP ⟨s, 0, 0⟩).2)) := fun W b hW => takePg_any b _ W hW (by unfold Rs.room; simpa using hs)
  have hf := takeP_fits ⟨s, 0, 0⟩
  have hE : Hid (decE s = if endE (takeP ⟨s, 0, 0⟩).2 ≠ 0 then endE (takeP ⟨s, 0, 0⟩).2 else if mayP (takeP ⟨s, 0, 0⟩).1 then 0 else 6) := hid rfl
  have hD : Hid (decP s = if decE s = 0 then (takeP ⟨s, 0, 0⟩).1 else noPg) := hid rfl
  have C3 : Hid (∀ W b, Rd W b (takeP ⟨s, 0, 0⟩).2 → Calls Tryz.prog 57 #[.pointer (some ⟨b, 0, none⟩)] W fun e w' => e = .returned (.int .i64 (endE (takeP ⟨s, 0, 0⟩).2)) ∧ W.grownBy w' (some b)) := fun W b hW => (end_any b _ _ _ W hW).mono fun e w' h => ⟨h.1, h.2.2⟩
  have C4 : Hid (∀ W v, PgV W v (takeP ⟨s, 0, 0⟩).1 → Calls Tryz.prog 50 #[v] W fun e w' => e = .returned (.int .i64 (chk (takeP ⟨s, 0, 0⟩).1)) ∧ W.grownBy w' none) := fun W v hW => check_any v _ W hW hf
  have C5 : Hid (chk (takeP ⟨s, 0, 0⟩).1 = if mayP (takeP ⟨s, 0, 0⟩).1 then 0 else 6) := hid rfl
  generalize takeP ⟨s, 0, 0⟩ = T at *
  obtain ⟨p, r⟩ := T
  simp only at *
  generalize endE r = n at *
  generalize mayP p = m at *
  generalize chk p = c at *
  generalize decE s = d at *
  generalize decP s = q at *
  obtain ⟨P, hP⟩ : ∃ P, P = DecPost w q d := ⟨_, rfl⟩
  rw [← hP]
  have HP := hid hP
  clear hP hf
  by_cases hn : n = 0
  · subst hn
    cases m with
    | false =>
      obtain rfl : c = 6 := C5.out
      obtain rfl : d = 6 := hE.out
      obtain rfl : q = noPg := hD.out
      clear C5 hE hD
      go_enter Tryz.func33, Tryz.ntmps33
      go_wp2_with (first
        | (go_at_call 55; refine (newReader_any s _).mono ?_; rintro e w1 ⟨rfl, hb, hg⟩; have hz : (w.alloc (.cells #[.bool false, .slice none 0 0, .slice none 0 0, .slice none 0 0] 70)).heap.size = w.heap.size + 1 := (by simp); rw [hz] at hb; have R1 : Hid (Rd w1 (w.heap.size + 1) ⟨s, 0, 0⟩) := hb; have G1 : Hid (w.grownBy w1 none) := grown_none (grown_alloc (grown_refl _ _) _) hg; have B1 : Hid (Blk w1 w.heap.size 70 #[.bool false, .slice none 0 0, .slice none 0 0, .slice none 0 0]) := (Blk.new w 70 _).kept hg (by simp); clear hb hg hz)
        | (go_at_call 56; refine (C2.out _ _ R1.out).mono ?_; rintro e w2 ⟨v, rfl, hpg, hrd, hg⟩; have hw1 : w.heap.size + 1 < w1.heap.size := Blk.lt R1.out; have H12 : Hid (w1.heap.size ≤ w2.heap.size) := hg.size; have R2 : Hid (Rd w2 (w.heap.size + 1) r) := hrd; have G2 : Hid (w.grownBy w2 none) := grown_through G1.out hg (by omega); have B2 : Hid (Blk w2 w.heap.size 70 #[.bool false, .slice none 0 0, .slice none 0 0, .slice none 0 0]) := B1.out.kept hg (by simp); obtain ⟨a1, a2, a3, rfl, of_, o1, o2, o3⟩ := hpg; obtain ⟨pa, ca, rfl⟩ := owns_slice o1; obtain ⟨pb, cb, rfl⟩ := owns_slice o2; obtain ⟨pc, cc, rfl⟩ := owns_slice o3; have O2 : Hid (PgO w2 w1.heap.size (.agg #[.bool p.leaf, .slice pa p.keys.length ca, .slice pb p.vals.length cb, .slice pc p.kids.length cc]) p) := ⟨_, _, _, rfl, of_, o1, o2, o3⟩; clear hrd hg of_ o1 o2 o3 C2 R1 G1 B1)
        | (go_at_call 57; refine (C3.out _ _ (R2.out.alloc _)).mono ?_; rintro e w3 ⟨rfl, hg⟩; have hw2 : w1.heap.size ≤ w2.heap.size := H12.out; have G3 : Hid (w.grownBy w3 none) := grown_through (grown_alloc G2.out _) hg (by omega); have B3 : Hid (Blk w3 w.heap.size 70 #[.bool false, .slice none 0 0, .slice none 0 0, .slice none 0 0]) := (B2.out.alloc _).kept hg (by simp); have P3 : Hid (Blk w3 w2.heap.size 70 #[.bool p.leaf, .slice pa p.keys.length ca, .slice pb p.vals.length cb, .slice pc p.kids.length cc]) := (Blk.new w2 70 _).kept hg (by simp; omega); have O3 : Hid (PgO w3 w1.heap.size (.agg #[.bool p.leaf, .slice pa p.keys.length ca, .slice pb p.vals.length cb, .slice pc p.kids.length cc]) p) := (O2.out.keptN (grown_alloc (grown_refl _ _) _)).kept hg hw1; have d0 := P3.out.cell 0; have d1 := P3.out.cell 1; have d2 := P3.out.cell 2; have d3 := P3.out.cell 3; simp at d0 d1 d2 d3; clear hg C3 R2 G2 B2 O2)
        | (go_at_call 50; refine (C4.out _ _ O3.out.pgV).mono ?_; rintro e w4 ⟨rfl, hg⟩; have G4 : Hid (w.grownBy w4 none) := grown_none G3.out hg; have B4 : Hid (Blk w4 w.heap.size 70 #[.bool false, .slice none 0 0, .slice none 0 0, .slice none 0 0]) := B3.out.kept hg (by simp); have P4 : Hid (Blk w4 w2.heap.size 70 #[.bool p.leaf, .slice pa p.keys.length ca, .slice pb p.vals.length cb, .slice pc p.kids.length cc]) := P3.out.kept hg (by simp); have O4 : Hid (PgO w4 w1.heap.size (.agg #[.bool p.leaf, .slice pa p.keys.length ca, .slice pb p.vals.length cb, .slice pc p.kids.length cc]) p) := O3.out.keptN hg; clear d0 d1 d2 d3; have d0 := P4.out.cell 0; have d1 := P4.out.cell 1; have d2 := P4.out.cell 2; have d3 := P4.out.cell 3; simp at d0 d1 d2 d3; clear hg C4 G3 B3 O3 P3)
        | (refine q_is_store 70 (.tmp 2) (.tmp 22) rfl ?_; refine store_pg 70 size25 w.heap.size B4.out _ _ rfl rfl rfl rfl ?_; intro w5 hb5 hg5; have B5 : Hid (Blk w5 w.heap.size 70 #[.bool false, .slice none 0 0, .slice none 0 0, .slice none 0 0]) := hb5; have G5 : Hid (w4.grownBy w5 (some w.heap.size)) := hg5; clear hb5 hg5 B4))
      refine bodyPost_ret (results_pg2 Tryz.results33 _ _ w.heap.size rfl B5.out) rfl ?_
      rw [HP.out]
      exact ⟨_, rfl, ⟨_, _, _, rfl, far_nil _, World.ownsRow_nil _ _ _ _, World.ownsRow_nil _ _ _ _, World.ownsRow_nil _ _ _ _⟩, grown_through G4.out G5.out (Nat.le_refl _)⟩
    | true =>
      obtain rfl : c = 0 := C5.out
      obtain rfl : d = 0 := hE.out
      obtain rfl : p = q := hD.out.symm
      clear C5 hE hD
      go_enter Tryz.func33, Tryz.ntmps33
      go_wp2_with (first
        | (go_at_call 55; refine (newReader_any s _).mono ?_; rintro e w1 ⟨rfl, hb, hg⟩; have hz : (w.alloc (.cells #[.bool false, .slice none 0 0, .slice none 0 0, .slice none 0 0] 70)).heap.size = w.heap.size + 1 := (by simp); rw [hz] at hb; have R1 : Hid (Rd w1 (w.heap.size + 1) ⟨s, 0, 0⟩) := hb; have G1 : Hid (w.grownBy w1 none) := grown_none (grown_alloc (grown_refl _ _) _) hg; have B1 : Hid (Blk w1 w.heap.size 70 #[.bool false, .slice none 0 0, .slice none 0 0, .slice none 0 0]) := (Blk.new w 70 _).kept hg (by simp); clear hb hg hz)
        | (go_at_call 56; refine (C2.out _ _ R1.out).mono ?_; rintro e w2 ⟨v, rfl, hpg, hrd, hg⟩; have hw1 : w.heap.size + 1 < w1.heap.size := Blk.lt R1.out; have H12 : Hid (w1.heap.size ≤ w2.heap.size) := hg.size; have R2 : Hid (Rd w2 (w.heap.size + 1) r) := hrd; have G2 : Hid (w.grownBy w2 none) := grown_through G1.out hg (by omega); have B2 : Hid (Blk w2 w.heap.size 70 #[.bool false, .slice none 0 0, .slice none 0 0, .slice none 0 0]) := B1.out.kept hg (by simp); obtain ⟨a1, a2, a3, rfl, of_, o1, o2, o3⟩ := hpg; obtain ⟨pa, ca, rfl⟩ := owns_slice o1; obtain ⟨pb, cb, rfl⟩ := owns_slice o2; obtain ⟨pc, cc, rfl⟩ := owns_slice o3; have O2 : Hid (PgO w2 w1.heap.size (.agg #[.bool p.leaf, .slice pa p.keys.length ca, .slice pb p.vals.length cb, .slice pc p.kids.length cc]) p) := ⟨_, _, _, rfl, of_, o1, o2, o3⟩; clear hrd hg of_ o1 o2 o3 C2 R1 G1 B1)
        | (go_at_call 57; refine (C3.out _ _ (R2.out.alloc _)).mono ?_; rintro e w3 ⟨rfl, hg⟩; have hw2 : w1.heap.size ≤ w2.heap.size := H12.out; have G3 : Hid (w.grownBy w3 none) := grown_through (grown_alloc G2.out _) hg (by omega); have B3 : Hid (Blk w3 w.heap.size 70 #[.bool false, .slice none 0 0, .slice none 0 0, .slice none 0 0]) := (B2.out.alloc _).kept hg (by simp); have P3 : Hid (Blk w3 w2.heap.size 70 #[.bool p.leaf, .slice pa p.keys.length ca, .slice pb p.vals.length cb, .slice pc p.kids.length cc]) := (Blk.new w2 70 _).kept hg (by simp; omega); have O3 : Hid (PgO w3 w1.heap.size (.agg #[.bool p.leaf, .slice pa p.keys.length ca, .slice pb p.vals.length cb, .slice pc p.kids.length cc]) p) := (O2.out.keptN (grown_alloc (grown_refl _ _) _)).kept hg hw1; have d0 := P3.out.cell 0; have d1 := P3.out.cell 1; have d2 := P3.out.cell 2; have d3 := P3.out.cell 3; simp at d0 d1 d2 d3; clear hg C3 R2 G2 B2 O2)
        | (go_at_call 50; refine (C4.out _ _ O3.out.pgV).mono ?_; rintro e w4 ⟨rfl, hg⟩; have G4 : Hid (w.grownBy w4 none) := grown_none G3.out hg; have B4 : Hid (Blk w4 w.heap.size 70 #[.bool false, .slice none 0 0, .slice none 0 0, .slice none 0 0]) := B3.out.kept hg (by simp); have P4 : Hid (Blk w4 w2.heap.size 70 #[.bool p.leaf, .slice pa p.keys.length ca, .slice pb p.vals.length cb, .slice pc p.kids.length cc]) := P3.out.kept hg (by simp); have O4 : Hid (PgO w4 w1.heap.size (.agg #[.bool p.leaf, .slice pa p.keys.length ca, .slice pb p.vals.length cb, .slice pc p.kids.length cc]) p) := O3.out.keptN hg; clear d0 d1 d2 d3; have d0 := P4.out.cell 0; have d1 := P4.out.cell 1; have d2 := P4.out.cell 2; have d3 := P4.out.cell 3; simp at d0 d1 d2 d3; clear hg C4 G3 B3 O3 P3)
        | (refine q_is_store 70 (.tmp 2) (.tmp 24) rfl ?_; refine store_pg 70 size25 w.heap.size B4.out _ _ rfl rfl rfl rfl ?_; intro w5 hb5 hg5; have B5 : Hid (Blk w5 w.heap.size 70 #[.bool p.leaf, .slice pa p.keys.length ca, .slice pb p.vals.length cb, .slice pc p.kids.length cc]) := hb5; have G5 : Hid (w4.grownBy w5 (some w.heap.size)) := hg5; clear hb5 hg5 B4))
      refine bodyPost_ret (results_pg2 Tryz.results33 _ _ w.heap.size rfl B5.out) rfl ?_
      rw [HP.out]
      obtain ⟨x1, x2, x3, e, of_, o1, o2, o3⟩ := O4.out.kept G5.out (by omega)
      exact ⟨_, rfl, ⟨x1, x2, x3, e, of_, owns_le o1 (by omega), owns_le o2 (by omega), owns_le o3 (by omega)⟩, grown_through G4.out G5.out (Nat.le_refl _)⟩
  · have hn' : ¬ ((n : Int) = 0) := by omega
    obtain rfl : d = n := by rw [hE.out, if_pos hn]
    obtain rfl : q = noPg := by rw [hD.out, if_neg hn]
    clear C5 hE hD hn
    go_enter Tryz.func33, Tryz.ntmps33
    go_wp2_with (first
      | (go_at_call 55; refine (newReader_any s _).mono ?_; rintro e w1 ⟨rfl, hb, hg⟩; have hz : (w.alloc (.cells #[.bool false, .slice none 0 0, .slice none 0 0, .slice none 0 0] 70)).heap.size = w.heap.size + 1 := (by simp); rw [hz] at hb; have R1 : Hid (Rd w1 (w.heap.size + 1) ⟨s, 0, 0⟩) := hb; have G1 : Hid (w.grownBy w1 none) := grown_none (grown_alloc (grown_refl _ _) _) hg; have B1 : Hid (Blk w1 w.heap.size 70 #[.bool false, .slice none 0 0, .slice none 0 0, .slice none 0 0]) := (Blk.new w 70 _).kept hg (by simp); clear hb hg hz)
      | (go_at_call 56; refine (C2.out _ _ R1.out).mono ?_; rintro e w2 ⟨v, rfl, hpg, hrd, hg⟩; have hw1 : w.heap.size + 1 < w1.heap.size := Blk.lt R1.out; have H12 : Hid (w1.heap.size ≤ w2.heap.size) := hg.size; have R2 : Hid (Rd w2 (w.heap.size + 1) r) := hrd; have G2 : Hid (w.grownBy w2 none) := grown_through G1.out hg (by omega); have B2 : Hid (Blk w2 w.heap.size 70 #[.bool false, .slice none 0 0, .slice none 0 0, .slice none 0 0]) := B1.out.kept hg (by simp); obtain ⟨a1, a2, a3, rfl, of_, o1, o2, o3⟩ := hpg; obtain ⟨pa, ca, rfl⟩ := owns_slice o1; obtain ⟨pb, cb, rfl⟩ := owns_slice o2; obtain ⟨pc, cc, rfl⟩ := owns_slice o3; have O2 : Hid (PgO w2 w1.heap.size (.agg #[.bool p.leaf, .slice pa p.keys.length ca, .slice pb p.vals.length cb, .slice pc p.kids.length cc]) p) := ⟨_, _, _, rfl, of_, o1, o2, o3⟩; clear hrd hg of_ o1 o2 o3 C2 R1 G1 B1)
      | (go_at_call 57; refine (C3.out _ _ (R2.out.alloc _)).mono ?_; rintro e w3 ⟨rfl, hg⟩; have hw2 : w1.heap.size ≤ w2.heap.size := H12.out; have G3 : Hid (w.grownBy w3 none) := grown_through (grown_alloc G2.out _) hg (by omega); have B3 : Hid (Blk w3 w.heap.size 70 #[.bool false, .slice none 0 0, .slice none 0 0, .slice none 0 0]) := (B2.out.alloc _).kept hg (by simp); have P3 : Hid (Blk w3 w2.heap.size 70 #[.bool p.leaf, .slice pa p.keys.length ca, .slice pb p.vals.length cb, .slice pc p.kids.length cc]) := (Blk.new w2 70 _).kept hg (by simp; omega); have O3 : Hid (PgO w3 w1.heap.size (.agg #[.bool p.leaf, .slice pa p.keys.length ca, .slice pb p.vals.length cb, .slice pc p.kids.length cc]) p) := (O2.out.keptN (grown_alloc (grown_refl _ _) _)).kept hg hw1; have d0 := P3.out.cell 0; have d1 := P3.out.cell 1; have d2 := P3.out.cell 2; have d3 := P3.out.cell 3; simp at d0 d1 d2 d3; clear hg C3 R2 G2 B2 O2)
      | (refine q_is_store 70 (.tmp 2) (.tmp 16) rfl ?_; refine store_pg 70 size25 w.heap.size B3.out _ _ rfl rfl rfl rfl ?_; intro w5 hb5 hg5; have B5 : Hid (Blk w5 w.heap.size 70 #[.bool false, .slice none 0 0, .slice none 0 0, .slice none 0 0]) := hb5; have G5 : Hid (w3.grownBy w5 (some w.heap.size)) := hg5; clear hb5 hg5 B3))
    refine bodyPost_ret (results_pg2 Tryz.results33 _ _ w.heap.size rfl B5.out) rfl ?_
    rw [HP.out]
    exact ⟨_, rfl, ⟨_, _, _, rfl, far_nil _, World.ownsRow_nil _ _ _ _, World.ownsRow_nil _ _ _ _, World.ownsRow_nil _ _ _ _⟩, grown_through G3.out G5.out (Nat.le_refl _)⟩
end Go.Proofs.YtbhmmcelndmijaaGreat.Pa
