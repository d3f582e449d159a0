/-
  The law WireTakes walked: of whatever text and takes it answers true, and nothing that was there turns.
-/
import Derived.Test.YtiokjdjlopeliaaRefBool
import Derived.Deep.RegionHeld3
import Derived.Deep.RegionWith
import Derived.BigQuiet
import Derived.Deep.CutRange
namespace Go.Proofs.Ytiokjdjlopeliaa
open Go.RowKit
/-- The program's reader and the document's take the same, and are left the same. -/
def Both (f g : FuncId) (pf pg : List Value) (s : ByteArray) (a e : Nat) (v : Value) : Prop :=
  ∃ (S : ByteArray) (A E : Nat), Shut S E ∧ A + S.size ≤ a + s.size ∧ E < 8
    ∧ (∀ w, Calls Try.prog g (#[.agg #[.string s, .int .i64 a, .int .i64 e]] ++ pg.toArray) w fun r w' => r = .returned (.tuple #[.agg #[.string S, .int .i64 A, .int .i64 E], v]) ∧ w.grownBy w' none)
    ∧ (∀ w b, Blk w b 77 (rd s a e) → Calls Try.prog f (#[.pointer (some ⟨b, 0, none⟩)] ++ pf.toArray) w fun r w' => r = .returned v ∧ Blk w' b 77 (rd S A E) ∧ w.grownBy w' (some b))
theorem failE_lt (e f : Nat) (he : e < 8) (hf : f < 8) : failE e f < 8 := by
  unfold failE
  split <;> assumption
theorem takeE_lt (s : ByteArray) (e n : Nat) (he : e < 8) : takeE s e n < 8 := by
  unfold takeE
  split
  · exact failE_lt _ _ he (by decide)
  · exact he
theorem fail_room (s : ByteArray) (a e f : Nat) : a + (failS s e f).size ≤ a + s.size := Nat.add_le_add_left (failS_size s e f) a
theorem cntF_lt (s : ByteArray) (e : Nat) (most : Int) : cntF s e most < 8 := by
  unfold cntF
  split
  · decide
  · split <;> decide
theorem cntE_lt (s : ByteArray) (e : Nat) (most : Int) (he : e < 8) : cntE s e most < 8 := failE_lt _ _ (takeE_lt s e 4 he) (cntF_lt s e most)
theorem both_number (s : ByteArray) (a e : Nat) (x : Int) (hs : Shut s e) (hr : a + s.size ≤ 600) (he : e < 8) : ∃ v : Nat, Both 11 22 [.int .i64 x] [.int .i64 x] s a e (.int .u64 v) := by
  by_cases hx : x < 0 ∨ 8 < x
  · exact ⟨0, failS s e 1, a, failE e 1, fail_shut _ _ _ hs, fail_room _ _ _ _, failE_lt _ _ he (by decide), fun w => refNumBad_any s a e x w hs hx, fun w b h => rnumberBad_any b s a e x w h hx⟩
  · obtain ⟨n, rfl⟩ : ∃ n : Nat, x = n := ⟨x.toNat, by omega⟩
    exact ⟨leT (takeV s n) (takeV s n).size, takeS s e n, takeA s a n, takeE s e n, take_shut _ _ _ hs, take_room _ _ _ _, takeE_lt _ _ _ he, fun w => refNum_any s a e n w hs (by omega) (by omega), fun w b h => rnumber_any b s a e n w h (by omega) (by omega)⟩
theorem both_count (s : ByteArray) (a e : Nat) (x : Int) (hs : Shut s e) (hr : a + s.size ≤ 600) (he : e < 8) (hx : x ≤ 9223372036854775807) : ∃ v : Nat, Both 24 23 [.int .i64 x] [.int .i64 x] s a e (.int .i64 v) :=
  ⟨cntN s e x, cntS s e x, takeA s a 4, cntE s e x, cnt_shut _ _ _ hs, cnt_room _ _ _ _, cntE_lt _ _ _ he, fun w => refCount_any s a e x w hs (by omega) hx, fun w b h => count_any b s a e x w h (by omega) hx⟩
theorem both_text (s : ByteArray) (a e : Nat) (x : Int) (hs : Shut s e) (hr : a + s.size ≤ 600) (he : e < 8) (hx : x ≤ 9223372036854775807) : ∃ v : ByteArray, Both 26 25 [.int .i64 x] [.int .i64 x] s a e (.string v) :=
  ⟨txtV s e x, txtS s e x, txtA s a e x, txtE s e x, take_shut _ _ _ (cnt_shut _ _ _ hs), Nat.le_trans (take_room _ _ _ _) (cnt_room _ _ _ _), takeE_lt _ _ _ (cntE_lt _ _ _ he), fun w => refTxt_any s a e x w hs (by omega) hx, fun w b h => text_any b s a e x w h (by omega) hx⟩
theorem both_hash (s : ByteArray) (a e : Nat) (hs : Shut s e) (hr : a + s.size ≤ 600) (he : e < 8) : ∃ v : ByteArray, Both 28 27 [] [.int .i64 32] s a e (.string v) :=
  ⟨takeV s 32, takeS s e 32, takeA s a 32, takeE s e 32, take_shut _ _ _ hs, take_room _ _ _ _, takeE_lt _ _ _ he, fun w => refBytes_any s a e 32 w hs (by omega), fun w b h => rhash_any b s a e w h (by omega)⟩
theorem both_bool (s : ByteArray) (a e : Nat) (hs : Shut s e) (hr : a + s.size ≤ 600) (he : e < 8) : ∃ v : Bool, Both 30 29 [] [] s a e (.bool v) :=
  ⟨_, bolS s e, takeA s a 1, bolE s e, bol_shut _ _ hs, Nat.le_trans (fail_room _ _ _ _) (take_room _ _ _ _), failE_lt _ _ (takeE_lt _ _ _ he) (by unfold bolF; split <;> decide), fun w => refBool_any s a e w hs (by omega), fun w b h => rbool_any b s a e w h (by omega)⟩
theorem both_bytes (s : ByteArray) (a e : Nat) (x : Int) (hs : Shut s e) (hr : a + s.size ≤ 600) (he : e < 8) (hx : x ≤ 9223372036854775807) : ∃ v : ByteArray, Both 32 27 [.int .i64 x] [.int .i64 x] s a e (.string v) := by
  by_cases h0 : x < 0
  · exact ⟨⟨#[]⟩, failS s e 1, a, failE e 1, fail_shut _ _ _ hs, fail_room _ _ _ _, failE_lt _ _ he (by decide), fun w => refBytesNeg_any s a e x w h0, fun w b h => bytesNeg_any b s a e x w h h0⟩
  · obtain ⟨n, rfl⟩ : ∃ n : Nat, x = n := ⟨x.toNat, by omega⟩
    exact ⟨takeV s n, takeS s e n, takeA s a n, takeE s e n, take_shut _ _ _ hs, take_room _ _ _ _, takeE_lt _ _ _ he, fun w => refBytes_any s a e n w hs (by omega), fun w b h => bytes_any b s a e n w h (by omega) (by omega)⟩
theorem Blk.drewN {w : World} {b : Nat} {t : TypeId} {cs : Array Value} (h : Blk w b t cs) (n : Nat) : Blk (w.drewN n) b t cs := by
  induction n generalizing w with
  | zero => exact h
  | succ n ih => exact ih h.drew
theorem grown_drewN {w w' : World} {row : Option Nat} (h : w.grownBy w' row) (n : Nat) : w.grownBy (w'.drewN n) row := ⟨h.os, h.tape, h.output, h.size, h.block⟩
theorem and3 (n : Int) : ∃ m : Nat, bits .and .i64 n 3 = (m : Int) ∧ m ≤ 3 := by
  have key : (BitVec.ofInt 64 n &&& BitVec.ofInt 64 3).toNat ≤ 3 := by
    rw [BitVec.toNat_and]
    exact Nat.le_trans Nat.and_le_right (by decide)
  refine ⟨(BitVec.ofInt 64 n &&& BitVec.ofInt 64 3).toNat, ?_, key⟩
  show IntKind.i64.wrap ((BitVec.ofInt 64 n &&& BitVec.ofInt 64 3).toNat : Nat) = _
  generalize (BitVec.ofInt 64 n &&& BitVec.ofInt 64 3).toNat = m at *
  rw [IntKind.wrap_i64]
  omega
theorem field0 (S : ByteArray) (a E : Nat) (w : World) : (Instr.field 46 (.agg #[.string S, .int .i64 a, .int .i64 E]) 0).run Try.prog w = .ok (.string S) w := by kernel_rfl
theorem field2 (S : ByteArray) (a E : Nat) (w : World) : (Instr.field 46 (.agg #[.string S, .int .i64 a, .int .i64 E]) 2).run Try.prog w = .ok (.int .i64 E) w := by kernel_rfl
set_option maxRecDepth 100000 in
set_option maxHeartbeats 40000000 in
theorem law6_any (t : ByteArray) (pa : Option Addr) (n cap xb xo : Nat) (K N : Nat → Int) (w : World) (hpa : 0 < n → pa = some ⟨xb, xo, none⟩)
    (h0 : ∀ j, j < n → w.cell? ⟨xb, xo + j * 2, none⟩ = some (.int .i64 (K j))) (h1 : ∀ j, j < n → w.cell? ⟨xb, xo + j * 2 + 1, none⟩ = some (.int .i64 (N j)))
    (hN : ∀ j, -9223372036854775808 ≤ N j ∧ N j ≤ 9223372036854775807) (hn : (n : Int) ≤ 9223372036854775807) :
    Calls Try.prog 6 #[.string t, .slice pa n cap] w fun e w' => e = .returned (.bool true) ∧ w.grownBy w' none := by
  have HPA : Hid (0 < n → pa = some ⟨xb, xo, none⟩) := hpa
  have H0 : Hid (∀ j, j < n → w.cell? ⟨xb, xo + j * 2, none⟩ = some (.int .i64 (K j))) := h0
  have H1 : Hid (∀ j, j < n → w.cell? ⟨xb, xo + j * 2 + 1, none⟩ = some (.int .i64 (N j))) := h1
  have HN : Hid (∀ j, -9223372036854775808 ≤ N j ∧ N j ≤ 9223372036854775807) := hN
  clear hpa h0 h1 hN
  obtain ⟨f, ef⟩ : ∃ f, fewS t = f := ⟨_, rfl⟩
  have hf : f.size ≤ 600 := by rw [← ef]; exact fewS_size _
  have CF : Hid (∀ w, Calls Try.prog 15 #[.string t] w fun e w' => e = .returned (.string f) ∧ w' = w) := fun w => by rw [← ef]; exact few_any _ w
  clear ef
  go_enter Try.func6, Try.ntmps6
  go_wp2_with (first | (go_at_call 15; refine (CF.out _).mono ?_; rintro e w' ⟨rfl, hw⟩; have hw2 := hw.symm; clear hw; subst hw2) | (go_at_call 10; refine (newReader_any f _).mono ?_; rintro e w1 ⟨rfl, hb1, hg1⟩; have B1 : Hid (Blk w1 w.heap.size 77 (rd f 0 0)) := hb1; have G1 : Hid (w.grownBy w1 none) := hg1; clear hb1 hg1))
  have hlt1 : w.heap.size < w1.heap.size := B1.out.lt
  have B2 : Hid (Blk (w1.alloc (.cells #[.string f, .int .i64 0, .int .i64 0] 46)) w.heap.size 77 (rd f 0 0)) := B1.out.alloc _
  have Q2 : Hid (Blk (w1.alloc (.cells #[.string f, .int .i64 0, .int .i64 0] 46)) w1.heap.size 46 (rd f 0 0)) := Blk.new _ _ _
  have G2 : Hid (w.grownBy (w1.alloc (.cells #[.string f, .int .i64 0, .int .i64 0] 46)) none) := grown_alloc G1.out _
  clear B1 G1 CF
  generalize w1.alloc (.cells #[.string f, .int .i64 0, .int .i64 0] 46) = w2 at *
  generalize w1.heap.size = q at *
  go_loopw [7] (fun i wr => ∃ (k : Nat) (s : ByteArray) (a e : Nat), k ≤ n ∧ k ≤ 30 ∧ i = .int .i64 k ∧ Blk wr w.heap.size 77 (rd s a e) ∧ Blk wr q 46 (rd s a e) ∧ Shut s e ∧ a + s.size ≤ 600 ∧ e < 8 ∧ w.grownBy wr none) (fun i _ => 30 - (intOf i).toNat)
  case atStart => exact ⟨0, f, 0, 0, Nat.zero_le _, Nat.zero_le _, rfl, B2.out, Q2.out, fun h => absurd rfl h, by omega, by decide, G2.out⟩
  case round =>
    clear B2 Q2 G2
    obtain ⟨k, s, a, e, hk, hk30, rfl, hb, hq, hsh, hroom, he8, h3⟩ := hrel
    have B0 : Hid (Blk wr w.heap.size 77 (rd s a e)) := hb
    have Q0 : Hid (Blk wr q 46 (rd s a e)) := hq
    have H3 : Hid (w.grownBy wr none) := h3
    have SH : Hid (Shut s e) := hsh
    have RM : Hid (a + s.size ≤ 600) := hroom
    have E8 : Hid (e < 8) := he8
    clear hb hq h3 hsh hroom he8
    have k0 : (0 : Int) ≤ (k : Int) := by omega
    by_cases hgo : k < n ∧ k < 30
    · obtain ⟨hkn, hk30'⟩ := hgo
      have hpp := HPA.out (by omega)
      subst hpp
      have q0 := H0.out k hkn
      have hxb : xb < w.heap.size := World.block_lt_of_cell? _ _ q0
      have c0 : wr.cell? ⟨xb, xo + k * 2, none⟩ = some (.int .i64 (K k)) := ((grown_below H3.out).cell (by exact hxb)).trans (H0.out k hkn)
      have c1 : wr.cell? ⟨xb, xo + k * 2 + 1, none⟩ = some (.int .i64 (N k)) := ((grown_below H3.out).cell (by exact hxb)).trans (H1.out k hkn)
      have d1 : (k : Int) < (n : Int) := by omega
      have d2 : (k : Int) < 30 := by omega
      have hNk := HN.out k
      clear q0 HPA H0 H1 HN
      generalize N k = x at *
      generalize K k = y at *
      have x0 : wr.cell? ⟨q, 0, none⟩ = some (.string s) := Q0.out.rd0
      have x1 : wr.cell? ⟨q, 1, none⟩ = some (.int .i64 a) := Q0.out.rd1
      have x2 : wr.cell? ⟨q, 2, none⟩ = some (.int .i64 e) := Q0.out.rd2
      have hx63 : x ≤ 9223372036854775807 := hNk.2
      by_cases hy1 : y = 1
      · as_aux_lemma =>
          subst hy1
          obtain ⟨v, S, A, E, sS, sR, sE, CR, CP⟩ := both_number s a e x SH.out RM.out E8.out
          have DR : Hid (∀ w, Calls Try.prog 22 #[.agg #[.string s, .int .i64 a, .int .i64 e], .int .i64 x] w fun r w' => r = .returned (.tuple #[.agg #[.string S, .int .i64 A, .int .i64 E], .int .u64 v]) ∧ w.grownBy w' none) := CR
          have DP : Hid (∀ w b, Blk w b 77 (rd s a e) → Calls Try.prog 11 #[.pointer (some ⟨b, 0, none⟩), .int .i64 x] w fun r w' => r = .returned (.int .u64 v) ∧ Blk w' b 77 (rd S A E) ∧ w.grownBy w' (some b)) := CP
          clear CR CP hx63 hNk
          go_wp2_with (first | (go_at_call 22; refine (DR.out _).mono ?_; rintro r w3 ⟨rfl, hg3⟩; have B3 : Hid (Blk w3 w.heap.size 77 (rd s a e)) := B0.out.kept hg3 (by simp); have Q3 : Hid (Blk w3 q 46 (rd s a e)) := Q0.out.kept hg3 (by simp); have G3 : Hid (w.grownBy w3 none) := grown_none H3.out hg3; clear hg3))
          have hlt3 : q < w3.heap.size := Q3.out.lt
          have B4 : Hid (Blk (w3.alloc (.cells #[.string S, .int .i64 A, .int .i64 E] 46)) w.heap.size 77 (rd s a e)) := B3.out.alloc _
          have Q4 : Hid (Blk (w3.alloc (.cells #[.string S, .int .i64 A, .int .i64 E] 46)) q 46 (rd s a e)) := Q3.out.alloc _
          have R4 : Hid (Blk (w3.alloc (.cells #[.string S, .int .i64 A, .int .i64 E] 46)) w3.heap.size 46 (rd S A E)) := Blk.new _ _ _
          have G4 : Hid (w.grownBy (w3.alloc (.cells #[.string S, .int .i64 A, .int .i64 E] 46)) none) := grown_alloc G3.out _
          generalize w3.alloc (.cells #[.string S, .int .i64 A, .int .i64 E] 46) = w4 at *
          generalize w3.heap.size = r at *
          have r0 : w4.cell? ⟨r, 0, none⟩ = some (.string S) := R4.out.rd0
          have r1 : w4.cell? ⟨r, 1, none⟩ = some (.int .i64 A) := R4.out.rd1
          have r2 : w4.cell? ⟨r, 2, none⟩ = some (.int .i64 E) := R4.out.rd2
          clear x0 x1 x2 c0 c1 B3 Q3 G3 B0 Q0 H3 DR
          have ne1 : some q ≠ some w.heap.size := by simp; omega
          have ne2 : some r ≠ some w.heap.size := by simp; omega
          go_region_with (go_at_call 11; refine (DP.out w4.drew w.heap.size B4.out.drew).mono ?_; rintro e5 w5 ⟨rfl, hb5, hg5⟩; have B5 : Hid (Blk w5 w.heap.size 77 (rd S A E)) := hb5; have Q5 : Hid (Blk w5 q 46 (rd s a e)) := Q4.out.drew.kept hg5 ne1; have R5 := R4.out.drew.kept hg5 ne2; have G5 : Hid (w.grownBy w5 none) := grown_through (grown_drew G4.out) hg5 (Nat.le_refl _); have y0 := R5.rd0; have y1 := R5.rd1; have y2 := R5.rd2; have z0 := Q5.out.rd0; have z1 := Q5.out.rd1; have z2 := Q5.out.rd2; have f0 := Q5.out.frozen 0; have f1 := Q5.out.frozen 1; have f2 := Q5.out.frozen 2; clear hb5 hg5 R5)
          all_goals (
            have B6 : Hid (Blk (((w5.setCell ⟨q, 0, none⟩ (.string S)).setCell ⟨q, 1, none⟩ (.int .i64 A)).setCell ⟨q, 2, none⟩ (.int .i64 E)) w.heap.size 77 (rd S A E)) := ((B5.out.other _ (Nat.ne_of_lt hlt1)).other _ (Nat.ne_of_lt hlt1)).other _ (Nat.ne_of_lt hlt1)
            have Q6 : Hid (Blk (((w5.setCell ⟨q, 0, none⟩ (.string S)).setCell ⟨q, 1, none⟩ (.int .i64 A)).setCell ⟨q, 2, none⟩ (.int .i64 E)) q 46 (rd S A E)) := ((Q5.out.set0 S).set1 A).set2 E
            have G6 : Hid (w.grownBy (((w5.setCell ⟨q, 0, none⟩ (.string S)).setCell ⟨q, 1, none⟩ (.int .i64 A)).setCell ⟨q, 2, none⟩ (.int .i64 E)) none) := grown_set_new (grown_set_new (grown_set_new G5.out _ (Nat.le_of_lt hlt1)) _ (Nat.le_of_lt hlt1)) _ (Nat.le_of_lt hlt1)
            generalize ((w5.setCell ⟨q, 0, none⟩ (.string S)).setCell ⟨q, 1, none⟩ (.int .i64 A)).setCell ⟨q, 2, none⟩ (.int .i64 E) = w6 at *
            have p0 := Q6.out.rd0
            have p1 := Q6.out.rd1
            have p2 := Q6.out.rd2
            clear B4 Q4 R4 G4 B5 Q5 G5 r0 r1 r2 y0 y1 y2 z0 z1 z2 f0 f1 f2 DP ne1 ne2
            go_wp2_with fail
            go_quiet (first | (go_at_call 33; refine Calls.quiet_of_same (err_any w.heap.size S A E _ (B6.out.drewN _))) | (go_at_call 34; refine Calls.quiet_of_same (at_any w.heap.size S A E _ (B6.out.drewN _))) | (go_at_call 35; refine Calls.quiet_of_same (left_any w.heap.size S A E _ (B6.out.drewN _))))
            go_wp2_with fail
            go_roundw
            case rel => exact ⟨k + 1, S, A, E, by omega, by omega, rfl, B6.out.drewN _, Q6.out.drewN _, sS, Nat.le_trans sR RM.out, sE, grown_drewN G6.out _⟩
            case measure => simp [intOf]; omega)
      by_cases hy2 : y = 2
      · as_aux_lemma =>
          subst hy2
          obtain ⟨v, S, A, E, sS, sR, sE, CR, CP⟩ := both_count s a e x SH.out RM.out E8.out hx63
          have DR : Hid (∀ w, Calls Try.prog 23 #[.agg #[.string s, .int .i64 a, .int .i64 e], .int .i64 x] w fun r w' => r = .returned (.tuple #[.agg #[.string S, .int .i64 A, .int .i64 E], .int .i64 v]) ∧ w.grownBy w' none) := CR
          have DP : Hid (∀ w b, Blk w b 77 (rd s a e) → Calls Try.prog 24 #[.pointer (some ⟨b, 0, none⟩), .int .i64 x] w fun r w' => r = .returned (.int .i64 v) ∧ Blk w' b 77 (rd S A E) ∧ w.grownBy w' (some b)) := CP
          clear CR CP hx63 hNk
          go_wp2_with (first | (go_at_call 23; refine (DR.out _).mono ?_; rintro r w3 ⟨rfl, hg3⟩; have B3 : Hid (Blk w3 w.heap.size 77 (rd s a e)) := B0.out.kept hg3 (by simp); have Q3 : Hid (Blk w3 q 46 (rd s a e)) := Q0.out.kept hg3 (by simp); have G3 : Hid (w.grownBy w3 none) := grown_none H3.out hg3; clear hg3))
          have hlt3 : q < w3.heap.size := Q3.out.lt
          have B4 : Hid (Blk (w3.alloc (.cells #[.string S, .int .i64 A, .int .i64 E] 46)) w.heap.size 77 (rd s a e)) := B3.out.alloc _
          have Q4 : Hid (Blk (w3.alloc (.cells #[.string S, .int .i64 A, .int .i64 E] 46)) q 46 (rd s a e)) := Q3.out.alloc _
          have R4 : Hid (Blk (w3.alloc (.cells #[.string S, .int .i64 A, .int .i64 E] 46)) w3.heap.size 46 (rd S A E)) := Blk.new _ _ _
          have G4 : Hid (w.grownBy (w3.alloc (.cells #[.string S, .int .i64 A, .int .i64 E] 46)) none) := grown_alloc G3.out _
          generalize w3.alloc (.cells #[.string S, .int .i64 A, .int .i64 E] 46) = w4 at *
          generalize w3.heap.size = r at *
          have r0 : w4.cell? ⟨r, 0, none⟩ = some (.string S) := R4.out.rd0
          have r1 : w4.cell? ⟨r, 1, none⟩ = some (.int .i64 A) := R4.out.rd1
          have r2 : w4.cell? ⟨r, 2, none⟩ = some (.int .i64 E) := R4.out.rd2
          clear x0 x1 x2 c0 c1 B3 Q3 G3 B0 Q0 H3 DR
          have ne1 : some q ≠ some w.heap.size := by simp; omega
          have ne2 : some r ≠ some w.heap.size := by simp; omega
          go_region_with (go_at_call 24; refine (DP.out w4.drew w.heap.size B4.out.drew).mono ?_; rintro e5 w5 ⟨rfl, hb5, hg5⟩; have B5 : Hid (Blk w5 w.heap.size 77 (rd S A E)) := hb5; have Q5 : Hid (Blk w5 q 46 (rd s a e)) := Q4.out.drew.kept hg5 ne1; have R5 := R4.out.drew.kept hg5 ne2; have G5 : Hid (w.grownBy w5 none) := grown_through (grown_drew G4.out) hg5 (Nat.le_refl _); have y0 := R5.rd0; have y1 := R5.rd1; have y2 := R5.rd2; have z0 := Q5.out.rd0; have z1 := Q5.out.rd1; have z2 := Q5.out.rd2; have f0 := Q5.out.frozen 0; have f1 := Q5.out.frozen 1; have f2 := Q5.out.frozen 2; clear hb5 hg5 R5)
          all_goals (
            have B6 : Hid (Blk (((w5.setCell ⟨q, 0, none⟩ (.string S)).setCell ⟨q, 1, none⟩ (.int .i64 A)).setCell ⟨q, 2, none⟩ (.int .i64 E)) w.heap.size 77 (rd S A E)) := ((B5.out.other _ (Nat.ne_of_lt hlt1)).other _ (Nat.ne_of_lt hlt1)).other _ (Nat.ne_of_lt hlt1)
            have Q6 : Hid (Blk (((w5.setCell ⟨q, 0, none⟩ (.string S)).setCell ⟨q, 1, none⟩ (.int .i64 A)).setCell ⟨q, 2, none⟩ (.int .i64 E)) q 46 (rd S A E)) := ((Q5.out.set0 S).set1 A).set2 E
            have G6 : Hid (w.grownBy (((w5.setCell ⟨q, 0, none⟩ (.string S)).setCell ⟨q, 1, none⟩ (.int .i64 A)).setCell ⟨q, 2, none⟩ (.int .i64 E)) none) := grown_set_new (grown_set_new (grown_set_new G5.out _ (Nat.le_of_lt hlt1)) _ (Nat.le_of_lt hlt1)) _ (Nat.le_of_lt hlt1)
            generalize ((w5.setCell ⟨q, 0, none⟩ (.string S)).setCell ⟨q, 1, none⟩ (.int .i64 A)).setCell ⟨q, 2, none⟩ (.int .i64 E) = w6 at *
            have p0 := Q6.out.rd0
            have p1 := Q6.out.rd1
            have p2 := Q6.out.rd2
            clear B4 Q4 R4 G4 B5 Q5 G5 r0 r1 r2 y0 y1 y2 z0 z1 z2 f0 f1 f2 DP ne1 ne2
            go_wp2_with fail
            go_quiet (first | (go_at_call 33; refine Calls.quiet_of_same (err_any w.heap.size S A E _ (B6.out.drewN _))) | (go_at_call 34; refine Calls.quiet_of_same (at_any w.heap.size S A E _ (B6.out.drewN _))) | (go_at_call 35; refine Calls.quiet_of_same (left_any w.heap.size S A E _ (B6.out.drewN _))))
            go_wp2_with fail
            go_roundw
            case rel => exact ⟨k + 1, S, A, E, by omega, by omega, rfl, B6.out.drewN _, Q6.out.drewN _, sS, Nat.le_trans sR RM.out, sE, grown_drewN G6.out _⟩
            case measure => simp [intOf]; omega)
      by_cases hy3 : y = 3
      · as_aux_lemma =>
          subst hy3
          obtain ⟨v, S, A, E, sS, sR, sE, CR, CP⟩ := both_text s a e x SH.out RM.out E8.out hx63
          have DR : Hid (∀ w, Calls Try.prog 25 #[.agg #[.string s, .int .i64 a, .int .i64 e], .int .i64 x] w fun r w' => r = .returned (.tuple #[.agg #[.string S, .int .i64 A, .int .i64 E], .string v]) ∧ w.grownBy w' none) := CR
          have DP : Hid (∀ w b, Blk w b 77 (rd s a e) → Calls Try.prog 26 #[.pointer (some ⟨b, 0, none⟩), .int .i64 x] w fun r w' => r = .returned (.string v) ∧ Blk w' b 77 (rd S A E) ∧ w.grownBy w' (some b)) := CP
          clear CR CP hx63 hNk
          go_wp2_with (first | (go_at_call 25; refine (DR.out _).mono ?_; rintro r w3 ⟨rfl, hg3⟩; have B3 : Hid (Blk w3 w.heap.size 77 (rd s a e)) := B0.out.kept hg3 (by simp); have Q3 : Hid (Blk w3 q 46 (rd s a e)) := Q0.out.kept hg3 (by simp); have G3 : Hid (w.grownBy w3 none) := grown_none H3.out hg3; clear hg3))
          have hlt3 : q < w3.heap.size := Q3.out.lt
          have B4 : Hid (Blk (w3.alloc (.cells #[.string S, .int .i64 A, .int .i64 E] 46)) w.heap.size 77 (rd s a e)) := B3.out.alloc _
          have Q4 : Hid (Blk (w3.alloc (.cells #[.string S, .int .i64 A, .int .i64 E] 46)) q 46 (rd s a e)) := Q3.out.alloc _
          have R4 : Hid (Blk (w3.alloc (.cells #[.string S, .int .i64 A, .int .i64 E] 46)) w3.heap.size 46 (rd S A E)) := Blk.new _ _ _
          have G4 : Hid (w.grownBy (w3.alloc (.cells #[.string S, .int .i64 A, .int .i64 E] 46)) none) := grown_alloc G3.out _
          generalize w3.alloc (.cells #[.string S, .int .i64 A, .int .i64 E] 46) = w4 at *
          generalize w3.heap.size = r at *
          have r0 : w4.cell? ⟨r, 0, none⟩ = some (.string S) := R4.out.rd0
          have r1 : w4.cell? ⟨r, 1, none⟩ = some (.int .i64 A) := R4.out.rd1
          have r2 : w4.cell? ⟨r, 2, none⟩ = some (.int .i64 E) := R4.out.rd2
          clear x0 x1 x2 c0 c1 B3 Q3 G3 B0 Q0 H3 DR
          have ne1 : some q ≠ some w.heap.size := by simp; omega
          have ne2 : some r ≠ some w.heap.size := by simp; omega
          go_region_with (go_at_call 26; refine (DP.out w4.drew w.heap.size B4.out.drew).mono ?_; rintro e5 w5 ⟨rfl, hb5, hg5⟩; have B5 : Hid (Blk w5 w.heap.size 77 (rd S A E)) := hb5; have Q5 : Hid (Blk w5 q 46 (rd s a e)) := Q4.out.drew.kept hg5 ne1; have R5 := R4.out.drew.kept hg5 ne2; have G5 : Hid (w.grownBy w5 none) := grown_through (grown_drew G4.out) hg5 (Nat.le_refl _); have y0 := R5.rd0; have y1 := R5.rd1; have y2 := R5.rd2; have z0 := Q5.out.rd0; have z1 := Q5.out.rd1; have z2 := Q5.out.rd2; have f0 := Q5.out.frozen 0; have f1 := Q5.out.frozen 1; have f2 := Q5.out.frozen 2; clear hb5 hg5 R5)
          all_goals (
            have B6 : Hid (Blk (((w5.setCell ⟨q, 0, none⟩ (.string S)).setCell ⟨q, 1, none⟩ (.int .i64 A)).setCell ⟨q, 2, none⟩ (.int .i64 E)) w.heap.size 77 (rd S A E)) := ((B5.out.other _ (Nat.ne_of_lt hlt1)).other _ (Nat.ne_of_lt hlt1)).other _ (Nat.ne_of_lt hlt1)
            have Q6 : Hid (Blk (((w5.setCell ⟨q, 0, none⟩ (.string S)).setCell ⟨q, 1, none⟩ (.int .i64 A)).setCell ⟨q, 2, none⟩ (.int .i64 E)) q 46 (rd S A E)) := ((Q5.out.set0 S).set1 A).set2 E
            have G6 : Hid (w.grownBy (((w5.setCell ⟨q, 0, none⟩ (.string S)).setCell ⟨q, 1, none⟩ (.int .i64 A)).setCell ⟨q, 2, none⟩ (.int .i64 E)) none) := grown_set_new (grown_set_new (grown_set_new G5.out _ (Nat.le_of_lt hlt1)) _ (Nat.le_of_lt hlt1)) _ (Nat.le_of_lt hlt1)
            generalize ((w5.setCell ⟨q, 0, none⟩ (.string S)).setCell ⟨q, 1, none⟩ (.int .i64 A)).setCell ⟨q, 2, none⟩ (.int .i64 E) = w6 at *
            have p0 := Q6.out.rd0
            have p1 := Q6.out.rd1
            have p2 := Q6.out.rd2
            clear B4 Q4 R4 G4 B5 Q5 G5 r0 r1 r2 y0 y1 y2 z0 z1 z2 f0 f1 f2 DP ne1 ne2
            go_wp2_with fail
            go_quiet (first | (go_at_call 33; refine Calls.quiet_of_same (err_any w.heap.size S A E _ (B6.out.drewN _))) | (go_at_call 34; refine Calls.quiet_of_same (at_any w.heap.size S A E _ (B6.out.drewN _))) | (go_at_call 35; refine Calls.quiet_of_same (left_any w.heap.size S A E _ (B6.out.drewN _))))
            go_wp2_with fail
            go_roundw
            case rel => exact ⟨k + 1, S, A, E, by omega, by omega, rfl, B6.out.drewN _, Q6.out.drewN _, sS, Nat.le_trans sR RM.out, sE, grown_drewN G6.out _⟩
            case measure => simp [intOf]; omega)
      by_cases hy4 : y = 4
      · as_aux_lemma =>
          subst hy4
          obtain ⟨v, S, A, E, sS, sR, sE, CR, CP⟩ := both_hash s a e SH.out RM.out E8.out
          have DR : Hid (∀ w, Calls Try.prog 27 #[.agg #[.string s, .int .i64 a, .int .i64 e], .int .i64 32] w fun r w' => r = .returned (.tuple #[.agg #[.string S, .int .i64 A, .int .i64 E], .string v]) ∧ w.grownBy w' none) := CR
          have DP : Hid (∀ w b, Blk w b 77 (rd s a e) → Calls Try.prog 28 #[.pointer (some ⟨b, 0, none⟩)] w fun r w' => r = .returned (.string v) ∧ Blk w' b 77 (rd S A E) ∧ w.grownBy w' (some b)) := CP
          clear CR CP hx63 hNk
          go_wp2_with (first | (go_at_call 27; refine (DR.out _).mono ?_; rintro r w3 ⟨rfl, hg3⟩; have B3 : Hid (Blk w3 w.heap.size 77 (rd s a e)) := B0.out.kept hg3 (by simp); have Q3 : Hid (Blk w3 q 46 (rd s a e)) := Q0.out.kept hg3 (by simp); have G3 : Hid (w.grownBy w3 none) := grown_none H3.out hg3; clear hg3))
          have hlt3 : q < w3.heap.size := Q3.out.lt
          have B4 : Hid (Blk (w3.alloc (.cells #[.string S, .int .i64 A, .int .i64 E] 46)) w.heap.size 77 (rd s a e)) := B3.out.alloc _
          have Q4 : Hid (Blk (w3.alloc (.cells #[.string S, .int .i64 A, .int .i64 E] 46)) q 46 (rd s a e)) := Q3.out.alloc _
          have R4 : Hid (Blk (w3.alloc (.cells #[.string S, .int .i64 A, .int .i64 E] 46)) w3.heap.size 46 (rd S A E)) := Blk.new _ _ _
          have G4 : Hid (w.grownBy (w3.alloc (.cells #[.string S, .int .i64 A, .int .i64 E] 46)) none) := grown_alloc G3.out _
          generalize w3.alloc (.cells #[.string S, .int .i64 A, .int .i64 E] 46) = w4 at *
          generalize w3.heap.size = r at *
          have r0 : w4.cell? ⟨r, 0, none⟩ = some (.string S) := R4.out.rd0
          have r1 : w4.cell? ⟨r, 1, none⟩ = some (.int .i64 A) := R4.out.rd1
          have r2 : w4.cell? ⟨r, 2, none⟩ = some (.int .i64 E) := R4.out.rd2
          clear x0 x1 x2 c0 c1 B3 Q3 G3 B0 Q0 H3 DR
          have ne1 : some q ≠ some w.heap.size := by simp; omega
          have ne2 : some r ≠ some w.heap.size := by simp; omega
          go_region_with (go_at_call 28; refine (DP.out w4.drew w.heap.size B4.out.drew).mono ?_; rintro e5 w5 ⟨rfl, hb5, hg5⟩; have B5 : Hid (Blk w5 w.heap.size 77 (rd S A E)) := hb5; have Q5 : Hid (Blk w5 q 46 (rd s a e)) := Q4.out.drew.kept hg5 ne1; have R5 := R4.out.drew.kept hg5 ne2; have G5 : Hid (w.grownBy w5 none) := grown_through (grown_drew G4.out) hg5 (Nat.le_refl _); have y0 := R5.rd0; have y1 := R5.rd1; have y2 := R5.rd2; have z0 := Q5.out.rd0; have z1 := Q5.out.rd1; have z2 := Q5.out.rd2; have f0 := Q5.out.frozen 0; have f1 := Q5.out.frozen 1; have f2 := Q5.out.frozen 2; clear hb5 hg5 R5)
          all_goals (
            have B6 : Hid (Blk (((w5.setCell ⟨q, 0, none⟩ (.string S)).setCell ⟨q, 1, none⟩ (.int .i64 A)).setCell ⟨q, 2, none⟩ (.int .i64 E)) w.heap.size 77 (rd S A E)) := ((B5.out.other _ (Nat.ne_of_lt hlt1)).other _ (Nat.ne_of_lt hlt1)).other _ (Nat.ne_of_lt hlt1)
            have Q6 : Hid (Blk (((w5.setCell ⟨q, 0, none⟩ (.string S)).setCell ⟨q, 1, none⟩ (.int .i64 A)).setCell ⟨q, 2, none⟩ (.int .i64 E)) q 46 (rd S A E)) := ((Q5.out.set0 S).set1 A).set2 E
            have G6 : Hid (w.grownBy (((w5.setCell ⟨q, 0, none⟩ (.string S)).setCell ⟨q, 1, none⟩ (.int .i64 A)).setCell ⟨q, 2, none⟩ (.int .i64 E)) none) := grown_set_new (grown_set_new (grown_set_new G5.out _ (Nat.le_of_lt hlt1)) _ (Nat.le_of_lt hlt1)) _ (Nat.le_of_lt hlt1)
            generalize ((w5.setCell ⟨q, 0, none⟩ (.string S)).setCell ⟨q, 1, none⟩ (.int .i64 A)).setCell ⟨q, 2, none⟩ (.int .i64 E) = w6 at *
            have p0 := Q6.out.rd0
            have p1 := Q6.out.rd1
            have p2 := Q6.out.rd2
            clear B4 Q4 R4 G4 B5 Q5 G5 r0 r1 r2 y0 y1 y2 z0 z1 z2 f0 f1 f2 DP ne1 ne2
            go_wp2_with fail
            go_quiet (first | (go_at_call 33; refine Calls.quiet_of_same (err_any w.heap.size S A E _ (B6.out.drewN _))) | (go_at_call 34; refine Calls.quiet_of_same (at_any w.heap.size S A E _ (B6.out.drewN _))) | (go_at_call 35; refine Calls.quiet_of_same (left_any w.heap.size S A E _ (B6.out.drewN _))))
            go_wp2_with fail
            go_roundw
            case rel => exact ⟨k + 1, S, A, E, by omega, by omega, rfl, B6.out.drewN _, Q6.out.drewN _, sS, Nat.le_trans sR RM.out, sE, grown_drewN G6.out _⟩
            case measure => simp [intOf]; omega)
      by_cases hy5 : y = 5
      · as_aux_lemma =>
          subst hy5
          obtain ⟨v, S, A, E, sS, sR, sE, CR, CP⟩ := both_bool s a e SH.out RM.out E8.out
          have DR : Hid (∀ w, Calls Try.prog 29 #[.agg #[.string s, .int .i64 a, .int .i64 e]] w fun r w' => r = .returned (.tuple #[.agg #[.string S, .int .i64 A, .int .i64 E], .bool v]) ∧ w.grownBy w' none) := CR
          have DP : Hid (∀ w b, Blk w b 77 (rd s a e) → Calls Try.prog 30 #[.pointer (some ⟨b, 0, none⟩)] w fun r w' => r = .returned (.bool v) ∧ Blk w' b 77 (rd S A E) ∧ w.grownBy w' (some b)) := CP
          clear CR CP hx63 hNk
          go_wp2_with (first | (go_at_call 29; refine (DR.out _).mono ?_; rintro r w3 ⟨rfl, hg3⟩; have B3 : Hid (Blk w3 w.heap.size 77 (rd s a e)) := B0.out.kept hg3 (by simp); have Q3 : Hid (Blk w3 q 46 (rd s a e)) := Q0.out.kept hg3 (by simp); have G3 : Hid (w.grownBy w3 none) := grown_none H3.out hg3; clear hg3))
          have hlt3 : q < w3.heap.size := Q3.out.lt
          have B4 : Hid (Blk (w3.alloc (.cells #[.string S, .int .i64 A, .int .i64 E] 46)) w.heap.size 77 (rd s a e)) := B3.out.alloc _
          have Q4 : Hid (Blk (w3.alloc (.cells #[.string S, .int .i64 A, .int .i64 E] 46)) q 46 (rd s a e)) := Q3.out.alloc _
          have R4 : Hid (Blk (w3.alloc (.cells #[.string S, .int .i64 A, .int .i64 E] 46)) w3.heap.size 46 (rd S A E)) := Blk.new _ _ _
          have G4 : Hid (w.grownBy (w3.alloc (.cells #[.string S, .int .i64 A, .int .i64 E] 46)) none) := grown_alloc G3.out _
          generalize w3.alloc (.cells #[.string S, .int .i64 A, .int .i64 E] 46) = w4 at *
          generalize w3.heap.size = r at *
          have r0 : w4.cell? ⟨r, 0, none⟩ = some (.string S) := R4.out.rd0
          have r1 : w4.cell? ⟨r, 1, none⟩ = some (.int .i64 A) := R4.out.rd1
          have r2 : w4.cell? ⟨r, 2, none⟩ = some (.int .i64 E) := R4.out.rd2
          clear x0 x1 x2 c0 c1 B3 Q3 G3 B0 Q0 H3 DR
          have ne1 : some q ≠ some w.heap.size := by simp; omega
          have ne2 : some r ≠ some w.heap.size := by simp; omega
          go_region_with (go_at_call 30; refine (DP.out w4.drew w.heap.size B4.out.drew).mono ?_; rintro e5 w5 ⟨rfl, hb5, hg5⟩; have B5 : Hid (Blk w5 w.heap.size 77 (rd S A E)) := hb5; have Q5 : Hid (Blk w5 q 46 (rd s a e)) := Q4.out.drew.kept hg5 ne1; have R5 := R4.out.drew.kept hg5 ne2; have G5 : Hid (w.grownBy w5 none) := grown_through (grown_drew G4.out) hg5 (Nat.le_refl _); have y0 := R5.rd0; have y1 := R5.rd1; have y2 := R5.rd2; have z0 := Q5.out.rd0; have z1 := Q5.out.rd1; have z2 := Q5.out.rd2; have f0 := Q5.out.frozen 0; have f1 := Q5.out.frozen 1; have f2 := Q5.out.frozen 2; clear hb5 hg5 R5)
          all_goals (
            have B6 : Hid (Blk (((w5.setCell ⟨q, 0, none⟩ (.string S)).setCell ⟨q, 1, none⟩ (.int .i64 A)).setCell ⟨q, 2, none⟩ (.int .i64 E)) w.heap.size 77 (rd S A E)) := ((B5.out.other _ (Nat.ne_of_lt hlt1)).other _ (Nat.ne_of_lt hlt1)).other _ (Nat.ne_of_lt hlt1)
            have Q6 : Hid (Blk (((w5.setCell ⟨q, 0, none⟩ (.string S)).setCell ⟨q, 1, none⟩ (.int .i64 A)).setCell ⟨q, 2, none⟩ (.int .i64 E)) q 46 (rd S A E)) := ((Q5.out.set0 S).set1 A).set2 E
            have G6 : Hid (w.grownBy (((w5.setCell ⟨q, 0, none⟩ (.string S)).setCell ⟨q, 1, none⟩ (.int .i64 A)).setCell ⟨q, 2, none⟩ (.int .i64 E)) none) := grown_set_new (grown_set_new (grown_set_new G5.out _ (Nat.le_of_lt hlt1)) _ (Nat.le_of_lt hlt1)) _ (Nat.le_of_lt hlt1)
            generalize ((w5.setCell ⟨q, 0, none⟩ (.string S)).setCell ⟨q, 1, none⟩ (.int .i64 A)).setCell ⟨q, 2, none⟩ (.int .i64 E) = w6 at *
            have p0 := Q6.out.rd0
            have p1 := Q6.out.rd1
            have p2 := Q6.out.rd2
            clear B4 Q4 R4 G4 B5 Q5 G5 r0 r1 r2 y0 y1 y2 z0 z1 z2 f0 f1 f2 DP ne1 ne2
            go_wp2_with fail
            go_quiet (first | (go_at_call 33; refine Calls.quiet_of_same (err_any w.heap.size S A E _ (B6.out.drewN _))) | (go_at_call 34; refine Calls.quiet_of_same (at_any w.heap.size S A E _ (B6.out.drewN _))) | (go_at_call 35; refine Calls.quiet_of_same (left_any w.heap.size S A E _ (B6.out.drewN _))))
            go_wp2_with fail
            go_roundw
            case rel => exact ⟨k + 1, S, A, E, by omega, by omega, rfl, B6.out.drewN _, Q6.out.drewN _, sS, Nat.le_trans sR RM.out, sE, grown_drewN G6.out _⟩
            case measure => simp [intOf]; omega)
      by_cases hy6 : y = 6
      · as_aux_lemma =>
          subst hy6
          obtain ⟨m, em, hm⟩ := and3 x
          have m1 : (m : Int) ≤ 3 := by omega
          have m0 : (0 : Int) ≤ (m : Int) := by omega
          have ne1 : some q ≠ some w.heap.size := by simp; omega
          obtain ⟨S, eS⟩ : ∃ S, failS s e (m + 1) = S := ⟨_, rfl⟩
          obtain ⟨E, eE⟩ : ∃ E, failE e (m + 1) = E := ⟨_, rfl⟩
          have sS : Shut S E := by rw [← eS, ← eE]; exact fail_shut _ _ _ SH.out
          have sR : a + S.size ≤ a + s.size := by rw [← eS]; exact fail_room _ _ _ _
          have sE : E < 8 := by rw [← eE]; exact failE_lt _ _ E8.out (by omega)
          have CA : Hid (∀ w b, Blk w b 77 (rd s a e) → Calls Try.prog 31 #[.pointer (some ⟨b, 0, none⟩), .int .i64 ((m : Int) + 1)] w fun r w' => r = .returned (.tuple #[]) ∧ Blk w' b 77 (rd S a E) ∧ w.grownBy w' (some b)) := fun w b hb => by
            have h := fail_any b s a e (m + 1) w hb
            rw [show ((m + 1 : Nat) : Int) = (m : Int) + 1 from rfl, eS, eE] at h
            exact h
          have CB : Hid (∀ w b, Blk w b 77 (rd S a E) → Calls Try.prog 31 #[.pointer (some ⟨b, 0, none⟩), .int .i64 0] w fun r w' => r = .returned (.tuple #[]) ∧ Blk w' b 77 (rd S a E) ∧ w.grownBy w' (some b)) := fun w b hb => by
            have h := fail_any b S a E 0 w hb
            have f1 : failS S E 0 = S := by unfold failS; rw [if_pos (Or.inl rfl)]
            have f2 : failE E 0 = E := by unfold failE; rw [if_pos (Or.inl rfl)]
            rw [f1, f2] at h
            exact h
          clear hx63 hNk
          by_cases he0 : e = 0
          · subst he0
            have eS' : S = ⟨#[]⟩ := by rw [← eS]; unfold failS; rw [if_neg (by omega)]
            have eE' : E = m + 1 := by rw [← eE]; unfold failE; rw [if_neg (by omega)]
            have ES : Hid (S = ⟨#[]⟩) := eS'
            have EE : Hid (E = m + 1) := eE'
            clear eS' eE' eS eE
            go_wp2_with (first | (go_at_call 31; refine (CA.out _ _ B0.out).mono ?_; clear CA; rintro r w3 ⟨rfl, hb3, hg3⟩; have B3 : Hid (Blk w3 w.heap.size 77 (rd S a E)) := hb3; have Q3 : Hid (Blk w3 q 46 (rd s a 0)) := Q0.out.kept hg3 ne1; have G3 : Hid (w.grownBy w3 none) := grown_through H3.out hg3 (Nat.le_refl _); have z1 := Q3.out.rd1; have z2 := Q3.out.rd2; clear hb3 hg3) | (refine q_is_store 46 (.tmp 6) (.tmp 141) rfl ?_; refine store_rd (s := ⟨#[]⟩) (i := a) (e := m + 1) q Q3.out _ _ rfl rfl rfl rfl ?_; intro w4 hb4 hg4; have Q4 : Hid (Blk w4 q 46 (rd S a E)) := (by rw [ES.out, EE.out]; exact hb4); have B4 : Hid (Blk w4 w.heap.size 77 (rd S a E)) := B3.out.kept hg4 ne1.symm; have G4 : Hid (w.grownBy w4 none) := grown_through G3.out hg4 (Nat.le_of_lt hlt1); clear hb4 hg4) | (go_at_call 31; refine (CB.out _ _ B4.out).mono ?_; clear CB; rintro r w6 ⟨rfl, hb6, hg6⟩; have B6 : Hid (Blk w6 w.heap.size 77 (rd S a E)) := hb6; have Q6 : Hid (Blk w6 q 46 (rd S a E)) := Q4.out.kept hg6 ne1; have G6 : Hid (w.grownBy w6 none) := grown_through G4.out hg6 (Nat.le_refl _); have p0 := Q6.out.rd0; have p1 := Q6.out.rd1; have p2 := Q6.out.rd2; clear hb6 hg6))
            go_quiet (first | (go_at_call 33; refine Calls.quiet_of_same (err_any w.heap.size S a E _ (B6.out.drewN _))) | (go_at_call 34; refine Calls.quiet_of_same (at_any w.heap.size S a E _ (B6.out.drewN _))) | (go_at_call 35; refine Calls.quiet_of_same (left_any w.heap.size S a E _ (B6.out.drewN _))))
            go_wp2_with fail
            go_roundw
            case rel => exact ⟨k + 1, S, a, E, by omega, by omega, rfl, B6.out.drewN _, Q6.out.drewN _, sS, Nat.le_trans sR RM.out, sE, grown_drewN G6.out _⟩
            case measure => simp [intOf]; omega
          · have he' : ((e : Int) == 0) = false := by simp; omega
            have eS' : S = s := by rw [← eS]; unfold failS; rw [if_pos (Or.inr he0)]
            have eE' : E = e := by rw [← eE]; unfold failE; rw [if_pos (Or.inr he0)]
            have ES : Hid (S = s) := eS'
            have EE : Hid (E = e) := eE'
            clear eS' eE' eS eE
            go_wp2_with (first | (go_at_call 31; refine (CA.out _ _ B0.out).mono ?_; clear CA; rintro r w3 ⟨rfl, hb3, hg3⟩; have B3 : Hid (Blk w3 w.heap.size 77 (rd S a E)) := hb3; have Q3 : Hid (Blk w3 q 46 (rd s a e)) := Q0.out.kept hg3 ne1; have G3 : Hid (w.grownBy w3 none) := grown_through H3.out hg3 (Nat.le_refl _); have z1 := Q3.out.rd1; have z2 := Q3.out.rd2; clear hb3 hg3) | (go_at_call 31; refine (CB.out _ _ B3.out).mono ?_; clear CB; rintro r w6 ⟨rfl, hb6, hg6⟩; have B6 : Hid (Blk w6 w.heap.size 77 (rd S a E)) := hb6; have Q6 : Hid (Blk w6 q 46 (rd S a E)) := (by rw [ES.out, EE.out]; exact Q3.out.kept hg6 ne1); have G6 : Hid (w.grownBy w6 none) := grown_through G3.out hg6 (Nat.le_refl _); have p0 := Q6.out.rd0; have p1 := Q6.out.rd1; have p2 := Q6.out.rd2; clear hb6 hg6))
            go_quiet (first | (go_at_call 33; refine Calls.quiet_of_same (err_any w.heap.size S a E _ (B6.out.drewN _))) | (go_at_call 34; refine Calls.quiet_of_same (at_any w.heap.size S a E _ (B6.out.drewN _))) | (go_at_call 35; refine Calls.quiet_of_same (left_any w.heap.size S a E _ (B6.out.drewN _))))
            go_wp2_with fail
            go_roundw
            case rel => exact ⟨k + 1, S, a, E, by omega, by omega, rfl, B6.out.drewN _, Q6.out.drewN _, sS, Nat.le_trans sR RM.out, sE, grown_drewN G6.out _⟩
            case measure => simp [intOf]; omega
      have e1 : (y == 1) = false := by simp; omega
      have e2 : (y == 2) = false := by simp; omega
      have e3 : (y == 3) = false := by simp; omega
      have e4 : (y == 4) = false := by simp; omega
      have e5 : (y == 5) = false := by simp; omega
      have e6 : (y == 6) = false := by simp; omega
      clear hy1 hy2 hy3 hy4 hy5 hy6
      · as_aux_lemma =>
          obtain ⟨v, S, A, E, sS, sR, sE, CR, CP⟩ := both_bytes s a e x SH.out RM.out E8.out hx63
          have DR : Hid (∀ w, Calls Try.prog 27 #[.agg #[.string s, .int .i64 a, .int .i64 e], .int .i64 x] w fun r w' => r = .returned (.tuple #[.agg #[.string S, .int .i64 A, .int .i64 E], .string v]) ∧ w.grownBy w' none) := CR
          have DP : Hid (∀ w b, Blk w b 77 (rd s a e) → Calls Try.prog 32 #[.pointer (some ⟨b, 0, none⟩), .int .i64 x] w fun r w' => r = .returned (.string v) ∧ Blk w' b 77 (rd S A E) ∧ w.grownBy w' (some b)) := CP
          clear CR CP hx63 hNk
          go_wp2_with (first | (go_at_call 27; refine (DR.out _).mono ?_; rintro r w3 ⟨rfl, hg3⟩; have B3 : Hid (Blk w3 w.heap.size 77 (rd s a e)) := B0.out.kept hg3 (by simp); have Q3 : Hid (Blk w3 q 46 (rd s a e)) := Q0.out.kept hg3 (by simp); have G3 : Hid (w.grownBy w3 none) := grown_none H3.out hg3; clear hg3))
          have hlt3 : q < w3.heap.size := Q3.out.lt
          have B4 : Hid (Blk (w3.alloc (.cells #[.string S, .int .i64 A, .int .i64 E] 46)) w.heap.size 77 (rd s a e)) := B3.out.alloc _
          have Q4 : Hid (Blk (w3.alloc (.cells #[.string S, .int .i64 A, .int .i64 E] 46)) q 46 (rd s a e)) := Q3.out.alloc _
          have R4 : Hid (Blk (w3.alloc (.cells #[.string S, .int .i64 A, .int .i64 E] 46)) w3.heap.size 46 (rd S A E)) := Blk.new _ _ _
          have G4 : Hid (w.grownBy (w3.alloc (.cells #[.string S, .int .i64 A, .int .i64 E] 46)) none) := grown_alloc G3.out _
          generalize w3.alloc (.cells #[.string S, .int .i64 A, .int .i64 E] 46) = w4 at *
          generalize w3.heap.size = r at *
          have r0 : w4.cell? ⟨r, 0, none⟩ = some (.string S) := R4.out.rd0
          have r1 : w4.cell? ⟨r, 1, none⟩ = some (.int .i64 A) := R4.out.rd1
          have r2 : w4.cell? ⟨r, 2, none⟩ = some (.int .i64 E) := R4.out.rd2
          clear x0 x1 x2 c0 c1 B3 Q3 G3 B0 Q0 H3 DR
          have ne1 : some q ≠ some w.heap.size := by simp; omega
          have ne2 : some r ≠ some w.heap.size := by simp; omega
          go_region_with (go_at_call 32; refine (DP.out w4.drew w.heap.size B4.out.drew).mono ?_; rintro e5 w5 ⟨rfl, hb5, hg5⟩; have B5 : Hid (Blk w5 w.heap.size 77 (rd S A E)) := hb5; have Q5 : Hid (Blk w5 q 46 (rd s a e)) := Q4.out.drew.kept hg5 ne1; have R5 := R4.out.drew.kept hg5 ne2; have G5 : Hid (w.grownBy w5 none) := grown_through (grown_drew G4.out) hg5 (Nat.le_refl _); have y0 := R5.rd0; have y1 := R5.rd1; have y2 := R5.rd2; have z0 := Q5.out.rd0; have z1 := Q5.out.rd1; have z2 := Q5.out.rd2; have f0 := Q5.out.frozen 0; have f1 := Q5.out.frozen 1; have f2 := Q5.out.frozen 2; clear hb5 hg5 R5)
          all_goals (
            have B6 : Hid (Blk (((w5.setCell ⟨q, 0, none⟩ (.string S)).setCell ⟨q, 1, none⟩ (.int .i64 A)).setCell ⟨q, 2, none⟩ (.int .i64 E)) w.heap.size 77 (rd S A E)) := ((B5.out.other _ (Nat.ne_of_lt hlt1)).other _ (Nat.ne_of_lt hlt1)).other _ (Nat.ne_of_lt hlt1)
            have Q6 : Hid (Blk (((w5.setCell ⟨q, 0, none⟩ (.string S)).setCell ⟨q, 1, none⟩ (.int .i64 A)).setCell ⟨q, 2, none⟩ (.int .i64 E)) q 46 (rd S A E)) := ((Q5.out.set0 S).set1 A).set2 E
            have G6 : Hid (w.grownBy (((w5.setCell ⟨q, 0, none⟩ (.string S)).setCell ⟨q, 1, none⟩ (.int .i64 A)).setCell ⟨q, 2, none⟩ (.int .i64 E)) none) := grown_set_new (grown_set_new (grown_set_new G5.out _ (Nat.le_of_lt hlt1)) _ (Nat.le_of_lt hlt1)) _ (Nat.le_of_lt hlt1)
            generalize ((w5.setCell ⟨q, 0, none⟩ (.string S)).setCell ⟨q, 1, none⟩ (.int .i64 A)).setCell ⟨q, 2, none⟩ (.int .i64 E) = w6 at *
            have p0 := Q6.out.rd0
            have p1 := Q6.out.rd1
            have p2 := Q6.out.rd2
            clear B4 Q4 R4 G4 B5 Q5 G5 r0 r1 r2 y0 y1 y2 z0 z1 z2 f0 f1 f2 DP ne1 ne2
            go_wp2_with fail
            go_quiet (first | (go_at_call 33; refine Calls.quiet_of_same (err_any w.heap.size S A E _ (B6.out.drewN _))) | (go_at_call 34; refine Calls.quiet_of_same (at_any w.heap.size S A E _ (B6.out.drewN _))) | (go_at_call 35; refine Calls.quiet_of_same (left_any w.heap.size S A E _ (B6.out.drewN _))))
            go_wp2_with fail
            go_roundw
            case rel => exact ⟨k + 1, S, A, E, by omega, by omega, rfl, B6.out.drewN _, Q6.out.drewN _, sS, Nat.le_trans sR RM.out, sE, grown_drewN G6.out _⟩
            case measure => simp [intOf]; omega)
    · have ne1 : some q ≠ some w.heap.size := by simp; omega
      obtain ⟨S, eS⟩ : ∃ S, failS s e (endF s) = S := ⟨_, rfl⟩
      obtain ⟨E, eE⟩ : ∃ E, failE e (endF s) = E := ⟨_, rfl⟩
      have CE : Hid (∀ w b, Blk w b 77 (rd s a e) → Calls Try.prog 14 #[.pointer (some ⟨b, 0, none⟩)] w fun r w' => r = .returned (.int .i64 E) ∧ Blk w' b 77 (rd S a E) ∧ w.grownBy w' (some b)) := fun w b hb => by
        have h := end_any b s a e w hb
        rw [eS, eE] at h
        exact h
      have CR : Hid (∀ w, Calls Try.prog 36 #[.agg #[.string s, .int .i64 a, .int .i64 e]] w fun r w' => r = .returned (.agg #[.string S, .int .i64 a, .int .i64 E]) ∧ w.grownBy w' none) := fun w => by
        have h := refEnd_any s a e w
        rw [eS, eE] at h
        exact h
      have CQ : Hid (∀ w, Calls Try.prog 36 #[.agg #[.string s, .int .i64 a, .int .i64 e]] w fun r w' => r = .returned (.agg #[.string S, .int .i64 a, .int .i64 E]) ∧ w.grownBy w' none) := fun w => CR.out w
      clear eS eE
      have fd0 := field0 S a E
      have fd2 := field2 S a E
      clear HPA H0 H1 HN hn SH RM E8 hf
      by_cases hkn : k < n
      · as_aux_lemma =>
          have d1 : (k : Int) < (n : Int) := by omega
          have d2 : ¬ ((k : Int) < 30) := by omega
          clear hgo
          go_wp2_with fail
          go_region_with (first | (go_at_call 12; refine (awake_any _).mono ?_; rintro r wA ⟨rfl, hgA⟩; have BA : Hid (Blk wA w.heap.size 77 (rd s a e)) := B0.out.drew.kept hgA (fun h => by cases h); have QA : Hid (Blk wA q 46 (rd s a e)) := Q0.out.drew.kept hgA (fun h => by cases h); have GA : Hid (w.grownBy wA none) := grown_none (grown_drew H3.out) hgA; have a0 := QA.out.rd0; have a1 := QA.out.rd1; have a2 := QA.out.rd2; clear hgA) | (go_at_call 14; refine (CE.out wA w.heap.size BA.out).mono ?_; rintro r wB ⟨rfl, hbB, hgB⟩; have BB : Hid (Blk wB w.heap.size 77 (rd S a E)) := hbB; have QB : Hid (Blk wB q 46 (rd s a e)) := QA.out.kept hgB ne1; have GB : Hid (w.grownBy wB none) := grown_through GA.out hgB (Nat.le_refl _); have b0 := QB.out.rd0; have b1 := QB.out.rd1; have b2 := QB.out.rd2; clear hbB hgB) | (go_at_call 36; refine (CR.out wB).mono ?_; clear CR; rintro r wC ⟨rfl, hgC⟩; have BC : Hid (Blk wC w.heap.size 77 (rd S a E)) := BB.out.kept hgC (fun h => by cases h); have QC : Hid (Blk wC q 46 (rd s a e)) := QB.out.kept hgC (fun h => by cases h); have GC : Hid (w.grownBy wC none) := grown_none GB.out hgC; have g0 := QC.out.rd0; have g1 := QC.out.rd1; have g2 := QC.out.rd2; clear hgC) | (go_at_call 35; refine (left_any w.heap.size S a E wC BC.out).mono ?_; rintro r w' ⟨rfl, hw⟩; have hw2 := hw.symm; clear hw; subst hw2) | (go_at_call 36; refine (CQ.out wC).mono ?_; clear CQ; rintro r wD ⟨rfl, hgD⟩; have GD : Hid (w.grownBy wD none) := grown_none GC.out hgD; clear hgD))
          all_goals (
            go_wp2_with fail
            refine bodyPost_ret (v := .bool true) ?_ rfl ⟨rfl, GD.out⟩
            kernel_rfl)
      · as_aux_lemma =>
          have d1 : ¬ ((k : Int) < (n : Int)) := by omega
          clear hgo
          go_wp2_with fail
          go_region_with (first | (go_at_call 12; refine (awake_any _).mono ?_; rintro r wA ⟨rfl, hgA⟩; have BA : Hid (Blk wA w.heap.size 77 (rd s a e)) := B0.out.drew.kept hgA (fun h => by cases h); have QA : Hid (Blk wA q 46 (rd s a e)) := Q0.out.drew.kept hgA (fun h => by cases h); have GA : Hid (w.grownBy wA none) := grown_none (grown_drew H3.out) hgA; have a0 := QA.out.rd0; have a1 := QA.out.rd1; have a2 := QA.out.rd2; clear hgA) | (go_at_call 14; refine (CE.out wA w.heap.size BA.out).mono ?_; rintro r wB ⟨rfl, hbB, hgB⟩; have BB : Hid (Blk wB w.heap.size 77 (rd S a E)) := hbB; have QB : Hid (Blk wB q 46 (rd s a e)) := QA.out.kept hgB ne1; have GB : Hid (w.grownBy wB none) := grown_through GA.out hgB (Nat.le_refl _); have b0 := QB.out.rd0; have b1 := QB.out.rd1; have b2 := QB.out.rd2; clear hbB hgB) | (go_at_call 36; refine (CR.out wB).mono ?_; clear CR; rintro r wC ⟨rfl, hgC⟩; have BC : Hid (Blk wC w.heap.size 77 (rd S a E)) := BB.out.kept hgC (fun h => by cases h); have QC : Hid (Blk wC q 46 (rd s a e)) := QB.out.kept hgC (fun h => by cases h); have GC : Hid (w.grownBy wC none) := grown_none GB.out hgC; have g0 := QC.out.rd0; have g1 := QC.out.rd1; have g2 := QC.out.rd2; clear hgC) | (go_at_call 35; refine (left_any w.heap.size S a E wC BC.out).mono ?_; rintro r w' ⟨rfl, hw⟩; have hw2 := hw.symm; clear hw; subst hw2) | (go_at_call 36; refine (CQ.out wC).mono ?_; clear CQ; rintro r wD ⟨rfl, hgD⟩; have GD : Hid (w.grownBy wD none) := grown_none GC.out hgD; clear hgD))
          all_goals (
            go_wp2_with fail
            refine bodyPost_ret (v := .bool true) ?_ rfl ⟨rfl, GD.out⟩
            kernel_rfl)
end Go.Proofs.Ytiokjdjlopeliaa
