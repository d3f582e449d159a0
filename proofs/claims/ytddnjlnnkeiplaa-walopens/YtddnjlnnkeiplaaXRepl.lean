/-
  Replace, on a disk with no plan or one fall.
-/
import Derived.Test.YtddnjlnnkeiplaaKSame
import Derived.Test.YtddnjlnnkeiplaaKLrepl
namespace Go.Proofs.Ytddnjlnnkeiplaa.X
open Go.RowKit Go.Maps
set_option maxRecDepth 100000 in
set_option maxHeartbeats 2000000 in
theorem replace_q (base b bl gp : Nat) (rm : Int) (g : Lg) (dk : Dk) (pl : Option Fa) (v : Value) (l : List ByteArray) (root : ByteArray) (LL : Nat → OkChg) (w : World) (h : IsLog w base b g) (hd : IsP w base g.d gp false rm dk pl) (hbd : base ≤ g.d) (hA : Able dk LL) (hA2 : Able (halfK dk (wholeT l root)) LL) (hf : Fits (doF dk.now (newC (wholeT l root))) 1000000) (hf2 : Fits (doF (halfK dk (wholeT l root)).now movC) 1000000)
    (hv : w.ownsRow bl 9 1 v l.length (strs l)) (hl : l.length ≤ 6) (hs : ∀ t ∈ l, t.size ≤ 300) (hr : root.size ≤ 300) :
    Calls Try.prog 18 #[.pointer (some ⟨b, 0, none⟩), v, .string root] w fun e w' => e = .returned (.int .i64 (layA pl dk (wholeT l root) : Nat)) ∧ IsLog w' base b (if layA pl dk (wholeT l root) = 0 then topG g.d l root else g) ∧ IsP w' base g.d gp false rm (layK pl dk (wholeT l root) LL) (layP pl dk (wholeT l root)) ∧ LowP base gp w w' := by
  obtain ⟨pa, ca, rfl, _⟩ := row_form hv
  have hoff := offK_le hs
  have hb0 : base ≤ b := h.1
  obtain ⟨cb, hcb⟩ := h.blk
  have BL := hid hcb
  have hbw : b < w.heap.size := hcb.lt
  have AP : Hid (∀ k W, k ≤ 6 → IsLog W w.heap.size w.heap.size (nxtG g.d l k) → Calls Try.prog 22 #[.pointer (some ⟨w.heap.size, 0, none⟩), .string (l.getD k ⟨#[]⟩)] W fun e w' => e = .returned (.tuple #[.int .i64 (offK l k), .int .i64 0]) ∧ IsLog w' w.heap.size w.heap.size (nxtG g.d l (k + 1)) ∧ LT w.heap.size w.heap.size W w') := fun k W hk hW => by
    have o1 := hoff k
    have := lappend_any w.heap.size w.heap.size (nxtG g.d l k) (l.getD k ⟨#[]⟩) W hW (by show (plcK l k).length ≤ _; rw [plcK_len]; omega) (by show (txtK l k).size ≤ _; rw [txtK_size]; omega) (by show 0 ≤ _; decide) (by have := getD_size hs k; omega)
    rw [nxt_step] at this
    have e : (nxtG g.d l k).len + (nxtG g.d l k).wait.size = offK l k := by
      show 0 + (txtK l k).size = _
      rw [txtK_size, Nat.zero_add]
    rw [e] at this
    exact this
  have wz := wholeT_size l root
  have o6 := hoff l.length
  have we : endT l root ≤ 3000 := by unfold endT; omega
  have SE : Hid (∀ W, IsLog W w.heap.size w.heap.size (nxtG g.d l l.length) → Calls Try.prog 42 #[.pointer (some ⟨w.heap.size, 0, none⟩), .string root] W fun e w' => e = .returned (.tuple #[.string (wholeT l root), .int .i64 0]) ∧ W.grownBy w' none) := fun W hW => sealed_any w.heap.size w.heap.size (nxtG g.d l l.length) root W hW (by show (txtK l l.length).size ≤ _; rw [txtK_size]; omega) (by omega)
  have LY : Hid (∀ W, IsLog W base b g → IsP W base g.d gp false rm dk pl → Calls Try.prog 46 #[.pointer (some ⟨b, 0, none⟩), .string (wholeT l root)] W fun e w' => e = .returned (.int .i64 (layA pl dk (wholeT l root) : Nat)) ∧ IsLog w' base b g ∧ IsP w' base g.d gp false rm (layK pl dk (wholeT l root) LL) (layP pl dk (wholeT l root)) ∧ TendP base g.d gp W w') := fun W h1 h2 => lay_q base b gp rm g dk pl (wholeT l root) LL W h1 h2 hbd hA hA2 (by omega) hf hf2
  have MK : Hid (∀ W, IsLog W w.heap.size w.heap.size (nxtG g.d l l.length) → Calls Try.prog 44 #[.pointer (some ⟨w.heap.size, 0, none⟩), .int .i64 (endT l root), .string root] W fun e w' => e = .returned (.tuple #[]) ∧ IsLog w' w.heap.size w.heap.size (topG g.d l root) ∧ W.grownBy w' (some w.heap.size)) := fun W hW => by
    have := mark_any w.heap.size w.heap.size (nxtG g.d l l.length) (endT l root) root W hW (by show (plcK l l.length).length ≤ _; rw [plcK_len]; omega)
    have e : ({ nxtG g.d l l.length with com := (nxtG g.d l l.length).recs.length, len := endT l root, wait := ⟨#[]⟩, root := root, marked := true } : Lg) = topG g.d l root := by
      unfold nxtG topG
      simp only [plcK_len]
    rw [e] at this
    exact this
  have HL := hid h
  have HD := hid hd
  have HV := hid hv
  have N0 : Hid (IsLog (w.alloc (.cells #[.pointer (some ⟨g.d, 0, none⟩), .slice none 0 0, .int .i64 0, .int .i64 0, .slice none 0 0, .string ⟨#[]⟩, .bool false] 77)) w.heap.size w.heap.size (nxtG g.d l 0)) := newL_is (Nat.le_refl _)
  obtain ⟨_, vr, vw, hb, _, _⟩ := h
  have c0 := hb.g7.1.1
  have n6 : (l.length : Int) ≤ 6 := by omega
  have wz2 : ((wholeT l root).size : Int) = (endT l root : Int) := by rw [wz]
  have WZ := hid (And.intro wz2 trivial)
  have we2 : ((wholeT l root).size : Int) ≤ 3000 := by omega
  clear hb hd hv hcb hoff o6 wz wz2 we hA hA2 hf hf2 hs hbd
  generalize layK pl dk (wholeT l root) LL = k4 at *
  generalize layP pl dk (wholeT l root) = p4 at *
  generalize layA pl dk (wholeT l root) = q at *
  go_enter Try.func18, Try.ntmps18
  go_wp2
  go_loopw [24] (fun iv wr => ∃ k : Nat, k ≤ l.length ∧ iv = .int .i64 k ∧ IsLog wr w.heap.size w.heap.size (nxtG g.d l k) ∧ w.grownBy wr none) (fun iv _ => l.length - (intOf iv).toNat)
  case atStart => exact ⟨0, Nat.zero_le _, rfl, N0.out, grown_alloc (grown_refl _ _) _⟩
  case round =>
    obtain ⟨k, hk, rfl, hlog, hg⟩ := hrel
    have LK := hid hlog
    have GK := hid hg
    clear hlog hg N0
    have k0 : (0 : Int) ≤ k := by omega
    by_cases hlt : k < l.length
    · have k1 : (k : Int) < l.length := by omega
      obtain ⟨gx, rfl, cx⟩ := str_cell HV.out k hlt
      have cx1 := cell_kept cx GK.out (fun _ e => by cases e)
      have CE := hid (AP.out k _ (by omega) LK.out)
      clear AP SE LY MK cx HV
      generalize l.getD k ⟨#[]⟩ = x at *
      generalize offK l k = off at *
      go_wp2_with (go_at_call 22; refine CE.out.mono ?_; rintro e w2 ⟨rfl, h2, t2⟩; have L2 := hid h2; have G2 := hid (LT.grown GK.out t2); clear h2 t2 CE)
      go_round
      case rel => exact ⟨k + 1, by omega, by go_num, L2.out, G2.out⟩
      case measure => simp [intOf]; omega
    · obtain rfl : k = l.length := by omega
      have k1 : ¬ (l.length : Int) < l.length := by omega
      clear AP HV hk hlt
      generalize hn : l.length = n at *
      generalize hTx : wholeT l root = Tx at *
      have TX := hid (And.intro hTx trivial)
      clear hTx
      generalize endT l root = En at *
      have hbB : base ≤ w.heap.size := by omega
      by_cases hq : q = 0
      · subst hq
        go_wp2_with (first
          | (go_at_call 42; refine (SE.out _ LK.out).mono ?_; rintro e w3 ⟨rfl, g3⟩; have G3 := hid (grown_none GK.out g3); have N3 := hid (LK.out.kept g3); have L3 := hid (HL.out.kept G3.out); have D3 := hid (HD.out.kept G3.out); clear g3 SE)
          | (go_at_call 46; refine (LY.out _ L3.out D3.out).mono ?_; rintro e w4 ⟨rfl, l4, d4, t4⟩; obtain ⟨_, q3⟩ := D3.out.blk; have N4 := hid (log_keptP N3.out q3 t4); have L4 := hid l4; have D4 := hid d4; have T4 := hid (LowP.trans (LowP.of_low (Low.of_none (base := base) G3.out)) (LowP.of_tendP t4 D3.out.blk)); clear l4 d4 t4 LY q3)
          | (go_at_call 44; refine calls_at (args := #[.pointer (some ⟨w.heap.size, 0, none⟩), .int .i64 En, .string root]) (by rw [← WZ.out.1]) ?_; refine (MK.out _ N4.out).mono ?_; rintro e w5 ⟨rfl, n5, g5⟩; have N5 := hid n5; obtain ⟨_, q4⟩ := N4.out.blk; have D5 := hid (IsP.log D4.out q4 (LT.of_self (base := base) g5 hbB)); have T5 := hid (LowP.trans T4.out (LowP.of_low (Low.of_lt (LT.of_self (base := base) g5 hbB) ⟨_, q4⟩))); obtain ⟨_, vr4, vw4, hb4, _, _⟩ := L4.out; have B5 := hid (hb4.kept g5 (fun e => by have := Option.some.inj e; omega)); obtain ⟨_, vr5, vw5, hb5, hr5, hw5⟩ := n5; have M5 := hid hb5; have R5 := hid hr5; have W5 := hid hw5; obtain ⟨pr5, cr5, rfl, _⟩ := row_form hr5; obtain ⟨pw5, cw5, rfl, _⟩ := row_form hw5; obtain ⟨⟨a0, a1, a2, a3, a4, a5, a6⟩, _⟩ := hb5.g7; obtain ⟨⟨b0, b1, b2, b3, b4, b5, b6⟩, f1, f2, f3, f4, f5, f6⟩ := B5.out.g7; have f0 := B5.out.frozen 0; clear hb5 hr5 hw5 hb4 g5 MK q4))
        have H6 := grown_set (grown_set (grown_set (grown_set (grown_set (grown_set (grown_set (grown_refl w5 (some b)) 0 (.pointer (some ⟨(topG g.d l root).d, 0, none⟩))) 1 (.slice pr5 (topG g.d l root).recs.length cr5)) 2 (.int .i64 (topG g.d l root).com)) 3 (.int .i64 (topG g.d l root).len)) 4 (.slice pw5 (topG g.d l root).wait.size cw5)) 5 (.string (topG g.d l root).root)) 6 (.bool (topG g.d l root).marked)
        have B6 := ((((((B5.out.set 0 (.pointer (some ⟨(topG g.d l root).d, 0, none⟩))).set 1 (.slice pr5 (topG g.d l root).recs.length cr5)).set 2 (.int .i64 (topG g.d l root).com)).set 3 (.int .i64 (topG g.d l root).len)).set 4 (.slice pw5 (topG g.d l root).wait.size cw5)).set 5 (.string (topG g.d l root).root)).set 6 (.bool (topG g.d l root).marked)
        have R6 := own_down (rowG_kept R5.out B5.out (by decide) H6) hbB
        have W6 := own_down (rowG_kept W5.out B5.out (by decide) H6) hbB
        have D6 := IsP.log D5.out B5.out (LT.of_self (base := base) H6 hb0)
        have T6 := LowP.trans T5.out (LowP.of_low (Low.of_lt (LT.of_self (base := base) H6 hb0) ⟨_, B5.out⟩))
        go_ret
        refine ⟨rfl, ?_, D6, T6⟩
        exact ⟨hb0, _, _, B6, R6, W6⟩
      · have HQ := hid hq
        have h1 : ((q : Int) == 0) = false := by simp; exact hq
        have h2 : ((q : Int) != 0) = true := by simp; exact hq
        clear hq MK
        go_wp2_with (first
          | (go_at_call 42; refine (SE.out _ LK.out).mono ?_; rintro e w3 ⟨rfl, g3⟩; have G3 := hid (grown_none GK.out g3); have N3 := hid (LK.out.kept g3); have L3 := hid (HL.out.kept G3.out); have D3 := hid (HD.out.kept G3.out); clear g3 SE)
          | (go_at_call 46; refine (LY.out _ L3.out D3.out).mono ?_; rintro e w4 ⟨rfl, l4, d4, t4⟩; obtain ⟨_, q3⟩ := D3.out.blk; have N4 := hid (log_keptP N3.out q3 t4); have L4 := hid l4; have D4 := hid d4; have T4 := hid (LowP.trans (LowP.of_low (Low.of_none (base := base) G3.out)) (LowP.of_tendP t4 D3.out.blk)); clear l4 d4 t4 LY q3))
        go_ret
        refine ⟨rfl, ?_, D4.out, T4.out⟩
        exact L4.out
end Go.Proofs.Ytddnjlnnkeiplaa.X
