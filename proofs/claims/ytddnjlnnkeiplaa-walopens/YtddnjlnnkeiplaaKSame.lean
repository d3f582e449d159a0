/-
  lay, on a disk with no plan or one fall. same: a log has just what the model has.
-/
import Derived.Test.YtddnjlnnkeiplaaKPref
import Derived.Test.YtddnjlnnkeiplaaKLlay
import Derived.Test.YtddnjlnnkeiplaaKMdl
namespace Go.Proofs.Ytddnjlnnkeiplaa.X
open Go.RowKit Go.Maps
def newC (s : ByteArray) : Chg := wrC ⟨#[108, 111, 103, 46, 110, 101, 119]⟩ s
/-- The disk behind the first half. -/
def halfK (k : Dk) (s : ByteArray) : Dk := syncD (stepD k (newC s))
def layA (pl : Option Fa) (k : Dk) (s : ByteArray) : Nat := if ansQ pl k (newC s) = 0 then ansQ pl (halfK k s) movC else ansQ pl k (newC s)
def layK (pl : Option Fa) (k : Dk) (s : ByteArray) (L : Nat → OkChg) : Dk := if ansQ pl k (newC s) = 0 then (if ansQ pl (halfK k s) movC = 0 then syncD (stepD (halfK k s) movC) else nextQ pl (halfK k s) movC L) else nextQ pl k (newC s) L
def layP (pl : Option Fa) (k : Dk) (s : ByteArray) : Option Fa := if ansQ pl k (newC s) = 0 then planQ pl (halfK k s) movC else planQ pl k (newC s)
theorem fine_new (s : ByteArray) (h : s.size ≤ 1000000) : Fine (newC s) := ⟨by show 1 ≤ 4; omega, by show 7 ≤ maxLen; decide, by show 0 ≤ maxLen; decide, h, by show (0 : Int) ≤ 9223372036854775807; decide⟩
theorem fine_mov : Fine movC := ⟨by decide, by decide, by decide, by decide, by decide⟩
set_option maxRecDepth 100000 in
set_option maxHeartbeats 2000000 in
theorem lay_q (base b gp : Nat) (rm : Int) (g : Lg) (k : Dk) (pl : Option Fa) (s : ByteArray) (L : Nat → OkChg) (w : World) (h : IsLog w base b g) (hd : IsP w base g.d gp false rm k pl) (hbd : base ≤ g.d) (hA : Able k L) (hA2 : Able (halfK k s) L) (hs : s.size ≤ 1000000) (hf : Fits (doF k.now (newC s)) 1000000) (hf2 : Fits (doF (halfK k s).now movC) 1000000) :
    Calls Try.prog 46 #[.pointer (some ⟨b, 0, none⟩), .string s] w fun e w' => e = .returned (.int .i64 (layA pl k s : Nat)) ∧ IsLog w' base b g ∧ IsP w' base g.d gp false rm (layK pl k s L) (layP pl k s) ∧ TendP base g.d gp w w' := by
  have CA0 := write_q base g.d gp rm k pl ⟨#[108, 111, 103, 46, 110, 101, 119]⟩ s L w hd hA (fine_new s hs)
  change Calls Try.prog 30 _ w (OpQ base g.d gp rm pl k (newC s) L w) at CA0
  have HL := hid h
  obtain ⟨cd, hcd⟩ := hd.blk
  have BD := hid hcd
  obtain ⟨_, vr, vw, hb, _, _⟩ := h
  have c0 := hb.g7.1.1
  clear hb hcd hs hA hd
  unfold layA layK layP
  by_cases hq : ansQ pl k (newC s) = 0
  · obtain ⟨en, ep⟩ := nextQ_zero (L := L) hq
    have hdd := ansF_dead (ansQ_zero hq).1
    rw [if_pos hq, if_pos hq, if_pos hq]
    have CA : Hid (Calls Try.prog 30 #[.pointer (some ⟨g.d, 0, none⟩), .string ⟨#[108, 111, 103, 46, 110, 101, 119]⟩, .string s] w fun e w' => e = .returned (.int .i64 0) ∧ IsP w' base g.d gp false rm (stepD k (newC s)) pl ∧ TendP base g.d gp w w') := CA0.mono (fun e w' ⟨h1, h2, h3⟩ => by
      rw [hq] at h1
      rw [en, ep] at h2
      exact ⟨h1, h2, h3⟩)
    have CS : Hid (∀ W, IsP W base g.d gp false rm (stepD k (newC s)) pl → Calls Try.prog 31 #[.pointer (some ⟨g.d, 0, none⟩)] W fun e w' => e = .returned (.int .i64 0) ∧ IsP w' base g.d gp false rm (halfK k s) pl ∧ W.grownBy w' (some g.d)) := fun W hW => sync_q base g.d gp rm _ pl W hW hdd hf
    have CM0 : ∀ W, IsP W base g.d gp false rm (halfK k s) pl → Calls Try.prog 65 #[.pointer (some ⟨g.d, 0, none⟩), .string ⟨#[108, 111, 103, 46, 110, 101, 119]⟩, .string ⟨#[108, 111, 103]⟩] W (OpQ base g.d gp rm pl (halfK k s) movC L W) := fun W hW => move_q base g.d gp rm (halfK k s) pl _ _ L W hW hA2 fine_mov
    clear CA0 en ep hq hdd hf hA2
    generalize stepD k (newC s) = k1 at *
    generalize halfK k s = k2 at *
    by_cases hm : ansQ pl k2 movC = 0
    · obtain ⟨en, ep⟩ := nextQ_zero (L := L) hm
      have hdd := ansF_dead (ansQ_zero hm).1
      have CM : Hid (∀ W, IsP W base g.d gp false rm k2 pl → Calls Try.prog 65 #[.pointer (some ⟨g.d, 0, none⟩), .string ⟨#[108, 111, 103, 46, 110, 101, 119]⟩, .string ⟨#[108, 111, 103]⟩] W fun e w' => e = .returned (.int .i64 0) ∧ IsP w' base g.d gp false rm (stepD k2 movC) pl ∧ TendP base g.d gp W w') := fun W hW => (CM0 W hW).mono (fun e w' ⟨h1, h2, h3⟩ => by
        rw [hm] at h1
        rw [en, ep] at h2
        exact ⟨h1, h2, h3⟩)
      have CS2 : Hid (∀ W, IsP W base g.d gp false rm (stepD k2 movC) pl → Calls Try.prog 31 #[.pointer (some ⟨g.d, 0, none⟩)] W fun e w' => e = .returned (.int .i64 0) ∧ IsP w' base g.d gp false rm (syncD (stepD k2 movC)) pl ∧ W.grownBy w' (some g.d)) := fun W hW => sync_q base g.d gp rm _ pl W hW hdd hf2
      rw [if_pos hm, hm, ep]
      clear CM0 en ep hm hdd hf2
      generalize stepD k2 movC = k3 at *
      generalize syncD k3 = k4 at *
      go_enter Try.func46, Try.ntmps46
      go_wp2_with (first
        | (go_at_call 30; refine CA.out.mono ?_; rintro e w1 ⟨rfl, h1, t1⟩; have D1 := hid h1; have L1 := hid (log_keptP HL.out BD.out t1); have T1 := hid t1; obtain ⟨_, vr1, vw1, hb1, _, _⟩ := L1.out; have e1 := hb1.g7.1.1; clear hb1 h1 t1 CA)
        | (go_at_call 31; refine (CS.out _ D1.out).mono ?_; rintro e w2 ⟨rfl, h2, g2⟩; have D2 := hid h2; obtain ⟨_, q2⟩ := D1.out.blk; have L2 := hid (L1.out.keptD q2 (Tend.of_self (base := base) g2 hbd)); have T2 := hid (TendP.trans T1.out (TendP.of_tend (Tend.of_self (base := base) g2 hbd))); obtain ⟨_, vr2, vw2, hb2, _, _⟩ := L2.out; have e2 := hb2.g7.1.1; clear hb2 h2 g2 CS q2)
        | (go_at_call 65; refine (CM.out _ D2.out).mono ?_; rintro e w3 ⟨rfl, h3, t3⟩; have D3 := hid h3; obtain ⟨_, q3⟩ := D2.out.blk; have L3 := hid (log_keptP L2.out q3 t3); have T3 := hid (TendP.trans T2.out t3); obtain ⟨_, vr3, vw3, hb3, _, _⟩ := L3.out; have e3 := hb3.g7.1.1; clear hb3 h3 t3 CM q3)
        | (go_at_call 31; refine (CS2.out _ D3.out).mono ?_; rintro e w4 ⟨rfl, h4, g4⟩; have D4 := hid h4; obtain ⟨_, q4⟩ := D3.out.blk; have L4 := hid (L3.out.keptD q4 (Tend.of_self (base := base) g4 hbd)); have T4 := hid (TendP.trans T3.out (TendP.of_tend (Tend.of_self (base := base) g4 hbd))); clear h4 g4 CS2 q4))
      go_ret
      exact ⟨rfl, L4.out, D4.out, T4.out⟩
    · rw [if_neg hm]
      have CM : Hid (∀ W, IsP W base g.d gp false rm k2 pl → Calls Try.prog 65 #[.pointer (some ⟨g.d, 0, none⟩), .string ⟨#[108, 111, 103, 46, 110, 101, 119]⟩, .string ⟨#[108, 111, 103]⟩] W fun e w' => e = .returned (.int .i64 (ansQ pl k2 movC : Nat)) ∧ IsP w' base g.d gp false rm (nextQ pl k2 movC L) (planQ pl k2 movC) ∧ TendP base g.d gp W w') := fun W hW => (CM0 W hW).mono (fun e w' hx => hx)
      clear CM0 hf2
      generalize ansQ pl k2 movC = q at *
      generalize nextQ pl k2 movC L = k3 at *
      generalize planQ pl k2 movC = p3 at *
      have h1 : ((q : Int) == 0) = false := by simp; exact hm
      have h2 : ((q : Int) != 0) = true := by simp; exact hm
      clear hm
      go_enter Try.func46, Try.ntmps46
      go_wp2_with (first
        | (go_at_call 30; refine CA.out.mono ?_; rintro e w1 ⟨rfl, d1, t1⟩; have D1 := hid d1; have L1 := hid (log_keptP HL.out BD.out t1); have T1 := hid t1; obtain ⟨_, vr1, vw1, hb1, _, _⟩ := L1.out; have e1 := hb1.g7.1.1; clear hb1 d1 t1 CA)
        | (go_at_call 31; refine (CS.out _ D1.out).mono ?_; rintro e w2 ⟨rfl, d2, g2⟩; have D2 := hid d2; obtain ⟨_, q2⟩ := D1.out.blk; have L2 := hid (L1.out.keptD q2 (Tend.of_self (base := base) g2 hbd)); have T2 := hid (TendP.trans T1.out (TendP.of_tend (Tend.of_self (base := base) g2 hbd))); obtain ⟨_, vr2, vw2, hb2, _, _⟩ := L2.out; have e2 := hb2.g7.1.1; clear hb2 d2 g2 CS q2)
        | (go_at_call 65; refine (CM.out _ D2.out).mono ?_; rintro e w3 ⟨rfl, d3, t3⟩; have D3 := hid d3; obtain ⟨_, q3⟩ := D2.out.blk; have L3 := hid (log_keptP L2.out q3 t3); have T3 := hid (TendP.trans T2.out t3); clear d3 t3 CM q3))
      go_ret
      exact ⟨rfl, L3.out, D3.out, T3.out⟩
  · rw [if_neg hq, if_neg hq, if_neg hq]
    have CA : Hid (Calls Try.prog 30 #[.pointer (some ⟨g.d, 0, none⟩), .string ⟨#[108, 111, 103, 46, 110, 101, 119]⟩, .string s] w fun e w' => e = .returned (.int .i64 (ansQ pl k (newC s) : Nat)) ∧ IsP w' base g.d gp false rm (nextQ pl k (newC s) L) (planQ pl k (newC s)) ∧ TendP base g.d gp w w') := CA0.mono (fun e w' hx => hx)
    clear CA0 hf hf2 hA2
    generalize ansQ pl k (newC s) = q at *
    generalize nextQ pl k (newC s) L = k1 at *
    generalize planQ pl k (newC s) = p1 at *
    have h1 : ((q : Int) == 0) = false := by simp; exact hq
    have h2 : ((q : Int) != 0) = true := by simp; exact hq
    clear hq
    go_enter Try.func46, Try.ntmps46
    go_wp2_with (go_at_call 30; refine CA.out.mono ?_; rintro e w1 ⟨rfl, d1, t1⟩; have D1 := hid d1; have L1 := hid (log_keptP HL.out BD.out t1); have T1 := hid t1; clear d1 t1 CA)
    go_ret
    exact ⟨rfl, L1.out, D1.out, T1.out⟩
end Go.Proofs.Ytddnjlnnkeiplaa.X
namespace Go.Proofs.Ytddnjlnnkeiplaa
open Go.RowKit Go.Maps
def mdlV (sv wv : Value) (long more : Nat) (root : ByteArray) (marks : Nat) : Array Value := #[sv, wv, .int .i64 long, .int .i64 more, .string root, .int .i64 marks]
theorem Blk.m6 {w : World} {b long more marks : Nat} {sv wv : Value} {root : ByteArray} (h : Blk w b 32 (mdlV sv wv long more root marks)) : w.cell? ⟨b, 0, none⟩ = some sv ∧ w.cell? ⟨b, 1, none⟩ = some wv ∧ w.cell? ⟨b, 2, none⟩ = some (.int .i64 long) ∧ w.cell? ⟨b, 3, none⟩ = some (.int .i64 more) ∧ w.cell? ⟨b, 4, none⟩ = some (.string root) ∧ w.cell? ⟨b, 5, none⟩ = some (.int .i64 marks) :=
  ⟨h.cell 0, h.cell 1, h.cell 2, h.cell 3, h.cell 4, h.cell 5⟩
theorem grown_recs {w w1 w2 : World} {base : Nat} {u : Value} {l : List (Nat × ByteArray)} (h : w.grownBy w1 none) (hr : Recs w1 base u l) (h2 : w1.grownBy w2 u.ownBlock) (hb : w.heap.size ≤ base) : w.grownBy w2 none :=
  ⟨h2.os.trans h.os, h2.tape.trans h.tape, h2.output.trans h.output, Nat.le_trans h.size h2.size, fun i hi _ => (h2.block i (Nat.lt_of_lt_of_le hi h.size) (fun e => by have := (World.ownsRow.lt hr i e.symm).1; omega)).trans (h.block i hi (by simp))⟩
set_option maxRecDepth 100000 in
set_option maxHeartbeats 4000000 in
theorem same_any (base b B : Nat) (g : Lg) (S T : List (Nat × ByteArray)) (sv wv : Value) (marks : Nat) (w : World) (h : IsLog w base b g) (hs : Recs w B sv S) (ht : Recs w B wv T) (asc : Asc g.recs) (hl : g.recs.length ≤ 1000000)
    (hall : ∀ r ∈ S ++ T, atR g.recs r.1 = some r.2) (hm : g.marked = decide (0 < marks)) (hST : S.length + T.length ≤ 100000) :
    Calls Try.prog 24 #[.pointer (some ⟨b, 0, none⟩), .agg (mdlV sv wv g.len g.wait.size g.root marks)] w fun e w' => e = .returned (.bool true) ∧ w.grownBy w' none := by
  obtain ⟨ps, cs, rfl⟩ := hs.form
  obtain ⟨pw, cw, rfl⟩ := ht.form
  have HL := hid h
  have HS := hid hs
  have HT := hid ht
  have HA := hid hall
  have BM := hid (Blk.new w 32 (mdlV (.slice ps S.length cs) (.slice pw T.length cw) g.len g.wait.size g.root marks))
  have CR : Hid (∀ a W, IsLog W base b g → Calls Try.prog 21 #[.pointer (some ⟨b, 0, none⟩), .int .i64 a] W fun e w' => e = .returned (.tuple #[.string (readT g.recs a), .int .i64 (readC g.recs a)]) ∧ W.grownBy w' none) := fun a W hW => lread_any base b g a W hW asc hl
  have CT : Hid (∀ W, IsLog W base b g → Calls Try.prog 35 #[.pointer (some ⟨b, 0, none⟩)] W fun e w' => e = .returned (.tuple #[.string g.root, .bool g.marked]) ∧ W.grownBy w' none) := fun W hW => lroot_any base b g W hW
  have i1 : S.length + T.length ≤ 1000000 := by omega
  have I1 := hid i1
  clear h hs ht hall asc hl i1
  unfold mdlV at BM ⊢
  go_enter Try.func24, Try.ntmps24
  go_wp2_with fail
  have G1 : Hid (w.grownBy ((w.alloc (.cells #[.slice ps S.length cs, .slice pw T.length cw, .int .i64 g.len, .int .i64 g.wait.size, .string g.root, .int .i64 marks] 32)).alloc (.cells #[] 49)).drew none) := grown_drew (grown_alloc (grown_alloc (grown_refl _ _) _) _)
  have E1 : Hid (Recs ((w.alloc (.cells #[.slice ps S.length cs, .slice pw T.length cw, .int .i64 g.len, .int .i64 g.wait.size, .string g.root, .int .i64 marks] 32)).alloc (.cells #[] 49)).drew (w.heap.size + 1) (.slice (some ⟨w.heap.size + 1, 0, none⟩) 0 0) []) := (by
    have := recs_new (w.alloc (.cells #[.slice ps S.length cs, .slice pw T.length cw, .int .i64 g.len, .int .i64 g.wait.size, .string g.root, .int .i64 marks] 32)) (w.heap.size + 1) (by simp)
    rw [World.size_alloc] at this
    exact this)
  have k0 := (BM.out.alloc (.cells #[] 49)).cell 0
  have k1 := (BM.out.alloc (.cells #[] 49)).cell 1
  have k2 := BM.out.cell 0
  have k3 := BM.out.cell 1
  simp at k0 k1 k2 k3
  have BA := hid (BM.out.alloc (.cells #[] 49))
  have HB1 : Hid (w.heap.size + 1 ≤ ((w.alloc (.cells #[.slice ps S.length cs, .slice pw T.length cw, .int .i64 g.len, .int .i64 g.wait.size, .string g.root, .int .i64 marks] 32)).alloc (.cells #[] 49)).drew.heap.size) := (by have := BA.out.lt; show w.heap.size + 1 ≤ ((w.alloc _).alloc _).heap.size; rw [World.size_alloc, World.size_alloc]; omega)
  have HN1 : Hid (([] : List (Nat × ByteArray)).length + S.length ≤ 1000000) := (by have := I1.out; show 0 + S.length ≤ _; omega)
  have HN2 : Hid (([] ++ S : List (Nat × ByteArray)).length + T.length ≤ 1000000) := I1.out
  go_region_law (first
    | (refine step_recs (.tmp 11) (.tmp 13) rfl rfl (w.heap.size + 1) B _ _ [] S E1.out (HS.out.none G1.out) HN1.out HB1.out rfl rfl ?_; intro v3 w3 h3 g3; have G3 := hid (grown_recs G1.out E1.out g3 (Nat.le_succ _)); have Z3 := hid g3.size; have R3 := hid h3; have B3 := hid (BA.out.drew.kept g3 (fun e => Nat.ne_of_lt (Nat.lt_succ_self w.heap.size) (Option.some.inj e))); have k4 := B3.out.cell 1; simp at k4; obtain ⟨p3, c3, rfl⟩ := h3.form; clear h3 g3)
    | (refine step_recs (.tmp 14) (.tmp 16) rfl rfl (w.heap.size + 1) B _ _ ([] ++ S) T R3.out (HT.out.none G3.out) HN2.out (Nat.le_trans HB1.out Z3.out) rfl rfl ?_; intro v4 w4 h4 g4; have G4 := hid (grown_recs G3.out R3.out g4 (Nat.le_succ _)); have R4 := hid h4; have B4 := hid (B3.out.kept g4 (fun e => by have := (World.ownsRow.lt R3.out _ e.symm).1; omega)); obtain ⟨p4, c4, rfl⟩ := h4.form; clear h4 g4))
  all_goals (
    have L4 := hid (HL.out.kept G4.out)
    have eL : (([] ++ S : List (Nat × ByteArray)) ++ T) = S ++ T := rfl
    rw [eL] at R4
    rw [show S.length + T.length = (S ++ T).length from List.length_append.symm]
    have hn : ((S ++ T).length : Int) ≤ 100000 := by rw [List.length_append]; omega
    clear k0 k1 k2 k3 R3 B3 G3 Z3 HN1 HN2 HB1 E1 G1 BA BM HS HT HL I1 hST eL
    generalize S ++ T = A at *
    have k0 := B4.out.cell 2
    have k1 := B4.out.cell 3
    have k2 := B4.out.cell 4
    have k3 := B4.out.cell 5
    simp at k0 k1 k2 k3
    go_wp2
    go_loopw [6] (fun iv wr => ∃ k : Nat, k ≤ A.length ∧ iv = .int .i64 k ∧ w4.grownBy wr none) (fun iv _ => A.length - (intOf iv).toNat)
    case atStart => exact ⟨0, Nat.zero_le _, rfl, grown_refl _ _⟩
    case round =>
      obtain ⟨k, hk, rfl, hg⟩ := hrel
      have GR := hid hg
      clear hg
      have k9 : (0 : Int) ≤ k := by omega
      by_cases hlt : k < A.length
      · obtain ⟨q, rfl, c0, c1⟩ := recs_cell (R4.out.none GR.out) k hlt
        have ha := HA.out A[k] (List.getElem_mem hlt)
        have r1 : readT g.recs A[k].1 = A[k].2 := by unfold readT; rw [ha]; rfl
        have r2 : readC g.recs A[k].1 = 0 := by unfold readC; rw [ha]; rfl
        have CE : Hid (∀ W, IsLog W base b g → Calls Try.prog 21 #[.pointer (some ⟨b, 0, none⟩), .int .i64 A[k].1] W fun e w' => e = .returned (.tuple #[.string A[k].2, .int .i64 0]) ∧ W.grownBy w' none) := fun W hW => by
          have := CR.out A[k].1 W hW
          rw [r1, r2] at this
          exact this
        have hlt' : (k : Int) < A.length := by omega
        clear ha r1 r2 HA CR CT
        generalize A[k].1 = x at *
        generalize A[k].2 = y at *
        go_wp2_with (go_at_call 21; refine (CE.out _ (L4.out.kept GR.out)).mono ?_; rintro e w5 ⟨rfl, g5⟩; have G5 := hid (grown_none GR.out g5); have d1 := cell_kept c1 g5; clear g5 CE)
        go_round
        case rel => exact ⟨k + 1, by omega, by go_num, G5.out⟩
        case measure => simp [intOf]; omega
      · obtain rfl : k = A.length := by omega
        have hlt' : ¬ (A.length : Int) < A.length := by omega
        have L5 := hid (L4.out.kept GR.out)
        clear HA CR hlt hk
        generalize A.length = n at *
        go_wp2_with (go_at_call 35; refine (CT.out _ L5.out).mono ?_; rintro e w6 ⟨rfl, g6⟩; have G6 := hid (grown_none GR.out g6); have L6 := hid (L5.out.kept g6); clear g6 CT)
        have B6 := hid (B4.out.kept G6.out (by simp))
        have j0 := B6.out.cell 2
        have j1 := B6.out.cell 3
        have j2 := B6.out.cell 4
        have j3 := B6.out.cell 5
        simp at j0 j1 j2 j3
        have M6 : Hid (g.marked = decide (0 < marks)) := hm
        go_quiet (first | (go_at_call 36; refine Calls.quiet_of_same (llen_any base b g _ (L6.out.kept (grown_drewN (grown_refl _ _) _)))) | (go_at_call 37; refine Calls.quiet_of_same (lwaits_any base b g _ (L6.out.kept (grown_drewN (grown_refl _ _) _)))))
        all_goals (
          go_wp2
          go_ret
          exact ⟨rfl, grown_drewN (grown_none G4.out G6.out) _⟩))
end Go.Proofs.Ytddnjlnnkeiplaa
