/-
  The law's cut: at most six texts, each cut. same: a log has just what the model has.
-/
import Derived.Test.YtddnjlnnkeiplaaMdl
namespace Go.Proofs.Ytddnjlnnkeiplaa
open Go.RowKit Go.Maps
def strs (l : List ByteArray) : List Value := l.map Value.string
theorem info9 : (Try.prog.info? 9).map (fun i => (i.zero, i.size, i.bytes)) = some (some (.string ⟨#[]⟩), 1, 16) := by kernel_rfl
theorem append_str {ops : Array Oper} {rest : List Oper} {o : Oper} {a : Act} {w : World} {Q : Exit → Act → World → Prop} (base : Nat) (l : List ByteArray) (t : ByteArray) (v : Value) (ad : Addr) (c : Nat) (hrow : w.ownsRow base 9 1 v l.length (strs l)) (hcell : w.cell? ad = some (.string t)) (hk : l.length < 100000) (hbase : base ≤ w.heap.size) (s x : Operand)
    (hgd : o.guard = none) (ho : o.op = .call { callee := .builtin .append, args := #[s, x], argTypes := #[33, 33] }) (hs : a.eval s = v) (hx : a.eval x = .slice (some ad) 1 c)
    (h : ∀ v' w', w'.ownsRow base 9 1 v' (l ++ [t]).length (strs (l ++ [t])) → w.grownBy w' v.ownBlock → wpList Try.prog ops Q rest (a.put o.dst v') w') : wpList Try.prog ops Q (o :: rest) a w := by
  obtain ⟨i3, hi3, hz0, hz1, hz2⟩ := info_parts info9
  have hnews : ∀ j u, [Value.string t][j]? = some u → w.cell? (ad.add j) = some u := by
    intro j u hj
    match j, hj with
    | 0, hj =>
      rw [List.getElem?_cons_zero] at hj
      rw [← hj]
      exact hcell
  have h1 : ∀ u ∈ [Value.string t], u.oneCell' = true := by
    intro u hu; rw [List.mem_singleton] at hu; subst hu; rfl
  refine wpList_append_own w hgd s x 33 ho base 9 i3 _ 1 16 Try.underlying33 hi3 hz0 hz1 hz2 rfl (by decide) v l.length (strs l) hs hrow ad 1 c [.string t] hx rfl hnews h1 (by unfold maxLen; omega) (by omega) hbase ?_
  intro v' w' hown' hg _
  refine h v' w' ?_ hg
  rw [List.length_append]
  have e : strs (l ++ [t]) = strs l ++ [.string t] := by unfold strs; rw [List.map_append]; rfl
  rw [e]
  exact hown'
def cutK (S : Nat → ByteArray) (k : Nat) : List ByteArray := (List.range k).map fun j => fewS (S j)
theorem cutK_len (S : Nat → ByteArray) (k : Nat) : (cutK S k).length = k := by simp [cutK]
theorem cutK_snoc (S : Nat → ByteArray) (k : Nat) : cutK S k ++ [fewS (S k)] = cutK S (k + 1) := by
  unfold cutK
  rw [List.range_succ, List.map_append]
  rfl
def CutPost (w : World) (l : List ByteArray) (e : Ending) (w' : World) : Prop := ∃ v, e = .returned v ∧ w'.ownsRow w.heap.size 9 1 v l.length (strs l) ∧ w.grownBy w' none
theorem grown_own {w w1 w2 : World} {base e n size : Nat} {u : Value} {xs : List Value} (h : w.grownBy w1 none) (hr : w1.ownsRow base e size u n xs) (h2 : w1.grownBy w2 u.ownBlock) (hb : w.heap.size ≤ base) : w.grownBy w2 none :=
  ⟨h2.os.trans h.os, h2.tape.trans h.tape, h2.output.trans h.output, Nat.le_trans h.size h2.size, fun i hi _ => (h2.block i (Nat.lt_of_lt_of_le hi h.size) (fun e => by have := (World.ownsRow.lt hr i e.symm).1; omega)).trans (h.block i hi (by simp))⟩
set_option maxRecDepth 100000 in
set_option maxHeartbeats 1000000 in
theorem cut_any (pa : Option Addr) (n cap xb xo : Nat) (S : Nat → ByteArray) (w : World) (hpa : 0 < n → pa = some ⟨xb, xo, none⟩) (hc : ∀ j, j < n → w.cell? ⟨xb, xo + j, none⟩ = some (.string (S j))) (hn : n ≤ 9223372036854775807) :
    Calls Try.prog 19 #[.slice pa n cap] w (CutPost w (cutK S (min n 6))) := by
  have PA := hid hpa
  have HC := hid hc
  have CF : Hid (∀ s W, Calls Try.prog 14 #[.string s] W fun e w' => e = .returned (.string (fewS s)) ∧ w' = W) := few_any
  have hn' : (n : Int) ≤ 9223372036854775807 := by omega
  obtain ⟨m, hm⟩ : ∃ m, min n 6 = m := ⟨_, rfl⟩
  have hmn : m ≤ n := by omega
  have hm6 : m ≤ 6 := by omega
  have hmx : m = n ∨ m = 6 := by omega
  have E1 : Hid ((w.alloc (.cells #[] 9)).ownsRow w.heap.size 9 1 (.slice (some ⟨w.heap.size, 0, none⟩) 0 0) 0 (strs (cutK S 0))) := ⟨rfl, Or.inr ⟨w.heap.size, 0, #[], rfl, Nat.le_refl _, Blk.new w 9 _, Nat.le_refl _, Nat.zero_le _, rfl, rfl⟩⟩
  rw [hm]
  clear hpa hc hm
  obtain ⟨P, hP⟩ : ∃ P, P = CutPost w (cutK S m) := ⟨_, rfl⟩
  rw [← hP]
  have HP := hid hP
  clear hP
  go_enter Try.func19, Try.ntmps19
  go_wp2
  go_loopw [3, 4] (fun ov iv wr => ∃ k : Nat, k ≤ m ∧ iv = .int .i64 k ∧ wr.ownsRow w.heap.size 9 1 ov k (strs (cutK S k)) ∧ w.grownBy wr none) (fun _ iv _ => m - (intOf iv).toNat)
  case atStart => exact ⟨0, Nat.zero_le _, rfl, E1.out, grown_alloc (grown_refl _ _) _⟩
  case round =>
    obtain ⟨k, hk, rfl, hrow, hg⟩ := hrel
    obtain ⟨po, co, rfl, _⟩ := row_form hrow
    have R := hid hrow
    have G := hid hg
    have hsz : w.heap.size ≤ wr.heap.size := hg.size
    clear hrow hg E1
    have k0 : (0 : Int) ≤ k := by omega
    by_cases hlt : k < m
    · have hkn : k < n := by omega
      have hp := PA.out (by omega)
      subst hp
      have c0 := cell_kept (HC.out k hkn) G.out
      have k1 : (k : Int) < n := by omega
      have k6 : (k : Int) < 6 := by omega
      have CE := hid (CF.out (S k))
      have SN := hid (cutK_snoc S k)
      clear PA HC CF
      generalize S k = x at *
      generalize fewS x = y at *
      go_wp2_with (first
        | (go_at_call 14; refine (CE.out _).mono ?_; rintro e w2 ⟨rfl, hw⟩; have hw2 := hw.symm; clear hw; subst hw2; clear CE)
        | (at_builtin; refine append_str w.heap.size (cutK S k) y _ ⟨wr.heap.size, 0, none⟩ 1 (by rw [cutK_len]; exact R.out.alloc _) ((Blk.new wr 9 _).cell 0) (by rw [cutK_len]; omega) (by rw [World.size_alloc]; omega) _ _ rfl rfl rfl rfl ?_))
      intro v4 w4 h4 g4
      rw [SN.out, cutK_len] at h4
      have R4 := hid h4
      have G4 := hid (grown_own (grown_alloc G.out _) (R.out.alloc _) g4 (Nat.le_refl _))
      clear h4 g4
      go_wp2
      go_roundw
      case rel => exact ⟨k + 1, by omega, by go_num, R4.out, G4.out⟩
      case measure => simp [intOf]; omega
    · obtain rfl : k = m := by omega
      have HE : Hid (P (.returned (.slice po k co)) wr) := hid (by rw [HP.out]; exact ⟨_, rfl, by rw [cutK_len]; exact R.out, G.out⟩)
      clear HP PA HC CF R
      rcases hmx with e | e
      · have k1 : ¬ (k : Int) < n := by omega
        clear e
        go_wp2
        exact HE.out
      · have k1 : ¬ (k : Int) < 6 := by omega
        have hkn : k ≤ n := by omega
        by_cases hn2 : (k : Int) < n
        · clear e
          go_wp2
          exact HE.out
        · clear e
          go_wp2
          exact HE.out
end Go.Proofs.Ytddnjlnnkeiplaa
namespace Go.Proofs.Ytddnjlnnkeiplaa
open Go.RowKit Go.Maps
def mdlV (sv wv : Value) (long more : Nat) (root : ByteArray) (marks : Nat) : Array Value := #[sv, wv, .int .i64 long, .int .i64 more, .string root, .int .i64 marks]
theorem Blk.m6 {w : World} {b long more marks : Nat} {sv wv : Value} {root : ByteArray} (h : Blk w b 32 (mdlV sv wv long more root marks)) : w.cell? ⟨b, 0, none⟩ = some sv ∧ w.cell? ⟨b, 1, none⟩ = some wv ∧ w.cell? ⟨b, 2, none⟩ = some (.int .i64 long) ∧ w.cell? ⟨b, 3, none⟩ = some (.int .i64 more) ∧ w.cell? ⟨b, 4, none⟩ = some (.string root) ∧ w.cell? ⟨b, 5, none⟩ = some (.int .i64 marks) :=
  ⟨h.cell 0, h.cell 1, h.cell 2, h.cell 3, h.cell 4, h.cell 5⟩
theorem grown_recs {w w1 w2 : World} {base : Nat} {u : Value} {l : List (Nat × ByteArray)} (h : w.grownBy w1 none) (hr : Recs w1 base u l) (h2 : w1.grownBy w2 u.ownBlock) (hb : w.heap.size ≤ base) : w.grownBy w2 none :=
  ⟨h2.os.trans h.os, h2.tape.trans h.tape, h2.output.trans h.output, Nat.le_trans h.size h2.size, fun i hi _ => (h2.block i (Nat.lt_of_lt_of_le hi h.size) (fun e => by have := (World.ownsRow.lt hr i e.symm).1; omega)).trans (h.block i hi (by simp))⟩
set_option maxRecDepth 100000 in
set_option maxHeartbeats 4000000 in
theorem same_any (base b B : Nat) (g : Lg) (S T : List (Nat × ByteArray)) (sv wv : Value) (marks : Nat) (w : World) (h : IsLog w base b g) (hs : Recs w B sv S) (ht : Recs w B wv T) (asc : Asc g.recs) (hl : g.recs.length ≤ 1000000)
    (hall : ∀ r ∈ S ++ T, atR g.recs r.1 = some r.2) (hm : g.marked = decide (0 < marks)) (hST : S.length + T.length ≤ 100000) :
    Calls Try.prog 24 #[.pointer (some ⟨b, 0, none⟩), .agg (mdlV sv wv g.len g.wait.size g.root marks)] w fun e w' => e = .returned (.bool true) ∧ w.grownBy w' none := by
  obtain ⟨ps, cs, rfl⟩ := hs.form
  obtain ⟨pw, cw, rfl⟩ := ht.form
  have HL := hid h
  have HS := hid hs
  have HT := hid ht
  have HA := hid hall
  have BM := hid (Blk.new w 32 (mdlV (.slice ps S.length cs) (.slice pw T.length cw) g.len g.wait.size g.root marks))
  have CR : Hid (∀ a W, IsLog W base b g → Calls Try.prog 21 #[.pointer (some ⟨b, 0, none⟩), .int .i64 a] W fun e w' => e = .returned (.tuple #[.string (readT g.recs a), .int .i64 (readC g.recs a)]) ∧ W.grownBy w' none) := fun a W hW => lread_any base b g a W hW asc hl
  have CT : Hid (∀ W, IsLog W base b g → Calls Try.prog 35 #[.pointer (some ⟨b, 0, none⟩)] W fun e w' => e = .returned (.tuple #[.string g.root, .bool g.marked]) ∧ W.grownBy w' none) := fun W hW => lroot_any base b g W hW
  have i1 : S.length + T.length ≤ 1000000 := by omega
  have I1 := hid i1
  clear h hs ht hall asc hl i1
  unfold mdlV at BM ⊢
  go_enter Try.func24, Try.ntmps24
  go_wp2_with fail
  have G1 : Hid (w.grownBy ((w.alloc (.cells #[.slice ps S.length cs, .slice pw T.length cw, .int .i64 g.len, .int .i64 g.wait.size, .string g.root, .int .i64 marks] 32)).alloc (.cells #[] 49)).drew none) := grown_drew (grown_alloc (grown_alloc (grown_refl _ _) _) _)
  have E1 : Hid (Recs ((w.alloc (.cells #[.slice ps S.length cs, .slice pw T.length cw, .int .i64 g.len, .int .i64 g.wait.size, .string g.root, .int .i64 marks] 32)).alloc (.cells #[] 49)).drew (w.heap.size + 1) (.slice (some ⟨w.heap.size + 1, 0, none⟩) 0 0) []) := (by
    have := recs_new (w.alloc (.cells #[.slice ps S.length cs, .slice pw T.length cw, .int .i64 g.len, .int .i64 g.wait.size, .string g.root, .int .i64 marks] 32)) (w.heap.size + 1) (by simp)
    rw [World.size_alloc] at this
    exact this)
  have k0 := (BM.out.alloc (.cells #[] 49)).cell 0
  have k1 := (BM.out.alloc (.cells #[] 49)).cell 1
  have k2 := BM.out.cell 0
  have k3 := BM.out.cell 1
  simp at k0 k1 k2 k3
  have BA := hid (BM.out.alloc (.cells #[] 49))
  have HB1 : Hid (w.heap.size + 1 ≤ ((w.alloc (.cells #[.slice ps S.length cs, .slice pw T.length cw, .int .i64 g.len, .int .i64 g.wait.size, .string g.root, .int .i64 marks] 32)).alloc (.cells #[] 49)).drew.heap.size) := (by have := BA.out.lt; show w.heap.size + 1 ≤ ((w.alloc _).alloc _).heap.size; rw [World.size_alloc, World.size_alloc]; omega)
  have HN1 : Hid (([] : List (Nat × ByteArray)).length + S.length ≤ 1000000) := (by have := I1.out; show 0 + S.length ≤ _; omega)
  have HN2 : Hid (([] ++ S : List (Nat × ByteArray)).length + T.length ≤ 1000000) := I1.out
  go_region_law (first
    | (refine step_recs (.tmp 11) (.tmp 13) rfl rfl (w.heap.size + 1) B _ _ [] S E1.out (HS.out.none G1.out) HN1.out HB1.out rfl rfl ?_; intro v3 w3 h3 g3; have G3 := hid (grown_recs G1.out E1.out g3 (Nat.le_succ _)); have Z3 := hid g3.size; have R3 := hid h3; have B3 := hid (BA.out.drew.kept g3 (fun e => Nat.ne_of_lt (Nat.lt_succ_self w.heap.size) (Option.some.inj e))); have k4 := B3.out.cell 1; simp at k4; obtain ⟨p3, c3, rfl⟩ := h3.form; clear h3 g3)
    | (refine step_recs (.tmp 14) (.tmp 16) rfl rfl (w.heap.size + 1) B _ _ ([] ++ S) T R3.out (HT.out.none G3.out) HN2.out (Nat.le_trans HB1.out Z3.out) rfl rfl ?_; intro v4 w4 h4 g4; have G4 := hid (grown_recs G3.out R3.out g4 (Nat.le_succ _)); have R4 := hid h4; have B4 := hid (B3.out.kept g4 (fun e => by have := (World.ownsRow.lt R3.out _ e.symm).1; omega)); obtain ⟨p4, c4, rfl⟩ := h4.form; clear h4 g4))
  all_goals (
    have L4 := hid (HL.out.kept G4.out)
    have eL : (([] ++ S : List (Nat × ByteArray)) ++ T) = S ++ T := rfl
    rw [eL] at R4
    rw [show S.length + T.length = (S ++ T).length from List.length_append.symm]
    have hn : ((S ++ T).length : Int) ≤ 100000 := by rw [List.length_append]; omega
    clear k0 k1 k2 k3 R3 B3 G3 Z3 HN1 HN2 HB1 E1 G1 BA BM HS HT HL I1 hST eL
    generalize S ++ T = A at *
    have k0 := B4.out.cell 2
    have k1 := B4.out.cell 3
    have k2 := B4.out.cell 4
    have k3 := B4.out.cell 5
    simp at k0 k1 k2 k3
    go_wp2
    go_loopw [6] (fun iv wr => ∃ k : Nat, k ≤ A.length ∧ iv = .int .i64 k ∧ w4.grownBy wr none) (fun iv _ => A.length - (intOf iv).toNat)
    case atStart => exact ⟨0, Nat.zero_le _, rfl, grown_refl _ _⟩
    case round =>
      obtain ⟨k, hk, rfl, hg⟩ := hrel
      have GR := hid hg
      clear hg
      have k9 : (0 : Int) ≤ k := by omega
      by_cases hlt : k < A.length
      · obtain ⟨q, rfl, c0, c1⟩ := recs_cell (R4.out.none GR.out) k hlt
        have ha := HA.out A[k] (List.getElem_mem hlt)
        have r1 : readT g.recs A[k].1 = A[k].2 := by unfold readT; rw [ha]; rfl
        have r2 : readC g.recs A[k].1 = 0 := by unfold readC; rw [ha]; rfl
        have CE : Hid (∀ W, IsLog W base b g → Calls Try.prog 21 #[.pointer (some ⟨b, 0, none⟩), .int .i64 A[k].1] W fun e w' => e = .returned (.tuple #[.string A[k].2, .int .i64 0]) ∧ W.grownBy w' none) := fun W hW => by
          have := CR.out A[k].1 W hW
          rw [r1, r2] at this
          exact this
        have hlt' : (k : Int) < A.length := by omega
        clear ha r1 r2 HA CR CT
        generalize A[k].1 = x at *
        generalize A[k].2 = y at *
        go_wp2_with (go_at_call 21; refine (CE.out _ (L4.out.kept GR.out)).mono ?_; rintro e w5 ⟨rfl, g5⟩; have G5 := hid (grown_none GR.out g5); have d1 := cell_kept c1 g5; clear g5 CE)
        go_round
        case rel => exact ⟨k + 1, by omega, by go_num, G5.out⟩
        case measure => simp [intOf]; omega
      · obtain rfl : k = A.length := by omega
        have hlt' : ¬ (A.length : Int) < A.length := by omega
        have L5 := hid (L4.out.kept GR.out)
        clear HA CR hlt hk
        generalize A.length = n at *
        go_wp2_with (go_at_call 35; refine (CT.out _ L5.out).mono ?_; rintro e w6 ⟨rfl, g6⟩; have G6 := hid (grown_none GR.out g6); have L6 := hid (L5.out.kept g6); clear g6 CT)
        have B6 := hid (B4.out.kept G6.out (by simp))
        have j0 := B6.out.cell 2
        have j1 := B6.out.cell 3
        have j2 := B6.out.cell 4
        have j3 := B6.out.cell 5
        simp at j0 j1 j2 j3
        have M6 : Hid (g.marked = decide (0 < marks)) := hm
        go_quiet (first | (go_at_call 36; refine Calls.quiet_of_same (llen_any base b g _ (L6.out.kept (grown_drewN (grown_refl _ _) _)))) | (go_at_call 37; refine Calls.quiet_of_same (lwaits_any base b g _ (L6.out.kept (grown_drewN (grown_refl _ _) _)))))
        all_goals (
          go_wp2
          go_ret
          exact ⟨rfl, grown_drewN (grown_none G4.out G6.out) _⟩))
end Go.Proofs.Ytddnjlnnkeiplaa
