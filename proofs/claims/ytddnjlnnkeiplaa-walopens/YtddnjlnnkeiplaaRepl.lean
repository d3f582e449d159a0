/-
  The law's replaced: a model of records that are laid one behind the other.
-/
import Derived.Test.YtddnjlnnkeiplaaKXPlan
import Derived.Test.YtddnjlnnkeiplaaKSame
namespace Go.Proofs.Ytddnjlnnkeiplaa
open Go.RowKit Go.Maps
def offK (l : List ByteArray) : Nat → Nat
  | 0 => 0
  | k + 1 => offK l k + ((l.getD k ⟨#[]⟩).size + 9)
def plcK (l : List ByteArray) (k : Nat) : List (Nat × ByteArray) := (List.range k).map fun i => (offK l i, l.getD i ⟨#[]⟩)
theorem plcK_len (l : List ByteArray) (k : Nat) : (plcK l k).length = k := by simp [plcK]
theorem plcK_snoc (l : List ByteArray) (k : Nat) : plcK l k ++ [(offK l k, l.getD k ⟨#[]⟩)] = plcK l (k + 1) := by
  unfold plcK
  rw [List.range_succ, List.map_append]
  rfl
theorem getD_size {l : List ByteArray} (hs : ∀ t ∈ l, t.size ≤ 300) (k : Nat) : (l.getD k ⟨#[]⟩).size ≤ 300 := by
  by_cases h : k < l.length
  · rw [List.getD_eq_getElem?_getD, List.getElem?_eq_getElem h]
    exact hs _ (List.getElem_mem h)
  · rw [List.getD_eq_getElem?_getD, List.getElem?_eq_none (by omega)]
    decide
theorem offK_le {l : List ByteArray} (hs : ∀ t ∈ l, t.size ≤ 300) : ∀ k, offK l k ≤ k * 309
  | 0 => Nat.le_refl _
  | k + 1 => by
    have := offK_le hs k
    have := getD_size hs k
    show offK l k + _ ≤ _
    omega
theorem recs_one (w : World) (base : Nat) (p : Nat × ByteArray) (hb : base ≤ w.heap.size) : Recs (w.alloc (.cells #[.int .i64 p.1, .string p.2] 49)) base (.slice (some ⟨w.heap.size, 0, none⟩) 1 1) [p] :=
  ⟨rfl, Or.inr ⟨w.heap.size, 1, _, rfl, hb, Blk.new w 49 _, Nat.le_refl _, by decide, rfl, rfl⟩⟩
theorem str_cell {w : World} {base c : Nat} {pa : Option Addr} {l : List ByteArray} (h : w.ownsRow base 9 1 (.slice pa l.length c) l.length (strs l)) (k : Nat) (hk : k < l.length) : ∃ g, pa = some ⟨g, 0, none⟩ ∧ w.cell? ⟨g, k, none⟩ = some (.string (l.getD k ⟨#[]⟩)) := by
  have h0 := h
  rcases h.2 with ⟨_, e⟩ | ⟨g, cap, cur, e, _⟩
  · omega
  · injection e with e1 e2 e3
    subst e1
    refine ⟨g, rfl, ?_⟩
    rw [h0.cellAt k (by omega)]
    unfold strs
    rw [List.getElem?_map, List.getElem?_eq_getElem hk, List.getD_eq_getElem?_getD, List.getElem?_eq_getElem hk]
    rfl
def ReplPost (w : World) (l : List ByteArray) (root : ByteArray) (e : Ending) (w' : World) : Prop :=
  ∃ sv, e = .returned (.agg (mdlV sv (.slice none 0 0) (offK l l.length + (root.size + 9)) 0 root 1)) ∧ Recs w' w.heap.size sv (plcK l l.length) ∧ w.grownBy w' none
theorem Recs.down {w : World} {base base' : Nat} {v : Value} {l : List (Nat × ByteArray)} (h : Recs w base v l) (hb : base' ≤ base) : Recs w base' v l := by
  refine ⟨h.1, h.2.imp id ?_⟩
  rintro ⟨g, cap, cur, e, hg, r⟩
  exact ⟨g, cap, cur, e, Nat.le_trans hb hg, r⟩
set_option maxRecDepth 100000 in
set_option maxHeartbeats 2000000 in
theorem replaced_any (bl : Nat) (v : Value) (l : List ByteArray) (root : ByteArray) (w : World) (hv : w.ownsRow bl 9 1 v l.length (strs l)) (hl : l.length ≤ 6) (hs : ∀ t ∈ l, t.size ≤ 300) (hr : root.size ≤ 300) :
    Calls Try.prog 20 #[v, .string root] w (ReplPost w l root) := by
  obtain ⟨pa, ca, rfl, _⟩ := row_form hv
  have HV := hid hv
  have HS := hid (getD_size hs)
  have HO := hid (offK_le hs)
  have CF : Hid (∀ (s : ByteArray), s.size ≤ 300 → ∀ W, Calls Try.prog 23 #[.string s] W fun e w' => e = .returned (.int .i64 (s.size + 9 : Nat)) ∧ W.grownBy w' none) := fun s h W => lframe_any s W (by omega)
  have CFr := hid (CF.out root hr)
  obtain ⟨P, hP⟩ : ∃ P, P = ReplPost w l root := ⟨_, rfl⟩
  rw [← hP]
  have HP := hid hP
  clear hv hs hP
  generalize hn : l.length = n at *
  have HN := hid hn
  clear hn
  have n6 : (n : Int) ≤ 6 := by omega
  have B0 := hid (Blk.new w 32 (mdlV (.slice none 0 0) (.slice none 0 0) 0 0 ⟨#[]⟩ 0))
  have B1 := hid (Blk.new (w.alloc (.cells (mdlV (.slice none 0 0) (.slice none 0 0) 0 0 ⟨#[]⟩ 0) 32)) 32 (mdlV (.slice none 0 0) (.slice none 0 0) 0 0 root 1))
  go_enter Try.func20, Try.ntmps20
  go_wp2
  go_loopw [6] (fun iv wr => ∃ (k : Nat) (sv : Value), k ≤ n ∧ iv = .int .i64 k ∧ Blk wr (w.heap.size + 1) 32 (mdlV sv (.slice none 0 0) (offK l k) 0 root 1) ∧ Blk wr w.heap.size 32 (mdlV (.slice none 0 0) (.slice none 0 0) 0 0 ⟨#[]⟩ 0) ∧ Recs wr (w.heap.size + 2) sv (plcK l k) ∧ w.grownBy wr none) (fun iv _ => n - (intOf iv).toNat)
  case atStart =>
    refine ⟨0, _, Nat.zero_le _, rfl, ?_, B0.out.alloc _, recs_nil _ _, grown_alloc (grown_alloc (grown_refl _ _) _) _⟩
    have := B1.out
    rw [World.size_alloc] at this
    exact this
  case round =>
    obtain ⟨k, sv, hk, rfl, hb1, hb0, hrec, hg⟩ := hrel
    obtain ⟨ps, cs, rfl⟩ := hrec.form
    have M1 := hid hb1
    have M0 := hid hb0
    have R1 := hid hrec
    have G1 := hid hg
    have hsz : w.heap.size + 1 < wr.heap.size := hb1.lt
    clear hb1 hb0 hrec hg B0 B1
    have k0 : (0 : Int) ≤ k := by omega
    have ho := HO.out k
    have o1 : (offK l k : Int) ≤ 2000 := by omega
    rw [plcK_len] at R1 M1
    by_cases hlt : k < n
    · have k1 : (k : Int) < n := by omega
      obtain ⟨gx, rfl, cx⟩ := str_cell (w := w) (base := bl) (pa := pa) (c := ca) (l := l) (by rw [HN.out]; exact HV.out) k (by rw [HN.out]; exact hlt)
      have cx1 := cell_kept cx G1.out
      have CX := hid cx
      have hsk := HS.out k
      have CE := hid (CF.out _ hsk)
      have SN := hid (plcK_snoc l k)
      have ON : Hid (offK l (k + 1) = offK l k + ((l.getD k ⟨#[]⟩).size + 9)) := rfl
      clear HV HS HO CF CFr HP cx
      generalize l.getD k ⟨#[]⟩ = x at *
      generalize offK l k = off at *
      have x1 : (x.size : Int) ≤ 300 := by omega
      have c0 := M1.out.cell 0
      have c2 := M1.out.cell 2
      have c3 := (M1.out.alloc (.cells #[.int .i64 off, .string x] 49)).cell 0
      have f3 := (M1.out.alloc (.cells #[.int .i64 off, .string x] 49)).frozen 0
      simp [mdlV] at c0 c2 c3
      have RA : Hid (Recs (wr.alloc (.cells #[.int .i64 off, .string x] 49)).drew (w.heap.size + 2) (.slice ps k cs) (plcK l k)) := World.ownsRow.alloc R1.out _
      have RO : Hid (Recs (wr.alloc (.cells #[.int .i64 off, .string x] 49)).drew (w.heap.size + 2) (.slice (some ⟨wr.heap.size, 0, none⟩) 1 1) [(off, x)]) := recs_one wr _ (off, x) (by omega)
      have HB : Hid (w.heap.size + 2 ≤ (wr.alloc (.cells #[.int .i64 off, .string x] 49)).drew.heap.size) := (by show _ ≤ (wr.alloc _).heap.size; rw [World.size_alloc]; omega)
      have HL : Hid ((plcK l k).length + [(off, x)].length ≤ 1000000) := (by show _ + 1 ≤ _; rw [plcK_len]; omega)
      have MA := hid ((M1.out.alloc (.cells #[.int .i64 off, .string x] 49)).drew)
      have ZA := hid ((M0.out.alloc (.cells #[.int .i64 off, .string x] 49)).drew)
      have GA := hid (grown_drew (grown_alloc G1.out (.cells #[.int .i64 off, .string x] 49)))
      go_wp2_with fail
      go_region_law (refine step_recs (.tmp 16) (.tmp 24) rfl rfl (w.heap.size + 2) (w.heap.size + 2) _ _ (plcK l k) [(off, x)] RA.out RO.out HL.out HB.out rfl rfl ?_; intro v3 w3 h3 g3; have G3 := hid (grown_recs GA.out RA.out g3 (Nat.le_add_right _ _)); have R3 := hid h3; have B3 := hid (MA.out.kept g3 (fun e => absurd (World.ownsRow.lt RA.out _ e.symm).1 (by omega))); have Z3 := hid (ZA.out.kept g3 (fun e => absurd (World.ownsRow.lt RA.out _ e.symm).1 (by omega))); have e0 := B3.out.cell 0; have e1 := B3.out.frozen 0; simp [mdlV] at e0; obtain ⟨p3, q3, rfl⟩ := h3.form; clear h3 g3)
      all_goals (
        have ev : (Value.slice p3 (plcK l k ++ [(off, x)]).length q3) = .slice p3 (k + 1) q3 := by rw [List.length_append, plcK_len]; rfl
        rw [plcK_len]
        have R3' := R3.out
        rw [ev, SN.out] at R3'
        have B4 : Hid (Blk (w3.setCell ⟨w.heap.size + 1, 0, none⟩ (.slice p3 (k + 1) q3)) (w.heap.size + 1) 32 (mdlV (.slice p3 (k + 1) q3) (.slice none 0 0) off 0 root 1)) := B3.out.set 0 _
        have Z4 := hid (Z3.out.other (a := ⟨w.heap.size + 1, 0, none⟩) (.slice p3 (k + 1) q3) (by show w.heap.size ≠ w.heap.size + 1; omega))
        have R4 : Hid (Recs (w3.setCell ⟨w.heap.size + 1, 0, none⟩ (.slice p3 (k + 1) q3)) (w.heap.size + 2) (.slice p3 (k + 1) q3) (plcK l (k + 1))) := rowG_kept R3' B3.out (by decide) (grown_set (grown_refl _ _) 0 _)
        have G4 := hid (grown_set_new G3.out (a := ⟨w.heap.size + 1, 0, none⟩) (.slice p3 (k + 1) q3) (by show w.heap.size ≤ w.heap.size + 1; omega))
        clear c0 c2 c3 f3 e0 e1 RA RO HB HL MA ZA GA R3 R3' B3 Z3 G3 ev R1 M1 M0 G1
        generalize w3.setCell ⟨w.heap.size + 1, 0, none⟩ (.slice p3 (k + 1) q3) = w4 at *
        have c2 := B4.out.cell 2
        have f2 := B4.out.frozen 2
        simp [mdlV] at c2
        have cx4 := cell_kept CX.out G4.out
        go_wp2_with fail
        go_region_law (go_simp; go_at_call 23; refine (CE.out _).mono ?_; rintro e w5 ⟨rfl, g5⟩; have G5' : w4.grownBy w5 none := grown_trans (grown_drew (grown_refl _ _)) g5; have G5 := hid (grown_none G4.out G5'); have B5 := hid (B4.out.kept G5' (by simp)); have Z5 := hid (Z4.out.kept G5' (by simp)); have R5 := hid (R4.out.none G5'); have d2 := B5.out.cell 2; have h2 := B5.out.frozen 2; simp [mdlV] at d2; clear g5 G5' CE)
        all_goals (
          go_wp2
          go_roundw
          case rel =>
            have ec : ((off + (x.size + 9) : Nat) : Int) = (off : Int) + ((x.size : Int) + 9) := by omega
            have eb := B5.out.set 2 (.int .i64 ((off + (x.size + 9) : Nat) : Int))
            rw [ec] at eb
            exact ⟨k + 1, _, by omega, by go_num, (by rw [ON.out]; unfold mdlV; rw [ec]; exact eb), Z5.out.other _ (by show w.heap.size ≠ w.heap.size + 1; omega), rowG_kept R5.out B5.out (by decide) (grown_set (grown_refl _ _) 2 _), grown_set_new G5.out _ (by show w.heap.size ≤ w.heap.size + 1; omega)⟩
          case measure => simp [intOf]; omega))
    · obtain rfl : k = n := by omega
      have k1 : ¬ (k : Int) < k := by omega
      have c2 := M1.out.cell 2
      have f2 := M1.out.frozen 2
      simp [mdlV] at c2
      have FIN : Hid (∀ w5 sv, Recs w5 (w.heap.size + 2) sv (plcK l k) → w.grownBy w5 none → P (.returned (.agg (mdlV sv (.slice none 0 0) (offK l k + (root.size + 9)) 0 root 1))) w5) := hid (fun w5 sv h1 h2 => by
        rw [HP.out]
        refine ⟨sv, ?_, ?_, h2⟩
        · rw [HN.out]
        · rw [HN.out]
          exact h1.down (by omega))
      clear HP HV HS HO CF
      have r1 : (root.size : Int) ≤ 300 := by omega
      generalize offK l k = off at *
      generalize plcK l k = L at *
      have iw : IntKind.i64.wrap ((off : Int) + ((root.size : Int) + 9)) = (off : Int) + ((root.size : Int) + 9) := by rw [IntKind.wrap_i64]; omega
      go_wp2_with fail
      go_region_law (go_simp; go_at_call 23; refine (CFr.out _).mono ?_; rintro e w5 ⟨rfl, g5⟩; have G5' : wr.grownBy w5 none := grown_trans (grown_drew (grown_refl _ _)) g5; have G5 := hid (grown_none G1.out G5'); have B5 := hid (M1.out.kept G5' (by simp)); have Z5 := hid (M0.out.kept G5' (by simp)); have R5 := hid (R1.out.none G5'); have d2 := B5.out.cell 2; have h2 := B5.out.frozen 2; simp [mdlV] at d2; clear g5 G5' CFr)
      all_goals (
        have ec : ((off + (root.size + 9) : Nat) : Int) = (off : Int) + ((root.size : Int) + 9) := by omega
        have B6 : Hid (Blk (w5.setCell ⟨w.heap.size + 1, 2, none⟩ (.int .i64 ((off : Int) + ((root.size : Int) + 9)))) (w.heap.size + 1) 32 (mdlV (.slice ps k cs) (.slice none 0 0) (off + (root.size + 9)) 0 root 1)) := (by
          have eb := B5.out.set 2 (.int .i64 ((off + (root.size + 9) : Nat) : Int))
          rw [ec] at eb
          show Blk _ _ _ (mdlV _ _ _ _ _ _)
          unfold mdlV
          rw [ec]
          exact eb)
        have Z6 := hid (Z5.out.other (a := ⟨w.heap.size + 1, 2, none⟩) (.int .i64 ((off : Int) + ((root.size : Int) + 9))) (by show w.heap.size ≠ w.heap.size + 1; omega))
        have R6 := hid (rowG_kept R5.out B5.out (by decide) (grown_set (grown_refl w5 _) 2 (.int .i64 ((off : Int) + ((root.size : Int) + 9)))))
        have G6 := hid (grown_set_new G5.out (a := ⟨w.heap.size + 1, 2, none⟩) (.int .i64 ((off : Int) + ((root.size : Int) + 9))) (by show w.heap.size ≤ w.heap.size + 1; omega))
        clear c2 f2 d2 h2 B5 Z5 R5 G5 R1 M1 M0 G1
        generalize w5.setCell ⟨w.heap.size + 1, 2, none⟩ (.int .i64 ((off : Int) + ((root.size : Int) + 9))) = w6 at *
        obtain ⟨a0, a1, a2, a3, a4, a5⟩ := B6.out.m6
        obtain ⟨b0, b1, b2, b3, b4, b5⟩ := Z6.out.m6
        have z0 := Z6.out.frozen 0
        have z1 := Z6.out.frozen 1
        have z2 := Z6.out.frozen 2
        have z3 := Z6.out.frozen 3
        have z4 := Z6.out.frozen 4
        have z5 := Z6.out.frozen 5
        go_wp2
        have D7 := (((((Z6.out.set 0 (.slice ps k cs)).set 1 (.slice none 0 0)).set 2 (.int .i64 ((off : Int) + ((root.size : Int) + 9)))).set 3 (.int .i64 0)).set 4 (.string root)).set 5 (.int .i64 1)
        have H7 := grown_set (grown_set (grown_set (grown_set (grown_set (grown_set (grown_refl w6 (some w.heap.size)) 0 (.slice ps k cs)) 1 (.slice none 0 0)) 2 (.int .i64 ((off : Int) + ((root.size : Int) + 9)))) 3 (.int .i64 0)) 4 (.string root)) 5 (.int .i64 1)
        have R7 := rowG_kept R6.out Z6.out (by decide) H7
        have G7 := grown_through G6.out H7 (Nat.le_refl _)
        have d0 := D7.cell 0
        have d1 := D7.cell 1
        have d2 := D7.cell 2
        have d3 := D7.cell 3
        have d4 := D7.cell 4
        have d5 := D7.cell 5
        simp [mdlV] at d0 d1 d2 d3 d4 d5
        have FF := FIN.out _ _ R7 G7
        unfold mdlV at FF
        rw [ec] at FF
        exact bodyPost_ret (v := .agg #[.slice ps k cs, .slice none 0 0, .int .i64 ((off : Int) + ((root.size : Int) + 9)), .int .i64 0, .string root, .int .i64 1]) (by simp [results, Try.results20, go_sem, d0, d1, d2, d3, d4, d5]) rfl FF)
end Go.Proofs.Ytddnjlnnkeiplaa
