/-
  The model's commit: what waits is sure.
-/
import Derived.Test.YtddnjlnnkeiplaaRepl
import Derived.Deep.DeepCutAuto
namespace Go.Proofs.Ytddnjlnnkeiplaa
open Go.RowKit Go.Maps
def ComPost (w : World) (S T : List (Nat × ByteArray)) (long more marks : Nat) (root : ByteArray) (e : Ending) (w' : World) : Prop :=
  ∃ sv, e = .returned (.agg (mdlV sv (.slice none 0 0) (long + (more + (root.size + 9))) 0 root (marks + 1))) ∧ Recs w' w.heap.size sv (S ++ T) ∧ w.grownBy w' none
set_option maxRecDepth 100000 in
set_option maxHeartbeats 4000000 in
theorem mcommit_any (B : Nat) (S T : List (Nat × ByteArray)) (sv wv : Value) (long more marks : Nat) (root0 root : ByteArray) (w : World) (hs : Recs w B sv S) (ht : Recs w B wv T) (hST : S.length + T.length ≤ 100000) (h1 : long ≤ 1000000) (h2 : more ≤ 1000000) (h3 : marks ≤ 1000000) (hr : root.size ≤ 300) :
    Calls Try.prog 15 #[.agg (mdlV sv wv long more root0 marks), .string root] w (ComPost w S T long more marks root) := by
  obtain ⟨ps, cs, rfl⟩ := hs.form
  obtain ⟨pw, cw, rfl⟩ := ht.form
  have HS := hid hs
  have HT := hid ht
  have CF : Hid (∀ W, Calls Try.prog 23 #[.string root] W fun e w' => e = .returned (.int .i64 (root.size + 9 : Nat)) ∧ W.grownBy w' none) := fun W => lframe_any root W (by omega)
  obtain ⟨P, hP⟩ : ∃ P, P = ComPost w S T long more marks root := ⟨_, rfl⟩
  rw [← hP]
  have HP := hid (And.intro hP trivial)
  have BM0 := hid (Blk.new w 32 (mdlV (.slice ps S.length cs) (.slice pw T.length cw) long more root0 marks))
  have BM := hid (BM0.out.alloc (.cells (mdlV (.slice none 0 0) (.slice none 0 0) 0 0 ⟨#[]⟩ 0) 32))
  have BZ : Hid (Blk ((w.alloc (.cells (mdlV (.slice ps S.length cs) (.slice pw T.length cw) long more root0 marks) 32)).alloc (.cells (mdlV (.slice none 0 0) (.slice none 0 0) 0 0 ⟨#[]⟩ 0) 32)) (w.heap.size + 1) 32 (mdlV (.slice none 0 0) (.slice none 0 0) 0 0 ⟨#[]⟩ 0)) := (by
    have := Blk.new (w.alloc (.cells (mdlV (.slice ps S.length cs) (.slice pw T.length cw) long more root0 marks) 32)) 32 (mdlV (.slice none 0 0) (.slice none 0 0) 0 0 ⟨#[]⟩ 0)
    rw [World.size_alloc] at this
    exact this)
  have GM : Hid (w.grownBy ((w.alloc (.cells (mdlV (.slice ps S.length cs) (.slice pw T.length cw) long more root0 marks) 32)).alloc (.cells (mdlV (.slice none 0 0) (.slice none 0 0) 0 0 ⟨#[]⟩ 0) 32)) none) := grown_alloc (grown_alloc (grown_refl _ _) _) _
  have I1 := hid hST
  have i1 : (long : Int) ≤ 1000000 := by omega
  have i2 : (more : Int) ≤ 1000000 := by omega
  have i3 : (marks : Int) ≤ 1000000 := by omega
  have i4 : (root.size : Int) ≤ 300 := by omega
  clear hs ht hST hP BM0
  unfold mdlV
  unfold mdlV at BM BZ GM
  go_enter Try.func15, Try.ntmps15
  go_wp2_with fail
  generalize hw0 : ((w.alloc (.cells #[.slice ps S.length cs, .slice pw T.length cw, .int .i64 long, .int .i64 more, .string root0, .int .i64 marks] 32)).alloc (.cells #[.slice none 0 0, .slice none 0 0, .int .i64 ((0 : Nat) : Int), .int .i64 ((0 : Nat) : Int), .string ⟨#[]⟩, .int .i64 ((0 : Nat) : Int)] 32)) = w0 at *
  clear hw0
  have hz0 : w.heap.size + 1 < w0.heap.size := BZ.out.lt
  have S0 := hid (HS.out.none GM.out)
  have T0 := hid (HT.out.none GM.out)
  clear HS HT
  have m0 := BM.out.cell 0
  have m1 := BM.out.cell 1
  have ma0 := (BM.out.alloc (.cells #[] 49)).cell 0
  have ma1 := (BM.out.alloc (.cells #[] 49)).cell 1
  simp at m0 m1 ma0 ma1
  have GA := hid (grown_drew (grown_alloc (grown_refl w0 none) (.cells #[] 49)))
  have EA : Hid (Recs (w0.alloc (.cells #[] 49)).drew w0.heap.size (.slice (some ⟨w0.heap.size, 0, none⟩) 0 0) []) := recs_new w0 _ (Nat.le_refl _)
  have HB : Hid (w0.heap.size ≤ (w0.alloc (.cells #[] 49)).drew.heap.size) := GA.out.size
  have HN1 : Hid (([] : List (Nat × ByteArray)).length + S.length ≤ 1000000) := (by have := I1.out; show 0 + S.length ≤ _; omega)
  have HN2 : Hid (([] ++ S : List (Nat × ByteArray)).length + T.length ≤ 1000000) := (by have := I1.out; show S.length + T.length ≤ _; omega)
  go_cut [11] (fun v wx => ∃ p4 c4, v = .slice p4 (S.length + T.length) c4 ∧ Blk wx w.heap.size 32 (mdlV (.slice p4 (S.length + T.length) c4) (.slice pw T.length cw) long more root0 marks) ∧ Blk wx (w.heap.size + 1) 32 (mdlV (.slice none 0 0) (.slice none 0 0) 0 0 ⟨#[]⟩ 0) ∧ Recs wx w0.heap.size (.slice p4 (S.length + T.length) c4) ([] ++ S ++ T) ∧ w.grownBy wx none)
  case first =>
    go_region_law (first
      | (refine step_recs (.tmp 5) (.tmp 7) rfl rfl w0.heap.size B _ _ [] S EA.out (S0.out.none GA.out) HN1.out HB.out rfl rfl ?_; intro v3 w11 h3 g3; have G3 := hid (grown_recs GA.out EA.out g3 (Nat.le_refl _)); have R3 := hid h3; obtain ⟨p3, c3, rfl⟩ := h3.form; have B11 := hid (BM.out.kept G3.out (by simp)); have n0 := B11.out.cell 1; simp at n0; clear h3 g3)
      | (refine step_recs (.tmp 8) (.tmp 10) rfl rfl w0.heap.size B _ _ ([] ++ S) T R3.out (T0.out.none G3.out) HN2.out G3.out.size rfl rfl ?_; intro v4 w12 h4 g4; have G4 := hid (grown_recs G3.out R3.out g4 (Nat.le_refl _)); have R4 := hid h4; obtain ⟨p4, c4, rfl⟩ := h4.form; have B12 := hid (BM.out.kept G4.out (by simp)); have Z12 := hid (BZ.out.kept G4.out (by simp)); have n1 := B12.out.cell 0; have n2 := B12.out.frozen 0; simp at n1; clear h4 g4))
    all_goals (
      have ev : (Value.slice p4 ([] ++ S ++ T).length c4) = .slice p4 (S.length + T.length) c4 := by rw [List.length_append]; rfl
      have R4' := R4.out
      rw [ev] at R4'
      have B13 : Hid (Blk (w12.setCell ⟨w.heap.size, 0, none⟩ (.slice p4 (S.length + T.length) c4)) w.heap.size 32 (mdlV (.slice p4 (S.length + T.length) c4) (.slice pw T.length cw) long more root0 marks)) := B12.out.set 0 _
      have Z13 := hid (Z12.out.other (a := ⟨w.heap.size, 0, none⟩) (.slice p4 (S.length + T.length) c4) (by show w.heap.size + 1 ≠ w.heap.size; omega))
      have R13 := hid (rowG_kept R4' B12.out (by decide) (grown_set (grown_refl _ _) 0 (.slice p4 (S.length + T.length) c4)))
      have G13 := hid (grown_set_new (grown_none GM.out G4.out) (a := ⟨w.heap.size, 0, none⟩) (.slice p4 (S.length + T.length) c4) (Nat.le_refl _))
      clear n1 n2 R4 R4' ev G4 B12 Z12 R3 G3 HN1 HN2 HB EA GA m0 m1 ma0 ma1 S0 T0 BM BZ GM
      (try go_wp2_with fail)
      go_meet
      exact ⟨p4, c4, rfl, B13.out, Z13.out, R13.out, G13.out⟩)
  case rest =>
    obtain ⟨p4, c4, rfl, hb13, hz13, hr13, hg13⟩ := hcut
    have B13 := hid hb13
    have Z13 := hid hz13
    have R13 := hid hr13
    have G13 := hid hg13
    clear hb13 hz13 hr13 hg13 HN1 HN2 HB EA GA m0 m1 ma0 ma1 S0 T0 BM BZ GM
    obtain ⟨w13, hw13⟩ : ∃ w13, w13 = wc := ⟨_, rfl⟩
    subst hw13
    have q2 := B13.out.cell 2
    have q3 := B13.out.cell 3
    have q4 := B13.out.frozen 2
    simp [mdlV] at q2 q3
    have iw1 : IntKind.i64.wrap ((more : Int) + ((root.size : Int) + 9)) = (more : Int) + ((root.size : Int) + 9) := by rw [IntKind.wrap_i64]; omega
    have iw2 : IntKind.i64.wrap ((long : Int) + ((more : Int) + ((root.size : Int) + 9))) = (long : Int) + ((more : Int) + ((root.size : Int) + 9)) := by rw [IntKind.wrap_i64]; omega
    go_wp2_with fail
    go_cut [20] (fun v wx => v = (.int .i64 ((long : Int) + ((more : Int) + ((root.size : Int) + 9)))) ∧ Blk wx w.heap.size 32 #[.slice p4 (S.length + T.length) c4, .slice pw T.length cw, .int .i64 ((long : Int) + ((more : Int) + ((root.size : Int) + 9))), .int .i64 more, .string root0, .int .i64 marks] ∧ Blk wx (w.heap.size + 1) 32 (mdlV (.slice none 0 0) (.slice none 0 0) 0 0 ⟨#[]⟩ 0) ∧ Recs wx w0.heap.size (.slice p4 (S.length + T.length) c4) ([] ++ S ++ T) ∧ w.grownBy wx none)
    case first =>
      go_region_law (go_simp; go_at_call 23; refine (CF.out _).mono ?_; rintro e w14 ⟨rfl, g14⟩; have G14' : w13.grownBy w14 none := grown_trans (grown_drew (grown_refl _ _)) g14; have G14 := hid (grown_none G13.out G14'); have B14 := hid (B13.out.kept G14' (by simp)); have Z14 := hid (Z13.out.kept G14' (by simp)); have R14 := hid (row_none R13.out G14'); have d2 := B14.out.cell 2; have d3 := B14.out.cell 3; have d4 := B14.out.frozen 2; simp [mdlV] at d2 d3; clear g14 G14' CF)
      all_goals (
        have B15 : Hid (Blk (w14.setCell ⟨w.heap.size, 2, none⟩ (.int .i64 ((long : Int) + ((more : Int) + ((root.size : Int) + 9))))) w.heap.size 32 #[.slice p4 (S.length + T.length) c4, .slice pw T.length cw, .int .i64 ((long : Int) + ((more : Int) + ((root.size : Int) + 9))), .int .i64 more, .string root0, .int .i64 marks]) := B14.out.set 2 _
        have Z15 := hid (Z14.out.other (a := ⟨w.heap.size, 2, none⟩) (.int .i64 ((long : Int) + ((more : Int) + ((root.size : Int) + 9)))) (by show w.heap.size + 1 ≠ w.heap.size; omega))
        have R15 := hid (rowG_kept R14.out B14.out (by decide) (grown_set (grown_refl _ _) 2 (.int .i64 ((long : Int) + ((more : Int) + ((root.size : Int) + 9))))))
        have G15 := hid (grown_set_new G14.out (a := ⟨w.heap.size, 2, none⟩) (.int .i64 ((long : Int) + ((more : Int) + ((root.size : Int) + 9)))) (Nat.le_refl _))
        clear d2 d3 d4 q2 q3 q4 B14 Z14 R14 G14 B13 Z13 R13 G13
        (try go_wp2_with fail)
        go_meet
        exact ⟨rfl, B15.out, Z15.out, R15.out, G15.out⟩)
    case rest =>
      obtain ⟨rfl, hb15, hz15, hr15, hg15⟩ := hcut
      have B15 := hid hb15
      have Z15 := hid hz15
      have R15 := hid hr15
      have G15 := hid hg15
      clear hb15 hz15 hr15 hg15 q2 q3 q4 B13 Z13 R13 G13
      obtain ⟨w15, hw15⟩ : ∃ w15, w15 = wc := ⟨_, rfl⟩
      subst hw15
      have ec : ((long + (more + (root.size + 9)) : Nat) : Int) = (long : Int) + ((more : Int) + ((root.size : Int) + 9)) := by omega
      have em : ((marks + 1 : Nat) : Int) = (marks : Int) + 1 := by omega
      have H16 := grown_set (grown_set (grown_set (grown_set (grown_refl w15 (some w.heap.size)) 1 (.slice none 0 0)) 3 (.int .i64 0)) 4 (.string root)) 5 (.int .i64 ((marks : Int) + 1))
      have B16 : Hid (Blk ((((w15.setCell ⟨w.heap.size, 1, none⟩ (.slice none 0 0)).setCell ⟨w.heap.size, 3, none⟩ (.int .i64 0)).setCell ⟨w.heap.size, 4, none⟩ (.string root)).setCell ⟨w.heap.size, 5, none⟩ (.int .i64 ((marks : Int) + 1))) w.heap.size 32 #[.slice p4 (S.length + T.length) c4, .slice none 0 0, .int .i64 ((long : Int) + ((more : Int) + ((root.size : Int) + 9))), .int .i64 0, .string root, .int .i64 ((marks : Int) + 1)]) := (((B15.out.set 1 (.slice none 0 0)).set 3 (.int .i64 0)).set 4 (.string root)).set 5 (.int .i64 ((marks : Int) + 1))
      have Z16 := hid (Z15.out.kept H16 (fun e => by have := Option.some.inj e; omega))
      have R16 := hid (rowG_kept R15.out B15.out (by decide) H16)
      have G16 := hid (grown_through G15.out H16 (Nat.le_refl _))
      have c1 := B15.out.cell 1
      have c3' := B15.out.cell 3
      have c4' := B15.out.cell 4
      have c5 := B15.out.cell 5
      have f1 := B15.out.frozen 1
      have f3 := B15.out.frozen 3
      have f4 := B15.out.frozen 4
      have f5 := B15.out.frozen 5
      simp at c1 c3' c4' c5
      have a0 := B16.out.cell 0
      have a1 := B16.out.cell 1
      have a2 := B16.out.cell 2
      have a3 := B16.out.cell 3
      have a4 := B16.out.cell 4
      have a5 := B16.out.cell 5
      obtain ⟨b0, b1, b2, b3, b4, b5⟩ := Z16.out.m6
      have z0 := Z16.out.frozen 0
      have z1 := Z16.out.frozen 1
      have z2 := Z16.out.frozen 2
      have z3 := Z16.out.frozen 3
      have z4 := Z16.out.frozen 4
      have z5 := Z16.out.frozen 5
      simp only [List.getElem?_toArray, List.getElem?_cons_zero, List.getElem?_cons_succ] at a0 a1 a2 a3 a4 a5
      go_wp2
      have D7 := ((((((Z16.out).set 0 (.slice p4 (S.length + T.length) c4)).set 1 (.slice none 0 0)).set 2 (.int .i64 ((long : Int) + ((more : Int) + ((root.size : Int) + 9))))).set 3 (.int .i64 0)).set 4 (.string root)).set 5 (.int .i64 ((marks : Int) + 1))
      have H7 := grown_set (grown_set (grown_set (grown_set (grown_set (grown_set (grown_refl ((((w15.setCell ⟨w.heap.size, 1, none⟩ (.slice none 0 0)).setCell ⟨w.heap.size, 3, none⟩ (.int .i64 0)).setCell ⟨w.heap.size, 4, none⟩ (.string root)).setCell ⟨w.heap.size, 5, none⟩ (.int .i64 ((marks : Int) + 1))) (some (w.heap.size + 1))) 0 (.slice p4 (S.length + T.length) c4)) 1 (.slice none 0 0)) 2 (.int .i64 ((long : Int) + ((more : Int) + ((root.size : Int) + 9))))) 3 (.int .i64 0)) 4 (.string root)) 5 (.int .i64 ((marks : Int) + 1))
      have R7 := rowG_kept R16.out Z16.out (by decide) H7
      have G7 := grown_through G16.out H7 (by omega)
      have d0 := D7.cell 0
      have d1 := D7.cell 1
      have d2 := D7.cell 2
      have d3 := D7.cell 3
      have d4 := D7.cell 4
      have d5 := D7.cell 5
      simp [mdlV] at d0 d1 d2 d3 d4 d5
      have FF : P (.returned (.agg #[.slice p4 (S.length + T.length) c4, .slice none 0 0, .int .i64 ((long : Int) + ((more : Int) + ((root.size : Int) + 9))), .int .i64 0, .string root, .int .i64 ((marks : Int) + 1)])) _ := (by
        rw [HP.out.1]
        refine ⟨.slice p4 (S.length + T.length) c4, ?_, ?_, G7⟩
        · unfold mdlV
          rw [ec, em]
          rfl
        · have r7 : Recs _ w0.heap.size _ ([] ++ S ++ T) := R7
          exact Recs.down r7 (by omega))
      exact bodyPost_ret (v := .agg #[.slice p4 (S.length + T.length) c4, .slice none 0 0, .int .i64 ((long : Int) + ((more : Int) + ((root.size : Int) + 9))), .int .i64 0, .string root, .int .i64 ((marks : Int) + 1)]) (by simp [results, Try.results15, go_sem, d0, d1, d2, d3, d4, d5]) rfl FF
end Go.Proofs.Ytddnjlnnkeiplaa
