/-
  Frame, of texts as long as may be. Append, of texts as long as may be. A tree in memory: a page is appended to its log. A tree in memory: none, Root, top.
-/
import Derived.Test.YtbhmmcelndmijaaGreatKWFrame
import Derived.Test.YtbhmmcelndmijaaGreatKWAdl2
import Derived.Test.YtbhmmcelndmijaaGreatKLtake
namespace Go.Proofs.YtbhmmcelndmijaaGreat.Wi
open Go.RowKit
set_option maxRecDepth 100000 in
set_option maxHeartbeats 400000 in
theorem frame_big (s : ByteArray) (w : World) (hs : s.size ≤ 100000000) : Calls Tryz.prog 120 #[.string s] w fun e w' => e = .returned (.string (frmS s)) ∧ w.grownBy w' none := by
  have CN : Hid (∀ w, Calls Tryz.prog 130 #[.int .u64 s.size, .int .i64 4] w fun e w' => e = .returned (.string (numS s.size 4)) ∧ w.grownBy w' none) := fun w => number_any s.size 4 w (by omega)
  have hz := numS_size s.size 4
  have hM : (numS s.size 4 ++ s).size ≤ 1000000000 := by rw [ByteArray.size_append, hz]; omega
  have CA : Hid (∀ w, Calls Tryz.prog 111 #[.string (numS s.size 4 ++ s)] w fun e w' => e = .returned (.int .u32 (adl (numS s.size 4 ++ s) : Nat)) ∧ w' = w) := fun w => adler_big _ w hM
  have hlt := adl_lt (numS s.size 4 ++ s)
  have CM : Hid (∀ w, Calls Tryz.prog 130 #[.int .u64 (adl (numS s.size 4 ++ s) : Nat), .int .i64 4] w fun e w' => e = .returned (.string (numS (adl (numS s.size 4 ++ s)) 4)) ∧ w.grownBy w' none) := fun w => number_any _ 4 w (by omega)
  have hz2 := numS_size (adl (numS s.size 4 ++ s)) 4
  unfold frmS
  generalize numS (adl (numS s.size 4 ++ s)) 4 = R at *
  generalize adl (numS s.size 4 ++ s) = c at *
  generalize numS s.size 4 = S at *
  have i0 : (s.size : Int) ≤ 100000000 := by omega
  have i1 : (S.size : Int) = 4 := by omega
  have i2 : (R.size : Int) = 4 := by omega
  have i3 : IntKind.u64.wrap (c : Int) = (c : Int) := by rw [IntKind.wrap_u64]; omega
  clear hs hM hlt
  go_enter Tryz.func120, Tryz.ntmps120
  go_wp2_with (first | (go_at_call 130; refine (CN.out _).mono ?_; clear CN; rintro e w1 ⟨rfl, hg1⟩; have G1 : Hid (w.grownBy w1 none) := hg1; clear hg1) | (go_at_call 111; refine (CA.out _).mono ?_; rintro e w' ⟨rfl, hw⟩; have hw2 := hw.symm; clear hw; subst hw2) | (go_at_call 130; refine (CM.out _).mono ?_; clear CM; rintro e w2 ⟨rfl, hg2⟩; have G2 : Hid (w.grownBy w2 none) := grown_none G1.out hg2; clear hg2))
  go_ret
  exact ⟨rfl, G2.out⟩
end Go.Proofs.YtbhmmcelndmijaaGreat.Wi
namespace Go.Proofs.YtbhmmcelndmijaaGreat
open Go.RowKit Go.Maps
theorem step_text2 {ops : Array Oper} {o : Oper} {a : Act} {w : World} {K : Act → World → Prop} {Q : Exit → Act → World → Prop} {E : Prop} (s x : Operand) (hg : o.guard = none) (ho : o.op = Op.call { callee := Callee.builtin Builtin.append, args := #[s, x], argTypes := #[85, 9] }) (base : Nat) (v : Value) (l t : ByteArray)
    (hrow : w.ownsRow base 5 1 v l.size (Lib.strCells l)) (hl : l.size + t.size ≤ 1000000000) (hbase : base ≤ w.heap.size) (hs : a.eval s = v) (hx : a.eval x = .string t)
    (hK : ∀ v' w', w'.ownsRow base 5 1 v' (l ++ t).size (Lib.strCells (l ++ t)) → w.grownBy w' v.ownBlock → K (a.put o.dst v') w') :
    if Region.wanted o (yielded ops a.tmps) = true then Oper.wp Tryz.prog o a w K Q else E := by
  have hw : Region.wanted o (yielded ops a.tmps) = true := by simp [Region.wanted, hg]
  rw [if_pos hw]
  obtain ⟨i5, hi, hz0, hz1, hz2⟩ := info_parts info5
  obtain ⟨v', w', hr, h2, h3, _⟩ := Lib.run_append_own_string (P := Tryz.prog) w base 85 9 o.type 5 i5 Tryz.underlying85 Tryz.underlying9 hi hz0 hz1 hz2 v l.size (Lib.strCells l) hrow t (by unfold maxLen; omega) (by omega) hbase
  have e : Lib.strCells l ++ Lib.strCells t = Lib.strCells (l ++ t) := by
    unfold Lib.strCells
    rw [← List.map_append]
    simp
  rw [e, ← ByteArray.size_append] at h2
  unfold Oper.wp execOp
  simp only [ho, resolve, invoke, builtin, Sem.run_bind, Sem.run_pure, Result.andThen_ok, List.map_toArray, List.map_cons, List.map_nil, hs, hx, hr]
  exact hK v' w' h2 h3
variable {ops : Array Oper} {rest : List Oper} {o : Oper} {a : Act} {Q : Exit → Act → World → Prop} {w : World}
set_option maxRecDepth 100000 in
set_option maxHeartbeats 4000000 in
theorem lappend_big (base b : Nat) (g : Lg) (s : ByteArray) (w : World) (h : IsLog w base b g) (hl : g.recs.length ≤ 100000) (hw : g.wait.size ≤ 500000000) (hn : g.len ≤ 1000000000) (hs : s.size ≤ 1048576) :
    Calls Tryz.prog 98 #[.pointer (some ⟨b, 0, none⟩), .string s] w fun e w' => e = .returned (.tuple #[.int .i64 (g.len + g.wait.size : Nat), .int .i64 0]) ∧ IsLog w' base b { g with recs := g.recs ++ [(g.len + g.wait.size, s)], wait := g.wait ++ Wi.frmS (⟨#[100]⟩ ++ s) } ∧ LT base b w w' := by
  have hsz : (⟨#[100]⟩ ++ s : ByteArray).size ≤ 1100000 := by rw [ByteArray.size_append]; show 1 + _ ≤ _; omega
  have CF : Hid (∀ W, Calls Tryz.prog 120 #[.string (⟨#[100]⟩ ++ s)] W fun e w' => e = .returned (.string (Wi.frmS (⟨#[100]⟩ ++ s))) ∧ W.grownBy w' none) := fun W => Wi.frame_big _ W (by omega)
  have hfs : (Wi.frmS (⟨#[100]⟩ ++ s)).size ≤ 2000000 := by rw [Wi.frmS_size]; omega
  obtain ⟨h0, vr, vw, hb, hr, hww⟩ := h
  obtain ⟨⟨c0, c1, c2, c3, c4, c5, c6⟩, f1, f2, f3, f4, f5, f6⟩ := hb.g7
  have hbw : base ≤ w.heap.size := Nat.le_trans h0 (Nat.le_of_lt hb.lt)
  obtain ⟨pr, cr, rfl, _⟩ := row_form hr
  obtain ⟨pw, cw, rfl, _⟩ := row_form hww
  have HB := hid hb
  have HR := hid hr
  have HW := hid hww
  have i1 : (g.wait.size : Int) ≤ 500000000 := by omega
  have i2 : (g.len : Int) ≤ 1000000000 := by omega
  have i3 : (s.size : Int) ≤ 1048576 := by omega
  have i4 : ¬ (1048576 : Int) < s.size := by omega
  have i5 : ¬ 9223372036854775807 < 1 + s.size := by omega
  have iw : IntKind.i64.wrap ((g.len : Int) + (g.wait.size : Int)) = ((g.len + g.wait.size : Nat) : Int) := by rw [IntKind.wrap_i64]; omega
  have HN : Hid (g.recs.length ≤ 1000000) := (by show _ ≤ _; omega)
  have HZ : Hid (g.wait.size + (Wi.frmS (⟨#[100]⟩ ++ s)).size ≤ 1000000000) := (by show _ ≤ _; omega)
  clear hb hr hww hl hw hn hs hsz hfs
  generalize Wi.frmS (⟨#[100]⟩ ++ s) = F at *
  generalize hat : g.len + g.wait.size = at_ at *
  go_enter Tryz.func98, Tryz.ntmps98
  go_wp2_with fail
  go_quiet (fail)
  obtain ⟨w1, hw1⟩ : ∃ w1, w1 = w.drewN nq := ⟨_, rfl⟩
  rw [← hw1]
  have G1 : Hid (w.grownBy w1 none) := (by rw [hw1]; exact grown_drewN (grown_refl _ _) _)
  have B1 : Hid (Blk w1 b 87 (rowG g.d (.slice pr g.recs.length cr) (.slice pw g.wait.size cw) g.com g.len g.root g.marked)) := HB.out.kept G1.out (by simp)
  have R1 : Hid (w1.ownsRow base 111 2 (.slice pr g.recs.length cr) g.recs.length (recsL g.recs)) := (by rw [hw1]; exact HR.out)
  have W1 : Hid (w1.ownsRow base 5 1 (.slice pw g.wait.size cw) g.wait.size (Lib.strCells g.wait)) := (by rw [hw1]; exact HW.out)
  have hb1 : base ≤ w1.heap.size := Nat.le_trans hbw G1.out.size
  clear hw1 c0 c1 c2 c3 c4 c5 c6 f1 f2 f3 f4 f5 f6 HB HR HW iw
  obtain ⟨⟨c0, c1, c2, c3, c4, c5, c6⟩, f1, f2, f3, f4, f5, f6⟩ := B1.out.g7
  go_wp2_with (at_builtin; refine append_rec base _ g.recs (at_, s) ⟨w1.heap.size, 0, none⟩ 1 (R1.out.alloc _) (rec_cells w1 at_ s) HN.out (by rw [World.size_alloc]; omega) _ _ rfl rfl rfl rfl ?_; intro v2 u2 h2 hg2; have B2 := hid (blk_row (B1.out.alloc (.cells #[.int .i64 at_, .string s] 111)) (R1.out.alloc (.cells #[.int .i64 at_, .string s] 111)) (by decide) hg2); have W2 := hid (row_row (W1.out.alloc (.cells #[.int .i64 at_, .string s] 111)) (R1.out.alloc (.cells #[.int .i64 at_, .string s] 111)) (by decide) hg2); have R2 := hid h2; have T2 := hid (LT.trans (LT.of_none (grown_alloc G1.out (.cells #[.int .i64 at_, .string s] 111))) (lt_row (b := b) (R1.out.alloc (.cells #[.int .i64 at_, .string s] 111)) (Or.inl rfl) hg2)); obtain ⟨p2, c9, rfl, _⟩ := row_form h2; clear c0 c1 c2 c3 c4 c5 c6 f1 f2 f3 f4 f5 f6; obtain ⟨⟨c0, c1, c2, c3, c4, c5, c6⟩, f1, f2, f3, f4, f5, f6⟩ := B2.out.g7; clear h2 hg2)
  have hv : (Value.slice p2 (g.recs ++ [(at_, s)]).length c9) = .slice p2 (g.recs.length + 1) c9 := by rw [List.length_append]; rfl
  have q := R2.out
  rw [hv] at q
  have GS : u2.grownBy (u2.setCell ⟨b, 1, none⟩ (.slice p2 (g.recs.length + 1) c9)) (some b) := grown_set (grown_refl _ _) 1 _
  have B3 : Hid (Blk (u2.setCell ⟨b, 1, none⟩ (.slice p2 (g.recs.length + 1) c9)) b 87 (rowG g.d (.slice p2 (g.recs.length + 1) c9) (.slice pw g.wait.size cw) g.com g.len g.root g.marked)) := B2.out.set 1 _
  have R3 := hid (rowG_kept q B2.out (by decide) GS)
  have W3 := hid (rowG_kept W2.out B2.out (by decide) GS)
  have T3 := hid (LT.trans T2.out (LT.of_self GS h0))
  have hb3 : base ≤ (u2.setCell ⟨b, 1, none⟩ (.slice p2 (g.recs.length + 1) c9)).heap.size := Nat.le_trans hbw T3.out.size
  clear c0 c1 c2 c3 c4 c5 c6 f1 f2 f3 f4 f5 f6 B1 B2 R1 R2 W1 W2 T2 G1 q GS hv
  generalize u2.setCell ⟨b, 1, none⟩ (.slice p2 (g.recs.length + 1) c9) = w3 at *
  obtain ⟨⟨c0, c1, c2, c3, c4, c5, c6⟩, f1, f2, f3, f4, f5, f6⟩ := B3.out.g7
  clear c0 c1 c2 c3 c5 c6 f1 f2 f3 f5 f6
  go_region_law (first
    | (go_simp; go_at_call 120; refine (CF.out _).mono ?_; rintro e w4 ⟨rfl, hg4⟩; have B4 := hid (B3.out.drew.kept hg4 (by simp)); have G4 : Hid (w3.grownBy w4 none) := grown_trans (grown_drew (grown_refl _ _)) hg4; have W4 := hid (row_none W3.out G4.out); have R4 := hid (row_none R3.out G4.out); have e4 : w4.cell? ⟨b, 4, none⟩ = some (.slice pw g.wait.size cw) := B4.out.cell 4; have e5 := B4.out.frozen 4; have hb4 : base ≤ w4.heap.size := Nat.le_trans hb3 G4.out.size; clear hg4)
    | (refine step_text2 (.tmp 38) (.tmp 41) rfl rfl base _ g.wait F W4.out HZ.out hb4 rfl rfl ?_; intro v5 u5 h5 hg5; have B5 := hid (blk_row B4.out W4.out (by decide) hg5); have R5 := hid (row_row R4.out W4.out (by decide) hg5); have T5 := hid (LT.trans T3.out (LT.trans (LT.of_none G4.out) (lt_row (b := b) W4.out (Or.inr rfl) hg5))); have W5 := hid h5; obtain ⟨p5, k5, rfl, _⟩ := row_form h5; have d4 : u5.cell? ⟨b, 4, none⟩ = some (.slice pw g.wait.size cw) := B5.out.cell 4; have d5 := B5.out.frozen 4; clear h5 hg5))
  all_goals (
    go_wp2
    go_ret2
    have hv : (Value.slice p5 (g.wait ++ F).size k5) = .slice p5 (g.wait.size + F.size) k5 := by rw [ByteArray.size_append]
    have q := W5.out
    rw [hv] at q
    refine ⟨rfl, ⟨h0, .slice p2 (g.recs.length + 1) c9, .slice p5 (g.wait.size + F.size) k5, B5.out.set 4 _, ?_, ?_⟩, LT.trans T5.out (LT.of_self (grown_set (grown_refl _ _) 4 _) h0)⟩
    · exact rowG_kept R5.out B5.out (by decide) (grown_set (grown_refl _ _) 4 _)
    · exact rowG_kept q B5.out (by decide) (grown_set (grown_refl _ _) 4 _))

end Go.Proofs.YtbhmmcelndmijaaGreat
namespace Go.Proofs.YtbhmmcelndmijaaGreat
open Go.RowKit Go.Maps
/-- A log with a page more. -/
def addG (g : Lg) (p : Pa.Pg) : Lg := { g with recs := g.recs ++ [(g.len + g.wait.size, ⟨(Pa.encL p).toArray⟩)], wait := g.wait ++ Wi.frmS (⟨#[100]⟩ ++ ⟨(Pa.encL p).toArray⟩) }
set_option maxRecDepth 100000 in
set_option maxHeartbeats 1000000 in
theorem add_page (base b lb : Nat) (g : Lg) (root : Int) (p : Pa.Pg) (v : Value) (w : World) (hT : IsTree w b lb root) (hL : IsLog w base lb g) (hl : g.recs.length ≤ 100000) (hw : g.wait.size ≤ 500000000) (hn : g.len ≤ 1000000000) (hv : Pa.PgV w v p) (hf : p.fits) (hm : Pa.mayP p = true) (hz : (Pa.encL p).length ≤ 1048576) :
    Calls Tryz.prog 69 #[.pointer (some ⟨b, 0, none⟩), v] w fun e w' => e = .returned (.tuple #[.int .i64 (g.len + g.wait.size : Nat), .int .i64 0]) ∧ IsLog w' base lb (addG g p) ∧ LT base lb w w' := by
  have C1 : Hid (∀ W, w.grownBy W none → Calls Tryz.prog 97 #[v] W fun e w' => e = .returned (.tuple #[.string ⟨(Pa.encL p).toArray⟩, .int .i64 0]) ∧ W.grownBy w' none) := fun W hW => Pa.encode_ok v p W (hv.kept hW) hf hm
  have C2 : Hid (∀ W, w.grownBy W none → Calls Tryz.prog 98 #[.pointer (some ⟨lb, 0, none⟩), .string ⟨(Pa.encL p).toArray⟩] W fun e w' => e = .returned (.tuple #[.int .i64 (g.len + g.wait.size : Nat), .int .i64 0]) ∧ IsLog w' base lb (addG g p) ∧ LT base lb W w') := fun W hW => lappend_big base lb g _ W (hL.kept hW) hl hw hn (by show (Pa.encL p).toArray.size ≤ _; simpa using hz)
  obtain ⟨va, vb, vc, rfl, ⟨p1, k1, _, _, rfl, _, _⟩, ⟨p2, k2, _, _, rfl, _, _⟩, ⟨p3, k3, _, _, rfl, _, _⟩⟩ := hv
  have HT := hid hT
  generalize addG g p = g2 at *
  generalize g.len + g.wait.size = at_ at *
  generalize (⟨(Pa.encL p).toArray⟩ : ByteArray) = S at *
  have G0 : Hid (w.grownBy (w.alloc (.cells #[.bool p.leaf, .slice p1 p.keys.length k1, .slice p2 p.vals.length k2, .slice p3 p.kids.length k3] 70)) none) := grown_alloc (grown_refl w none) _
  clear hT hL hl hw hn hf hm hz
  go_enter Tryz.func69, Tryz.ntmps69
  go_wp2_with (first
    | (go_at_call 97; refine (C1.out _ G0.out).mono ?_; rintro e w1 ⟨rfl, g1⟩; have G1 := hid (grown_none G0.out g1); have c0 := Blk.cell (HT.out.kept G1.out) 0; simp at c0; clear g1 C1)
    | (go_at_call 98; refine (C2.out _ G1.out).mono ?_; rintro e w2 ⟨rfl, l2, t2⟩; have L2 := hid l2; have T2 := hid (LT.trans (LT.of_none G1.out) t2); clear l2 t2 C2))
  go_ret2
  exact ⟨rfl, L2.out, T2.out⟩
end Go.Proofs.YtbhmmcelndmijaaGreat
namespace Go.Proofs.YtbhmmcelndmijaaGreat
open Go.RowKit Go.Maps
set_option maxRecDepth 100000 in
theorem none_tree (b lb : Nat) (root : Int) (w : World) (hT : IsTree w b lb root) : Calls Tryz.prog 26 #[.pointer (some ⟨b, 0, none⟩)] w fun e w' => e = .returned (.bool false) ∧ w' = w := by
  have c0 := Blk.cell hT 0
  simp at c0
  clear hT
  go_enter Tryz.func26, Tryz.ntmps26
  go_wp2
  go_ret
  exact ⟨rfl, rfl⟩
set_option maxRecDepth 100000 in
theorem root_tree (b lb : Nat) (root : Int) (w : World) (hT : IsTree w b lb root) : Calls Tryz.prog 11 #[.pointer (some ⟨b, 0, none⟩)] w fun e w' => e = .returned (.int .i64 root) ∧ w' = w := by
  have C := hid (none_tree b lb root w hT)
  have c1 := Blk.cell hT 1
  simp at c1
  clear hT
  go_enter Tryz.func11, Tryz.ntmps11
  go_wp2_with (go_at_call 26; refine C.out.mono ?_; rintro e w1 ⟨rfl, hw⟩; have hw2 := hw.symm; clear hw; subst hw2; clear C)
  go_ret
  exact ⟨rfl, rfl⟩
set_option maxRecDepth 100000 in
set_option maxHeartbeats 1000000 in
/-- Without a root: a leaf without keys. -/
theorem top_none (b lb : Nat) (w : World) (hT : IsTree w b lb (-1)) : Calls Tryz.prog 27 #[.pointer (some ⟨b, 0, none⟩)] w (Pa.DecPost w ⟨true, [], [], []⟩ 0) := by
  have c1 := Blk.cell (hT.kept (grown_alloc (grown_refl w none) (.cells #[.bool false, .slice none 0 0, .slice none 0 0, .slice none 0 0] 70))) 1
  simp at c1
  obtain ⟨P, hP⟩ : ∃ P, P = Pa.DecPost w ⟨true, [], [], []⟩ 0 := ⟨_, rfl⟩
  rw [← hP]
  have HP := hid (And.intro hP trivial)
  clear hT hP
  go_enter Tryz.func27, Tryz.ntmps27
  go_wp2
  refine bodyPost_ret (Pa.results_pg2 Tryz.results27 _ _ w.heap.size rfl (Blk.new w 70 _)) rfl ?_
  rw [HP.out.1]
  exact ⟨_, rfl, ⟨_, _, _, rfl, Pa.far_nil _, ⟨rfl, Or.inl ⟨rfl, rfl⟩⟩, ⟨rfl, Or.inl ⟨rfl, rfl⟩⟩, ⟨rfl, Or.inl ⟨rfl, rfl⟩⟩⟩, grown_alloc (grown_refl w none) _⟩
set_option maxRecDepth 100000 in
set_option maxHeartbeats 1000000 in
/-- The root's page. -/
theorem top_some (base b lb : Nat) (g : Lg) (root : Int) (p : Pa.Pg) (w : World) (hT : IsTree w b lb root) (hL : IsLog w base lb g) (hs : Asc g.recs) (hl : g.recs.length ≤ 1000000) (hr : 0 ≤ root) (hP : PageAt g.recs root p) (hH : Holds ⟨#[]⟩ ⟨#[]⟩ p) :
    Calls Tryz.prog 27 #[.pointer (some ⟨b, 0, none⟩)] w (Pa.DecPost w p 0) := by
  have G0 : Hid (w.grownBy (w.alloc (.cells #[.bool false, .slice none 0 0, .slice none 0 0, .slice none 0 0] 70)) none) := grown_alloc (grown_refl w none) _
  have c1 := Blk.cell (hT.kept G0.out) 1
  simp at c1
  have CR := hid (read_page base b lb g root root ⟨#[]⟩ ⟨#[]⟩ p _ (hT.kept G0.out) (hL.kept G0.out) hs hl hP hH)
  have BR := hid (Blk.new w 70 #[.bool false, .slice none 0 0, .slice none 0 0, .slice none 0 0])
  obtain ⟨P, hP'⟩ : ∃ P, P = Pa.DecPost w p 0 := ⟨_, rfl⟩
  rw [← hP']
  have HP := hid (And.intro hP' trivial)
  have n1 : ¬ root = -1 := by omega
  have n2 : (root == -1) = false := by simp; omega
  clear hT hP' hL hs hl hP hH
  go_enter Tryz.func27, Tryz.ntmps27
  go_wp2_with (go_at_call 42; refine CR.out.mono ?_; rintro e w2 ⟨v, rfl, o2, g2⟩; have O2 := hid o2; have G2 := hid (grown_none G0.out g2); have Q2 := hid (BR.out.kept g2 (by simp)); obtain ⟨va, vb, vc, rfl, _, r1, r2, r3⟩ := O2.out; obtain ⟨p1, k1, rfl⟩ := Pa.owns_slice r1; obtain ⟨p2, k2, rfl⟩ := Pa.owns_slice r2; obtain ⟨p3, k3, rfl⟩ := Pa.owns_slice r3; have z0 := Q2.out.cell 0; have z1 := Q2.out.cell 1; have z2 := Q2.out.cell 2; have z3 := Q2.out.cell 3; have f0 := Q2.out.frozen 0; have f1 := Q2.out.frozen 1; have f2 := Q2.out.frozen 2; have f3 := Q2.out.frozen 3; simp at z0 z1 z2 z3; clear g2 o2 CR r1 r2 r3)
  have H5 := grown_set (grown_set (grown_set (grown_set (grown_refl w2 (some w.heap.size)) 0 (.bool p.leaf)) 1 (.slice p1 p.keys.length k1)) 2 (.slice p2 p.vals.length k2)) 3 (.slice p3 p.kids.length k3)
  have B5 := (((Q2.out.set 0 (.bool p.leaf)).set 1 (.slice p1 p.keys.length k1)).set 2 (.slice p2 p.vals.length k2)).set 3 (.slice p3 p.kids.length k3)
  obtain ⟨a1, a2, a3, e, rf, r1, r2, r3⟩ := O2.out
  injection e with e
  have e' := congrArg Array.toList e
  simp at e'
  obtain ⟨rfl, rfl, rfl⟩ := e'
  have K1 := fun (tt : TypeId) (v : Value) (n : Nat) (xs : List Value) (h : w2.ownsRow (w.alloc (.cells #[.bool false, .slice none 0 0, .slice none 0 0, .slice none 0 0] 70)).heap.size tt 1 v n xs) => Pa.owns_le (Pa.owns_kept h H5 (by rw [World.size_alloc]; omega)) (base' := w.heap.size) (by rw [World.size_alloc]; omega)
  refine bodyPost_ret (Pa.results_pg2 Tryz.results27 _ _ w.heap.size rfl B5) rfl ?_
  rw [HP.out.1]
  exact ⟨_, rfl, ⟨_, _, _, rfl, rf, K1 _ _ _ _ r1, K1 _ _ _ _ r2, K1 _ _ _ _ r3⟩, grown_through G2.out H5 (Nat.le_refl _)⟩
end Go.Proofs.YtbhmmcelndmijaaGreat
