/-
  Append: a record waits. put: bytes are appended to the file, and made sure. What a disk's calls leave of a log, and a log's of a disk. Drop where every record is committed. load: frames are taken one behind the other, up to the first one that is not right.
-/
import Derived.Test.YtbhmmcelndmijaaGreatKLtake
import Derived.Lib.AppendStr
import Derived.Deep.RegionHeld3
import Derived.Deep.RegionLaw
namespace Go.Proofs.YtbhmmcelndmijaaGreat
open Go.RowKit Go.Maps
theorem info5 : (Tryz.prog.info? 5).map (fun i => (i.zero, i.size, i.bytes)) = some (some (.int .u8 0), 1, 1) := by kernel_rfl
/-- append of a text to bytes, as a step of a region that draws. -/
theorem step_text {ops : Array Oper} {o : Oper} {a : Act} {w : World} {K : Act → World → Prop} {Q : Exit → Act → World → Prop} {E : Prop} (s x : Operand) (hg : o.guard = none) (ho : o.op = Op.call { callee := Callee.builtin Builtin.append, args := #[s, x], argTypes := #[85, 9] }) (base : Nat) (v : Value) (l t : ByteArray)
    (hrow : w.ownsRow base 5 1 v l.size (Lib.strCells l)) (hl : l.size + t.size ≤ 100000000) (hbase : base ≤ w.heap.size) (hs : a.eval s = v) (hx : a.eval x = .string t)
    (hK : ∀ v' w', w'.ownsRow base 5 1 v' (l ++ t).size (Lib.strCells (l ++ t)) → w.grownBy w' v.ownBlock → K (a.put o.dst v') w') :
    if Region.wanted o (yielded ops a.tmps) = true then Oper.wp Tryz.prog o a w K Q else E := by
  have hw : Region.wanted o (yielded ops a.tmps) = true := by simp [Region.wanted, hg]
  rw [if_pos hw]
  obtain ⟨i5, hi, hz0, hz1, hz2⟩ := info_parts info5
  obtain ⟨v', w', hr, h2, h3, _⟩ := Lib.run_append_own_string (P := Tryz.prog) w base 85 9 o.type 5 i5 Tryz.underlying85 Tryz.underlying9 hi hz0 hz1 hz2 v l.size (Lib.strCells l) hrow t (by unfold maxLen; omega) (by omega) hbase
  have e : Lib.strCells l ++ Lib.strCells t = Lib.strCells (l ++ t) := by
    unfold Lib.strCells
    rw [← List.map_append]
    simp
  rw [e, ← ByteArray.size_append] at h2
  unfold Oper.wp execOp
  simp only [ho, resolve, invoke, builtin, Sem.run_bind, Sem.run_pure, Result.andThen_ok, List.map_toArray, List.map_cons, List.map_nil, hs, hx, hr]
  exact hK v' w' h2 h3
section
variable {ops : Array Oper} {rest : List Oper} {o : Oper} {a : Act} {Q : Exit → Act → World → Prop} {w : World}
theorem append_rec (base : Nat) (v : Value) (l : List (Nat × ByteArray)) (p : Nat × ByteArray) (ad : Addr) (cc : Nat) (hrow : w.ownsRow base 111 2 v l.length (recsL l)) (hcell : ∀ j u, (recL p)[j]? = some u → w.cell? (ad.add j) = some u) (hl : l.length ≤ 1000000) (hbase : base ≤ w.heap.size) (s x : Operand)
    (hgd : o.guard = none) (ho : o.op = .call { callee := .builtin .append, args := #[s, x], argTypes := #[84, 84] }) (hs : a.eval s = v) (hx : a.eval x = .slice (some ad) 1 cc)
    (h : ∀ v' w', w'.ownsRow base 111 2 v' (l ++ [p]).length (recsL (l ++ [p])) → w.grownBy w' v.ownBlock → wpList Tryz.prog ops Q rest (a.put o.dst v') w') : wpList Tryz.prog ops Q (o :: rest) a w := by
  obtain ⟨i84, hi, hz0, hz1, hz2⟩ := info_parts info84
  refine wpList_append_own w hgd s x 84 ho base 111 i84 _ 2 24 Tryz.underlying84 hi hz0 hz1 hz2 rfl (by decide) v l.length (recsL l) hs hrow ad 1 cc (recL p) hx rfl hcell (fun u hu => ?_) (by unfold maxLen; omega) (by omega) hbase ?_
  · unfold recL at hu
    simp only [List.mem_cons, List.not_mem_nil, or_false] at hu
    rcases hu with rfl | rfl <;> rfl
  · intro v' w' h2 h3 _
    rw [recsL_snoc] at h2
    exact h v' w' (by rw [List.length_append]; exact h2) h3
end
theorem row_none {w w' : World} {base e size n : Nat} {v : Value} {xs : List Value} (h : w.ownsRow base e size v n xs) (hg : w.grownBy w' none) : w'.ownsRow base e size v n xs := by
  refine h.kept hg ?_
  cases v.ownBlock with
  | none => exact Or.inl rfl
  | some x => exact Or.inr (by simp)
set_option maxRecDepth 100000 in
set_option maxHeartbeats 4000000 in
theorem lappend_any (base b : Nat) (g : Lg) (s : ByteArray) (w : World) (h : IsLog w base b g) (hl : g.recs.length ≤ 100000) (hw : g.wait.size ≤ 10000000) (hn : g.len ≤ 1000000000) (hs : s.size ≤ 3900) :
    Calls Tryz.prog 98 #[.pointer (some ⟨b, 0, none⟩), .string s] w fun e w' => e = .returned (.tuple #[.int .i64 (g.len + g.wait.size : Nat), .int .i64 0]) ∧ IsLog w' base b { g with recs := g.recs ++ [(g.len + g.wait.size, s)], wait := g.wait ++ Wi.frmS (⟨#[100]⟩ ++ s) } ∧ LT base b w w' := by
  have hsz : (⟨#[100]⟩ ++ s : ByteArray).size ≤ 4000 := by rw [ByteArray.size_append]; show 1 + _ ≤ _; omega
  have CF : Hid (∀ W, Calls Tryz.prog 120 #[.string (⟨#[100]⟩ ++ s)] W fun e w' => e = .returned (.string (Wi.frmS (⟨#[100]⟩ ++ s))) ∧ W.grownBy w' none) := fun W => Wi.frame_any _ W hsz
  have hfs : (Wi.frmS (⟨#[100]⟩ ++ s)).size ≤ 5000 := by rw [Wi.frmS_size]; omega
  obtain ⟨h0, vr, vw, hb, hr, hww⟩ := h
  obtain ⟨⟨c0, c1, c2, c3, c4, c5, c6⟩, f1, f2, f3, f4, f5, f6⟩ := hb.g7
  have hbw : base ≤ w.heap.size := Nat.le_trans h0 (Nat.le_of_lt hb.lt)
  obtain ⟨pr, cr, rfl, _⟩ := row_form hr
  obtain ⟨pw, cw, rfl, _⟩ := row_form hww
  have HB := hid hb
  have HR := hid hr
  have HW := hid hww
  have i1 : (g.wait.size : Int) ≤ 10000000 := by omega
  have i2 : (g.len : Int) ≤ 1000000000 := by omega
  have i3 : (s.size : Int) ≤ 3900 := by omega
  have i4 : ¬ (1048576 : Int) < s.size := by omega
  have i5 : ¬ 9223372036854775807 < 1 + s.size := by omega
  have iw : IntKind.i64.wrap ((g.len : Int) + (g.wait.size : Int)) = ((g.len + g.wait.size : Nat) : Int) := by rw [IntKind.wrap_i64]; omega
  have HN : Hid (g.recs.length ≤ 1000000) := (by show _ ≤ _; omega)
  have HZ : Hid (g.wait.size + (Wi.frmS (⟨#[100]⟩ ++ s)).size ≤ 100000000) := (by show _ ≤ _; omega)
  clear hb hr hww hl hw hn hs hsz hfs
  generalize Wi.frmS (⟨#[100]⟩ ++ s) = F at *
  generalize hat : g.len + g.wait.size = at_ at *
  go_enter Tryz.func98, Tryz.ntmps98
  go_wp2_with fail
  go_quiet (fail)
  obtain ⟨w1, hw1⟩ : ∃ w1, w1 = w.drewN nq := ⟨_, rfl⟩
  rw [← hw1]
  have G1 : Hid (w.grownBy w1 none) := (by rw [hw1]; exact grown_drewN (grown_refl _ _) _)
  have B1 : Hid (Blk w1 b 87 (rowG g.d (.slice pr g.recs.length cr) (.slice pw g.wait.size cw) g.com g.len g.root g.marked)) := HB.out.kept G1.out (by simp)
  have R1 : Hid (w1.ownsRow base 111 2 (.slice pr g.recs.length cr) g.recs.length (recsL g.recs)) := (by rw [hw1]; exact HR.out)
  have W1 : Hid (w1.ownsRow base 5 1 (.slice pw g.wait.size cw) g.wait.size (Lib.strCells g.wait)) := (by rw [hw1]; exact HW.out)
  have hb1 : base ≤ w1.heap.size := Nat.le_trans hbw G1.out.size
  clear hw1 c0 c1 c2 c3 c4 c5 c6 f1 f2 f3 f4 f5 f6 HB HR HW iw
  obtain ⟨⟨c0, c1, c2, c3, c4, c5, c6⟩, f1, f2, f3, f4, f5, f6⟩ := B1.out.g7
  go_wp2_with (at_builtin; refine append_rec base _ g.recs (at_, s) ⟨w1.heap.size, 0, none⟩ 1 (R1.out.alloc _) (rec_cells w1 at_ s) HN.out (by rw [World.size_alloc]; omega) _ _ rfl rfl rfl rfl ?_; intro v2 u2 h2 hg2; have B2 := hid (blk_row (B1.out.alloc (.cells #[.int .i64 at_, .string s] 111)) (R1.out.alloc (.cells #[.int .i64 at_, .string s] 111)) (by decide) hg2); have W2 := hid (row_row (W1.out.alloc (.cells #[.int .i64 at_, .string s] 111)) (R1.out.alloc (.cells #[.int .i64 at_, .string s] 111)) (by decide) hg2); have R2 := hid h2; have T2 := hid (LT.trans (LT.of_none (grown_alloc G1.out (.cells #[.int .i64 at_, .string s] 111))) (lt_row (b := b) (R1.out.alloc (.cells #[.int .i64 at_, .string s] 111)) (Or.inl rfl) hg2)); obtain ⟨p2, c9, rfl, _⟩ := row_form h2; clear c0 c1 c2 c3 c4 c5 c6 f1 f2 f3 f4 f5 f6; obtain ⟨⟨c0, c1, c2, c3, c4, c5, c6⟩, f1, f2, f3, f4, f5, f6⟩ := B2.out.g7; clear h2 hg2)
  have hv : (Value.slice p2 (g.recs ++ [(at_, s)]).length c9) = .slice p2 (g.recs.length + 1) c9 := by rw [List.length_append]; rfl
  have q := R2.out
  rw [hv] at q
  have GS : u2.grownBy (u2.setCell ⟨b, 1, none⟩ (.slice p2 (g.recs.length + 1) c9)) (some b) := grown_set (grown_refl _ _) 1 _
  have B3 : Hid (Blk (u2.setCell ⟨b, 1, none⟩ (.slice p2 (g.recs.length + 1) c9)) b 87 (rowG g.d (.slice p2 (g.recs.length + 1) c9) (.slice pw g.wait.size cw) g.com g.len g.root g.marked)) := B2.out.set 1 _
  have R3 := hid (rowG_kept q B2.out (by decide) GS)
  have W3 := hid (rowG_kept W2.out B2.out (by decide) GS)
  have T3 := hid (LT.trans T2.out (LT.of_self GS h0))
  have hb3 : base ≤ (u2.setCell ⟨b, 1, none⟩ (.slice p2 (g.recs.length + 1) c9)).heap.size := Nat.le_trans hbw T3.out.size
  clear c0 c1 c2 c3 c4 c5 c6 f1 f2 f3 f4 f5 f6 B1 B2 R1 R2 W1 W2 T2 G1 q GS hv
  generalize u2.setCell ⟨b, 1, none⟩ (.slice p2 (g.recs.length + 1) c9) = w3 at *
  obtain ⟨⟨c0, c1, c2, c3, c4, c5, c6⟩, f1, f2, f3, f4, f5, f6⟩ := B3.out.g7
  clear c0 c1 c2 c3 c5 c6 f1 f2 f3 f5 f6
  go_region_law (first
    | (go_simp; go_at_call 120; refine (CF.out _).mono ?_; rintro e w4 ⟨rfl, hg4⟩; have B4 := hid (B3.out.drew.kept hg4 (by simp)); have G4 : Hid (w3.grownBy w4 none) := grown_trans (grown_drew (grown_refl _ _)) hg4; have W4 := hid (row_none W3.out G4.out); have R4 := hid (row_none R3.out G4.out); have e4 : w4.cell? ⟨b, 4, none⟩ = some (.slice pw g.wait.size cw) := B4.out.cell 4; have e5 := B4.out.frozen 4; have hb4 : base ≤ w4.heap.size := Nat.le_trans hb3 G4.out.size; clear hg4)
    | (refine step_text (.tmp 38) (.tmp 41) rfl rfl base _ g.wait F W4.out HZ.out hb4 rfl rfl ?_; intro v5 u5 h5 hg5; have B5 := hid (blk_row B4.out W4.out (by decide) hg5); have R5 := hid (row_row R4.out W4.out (by decide) hg5); have T5 := hid (LT.trans T3.out (LT.trans (LT.of_none G4.out) (lt_row (b := b) W4.out (Or.inr rfl) hg5))); have W5 := hid h5; obtain ⟨p5, k5, rfl, _⟩ := row_form h5; have d4 : u5.cell? ⟨b, 4, none⟩ = some (.slice pw g.wait.size cw) := B5.out.cell 4; have d5 := B5.out.frozen 4; clear h5 hg5))
  all_goals (
    go_wp2
    go_ret2
    have hv : (Value.slice p5 (g.wait ++ F).size k5) = .slice p5 (g.wait.size + F.size) k5 := by rw [ByteArray.size_append]
    have q := W5.out
    rw [hv] at q
    refine ⟨rfl, ⟨h0, .slice p2 (g.recs.length + 1) c9, .slice p5 (g.wait.size + F.size) k5, B5.out.set 4 _, ?_, ?_⟩, LT.trans T5.out (LT.of_self (grown_set (grown_refl _ _) 4 _) h0)⟩
    · exact rowG_kept R5.out B5.out (by decide) (grown_set (grown_refl _ _) 4 _)
    · exact rowG_kept q B5.out (by decide) (grown_set (grown_refl _ _) 4 _))
end Go.Proofs.YtbhmmcelndmijaaGreat
namespace Go.Proofs.YtbhmmcelndmijaaGreat
open Go.RowKit Go.Maps
theorem heap_lt {w : World} {g : Nat} {o : Obj} (h : w.heap[g]? = some o) : g < w.heap.size := by
  by_cases hx : g < w.heap.size
  · exact hx
  · rw [Array.getElem?_eq_none (by omega)] at h; cases h
theorem row_same {w w' : World} {base e size n : Nat} {v : Value} {xs : List Value} (h : w.ownsRow base e size v n xs) (hk : ∀ (g : Nat) (cur : Array Value), w.heap[g]? = some (Obj.cells cur e (0, 0)) → w'.heap[g]? = w.heap[g]?) : w'.ownsRow base e size v n xs := by
  obtain ⟨h1, h2⟩ := h
  refine ⟨h1, ?_⟩
  rcases h2 with h2 | ⟨g, cap, cur, e1, hb, hh, r⟩
  · exact Or.inl h2
  · exact Or.inr ⟨g, cap, cur, e1, hb, (hk g cur hh).trans hh, r⟩
/-- A disk's call leaves a log as it was. -/
theorem IsLog.keptD {w w' : World} {base b d bd : Nat} {g : Lg} {cs : Array Value} (h : IsLog w base b g) (hd : Blk w d 96 cs) (hT : Tend bd d w w') : IsLog w' base b g := by
  obtain ⟨h0, vr, vw, hb, hr, hw⟩ := h
  have keep : ∀ (i : Nat) (t : TypeId) (cur : Array Value) (fz : Nat × Nat), w.heap[i]? = some (Obj.cells cur t fz) → t ≠ 96 → t ≠ 120 → w'.heap[i]? = w.heap[i]? := fun i t cur fz hi h1 h2 => hT.keep i (heap_lt hi) (Or.inr ⟨fun e => by
    subst e
    have hd' : w.heap[i]? = some (.cells cs 96 (0, 0)) := hd
    rw [hi] at hd'
    injection hd' with q
    injection q with q1 q2 q3
    exact h1 q2, cur, t, fz, hi, h2⟩)
  refine ⟨h0, vr, vw, (keep b 87 _ _ hb (by decide) (by decide)).trans hb, row_same hr (fun g cur hg => keep g 111 cur _ hg (by decide) (by decide)), row_same hw (fun g cur hg => keep g 5 cur _ hg (by decide) (by decide))⟩
/-- A log's call leaves a disk as it was. -/
theorem IsDisk.keptL {w w' : World} {base b bd d : Nat} {k : Dk} {cs : Array Value} (h : IsDisk w bd d k) (hb : Blk w b 87 cs) (hT : LT base b w w') : IsDisk w' bd d k := by
  obtain ⟨h0, vn, vs, vl, hB, hn, hs, hne, hl⟩ := h
  have keepC : ∀ (i : Nat) (t : TypeId) (cur : Array Value) (fz : Nat × Nat), w.heap[i]? = some (Obj.cells cur t fz) → t ≠ 87 → t ≠ 111 → t ≠ 5 → w'.heap[i]? = w.heap[i]? := fun i t cur fz hi h1 h2 h3 => hT.keep i (heap_lt hi) (Or.inr ⟨fun e => by
    subst e
    have hb' : w.heap[i]? = some (.cells cs 87 (0, 0)) := hb
    rw [hi] at hb'
    injection hb' with q
    injection q with q1 q2 q3
    exact h1 q2, fun cs' t' fz' hq => by
      rw [hi] at hq
      injection hq with q
      injection q with q1 q2 q3
      subst q2
      exact ⟨h2, h3⟩⟩)
  have keepM : ∀ i l, OwnsF w i l → OwnsF w' i l := fun i l ho => by
    obtain ⟨es, clock, hm⟩ := ho.isMap
    refine ho.of_heap (hT.keep i ho.lt (Or.inr ⟨fun e => ?_, fun cs' t' fz' hq => ?_⟩))
    · subst e
      exact hb.ne_map ho rfl
    · rw [hm] at hq
      cases hq
  have keepV : ∀ v l, MapV w bd v l → MapV w' bd v l := fun v l hv => by
    rcases hv with hv | ⟨g, rfl, hg, ho⟩
    · exact Or.inl hv
    · exact Or.inr ⟨g, rfl, hg, keepM g l ho⟩
  exact ⟨h0, vn, vs, vl, (keepC d 96 _ _ hB (by decide) (by decide) (by decide)).trans hB, keepV _ _ hn, keepV _ _ hs, hne, row_same hl (fun g cur hg => keepC g 120 cur _ hg (by decide) (by decide) (by decide))⟩
theorem IsLog.blk {w : World} {base b : Nat} {g : Lg} (h : IsLog w base b g) : ∃ cs, Blk w b 87 cs := by
  obtain ⟨_, vr, vw, hb, _⟩ := h
  exact ⟨_, hb⟩
theorem IsDisk.blk {w : World} {base b : Nat} {k : Dk} (h : IsDisk w base b k) : ∃ cs, Blk w b 96 cs := by
  obtain ⟨_, vn, vs, vl, hb, _⟩ := h
  exact ⟨_, hb⟩
end Go.Proofs.YtbhmmcelndmijaaGreat
namespace Go.Proofs.YtbhmmcelndmijaaGreat
open Go.RowKit Go.Maps
theorem run_clear0 (pa : Option Addr) (c : Nat) (w : World) : (Builtin.clear_ #[84] 0 #[.slice pa 0 c]).run Tryz.prog w = .ok (.tuple #[]) w := by
  cases pa <;> kernel_rfl
theorem step_clear0 {ops : Array Oper} {o : Oper} {a : Act} {w : World} {K : Act → World → Prop} {Q : Exit → Act → World → Prop} {E : Prop} (x : Operand) (pa : Option Addr) (c : Nat) (hg : o.guard = none) (ho : o.op = Op.call { callee := Callee.builtin Builtin.clear, args := #[x], argTypes := #[84] }) (ht : o.type = 0) (hx : a.eval x = .slice pa 0 c)
    (hK : K (a.put o.dst (.tuple #[])) w) : if Region.wanted o (yielded ops a.tmps) = true then Oper.wp Tryz.prog o a w K Q else E := by
  have hw : Region.wanted o (yielded ops a.tmps) = true := by simp [Region.wanted, hg]
  rw [if_pos hw]
  have hrun := run_clear0 pa c w
  unfold Oper.wp
  simp [execOp, ho, ht, resolve, invoke, builtin, hx, hrun, Result.andThen]
  exact hK
set_option maxRecDepth 100000 in
set_option maxHeartbeats 2000000 in
theorem drop_full (base b : Nat) (g : Lg) (w : World) (h : IsLog w base b g) (hc : g.com = g.recs.length) (hl : g.recs.length ≤ 1000000) (hwl : g.wait.size ≤ 1000000) :
    Calls Tryz.prog 62 #[.pointer (some ⟨b, 0, none⟩)] w fun e w' => e = .returned (.int .i64 g.wait.size) ∧ IsLog w' base b { g with wait := ⟨#[]⟩ } ∧ w.grownBy w' (some b) := by
  obtain ⟨h0, vr, vw, hb, hr, hw⟩ := h
  have FINAL : Hid (IsLog ((w.setCell ⟨b, 1, none⟩ vr).setCell ⟨b, 4, none⟩ (.slice none 0 0)) base b { g with wait := ⟨#[]⟩ } ∧ w.grownBy ((w.setCell ⟨b, 1, none⟩ vr).setCell ⟨b, 4, none⟩ (.slice none 0 0)) (some b)) := by
    have GF := grown_set (grown_set (grown_refl w (some b)) 1 vr) 4 (.slice none 0 0)
    refine ⟨⟨h0, vr, .slice none 0 0, ?_, rowG_kept hr hb (by decide) GF, ⟨rfl, Or.inl ⟨rfl, rfl⟩⟩⟩, GF⟩
    exact (hb.set 1 vr).set 4 (.slice none 0 0)
  rw [hc] at hb
  obtain ⟨pw, cw, rfl, _⟩ := row_form hw
  obtain ⟨⟨c0, c1, c2, c3, c4, c5, c6⟩, f1, f2, f3, f4, f5, f6⟩ := hb.g7
  have hll : (g.recs.length : Int) ≤ 1000000 := by omega
  have hwi : (g.wait.size : Int) ≤ 1000000 := by omega
  rcases hr.2 with ⟨rfl, hz⟩ | ⟨q, cap, cur, rfl, hq, hh, hcap, hm, hrest⟩
  · clear hb hr hw
    rw [hz] at c2
    clear hll hc hl hwl
    go_enter Tryz.func62, Tryz.ntmps62
    go_wp2_with fail
    go_region_law (refine step_clear0 (.tmp 19) _ _ rfl rfl rfl rfl ?_)
    all_goals (
      go_wp2_with fail
      go_region_law (fail)
      all_goals (
        go_wp2
        go_ret
        exact ⟨rfl, FINAL.out.1.drew.drew, grown_drew (grown_drew FINAL.out.2)⟩))
  · clear hb hr hw hrest hh hl hwl
    have i1 : (g.recs.length : Int) ≤ cap := by omega
    have i2 : (cap : Int) ≤ 9223372036854775807 := by unfold maxLen at hm; omega
    have i0 : (0 : Int) ≤ g.recs.length := by omega
    clear hc hm hq
    by_cases hx : g.recs.length = cap
    · subst hx
      generalize g.recs.length = L at *
      clear hcap
      go_enter Tryz.func62, Tryz.ntmps62
      go_wp2_with fail
      go_region_law (refine step_clear0 (.tmp 19) _ _ rfl rfl rfl rfl ?_)
      all_goals (
        go_wp2_with fail
        go_region_law (fail)
        all_goals (
          go_wp2
          go_ret
          exact ⟨rfl, FINAL.out.1.drew.drew, grown_drew (grown_drew FINAL.out.2)⟩))
    · have i3 : (g.recs.length : Int) < cap := by omega
      have i4 : ¬ cap = g.recs.length := by omega
      have i5 : ¬ g.recs.length = cap := by omega
      generalize g.recs.length = L at *
      go_enter Tryz.func62, Tryz.ntmps62
      go_wp2_with fail
      go_region_law (refine step_clear0 (.tmp 19) _ _ rfl rfl rfl rfl ?_)
      all_goals (
        go_wp2_with fail
        go_region_law (fail)
        all_goals (
          go_wp2
          go_ret
          exact ⟨rfl, FINAL.out.1.drew.drew, grown_drew (grown_drew FINAL.out.2)⟩))
end Go.Proofs.YtbhmmcelndmijaaGreat
namespace Go.Proofs.YtbhmmcelndmijaaGreat
open Go.RowKit Go.Maps
def left (z : Nat) : Value → Value → Nat
  | at_, .bool true => z + 1 - (intOf at_).toNat
  | _, _ => 0
set_option maxRecDepth 100000 in
set_option maxHeartbeats 1000000 in
theorem load_seq (base b : Nat) (s : ByteArray) (n : Nat) (A : Nat → Nat) (R : Nat → Bool) (G : Nat → Lg) (g' : Lg) (w : World) (h : IsLog w base b (G 0)) (hA : A 0 = 0) (hR : ∀ k, k < n → R k = true) (hR0 : R 0 = true) (hRn : R n = false) (hz : ∀ k, A k ≤ s.size)
    (hinc : ∀ k, k < n → R (k + 1) = true → A k < A (k + 1))
    (step : ∀ k, k < n → ∀ W, IsLog W base b (G k) → Calls Tryz.prog 61 #[.pointer (some ⟨b, 0, none⟩), .string s, .int .i64 (A k)] W fun e w' => e = .returned (.tuple #[.int .i64 (A (k + 1)), .bool (R (k + 1))]) ∧ IsLog w' base b (G (k + 1)) ∧ LT base b W w')
    (hD : ∀ W, IsLog W base b (G n) → Calls Tryz.prog 62 #[.pointer (some ⟨b, 0, none⟩)] W fun e w' => (∃ m : Nat, e = .returned (.int .i64 m)) ∧ IsLog w' base b g' ∧ LT base b W w') :
    Calls Tryz.prog 37 #[.pointer (some ⟨b, 0, none⟩), .string s] w fun e w' => e = .returned (.tuple #[]) ∧ IsLog w' base b g' ∧ LT base b w w' := by
  have HS := hid step
  have HD := hid hD
  have HI := hid hinc
  have HZ := hid hz
  have HR := hid hR
  have HL := hid h
  have HN : Hid (R n = false) := hRn
  have HA : Hid (A 0 = 0) := hA
  have H0 : Hid (R 0 = true) := hR0
  clear step hD hinc hz hR h hRn hA hR0
  go_enter Tryz.func37, Tryz.ntmps37
  go_wp2
  go_loopw [4, 5] (fun a r wr => ∃ k : Nat, k ≤ n ∧ a = .int .i64 (A k) ∧ r = .bool (R k) ∧ IsLog wr base b (G k) ∧ LT base b w wr) (fun a r _ => left s.size a r)
  case atStart => exact ⟨0, Nat.zero_le _, by rw [HA.out]; rfl, by rw [H0.out], HL.out, LT.refl _ _ _⟩
  case round =>
    obtain ⟨k, hk, rfl, rfl, hlog, hlt⟩ := hrel
    by_cases hkn : k < n
    · have r1 := HR.out k hkn
      have CE := hid (HS.out k hkn _ hlog)
      have z1 := HZ.out k
      have z2 := HZ.out (k + 1)
      have I1 := hid (HI.out k hkn)
      have LT1 := hid hlt
      clear HS HD HI HZ HR hlog hlt HL HN HA H0
      rw [r1]
      generalize A k = x at *
      generalize hy : A (k + 1) = y at *
      generalize hr2 : R (k + 1) = r2 at *
      go_wp2_with (go_at_call 61; refine CE.out.mono ?_; rintro e w2 ⟨rfl, hl2, ht2⟩; have L2 := hid hl2; have T2 := hid (LT.trans LT1.out ht2); clear hl2 ht2 CE)
      go_roundw
      case rel => exact ⟨k + 1, by omega, by rw [hy], by rw [hr2], L2.out, T2.out⟩
      case measure =>
        cases r2 with
        | false =>
          show 0 < s.size + 1 - (intOf (.int .i64 x)).toNat
          simp [intOf]
          omega
        | true =>
          have q := I1.out rfl
          show s.size + 1 - (intOf (.int .i64 y)).toNat < s.size + 1 - (intOf (.int .i64 x)).toNat
          simp [intOf]
          omega
    · obtain rfl : k = n := by omega
      have CE := hid (HD.out _ hlog)
      have LT1 := hid hlt
      have r1 := HN.out
      clear HS HD HI HZ HR hlog hlt HL HN HA H0
      rw [r1]
      go_wp2_with (go_at_call 62; refine CE.out.mono ?_; rintro e w2 ⟨⟨m, rfl⟩, hl2, ht2⟩; have L2 := hid hl2; have T2 := hid (LT.trans LT1.out ht2); clear hl2 ht2 CE)
      first
      | exact bodyPost_end (results_none rfl _ _ _) rfl ⟨rfl, L2.out, T2.out⟩
      | exact bodyPost_ret (results_none rfl _ _ _) rfl ⟨rfl, L2.out, T2.out⟩
end Go.Proofs.YtbhmmcelndmijaaGreat
