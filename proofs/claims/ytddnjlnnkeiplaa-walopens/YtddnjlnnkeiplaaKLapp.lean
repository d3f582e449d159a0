/-
  take: a frame that is not right; a record; a marker. Append: a record waits.
-/
import Derived.Test.YtddnjlnnkeiplaaKLdrop
import Derived.Deep.RegionLaw
import Derived.Lib.AppendStr
import Derived.Deep.RegionHeld3
namespace Go.Proofs.Ytddnjlnnkeiplaa
open Go.RowKit Go.Maps
theorem head_of (c : UInt8) (r : ByteArray) : (⟨#[c]⟩ ++ r : ByteArray).extract 0 1 = ⟨#[c]⟩ := by
  apply bytes_ext
  rw [ByteArray.data_extract, ByteArray.data_append, Array.toList_extract, Array.toList_append]
  simp
theorem tail_of (c : UInt8) (r : ByteArray) : (⟨#[c]⟩ ++ r : ByteArray).extract 1 (r.size + 1) = r := by
  apply bytes_ext
  rw [ByteArray.data_extract, ByteArray.data_append, Array.toList_extract, Array.toList_append]
  simp
  exact List.take_of_length_le (by rw [Array.length_toList]; exact Nat.le_refl _)
/-- What Unframe answers at a place. -/
def Un (s : ByteArray) (p : Nat) (V : ByteArray) (x y : Nat) : Prop := ∀ W, Calls Try.prog 76 #[.string s, .int .i64 p] W fun e w' => e = .returned (.tuple #[.string V, .int .i64 x, .int .i64 y]) ∧ W.grownBy w' none
set_option maxRecDepth 100000 in
set_option maxHeartbeats 1000000 in
theorem take_bad (q : Value) (s V : ByteArray) (p x y : Nat) (w : World) (hU : Un s p V x y) (hy : y ≠ 0) :
    Calls Try.prog 61 #[q, .string s, .int .i64 p] w fun e w' => e = .returned (.tuple #[.int .i64 0, .bool false]) ∧ w.grownBy w' none := by
  have CU : Hid (∀ W, Calls Try.prog 76 #[.string s, .int .i64 p] W fun e w' => e = .returned (.tuple #[.string V, .int .i64 x, .int .i64 y]) ∧ W.grownBy w' none) := hU
  have h1 : ((y : Int) == 0) = false := by simp; exact hy
  have h2 : ((y : Int) != 0) = true := by simp; exact hy
  clear hU hy
  go_enter Try.func61, Try.ntmps61
  go_wp2_with (go_at_call 76; refine (CU.out _).mono ?_; clear CU; rintro e w1 ⟨rfl, hg⟩; have G1 : Hid (w.grownBy w1 none) := hg; clear hg)
  go_ret2
  exact ⟨rfl, G1.out⟩
set_option maxRecDepth 100000 in
set_option maxHeartbeats 1000000 in
theorem take_mark (base b : Nat) (g : Lg) (s r : ByteArray) (p x : Nat) (w : World) (h : IsLog w base b g) (hl : g.recs.length ≤ 1000000) (hU : Un s p (⟨#[109]⟩ ++ r) x 0) (hr : r.size ≤ 1000000) :
    Calls Try.prog 61 #[.pointer (some ⟨b, 0, none⟩), .string s, .int .i64 p] w fun e w' => e = .returned (.tuple #[.int .i64 x, .bool true]) ∧ IsLog w' base b { g with com := g.recs.length, len := x, wait := ⟨#[]⟩, root := r, marked := true } ∧ LT base b w w' := by
  have CU : Hid (∀ W, Calls Try.prog 76 #[.string s, .int .i64 p] W fun e w' => e = .returned (.tuple #[.string (⟨#[109]⟩ ++ r), .int .i64 x, .int .i64 0]) ∧ W.grownBy w' none) := hU
  have CM : Hid (∀ W, w.grownBy W none → Calls Try.prog 44 #[.pointer (some ⟨b, 0, none⟩), .int .i64 x, .string r] W fun e w' => e = .returned (.tuple #[]) ∧ IsLog w' base b { g with com := g.recs.length, len := x, wait := ⟨#[]⟩, root := r, marked := true } ∧ W.grownBy w' (some b)) := fun W hW => mark_any base b g x r W (h.kept hW) hl
  have hb0 : Hid (base ≤ b) := h.1
  have e1 : (⟨#[109]⟩ ++ r : ByteArray).extract 0 1 = ⟨#[109]⟩ := head_of 109 r
  have e2 : (⟨#[109]⟩ ++ r : ByteArray).extract 1 (r.size + 1) = r := tail_of 109 r
  have e3 : (⟨#[109]⟩ ++ r : ByteArray).size = r.size + 1 := by rw [ByteArray.size_append]; show 1 + _ = _; omega
  have t0 : (⟨#[109]⟩ ++ r : ByteArray).toList = 109 :: r.data.toList := by rw [ByteArray.toList_eq]; simp
  generalize hV : (⟨#[109]⟩ ++ r : ByteArray) = V at *
  have i1 : (V.size : Int) = (r.size : Int) + 1 := by omega
  have i2 : (r.size : Int) ≤ 1000000 := by omega
  have t1 : (V.toList == []) = false := by rw [t0]; rfl
  generalize ({ g with com := g.recs.length, len := x, wait := ⟨#[]⟩, root := r, marked := true } : Lg) = g2 at *
  clear hU h hl hV hr
  go_enter Try.func61, Try.ntmps61
  go_wp2_with (first
    | (go_at_call 76; refine (CU.out _).mono ?_; clear CU; rintro e w1 ⟨rfl, hg⟩; have G1 : Hid (w.grownBy w1 none) := hg; clear hg)
    | (go_at_call 44; refine (CM.out _ G1.out).mono ?_; rintro e w2 ⟨rfl, hd, hg⟩; have R2 := hid hd; have T2 := hid (LT.trans (LT.of_none G1.out) (LT.of_self hg hb0.out)); clear hd hg))
  go_ret2
  exact ⟨rfl, R2.out, T2.out⟩
theorem info84 : (Try.prog.info? 84).map (fun i => (i.zero, i.size, i.bytes)) = some (some (.agg #[.int .i64 0, .string ⟨#[]⟩]), 2, 24) := by kernel_rfl
/-- append of a record, as a step of a region that draws. -/
theorem step_rec {ops : Array Oper} {o : Oper} {a : Act} {w : World} {K : Act → World → Prop} {Q : Exit → Act → World → Prop} {E : Prop} (s x : Operand) (hg : o.guard = none) (ho : o.op = Op.call { callee := Callee.builtin Builtin.append, args := #[s, x], argTypes := #[74, 74] }) (base : Nat) (v : Value) (l : List (Nat × ByteArray)) (p : Nat × ByteArray) (ad : Addr) (cc : Nat)
    (hrow : w.ownsRow base 84 2 v l.length (recsL l)) (hcell : ∀ j u, (recL p)[j]? = some u → w.cell? (ad.add j) = some u) (hl : l.length ≤ 1000000) (hbase : base ≤ w.heap.size) (hs : a.eval s = v) (hx : a.eval x = .slice (some ad) 1 cc)
    (hK : ∀ v' w', w'.ownsRow base 84 2 v' (l ++ [p]).length (recsL (l ++ [p])) → w.grownBy w' v.ownBlock → K (a.put o.dst v') w') :
    if Region.wanted o (yielded ops a.tmps) = true then Oper.wp Try.prog o a w K Q else E := by
  have hw : Region.wanted o (yielded ops a.tmps) = true := by simp [Region.wanted, hg]
  rw [if_pos hw]
  obtain ⟨i84, hi, hz0, hz1, hz2⟩ := info_parts info84
  refine wp_append_own w s x 74 ho base 84 i84 _ 2 24 Try.underlying74 hi hz0 hz1 hz2 rfl (by decide) v l.length (recsL l) hs hrow ad 1 cc (recL p) hx rfl hcell (fun u hu => ?_) (by unfold maxLen; omega) (by omega) hbase ?_
  · unfold recL at hu
    simp only [List.mem_cons, List.not_mem_nil, or_false] at hu
    rcases hu with rfl | rfl <;> rfl
  · intro v' w' h2 h3 _
    rw [recsL_snoc] at h2
    exact hK v' w' (by rw [List.length_append]; exact h2) h3
theorem add_at (g o j : Nat) : (⟨g, o, none⟩ : Addr).add j = ⟨g, o + j, none⟩ := by
  by_cases h : j = 0
  · subst h; simp [Addr.add]
  · simp [Addr.add, h]
theorem rec_cells (w : World) (n : Nat) (t : ByteArray) : ∀ j u, (recL (n, t))[j]? = some u → (w.alloc (.cells #[.int .i64 n, .string t] 84)).cell? ((⟨w.heap.size, 0, none⟩ : Addr).add j) = some u := by
  intro j u hj
  have B := Blk.new w 84 #[.int .i64 n, .string t]
  rw [add_at, B.cell, Nat.zero_add]
  match j, hj with
  | 0, h => exact h
  | 1, h => exact h
  | k + 2, h => exact absurd h (by simp [recL])
theorem row_other {w : World} {base e size n b : Nat} {v : Value} {xs : List Value} {t : TypeId} {cs : Array Value} {fz : Nat × Nat} (hr : w.ownsRow base e size v n xs) (hb : w.heap[b]? = some (.cells cs t fz)) (ht : t ≠ e) : some b ≠ v.ownBlock := fun e1 => by
  rcases hr.2 with ⟨rfl, _⟩ | ⟨g, cap, cur, rfl, _, hh, _⟩
  · cases e1
  · have : b = g := Option.some.inj e1
    subst this
    rw [hh] at hb
    injection hb with q
    injection q with q1 q2 q3
    exact ht q2.symm
theorem blk_row {w w' : World} {base e size n b : Nat} {v : Value} {xs : List Value} {t : TypeId} {cs : Array Value} (hb : Blk w b t cs) (hr : w.ownsRow base e size v n xs) (ht : t ≠ e) (hg : w.grownBy w' v.ownBlock) : Blk w' b t cs :=
  hb.kept hg (row_other hr hb ht)
theorem row_row {w w' : World} {base e size n e' size' n' : Nat} {v v' : Value} {xs xs' : List Value} (h : w.ownsRow base e' size' v' n' xs') (hr : w.ownsRow base e size v n xs) (ht : e' ≠ e) (hg : w.grownBy w' v.ownBlock) : w'.ownsRow base e' size' v' n' xs' := by
  refine h.kept hg ?_
  rcases h.2 with ⟨rfl, _⟩ | ⟨g, cap, cur, rfl, _, hh, _⟩
  · exact Or.inl rfl
  · exact Or.inr (row_other hr hh ht)
theorem lt_row {w w' : World} {base e size n b : Nat} {v : Value} {xs : List Value} (hr : w.ownsRow base e size v n xs) (he : e = 84 ∨ e = 5) (hg : w.grownBy w' v.ownBlock) : LT base b w w' :=
  LT.of_grown hg (fun i _ hs e1 => by
    rcases hr.2 with ⟨rfl, _⟩ | ⟨g, cap, cur, rfl, hb, hh, _⟩
    · cases e1
    · have : i = g := Option.some.inj e1
      subst this
      rcases hs with hs | ⟨_, hc⟩
      · omega
      · have := hc cur e (0, 0) hh
        rcases he with rfl | rfl
        · exact this.1 rfl
        · exact this.2 rfl)
set_option maxRecDepth 100000 in
set_option maxHeartbeats 2000000 in
theorem take_rec (base b : Nat) (g : Lg) (s r : ByteArray) (p x : Nat) (w : World) (h : IsLog w base b g) (hl : g.recs.length ≤ 1000000) (hU : Un s p (⟨#[100]⟩ ++ r) x 0) (hr : r.size ≤ 1000000) :
    Calls Try.prog 61 #[.pointer (some ⟨b, 0, none⟩), .string s, .int .i64 p] w fun e w' => e = .returned (.tuple #[.int .i64 x, .bool true]) ∧ IsLog w' base b { g with recs := g.recs ++ [(p, r)] } ∧ LT base b w w' := by
  have CU : Hid (∀ W, Calls Try.prog 76 #[.string s, .int .i64 p] W fun e w' => e = .returned (.tuple #[.string (⟨#[100]⟩ ++ r), .int .i64 x, .int .i64 0]) ∧ W.grownBy w' none) := hU
  have HL : Hid (∀ W, w.grownBy W none → IsLog W base b g) := fun W hW => h.kept hW
  have hb0 : Hid (base ≤ b) := h.1
  have HN : Hid (g.recs.length ≤ 1000000) := hl
  have hbw : Hid (base ≤ w.heap.size) := (by obtain ⟨a, _, _, q, _⟩ := h; have := q.lt; show base ≤ _; omega)
  have e1 : (⟨#[100]⟩ ++ r : ByteArray).extract 0 1 = ⟨#[100]⟩ := head_of 100 r
  have e2 : (⟨#[100]⟩ ++ r : ByteArray).extract 1 (r.size + 1) = r := tail_of 100 r
  have e3 : (⟨#[100]⟩ ++ r : ByteArray).size = r.size + 1 := by rw [ByteArray.size_append]; show 1 + _ = _; omega
  have t0 : (⟨#[100]⟩ ++ r : ByteArray).toList = 100 :: r.data.toList := by rw [ByteArray.toList_eq]; simp
  generalize hV : (⟨#[100]⟩ ++ r : ByteArray) = V at *
  have i1 : (V.size : Int) = (r.size : Int) + 1 := by omega
  have i2 : (r.size : Int) ≤ 1000000 := by omega
  have t1 : (V.toList == []) = false := by rw [t0]; rfl
  have i3 : (1 : Int) ≤ (r.size : Int) + 1 := by omega
  clear hU h hl hV hr
  go_enter Try.func61, Try.ntmps61
  go_wp2_with (go_at_call 76; refine (CU.out _).mono ?_; clear CU; rintro e w1 ⟨rfl, hg⟩; have G1 : Hid (w.grownBy w1 none) := hg; clear hg)
  obtain ⟨_, vr, vw, hb, hrw, hww⟩ := HL.out _ G1.out
  have HB := hid hb
  have HR := hid hrw
  have HW := hid hww
  obtain ⟨⟨c0, c1, c2, c3, c4, c5, c6⟩, f1, _⟩ := hb.g7
  have c1a : (w1.alloc (.cells #[.int .i64 p, .string r] 84)).cell? ⟨b, 1, none⟩ = some vr := (hb.alloc _).cell 1
  have hw1 : base ≤ w1.heap.size := Nat.le_trans hbw.out G1.out.size
  obtain ⟨pr, cr, rfl, _⟩ := row_form hrw
  clear hb hrw hww c0 c2 c3 c4 c5 c6
  go_region_law (first
    | (refine step_rec (.tmp 32) (.tmp 37) rfl rfl base _ g.recs (p, r) ⟨w1.heap.size, 0, none⟩ 1 (HR.out.alloc _) (rec_cells w1 p r) HN.out (by show base ≤ (w1.alloc (.cells #[.int .i64 p, .string r] 84)).heap.size; rw [World.size_alloc]; omega) rfl rfl ?_; intro v2 u2 h2 hg2; have B2 := hid (blk_row (HB.out.alloc (.cells #[.int .i64 p, .string r] 84)).drew (HR.out.alloc (.cells #[.int .i64 p, .string r] 84)).drew (by decide) hg2); have W2 := hid (row_row (HW.out.alloc (.cells #[.int .i64 p, .string r] 84)).drew (HR.out.alloc (.cells #[.int .i64 p, .string r] 84)).drew (by decide) hg2); have R2 := hid h2; have T2 := hid (LT.trans (LT.of_none (grown_drew (grown_alloc G1.out (.cells #[.int .i64 p, .string r] 84)))) (lt_row (b := b) (HR.out.alloc (.cells #[.int .i64 p, .string r] 84)).drew (Or.inl rfl) hg2)); obtain ⟨p2, c9, rfl, _⟩ := row_form h2; have d1 : u2.cell? ⟨b, 1, none⟩ = some (.slice pr g.recs.length cr) := B2.out.cell 1; have d2 := B2.out.frozen 1; clear h2 hg2))
  all_goals (
    go_wp2
    go_ret2
    have hv : (Value.slice p2 (g.recs ++ [(p, r)]).length c9) = .slice p2 (g.recs.length + 1) c9 := by rw [List.length_append]; rfl
    have q := R2.out
    rw [hv] at q
    refine ⟨rfl, ⟨hb0.out, .slice p2 (g.recs.length + 1) c9, vw, B2.out.set 1 _, ?_, ?_⟩, LT.trans T2.out (LT.of_self (grown_set (grown_refl _ _) 1 _) hb0.out)⟩
    · exact rowG_kept q B2.out (by decide) (grown_set (grown_refl _ _) 1 _)
    · exact rowG_kept W2.out B2.out (by decide) (grown_set (grown_refl _ _) 1 _))
end Go.Proofs.Ytddnjlnnkeiplaa
namespace Go.Proofs.Ytddnjlnnkeiplaa
open Go.RowKit Go.Maps
theorem info5 : (Try.prog.info? 5).map (fun i => (i.zero, i.size, i.bytes)) = some (some (.int .u8 0), 1, 1) := by kernel_rfl
/-- append of a text to bytes, as a step of a region that draws. -/
theorem step_text {ops : Array Oper} {o : Oper} {a : Act} {w : World} {K : Act → World → Prop} {Q : Exit → Act → World → Prop} {E : Prop} (s x : Operand) (hg : o.guard = none) (ho : o.op = Op.call { callee := Callee.builtin Builtin.append, args := #[s, x], argTypes := #[75, 9] }) (base : Nat) (v : Value) (l t : ByteArray)
    (hrow : w.ownsRow base 5 1 v l.size (Lib.strCells l)) (hl : l.size + t.size ≤ 100000000) (hbase : base ≤ w.heap.size) (hs : a.eval s = v) (hx : a.eval x = .string t)
    (hK : ∀ v' w', w'.ownsRow base 5 1 v' (l ++ t).size (Lib.strCells (l ++ t)) → w.grownBy w' v.ownBlock → K (a.put o.dst v') w') :
    if Region.wanted o (yielded ops a.tmps) = true then Oper.wp Try.prog o a w K Q else E := by
  have hw : Region.wanted o (yielded ops a.tmps) = true := by simp [Region.wanted, hg]
  rw [if_pos hw]
  obtain ⟨i5, hi, hz0, hz1, hz2⟩ := info_parts info5
  obtain ⟨v', w', hr, h2, h3, _⟩ := Lib.run_append_own_string (P := Try.prog) w base 75 9 o.type 5 i5 Try.underlying75 Try.underlying9 hi hz0 hz1 hz2 v l.size (Lib.strCells l) hrow t (by unfold maxLen; omega) (by omega) hbase
  have e : Lib.strCells l ++ Lib.strCells t = Lib.strCells (l ++ t) := by
    unfold Lib.strCells
    rw [← List.map_append]
    simp
  rw [e, ← ByteArray.size_append] at h2
  unfold Oper.wp execOp
  simp only [ho, resolve, invoke, builtin, Sem.run_bind, Sem.run_pure, Result.andThen_ok, List.map_toArray, List.map_cons, List.map_nil, hs, hx, hr]
  exact hK v' w' h2 h3
section
variable {ops : Array Oper} {rest : List Oper} {o : Oper} {a : Act} {Q : Exit → Act → World → Prop} {w : World}
theorem append_rec (base : Nat) (v : Value) (l : List (Nat × ByteArray)) (p : Nat × ByteArray) (ad : Addr) (cc : Nat) (hrow : w.ownsRow base 84 2 v l.length (recsL l)) (hcell : ∀ j u, (recL p)[j]? = some u → w.cell? (ad.add j) = some u) (hl : l.length ≤ 1000000) (hbase : base ≤ w.heap.size) (s x : Operand)
    (hgd : o.guard = none) (ho : o.op = .call { callee := .builtin .append, args := #[s, x], argTypes := #[74, 74] }) (hs : a.eval s = v) (hx : a.eval x = .slice (some ad) 1 cc)
    (h : ∀ v' w', w'.ownsRow base 84 2 v' (l ++ [p]).length (recsL (l ++ [p])) → w.grownBy w' v.ownBlock → wpList Try.prog ops Q rest (a.put o.dst v') w') : wpList Try.prog ops Q (o :: rest) a w := by
  obtain ⟨i84, hi, hz0, hz1, hz2⟩ := info_parts info84
  refine wpList_append_own w hgd s x 74 ho base 84 i84 _ 2 24 Try.underlying74 hi hz0 hz1 hz2 rfl (by decide) v l.length (recsL l) hs hrow ad 1 cc (recL p) hx rfl hcell (fun u hu => ?_) (by unfold maxLen; omega) (by omega) hbase ?_
  · unfold recL at hu
    simp only [List.mem_cons, List.not_mem_nil, or_false] at hu
    rcases hu with rfl | rfl <;> rfl
  · intro v' w' h2 h3 _
    rw [recsL_snoc] at h2
    exact h v' w' (by rw [List.length_append]; exact h2) h3
end
theorem row_none {w w' : World} {base e size n : Nat} {v : Value} {xs : List Value} (h : w.ownsRow base e size v n xs) (hg : w.grownBy w' none) : w'.ownsRow base e size v n xs := by
  refine h.kept hg ?_
  cases v.ownBlock with
  | none => exact Or.inl rfl
  | some x => exact Or.inr (by simp)
set_option maxRecDepth 100000 in
set_option maxHeartbeats 4000000 in
theorem lappend_any (base b : Nat) (g : Lg) (s : ByteArray) (w : World) (h : IsLog w base b g) (hl : g.recs.length ≤ 100000) (hw : g.wait.size ≤ 10000000) (hn : g.len ≤ 1000000000) (hs : s.size ≤ 3900) :
    Calls Try.prog 22 #[.pointer (some ⟨b, 0, none⟩), .string s] w fun e w' => e = .returned (.tuple #[.int .i64 (g.len + g.wait.size : Nat), .int .i64 0]) ∧ IsLog w' base b { g with recs := g.recs ++ [(g.len + g.wait.size, s)], wait := g.wait ++ Wi.frmS (⟨#[100]⟩ ++ s) } ∧ LT base b w w' := by
  have hsz : (⟨#[100]⟩ ++ s : ByteArray).size ≤ 4000 := by rw [ByteArray.size_append]; show 1 + _ ≤ _; omega
  have CF : Hid (∀ W, Calls Try.prog 50 #[.string (⟨#[100]⟩ ++ s)] W fun e w' => e = .returned (.string (Wi.frmS (⟨#[100]⟩ ++ s))) ∧ W.grownBy w' none) := fun W => Wi.frame_any _ W hsz
  have hfs : (Wi.frmS (⟨#[100]⟩ ++ s)).size ≤ 5000 := by rw [Wi.frmS_size]; omega
  obtain ⟨h0, vr, vw, hb, hr, hww⟩ := h
  obtain ⟨⟨c0, c1, c2, c3, c4, c5, c6⟩, f1, f2, f3, f4, f5, f6⟩ := hb.g7
  have hbw : base ≤ w.heap.size := Nat.le_trans h0 (Nat.le_of_lt hb.lt)
  obtain ⟨pr, cr, rfl, _⟩ := row_form hr
  obtain ⟨pw, cw, rfl, _⟩ := row_form hww
  have HB := hid hb
  have HR := hid hr
  have HW := hid hww
  have i1 : (g.wait.size : Int) ≤ 10000000 := by omega
  have i2 : (g.len : Int) ≤ 1000000000 := by omega
  have i3 : (s.size : Int) ≤ 3900 := by omega
  have i4 : ¬ (1048576 : Int) < s.size := by omega
  have i5 : ¬ 9223372036854775807 < 1 + s.size := by omega
  have iw : IntKind.i64.wrap ((g.len : Int) + (g.wait.size : Int)) = ((g.len + g.wait.size : Nat) : Int) := by rw [IntKind.wrap_i64]; omega
  have HN : Hid (g.recs.length ≤ 1000000) := (by show _ ≤ _; omega)
  have HZ : Hid (g.wait.size + (Wi.frmS (⟨#[100]⟩ ++ s)).size ≤ 100000000) := (by show _ ≤ _; omega)
  clear hb hr hww hl hw hn hs hsz hfs
  generalize Wi.frmS (⟨#[100]⟩ ++ s) = F at *
  generalize hat : g.len + g.wait.size = at_ at *
  go_enter Try.func22, Try.ntmps22
  go_wp2_with fail
  go_quiet (fail)
  obtain ⟨w1, hw1⟩ : ∃ w1, w1 = w.drewN nq := ⟨_, rfl⟩
  rw [← hw1]
  have G1 : Hid (w.grownBy w1 none) := (by rw [hw1]; exact grown_drewN (grown_refl _ _) _)
  have B1 : Hid (Blk w1 b 77 (rowG g.d (.slice pr g.recs.length cr) (.slice pw g.wait.size cw) g.com g.len g.root g.marked)) := HB.out.kept G1.out (by simp)
  have R1 : Hid (w1.ownsRow base 84 2 (.slice pr g.recs.length cr) g.recs.length (recsL g.recs)) := (by rw [hw1]; exact HR.out)
  have W1 : Hid (w1.ownsRow base 5 1 (.slice pw g.wait.size cw) g.wait.size (Lib.strCells g.wait)) := (by rw [hw1]; exact HW.out)
  have hb1 : base ≤ w1.heap.size := Nat.le_trans hbw G1.out.size
  clear hw1 c0 c1 c2 c3 c4 c5 c6 f1 f2 f3 f4 f5 f6 HB HR HW iw
  obtain ⟨⟨c0, c1, c2, c3, c4, c5, c6⟩, f1, f2, f3, f4, f5, f6⟩ := B1.out.g7
  go_wp2_with (at_builtin; refine append_rec base _ g.recs (at_, s) ⟨w1.heap.size, 0, none⟩ 1 (R1.out.alloc _) (rec_cells w1 at_ s) HN.out (by rw [World.size_alloc]; omega) _ _ rfl rfl rfl rfl ?_; intro v2 u2 h2 hg2; have B2 := hid (blk_row (B1.out.alloc (.cells #[.int .i64 at_, .string s] 84)) (R1.out.alloc (.cells #[.int .i64 at_, .string s] 84)) (by decide) hg2); have W2 := hid (row_row (W1.out.alloc (.cells #[.int .i64 at_, .string s] 84)) (R1.out.alloc (.cells #[.int .i64 at_, .string s] 84)) (by decide) hg2); have R2 := hid h2; have T2 := hid (LT.trans (LT.of_none (grown_alloc G1.out (.cells #[.int .i64 at_, .string s] 84))) (lt_row (b := b) (R1.out.alloc (.cells #[.int .i64 at_, .string s] 84)) (Or.inl rfl) hg2)); obtain ⟨p2, c9, rfl, _⟩ := row_form h2; clear c0 c1 c2 c3 c4 c5 c6 f1 f2 f3 f4 f5 f6; obtain ⟨⟨c0, c1, c2, c3, c4, c5, c6⟩, f1, f2, f3, f4, f5, f6⟩ := B2.out.g7; clear h2 hg2)
  have hv : (Value.slice p2 (g.recs ++ [(at_, s)]).length c9) = .slice p2 (g.recs.length + 1) c9 := by rw [List.length_append]; rfl
  have q := R2.out
  rw [hv] at q
  have GS : u2.grownBy (u2.setCell ⟨b, 1, none⟩ (.slice p2 (g.recs.length + 1) c9)) (some b) := grown_set (grown_refl _ _) 1 _
  have B3 : Hid (Blk (u2.setCell ⟨b, 1, none⟩ (.slice p2 (g.recs.length + 1) c9)) b 77 (rowG g.d (.slice p2 (g.recs.length + 1) c9) (.slice pw g.wait.size cw) g.com g.len g.root g.marked)) := B2.out.set 1 _
  have R3 := hid (rowG_kept q B2.out (by decide) GS)
  have W3 := hid (rowG_kept W2.out B2.out (by decide) GS)
  have T3 := hid (LT.trans T2.out (LT.of_self GS h0))
  have hb3 : base ≤ (u2.setCell ⟨b, 1, none⟩ (.slice p2 (g.recs.length + 1) c9)).heap.size := Nat.le_trans hbw T3.out.size
  clear c0 c1 c2 c3 c4 c5 c6 f1 f2 f3 f4 f5 f6 B1 B2 R1 R2 W1 W2 T2 G1 q GS hv
  generalize u2.setCell ⟨b, 1, none⟩ (.slice p2 (g.recs.length + 1) c9) = w3 at *
  obtain ⟨⟨c0, c1, c2, c3, c4, c5, c6⟩, f1, f2, f3, f4, f5, f6⟩ := B3.out.g7
  clear c0 c1 c2 c3 c5 c6 f1 f2 f3 f5 f6
  go_region_law (first
    | (go_simp; go_at_call 50; refine (CF.out _).mono ?_; rintro e w4 ⟨rfl, hg4⟩; have B4 := hid (B3.out.drew.kept hg4 (by simp)); have G4 : Hid (w3.grownBy w4 none) := grown_trans (grown_drew (grown_refl _ _)) hg4; have W4 := hid (row_none W3.out G4.out); have R4 := hid (row_none R3.out G4.out); have e4 : w4.cell? ⟨b, 4, none⟩ = some (.slice pw g.wait.size cw) := B4.out.cell 4; have e5 := B4.out.frozen 4; have hb4 : base ≤ w4.heap.size := Nat.le_trans hb3 G4.out.size; clear hg4)
    | (refine step_text (.tmp 38) (.tmp 41) rfl rfl base _ g.wait F W4.out HZ.out hb4 rfl rfl ?_; intro v5 u5 h5 hg5; have B5 := hid (blk_row B4.out W4.out (by decide) hg5); have R5 := hid (row_row R4.out W4.out (by decide) hg5); have T5 := hid (LT.trans T3.out (LT.trans (LT.of_none G4.out) (lt_row (b := b) W4.out (Or.inr rfl) hg5))); have W5 := hid h5; obtain ⟨p5, k5, rfl, _⟩ := row_form h5; have d4 : u5.cell? ⟨b, 4, none⟩ = some (.slice pw g.wait.size cw) := B5.out.cell 4; have d5 := B5.out.frozen 4; clear h5 hg5))
  all_goals (
    go_wp2
    go_ret2
    have hv : (Value.slice p5 (g.wait ++ F).size k5) = .slice p5 (g.wait.size + F.size) k5 := by rw [ByteArray.size_append]
    have q := W5.out
    rw [hv] at q
    refine ⟨rfl, ⟨h0, .slice p2 (g.recs.length + 1) c9, .slice p5 (g.wait.size + F.size) k5, B5.out.set 4 _, ?_, ?_⟩, LT.trans T5.out (LT.of_self (grown_set (grown_refl _ _) 4 _) h0)⟩
    · exact rowG_kept R5.out B5.out (by decide) (grown_set (grown_refl _ _) 4 _)
    · exact rowG_kept q B5.out (by decide) (grown_set (grown_refl _ _) 4 _))
end Go.Proofs.Ytddnjlnnkeiplaa
