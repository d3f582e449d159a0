/-
  A log of the program, in memory; mark, Root, Len, Waits, and Drop where nothing waits among the records. take: a frame that is not right; a record; a marker.
-/
import Derived.Test.YtbhmmcelndmijaaGreatKMore
import Derived.Test.YtbhmmcelndmijaaGreatKPWUnEq
import Derived.Deep.QuietTactic
import Derived.BigQuiet
import Derived.Deep.RegionLaw
namespace Go.Proofs.YtbhmmcelndmijaaGreat
open Go.RowKit Go.Maps
theorem hid {p : Prop} (h : p) : Hid p := h
structure Lg where
  d : Nat
  recs : List (Nat × ByteArray)
  com : Nat
  len : Nat
  wait : ByteArray
  root : ByteArray
  marked : Bool
def recL (p : Nat × ByteArray) : List Value := [.int .i64 p.1, .string p.2]
def recsL (l : List (Nat × ByteArray)) : List Value := l.flatMap recL
theorem recsL_len (l : List (Nat × ByteArray)) : (recsL l).length = l.length * 2 := by
  induction l with
  | nil => rfl
  | cons p r ih =>
    unfold recsL at ih ⊢
    rw [List.flatMap_cons, List.length_append, ih, List.length_cons]
    show 2 + _ = _
    omega
theorem recsL_snoc (l : List (Nat × ByteArray)) (p : Nat × ByteArray) : recsL l ++ recL p = recsL (l ++ [p]) := by
  unfold recsL
  rw [List.flatMap_append, List.flatMap_cons, List.flatMap_nil, List.append_nil]
def rowG (d : Nat) (vr vw : Value) (com len : Nat) (root : ByteArray) (marked : Bool) : Array Value := #[.pointer (some ⟨d, 0, none⟩), vr, .int .i64 com, .int .i64 len, vw, .string root, .bool marked]
/-- Block b is a log of this state; its rows lie from base on. -/
def IsLog (w : World) (base b : Nat) (g : Lg) : Prop :=
  base ≤ b ∧ ∃ vr vw, Blk w b 87 (rowG g.d vr vw g.com g.len g.root g.marked) ∧ w.ownsRow base 111 2 vr g.recs.length (recsL g.recs) ∧ w.ownsRow base 5 1 vw g.wait.size (Lib.strCells g.wait)
/-- What a log's calls may turn: its block, its rows. -/
structure LT (base b : Nat) (w w' : World) : Prop where
  os : w'.os = w.os
  tape : w'.tape = w.tape
  output : w'.output = w.output
  size : w.heap.size ≤ w'.heap.size
  keep : ∀ i, i < w.heap.size → (i < base ∨ (i ≠ b ∧ ∀ cs t fz, w.heap[i]? = some (.cells cs t fz) → t ≠ 111 ∧ t ≠ 5)) → w'.heap[i]? = w.heap[i]?
theorem LT.of_grown {base b : Nat} {w w' : World} {row : Option Nat} (h : w.grownBy w' row) (hr : ∀ i, i < w.heap.size → (i < base ∨ (i ≠ b ∧ ∀ cs t fz, w.heap[i]? = some (.cells cs t fz) → t ≠ 111 ∧ t ≠ 5)) → some i ≠ row) : LT base b w w' :=
  ⟨h.os, h.tape, h.output, h.size, fun i hi hs => h.block i hi (hr i hi hs)⟩
theorem LT.of_none {base b : Nat} {w w' : World} (h : w.grownBy w' none) : LT base b w w' := LT.of_grown h (fun _ _ _ => by simp)
theorem LT.of_self {base b : Nat} {w w' : World} (h : w.grownBy w' (some b)) (hb : base ≤ b) : LT base b w w' := LT.of_grown h (fun i _ hs e => by
  have e' := Option.some.inj e
  rcases hs with hs | ⟨hn, _⟩
  · omega
  · exact hn e')
theorem LT.refl (base b : Nat) (w : World) : LT base b w w := LT.of_none (grown_refl _ _)
theorem LT.trans {base b : Nat} {w w' w'' : World} (h : LT base b w w') (k : LT base b w' w'') : LT base b w w'' :=
  ⟨k.os.trans h.os, k.tape.trans h.tape, k.output.trans h.output, Nat.le_trans h.size k.size, fun i hi hs => by
    have e := h.keep i hi hs
    refine (k.keep i (Nat.lt_of_lt_of_le hi h.size) ?_).trans e
    rcases hs with hs | ⟨hn, hc⟩
    · exact Or.inl hs
    · exact Or.inr ⟨hn, fun cs t fz hq => hc cs t fz (by rw [← e]; exact hq)⟩⟩
theorem LT.grown {b : Nat} {w w' w'' : World} (h0 : w.grownBy w' none) (h : LT w.heap.size b w' w'') : w.grownBy w'' none :=
  ⟨h.os.trans h0.os, h.tape.trans h0.tape, h.output.trans h0.output, Nat.le_trans h0.size h.size, fun i hi _ => (h.keep i (Nat.lt_of_lt_of_le hi h0.size) (Or.inl hi)).trans (h0.block i hi (by simp))⟩
theorem rowG_kept {w w' : World} {base e size n b : Nat} {v : Value} {xs : List Value} {t : TypeId} {cs : Array Value} (h : w.ownsRow base e size v n xs) (hb : Blk w b t cs) (ht : t ≠ e) (hg : w.grownBy w' (some b)) : w'.ownsRow base e size v n xs := by
  refine h.kept hg ?_
  cases hq : v.ownBlock with
  | none => exact Or.inl rfl
  | some g =>
    refine Or.inr (fun e1 => ?_)
    have e' : g = b := Option.some.inj e1
    subst e'
    rcases h.2 with ⟨rfl, _⟩ | ⟨g', cap, cur, rfl, _, hh, _⟩
    · cases hq
    · have : g' = g := Option.some.inj hq
      subst this
      have hB' : w.heap[g']? = some (.cells cs t (0, 0)) := hb
      rw [hh] at hB'
      injection hB' with q
      injection q with q1 q2 q3
      exact ht q2.symm
theorem IsLog.kept {w w' : World} {base b : Nat} {g : Lg} (h : IsLog w base b g) (hg : w.grownBy w' none) : IsLog w' base b g := by
  obtain ⟨h0, vr, vw, hb, hr, hw⟩ := h
  refine ⟨h0, vr, vw, hb.kept hg (by simp), hr.kept hg ?_, hw.kept hg ?_⟩
  · cases vr.ownBlock with
    | none => exact Or.inl rfl
    | some x => exact Or.inr (by simp)
  · cases vw.ownBlock with
    | none => exact Or.inl rfl
    | some x => exact Or.inr (by simp)
theorem IsLog.drew {w : World} {base b : Nat} {g : Lg} (h : IsLog w base b g) : IsLog w.drew base b g := h
theorem Blk.g7 {w : World} {b d com len : Nat} {vr vw : Value} {root : ByteArray} {mk : Bool} (h : Blk w b 87 (rowG d vr vw com len root mk)) : (w.cell? ⟨b, 0, none⟩ = some (.pointer (some ⟨d, 0, none⟩)) ∧ w.cell? ⟨b, 1, none⟩ = some vr ∧ w.cell? ⟨b, 2, none⟩ = some (.int .i64 com) ∧ w.cell? ⟨b, 3, none⟩ = some (.int .i64 len) ∧ w.cell? ⟨b, 4, none⟩ = some vw ∧ w.cell? ⟨b, 5, none⟩ = some (.string root) ∧ w.cell? ⟨b, 6, none⟩ = some (.bool mk)) ∧ w.frozen? ⟨b, 1, none⟩ = false ∧ w.frozen? ⟨b, 2, none⟩ = false ∧ w.frozen? ⟨b, 3, none⟩ = false ∧ w.frozen? ⟨b, 4, none⟩ = false ∧ w.frozen? ⟨b, 5, none⟩ = false ∧ w.frozen? ⟨b, 6, none⟩ = false :=
  ⟨⟨h.cell 0, h.cell 1, h.cell 2, h.cell 3, h.cell 4, h.cell 5, h.cell 6⟩, h.frozen 1, h.frozen 2, h.frozen 3, h.frozen 4, h.frozen 5, h.frozen 6⟩
theorem row_form {w : World} {base e size n : Nat} {v : Value} {xs : List Value} (h : w.ownsRow base e size v n xs) : ∃ pa cap, v = .slice pa n cap ∧ n ≤ cap ∧ cap ≤ maxLen ∧ (pa = none → cap = 0) := by
  rcases h.2 with ⟨rfl, rfl⟩ | ⟨g, cap, cur, rfl, _, _, hc, hm, _⟩
  · exact ⟨none, 0, rfl, Nat.le_refl _, Nat.zero_le _, fun _ => rfl⟩
  · exact ⟨_, cap, rfl, hc, hm, fun e => by cases e⟩
set_option maxRecDepth 100000 in
set_option maxHeartbeats 1000000 in
theorem mark_any (base b : Nat) (g : Lg) (n : Nat) (r : ByteArray) (w : World) (h : IsLog w base b g) (hl : g.recs.length ≤ 1000000) :
    Calls Tryz.prog 88 #[.pointer (some ⟨b, 0, none⟩), .int .i64 n, .string r] w fun e w' => e = .returned (.tuple #[]) ∧ IsLog w' base b { g with com := g.recs.length, len := n, wait := ⟨#[]⟩, root := r, marked := true } ∧ w.grownBy w' (some b) := by
  obtain ⟨h0, vr, vw, hb, hr, hw⟩ := h
  obtain ⟨pr, cr, rfl, _⟩ := row_form hr
  obtain ⟨pw, cw, rfl, _⟩ := row_form hw
  have R1 : Hid (IsLog (((((w.setCell ⟨b, 2, none⟩ (.int .i64 g.recs.length)).setCell ⟨b, 3, none⟩ (.int .i64 n)).setCell ⟨b, 4, none⟩ (.slice none 0 0)).setCell ⟨b, 5, none⟩ (.string r)).setCell ⟨b, 6, none⟩ (.bool true)) base b { g with com := g.recs.length, len := n, wait := ⟨#[]⟩, root := r, marked := true } ∧ w.grownBy (((((w.setCell ⟨b, 2, none⟩ (.int .i64 g.recs.length)).setCell ⟨b, 3, none⟩ (.int .i64 n)).setCell ⟨b, 4, none⟩ (.slice none 0 0)).setCell ⟨b, 5, none⟩ (.string r)).setCell ⟨b, 6, none⟩ (.bool true)) (some b)) := by
    have GF := grown_set (grown_set (grown_set (grown_set (grown_set (grown_refl w (some b)) 2 (.int .i64 g.recs.length)) 3 (.int .i64 n)) 4 (.slice none 0 0)) 5 (.string r)) 6 (.bool true)
    refine ⟨⟨h0, .slice pr g.recs.length cr, .slice none 0 0, ?_, rowG_kept hr hb (by decide) GF, ⟨rfl, Or.inl ⟨rfl, rfl⟩⟩⟩, GF⟩
    exact ((((hb.set 2 (.int .i64 g.recs.length)).set 3 (.int .i64 n)).set 4 (.slice none 0 0)).set 5 (.string r)).set 6 (.bool true)
  have hll : (g.recs.length : Int) ≤ 1000000 := by omega
  obtain ⟨⟨c0, c1, c2, c3, c4, c5, c6⟩, f1, f2, f3, f4, f5, f6⟩ := hb.g7
  clear hb hr hw
  generalize g.recs.length = L at *
  go_enter Tryz.func88, Tryz.ntmps88
  go_wp2
  first
  | exact bodyPost_end (results_none rfl _ _ _) rfl ⟨rfl, R1.out.1, R1.out.2⟩
  | exact bodyPost_ret (results_none rfl _ _ _) rfl ⟨rfl, R1.out.1, R1.out.2⟩
end Go.Proofs.YtbhmmcelndmijaaGreat
namespace Go.Proofs.YtbhmmcelndmijaaGreat
open Go.RowKit Go.Maps
theorem head_of (c : UInt8) (r : ByteArray) : (⟨#[c]⟩ ++ r : ByteArray).extract 0 1 = ⟨#[c]⟩ := by
  apply bytes_ext
  rw [ByteArray.data_extract, ByteArray.data_append, Array.toList_extract, Array.toList_append]
  simp
theorem tail_of (c : UInt8) (r : ByteArray) : (⟨#[c]⟩ ++ r : ByteArray).extract 1 (r.size + 1) = r := by
  apply bytes_ext
  rw [ByteArray.data_extract, ByteArray.data_append, Array.toList_extract, Array.toList_append]
  simp
  exact List.take_of_length_le (by rw [Array.length_toList]; exact Nat.le_refl _)
/-- What Unframe answers at a place. -/
def Un (s : ByteArray) (p : Nat) (V : ByteArray) (x y : Nat) : Prop := ∀ W, Calls Tryz.prog 87 #[.string s, .int .i64 p] W fun e w' => e = .returned (.tuple #[.string V, .int .i64 x, .int .i64 y]) ∧ W.grownBy w' none
set_option maxRecDepth 100000 in
set_option maxHeartbeats 1000000 in
theorem take_bad (q : Value) (s V : ByteArray) (p x y : Nat) (w : World) (hU : Un s p V x y) (hy : y ≠ 0) :
    Calls Tryz.prog 61 #[q, .string s, .int .i64 p] w fun e w' => e = .returned (.tuple #[.int .i64 0, .bool false]) ∧ w.grownBy w' none := by
  have CU : Hid (∀ W, Calls Tryz.prog 87 #[.string s, .int .i64 p] W fun e w' => e = .returned (.tuple #[.string V, .int .i64 x, .int .i64 y]) ∧ W.grownBy w' none) := hU
  have h1 : ((y : Int) == 0) = false := by simp; exact hy
  have h2 : ((y : Int) != 0) = true := by simp; exact hy
  clear hU hy
  go_enter Tryz.func61, Tryz.ntmps61
  go_wp2_with (go_at_call 87; refine (CU.out _).mono ?_; clear CU; rintro e w1 ⟨rfl, hg⟩; have G1 : Hid (w.grownBy w1 none) := hg; clear hg)
  go_ret2
  exact ⟨rfl, G1.out⟩
set_option maxRecDepth 100000 in
set_option maxHeartbeats 1000000 in
theorem take_mark (base b : Nat) (g : Lg) (s r : ByteArray) (p x : Nat) (w : World) (h : IsLog w base b g) (hl : g.recs.length ≤ 1000000) (hU : Un s p (⟨#[109]⟩ ++ r) x 0) (hr : r.size ≤ 1000000) :
    Calls Tryz.prog 61 #[.pointer (some ⟨b, 0, none⟩), .string s, .int .i64 p] w fun e w' => e = .returned (.tuple #[.int .i64 x, .bool true]) ∧ IsLog w' base b { g with com := g.recs.length, len := x, wait := ⟨#[]⟩, root := r, marked := true } ∧ LT base b w w' := by
  have CU : Hid (∀ W, Calls Tryz.prog 87 #[.string s, .int .i64 p] W fun e w' => e = .returned (.tuple #[.string (⟨#[109]⟩ ++ r), .int .i64 x, .int .i64 0]) ∧ W.grownBy w' none) := hU
  have CM : Hid (∀ W, w.grownBy W none → Calls Tryz.prog 88 #[.pointer (some ⟨b, 0, none⟩), .int .i64 x, .string r] W fun e w' => e = .returned (.tuple #[]) ∧ IsLog w' base b { g with com := g.recs.length, len := x, wait := ⟨#[]⟩, root := r, marked := true } ∧ W.grownBy w' (some b)) := fun W hW => mark_any base b g x r W (h.kept hW) hl
  have hb0 : Hid (base ≤ b) := h.1
  have e1 : (⟨#[109]⟩ ++ r : ByteArray).extract 0 1 = ⟨#[109]⟩ := head_of 109 r
  have e2 : (⟨#[109]⟩ ++ r : ByteArray).extract 1 (r.size + 1) = r := tail_of 109 r
  have e3 : (⟨#[109]⟩ ++ r : ByteArray).size = r.size + 1 := by rw [ByteArray.size_append]; show 1 + _ = _; omega
  have t0 : (⟨#[109]⟩ ++ r : ByteArray).toList = 109 :: r.data.toList := by rw [ByteArray.toList_eq]; simp
  generalize hV : (⟨#[109]⟩ ++ r : ByteArray) = V at *
  have i1 : (V.size : Int) = (r.size : Int) + 1 := by omega
  have i2 : (r.size : Int) ≤ 1000000 := by omega
  have t1 : (V.toList == []) = false := by rw [t0]; rfl
  generalize ({ g with com := g.recs.length, len := x, wait := ⟨#[]⟩, root := r, marked := true } : Lg) = g2 at *
  clear hU h hl hV hr
  go_enter Tryz.func61, Tryz.ntmps61
  go_wp2_with (first
    | (go_at_call 87; refine (CU.out _).mono ?_; clear CU; rintro e w1 ⟨rfl, hg⟩; have G1 : Hid (w.grownBy w1 none) := hg; clear hg)
    | (go_at_call 88; refine (CM.out _ G1.out).mono ?_; rintro e w2 ⟨rfl, hd, hg⟩; have R2 := hid hd; have T2 := hid (LT.trans (LT.of_none G1.out) (LT.of_self hg hb0.out)); clear hd hg))
  go_ret2
  exact ⟨rfl, R2.out, T2.out⟩
theorem info84 : (Tryz.prog.info? 111).map (fun i => (i.zero, i.size, i.bytes)) = some (some (.agg #[.int .i64 0, .string ⟨#[]⟩]), 2, 24) := by kernel_rfl
/-- append of a record, as a step of a region that draws. -/
theorem step_rec {ops : Array Oper} {o : Oper} {a : Act} {w : World} {K : Act → World → Prop} {Q : Exit → Act → World → Prop} {E : Prop} (s x : Operand) (hg : o.guard = none) (ho : o.op = Op.call { callee := Callee.builtin Builtin.append, args := #[s, x], argTypes := #[84, 84] }) (base : Nat) (v : Value) (l : List (Nat × ByteArray)) (p : Nat × ByteArray) (ad : Addr) (cc : Nat)
    (hrow : w.ownsRow base 111 2 v l.length (recsL l)) (hcell : ∀ j u, (recL p)[j]? = some u → w.cell? (ad.add j) = some u) (hl : l.length ≤ 1000000) (hbase : base ≤ w.heap.size) (hs : a.eval s = v) (hx : a.eval x = .slice (some ad) 1 cc)
    (hK : ∀ v' w', w'.ownsRow base 111 2 v' (l ++ [p]).length (recsL (l ++ [p])) → w.grownBy w' v.ownBlock → K (a.put o.dst v') w') :
    if Region.wanted o (yielded ops a.tmps) = true then Oper.wp Tryz.prog o a w K Q else E := by
  have hw : Region.wanted o (yielded ops a.tmps) = true := by simp [Region.wanted, hg]
  rw [if_pos hw]
  obtain ⟨i84, hi, hz0, hz1, hz2⟩ := info_parts info84
  refine wp_append_own w s x 84 ho base 111 i84 _ 2 24 Tryz.underlying84 hi hz0 hz1 hz2 rfl (by decide) v l.length (recsL l) hs hrow ad 1 cc (recL p) hx rfl hcell (fun u hu => ?_) (by unfold maxLen; omega) (by omega) hbase ?_
  · unfold recL at hu
    simp only [List.mem_cons, List.not_mem_nil, or_false] at hu
    rcases hu with rfl | rfl <;> rfl
  · intro v' w' h2 h3 _
    rw [recsL_snoc] at h2
    exact hK v' w' (by rw [List.length_append]; exact h2) h3
theorem add_at (g o j : Nat) : (⟨g, o, none⟩ : Addr).add j = ⟨g, o + j, none⟩ := by
  by_cases h : j = 0
  · subst h; simp [Addr.add]
  · simp [Addr.add, h]
theorem rec_cells (w : World) (n : Nat) (t : ByteArray) : ∀ j u, (recL (n, t))[j]? = some u → (w.alloc (.cells #[.int .i64 n, .string t] 111)).cell? ((⟨w.heap.size, 0, none⟩ : Addr).add j) = some u := by
  intro j u hj
  have B := Blk.new w 111 #[.int .i64 n, .string t]
  rw [add_at, B.cell, Nat.zero_add]
  match j, hj with
  | 0, h => exact h
  | 1, h => exact h
  | k + 2, h => exact absurd h (by simp [recL])
theorem row_other {w : World} {base e size n b : Nat} {v : Value} {xs : List Value} {t : TypeId} {cs : Array Value} {fz : Nat × Nat} (hr : w.ownsRow base e size v n xs) (hb : w.heap[b]? = some (.cells cs t fz)) (ht : t ≠ e) : some b ≠ v.ownBlock := fun e1 => by
  rcases hr.2 with ⟨rfl, _⟩ | ⟨g, cap, cur, rfl, _, hh, _⟩
  · cases e1
  · have : b = g := Option.some.inj e1
    subst this
    rw [hh] at hb
    injection hb with q
    injection q with q1 q2 q3
    exact ht q2.symm
theorem blk_row {w w' : World} {base e size n b : Nat} {v : Value} {xs : List Value} {t : TypeId} {cs : Array Value} (hb : Blk w b t cs) (hr : w.ownsRow base e size v n xs) (ht : t ≠ e) (hg : w.grownBy w' v.ownBlock) : Blk w' b t cs :=
  hb.kept hg (row_other hr hb ht)
theorem row_row {w w' : World} {base e size n e' size' n' : Nat} {v v' : Value} {xs xs' : List Value} (h : w.ownsRow base e' size' v' n' xs') (hr : w.ownsRow base e size v n xs) (ht : e' ≠ e) (hg : w.grownBy w' v.ownBlock) : w'.ownsRow base e' size' v' n' xs' := by
  refine h.kept hg ?_
  rcases h.2 with ⟨rfl, _⟩ | ⟨g, cap, cur, rfl, _, hh, _⟩
  · exact Or.inl rfl
  · exact Or.inr (row_other hr hh ht)
theorem lt_row {w w' : World} {base e size n b : Nat} {v : Value} {xs : List Value} (hr : w.ownsRow base e size v n xs) (he : e = 111 ∨ e = 5) (hg : w.grownBy w' v.ownBlock) : LT base b w w' :=
  LT.of_grown hg (fun i _ hs e1 => by
    rcases hr.2 with ⟨rfl, _⟩ | ⟨g, cap, cur, rfl, hb, hh, _⟩
    · cases e1
    · have : i = g := Option.some.inj e1
      subst this
      rcases hs with hs | ⟨_, hc⟩
      · omega
      · have := hc cur e (0, 0) hh
        rcases he with rfl | rfl
        · exact this.1 rfl
        · exact this.2 rfl)
set_option maxRecDepth 100000 in
set_option maxHeartbeats 2000000 in
theorem take_rec (base b : Nat) (g : Lg) (s r : ByteArray) (p x : Nat) (w : World) (h : IsLog w base b g) (hl : g.recs.length ≤ 1000000) (hU : Un s p (⟨#[100]⟩ ++ r) x 0) (hr : r.size ≤ 1000000) :
    Calls Tryz.prog 61 #[.pointer (some ⟨b, 0, none⟩), .string s, .int .i64 p] w fun e w' => e = .returned (.tuple #[.int .i64 x, .bool true]) ∧ IsLog w' base b { g with recs := g.recs ++ [(p, r)] } ∧ LT base b w w' := by
  have CU : Hid (∀ W, Calls Tryz.prog 87 #[.string s, .int .i64 p] W fun e w' => e = .returned (.tuple #[.string (⟨#[100]⟩ ++ r), .int .i64 x, .int .i64 0]) ∧ W.grownBy w' none) := hU
  have HL : Hid (∀ W, w.grownBy W none → IsLog W base b g) := fun W hW => h.kept hW
  have hb0 : Hid (base ≤ b) := h.1
  have HN : Hid (g.recs.length ≤ 1000000) := hl
  have hbw : Hid (base ≤ w.heap.size) := (by obtain ⟨a, _, _, q, _⟩ := h; have := q.lt; show base ≤ _; omega)
  have e1 : (⟨#[100]⟩ ++ r : ByteArray).extract 0 1 = ⟨#[100]⟩ := head_of 100 r
  have e2 : (⟨#[100]⟩ ++ r : ByteArray).extract 1 (r.size + 1) = r := tail_of 100 r
  have e3 : (⟨#[100]⟩ ++ r : ByteArray).size = r.size + 1 := by rw [ByteArray.size_append]; show 1 + _ = _; omega
  have t0 : (⟨#[100]⟩ ++ r : ByteArray).toList = 100 :: r.data.toList := by rw [ByteArray.toList_eq]; simp
  generalize hV : (⟨#[100]⟩ ++ r : ByteArray) = V at *
  have i1 : (V.size : Int) = (r.size : Int) + 1 := by omega
  have i2 : (r.size : Int) ≤ 1000000 := by omega
  have t1 : (V.toList == []) = false := by rw [t0]; rfl
  have i3 : (1 : Int) ≤ (r.size : Int) + 1 := by omega
  clear hU h hl hV hr
  go_enter Tryz.func61, Tryz.ntmps61
  go_wp2_with (go_at_call 87; refine (CU.out _).mono ?_; clear CU; rintro e w1 ⟨rfl, hg⟩; have G1 : Hid (w.grownBy w1 none) := hg; clear hg)
  obtain ⟨_, vr, vw, hb, hrw, hww⟩ := HL.out _ G1.out
  have HB := hid hb
  have HR := hid hrw
  have HW := hid hww
  obtain ⟨⟨c0, c1, c2, c3, c4, c5, c6⟩, f1, _⟩ := hb.g7
  have c1a : (w1.alloc (.cells #[.int .i64 p, .string r] 111)).cell? ⟨b, 1, none⟩ = some vr := (hb.alloc _).cell 1
  have hw1 : base ≤ w1.heap.size := Nat.le_trans hbw.out G1.out.size
  obtain ⟨pr, cr, rfl, _⟩ := row_form hrw
  clear hb hrw hww c0 c2 c3 c4 c5 c6
  go_region_law (first
    | (refine step_rec (.tmp 32) (.tmp 37) rfl rfl base _ g.recs (p, r) ⟨w1.heap.size, 0, none⟩ 1 (HR.out.alloc _) (rec_cells w1 p r) HN.out (by show base ≤ (w1.alloc (.cells #[.int .i64 p, .string r] 111)).heap.size; rw [World.size_alloc]; omega) rfl rfl ?_; intro v2 u2 h2 hg2; have B2 := hid (blk_row (HB.out.alloc (.cells #[.int .i64 p, .string r] 111)).drew (HR.out.alloc (.cells #[.int .i64 p, .string r] 111)).drew (by decide) hg2); have W2 := hid (row_row (HW.out.alloc (.cells #[.int .i64 p, .string r] 111)).drew (HR.out.alloc (.cells #[.int .i64 p, .string r] 111)).drew (by decide) hg2); have R2 := hid h2; have T2 := hid (LT.trans (LT.of_none (grown_drew (grown_alloc G1.out (.cells #[.int .i64 p, .string r] 111)))) (lt_row (b := b) (HR.out.alloc (.cells #[.int .i64 p, .string r] 111)).drew (Or.inl rfl) hg2)); obtain ⟨p2, c9, rfl, _⟩ := row_form h2; have d1 : u2.cell? ⟨b, 1, none⟩ = some (.slice pr g.recs.length cr) := B2.out.cell 1; have d2 := B2.out.frozen 1; clear h2 hg2))
  all_goals (
    go_wp2
    go_ret2
    have hv : (Value.slice p2 (g.recs ++ [(p, r)]).length c9) = .slice p2 (g.recs.length + 1) c9 := by rw [List.length_append]; rfl
    have q := R2.out
    rw [hv] at q
    refine ⟨rfl, ⟨hb0.out, .slice p2 (g.recs.length + 1) c9, vw, B2.out.set 1 _, ?_, ?_⟩, LT.trans T2.out (LT.of_self (grown_set (grown_refl _ _) 1 _) hb0.out)⟩
    · exact rowG_kept q B2.out (by decide) (grown_set (grown_refl _ _) 1 _)
    · exact rowG_kept W2.out B2.out (by decide) (grown_set (grown_refl _ _) 1 _))
end Go.Proofs.YtbhmmcelndmijaaGreat
