/-
  A log of the program, in memory; mark, Root, Len, Waits, and Drop where nothing waits among the records.
-/
import Derived.Test.YtddnjlnnkeiplaaMore
import Derived.Test.YtddnjlnnkeiplaaWUnframe
import Derived.Deep.QuietTactic
import Derived.BigQuiet
namespace Go.Proofs.Ytddnjlnnkeiplaa
open Go.RowKit Go.Maps
theorem hid {p : Prop} (h : p) : Hid p := h
structure Lg where
  d : Nat
  recs : List (Nat × ByteArray)
  com : Nat
  len : Nat
  wait : ByteArray
  root : ByteArray
  marked : Bool
def recL (p : Nat × ByteArray) : List Value := [.int .i64 p.1, .string p.2]
def recsL (l : List (Nat × ByteArray)) : List Value := l.flatMap recL
theorem recsL_len (l : List (Nat × ByteArray)) : (recsL l).length = l.length * 2 := by
  induction l with
  | nil => rfl
  | cons p r ih =>
    unfold recsL at ih ⊢
    rw [List.flatMap_cons, List.length_append, ih, List.length_cons]
    show 2 + _ = _
    omega
theorem recsL_snoc (l : List (Nat × ByteArray)) (p : Nat × ByteArray) : recsL l ++ recL p = recsL (l ++ [p]) := by
  unfold recsL
  rw [List.flatMap_append, List.flatMap_cons, List.flatMap_nil, List.append_nil]
def rowG (d : Nat) (vr vw : Value) (com len : Nat) (root : ByteArray) (marked : Bool) : Array Value := #[.pointer (some ⟨d, 0, none⟩), vr, .int .i64 com, .int .i64 len, vw, .string root, .bool marked]
/-- Block b is a log of this state; its rows lie from base on. -/
def IsLog (w : World) (base b : Nat) (g : Lg) : Prop :=
  base ≤ b ∧ ∃ vr vw, Blk w b 77 (rowG g.d vr vw g.com g.len g.root g.marked) ∧ w.ownsRow base 84 2 vr g.recs.length (recsL g.recs) ∧ w.ownsRow base 5 1 vw g.wait.size (Lib.strCells g.wait)
/-- What a log's calls may turn: its block, its rows. -/
structure LT (base b : Nat) (w w' : World) : Prop where
  os : w'.os = w.os
  tape : w'.tape = w.tape
  output : w'.output = w.output
  size : w.heap.size ≤ w'.heap.size
  keep : ∀ i, i < w.heap.size → (i < base ∨ (i ≠ b ∧ ∀ cs t fz, w.heap[i]? = some (.cells cs t fz) → t ≠ 84 ∧ t ≠ 5)) → w'.heap[i]? = w.heap[i]?
theorem LT.of_grown {base b : Nat} {w w' : World} {row : Option Nat} (h : w.grownBy w' row) (hr : ∀ i, i < w.heap.size → (i < base ∨ (i ≠ b ∧ ∀ cs t fz, w.heap[i]? = some (.cells cs t fz) → t ≠ 84 ∧ t ≠ 5)) → some i ≠ row) : LT base b w w' :=
  ⟨h.os, h.tape, h.output, h.size, fun i hi hs => h.block i hi (hr i hi hs)⟩
theorem LT.of_none {base b : Nat} {w w' : World} (h : w.grownBy w' none) : LT base b w w' := LT.of_grown h (fun _ _ _ => by simp)
theorem LT.of_self {base b : Nat} {w w' : World} (h : w.grownBy w' (some b)) (hb : base ≤ b) : LT base b w w' := LT.of_grown h (fun i _ hs e => by
  have e' := Option.some.inj e
  rcases hs with hs | ⟨hn, _⟩
  · omega
  · exact hn e')
theorem LT.refl (base b : Nat) (w : World) : LT base b w w := LT.of_none (grown_refl _ _)
theorem LT.trans {base b : Nat} {w w' w'' : World} (h : LT base b w w') (k : LT base b w' w'') : LT base b w w'' :=
  ⟨k.os.trans h.os, k.tape.trans h.tape, k.output.trans h.output, Nat.le_trans h.size k.size, fun i hi hs => by
    have e := h.keep i hi hs
    refine (k.keep i (Nat.lt_of_lt_of_le hi h.size) ?_).trans e
    rcases hs with hs | ⟨hn, hc⟩
    · exact Or.inl hs
    · exact Or.inr ⟨hn, fun cs t fz hq => hc cs t fz (by rw [← e]; exact hq)⟩⟩
theorem LT.grown {b : Nat} {w w' w'' : World} (h0 : w.grownBy w' none) (h : LT w.heap.size b w' w'') : w.grownBy w'' none :=
  ⟨h.os.trans h0.os, h.tape.trans h0.tape, h.output.trans h0.output, Nat.le_trans h0.size h.size, fun i hi _ => (h.keep i (Nat.lt_of_lt_of_le hi h0.size) (Or.inl hi)).trans (h0.block i hi (by simp))⟩
theorem rowG_kept {w w' : World} {base e size n b : Nat} {v : Value} {xs : List Value} {t : TypeId} {cs : Array Value} (h : w.ownsRow base e size v n xs) (hb : Blk w b t cs) (ht : t ≠ e) (hg : w.grownBy w' (some b)) : w'.ownsRow base e size v n xs := by
  refine h.kept hg ?_
  cases hq : v.ownBlock with
  | none => exact Or.inl rfl
  | some g =>
    refine Or.inr (fun e1 => ?_)
    have e' : g = b := Option.some.inj e1
    subst e'
    rcases h.2 with ⟨rfl, _⟩ | ⟨g', cap, cur, rfl, _, hh, _⟩
    · cases hq
    · have : g' = g := Option.some.inj hq
      subst this
      have hB' : w.heap[g']? = some (.cells cs t (0, 0)) := hb
      rw [hh] at hB'
      injection hB' with q
      injection q with q1 q2 q3
      exact ht q2.symm
theorem IsLog.kept {w w' : World} {base b : Nat} {g : Lg} (h : IsLog w base b g) (hg : w.grownBy w' none) : IsLog w' base b g := by
  obtain ⟨h0, vr, vw, hb, hr, hw⟩ := h
  refine ⟨h0, vr, vw, hb.kept hg (by simp), hr.kept hg ?_, hw.kept hg ?_⟩
  · cases vr.ownBlock with
    | none => exact Or.inl rfl
    | some x => exact Or.inr (by simp)
  · cases vw.ownBlock with
    | none => exact Or.inl rfl
    | some x => exact Or.inr (by simp)
theorem IsLog.drew {w : World} {base b : Nat} {g : Lg} (h : IsLog w base b g) : IsLog w.drew base b g := h
theorem Blk.g7 {w : World} {b d com len : Nat} {vr vw : Value} {root : ByteArray} {mk : Bool} (h : Blk w b 77 (rowG d vr vw com len root mk)) : (w.cell? ⟨b, 0, none⟩ = some (.pointer (some ⟨d, 0, none⟩)) ∧ w.cell? ⟨b, 1, none⟩ = some vr ∧ w.cell? ⟨b, 2, none⟩ = some (.int .i64 com) ∧ w.cell? ⟨b, 3, none⟩ = some (.int .i64 len) ∧ w.cell? ⟨b, 4, none⟩ = some vw ∧ w.cell? ⟨b, 5, none⟩ = some (.string root) ∧ w.cell? ⟨b, 6, none⟩ = some (.bool mk)) ∧ w.frozen? ⟨b, 1, none⟩ = false ∧ w.frozen? ⟨b, 2, none⟩ = false ∧ w.frozen? ⟨b, 3, none⟩ = false ∧ w.frozen? ⟨b, 4, none⟩ = false ∧ w.frozen? ⟨b, 5, none⟩ = false ∧ w.frozen? ⟨b, 6, none⟩ = false :=
  ⟨⟨h.cell 0, h.cell 1, h.cell 2, h.cell 3, h.cell 4, h.cell 5, h.cell 6⟩, h.frozen 1, h.frozen 2, h.frozen 3, h.frozen 4, h.frozen 5, h.frozen 6⟩
theorem row_form {w : World} {base e size n : Nat} {v : Value} {xs : List Value} (h : w.ownsRow base e size v n xs) : ∃ pa cap, v = .slice pa n cap ∧ n ≤ cap ∧ cap ≤ maxLen ∧ (pa = none → cap = 0) := by
  rcases h.2 with ⟨rfl, rfl⟩ | ⟨g, cap, cur, rfl, _, _, hc, hm, _⟩
  · exact ⟨none, 0, rfl, Nat.le_refl _, Nat.zero_le _, fun _ => rfl⟩
  · exact ⟨_, cap, rfl, hc, hm, fun e => by cases e⟩
set_option maxRecDepth 100000 in
set_option maxHeartbeats 1000000 in
theorem mark_any (base b : Nat) (g : Lg) (n : Nat) (r : ByteArray) (w : World) (h : IsLog w base b g) (hl : g.recs.length ≤ 1000000) :
    Calls Try.prog 44 #[.pointer (some ⟨b, 0, none⟩), .int .i64 n, .string r] w fun e w' => e = .returned (.tuple #[]) ∧ IsLog w' base b { g with com := g.recs.length, len := n, wait := ⟨#[]⟩, root := r, marked := true } ∧ w.grownBy w' (some b) := by
  obtain ⟨h0, vr, vw, hb, hr, hw⟩ := h
  obtain ⟨pr, cr, rfl, _⟩ := row_form hr
  obtain ⟨pw, cw, rfl, _⟩ := row_form hw
  have R1 : Hid (IsLog (((((w.setCell ⟨b, 2, none⟩ (.int .i64 g.recs.length)).setCell ⟨b, 3, none⟩ (.int .i64 n)).setCell ⟨b, 4, none⟩ (.slice none 0 0)).setCell ⟨b, 5, none⟩ (.string r)).setCell ⟨b, 6, none⟩ (.bool true)) base b { g with com := g.recs.length, len := n, wait := ⟨#[]⟩, root := r, marked := true } ∧ w.grownBy (((((w.setCell ⟨b, 2, none⟩ (.int .i64 g.recs.length)).setCell ⟨b, 3, none⟩ (.int .i64 n)).setCell ⟨b, 4, none⟩ (.slice none 0 0)).setCell ⟨b, 5, none⟩ (.string r)).setCell ⟨b, 6, none⟩ (.bool true)) (some b)) := by
    have GF := grown_set (grown_set (grown_set (grown_set (grown_set (grown_refl w (some b)) 2 (.int .i64 g.recs.length)) 3 (.int .i64 n)) 4 (.slice none 0 0)) 5 (.string r)) 6 (.bool true)
    refine ⟨⟨h0, .slice pr g.recs.length cr, .slice none 0 0, ?_, rowG_kept hr hb (by decide) GF, ⟨rfl, Or.inl ⟨rfl, rfl⟩⟩⟩, GF⟩
    exact ((((hb.set 2 (.int .i64 g.recs.length)).set 3 (.int .i64 n)).set 4 (.slice none 0 0)).set 5 (.string r)).set 6 (.bool true)
  have hll : (g.recs.length : Int) ≤ 1000000 := by omega
  obtain ⟨⟨c0, c1, c2, c3, c4, c5, c6⟩, f1, f2, f3, f4, f5, f6⟩ := hb.g7
  clear hb hr hw
  generalize g.recs.length = L at *
  go_enter Try.func44, Try.ntmps44
  go_wp2
  first
  | exact bodyPost_end (results_none rfl _ _ _) rfl ⟨rfl, R1.out.1, R1.out.2⟩
  | exact bodyPost_ret (results_none rfl _ _ _) rfl ⟨rfl, R1.out.1, R1.out.2⟩
set_option maxRecDepth 100000 in
theorem lroot_any (base b : Nat) (g : Lg) (w : World) (h : IsLog w base b g) : Calls Try.prog 35 #[.pointer (some ⟨b, 0, none⟩)] w fun e w' => e = .returned (.tuple #[.string g.root, .bool g.marked]) ∧ w.grownBy w' none := by
  obtain ⟨h0, vr, vw, hb, _, _⟩ := h
  obtain ⟨⟨c0, c1, c2, c3, c4, c5, c6⟩, _⟩ := hb.g7
  clear hb c0 c1 c2 c3 c4
  go_enter Try.func35, Try.ntmps35
  go_wp2_with fail
  go_quiet (fail)
  go_wp2
  go_ret2
  exact ⟨rfl, grown_drewN (grown_refl _ _) _⟩
end Go.Proofs.Ytddnjlnnkeiplaa
