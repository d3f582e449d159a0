/-
  A range over a function whose rounds all go on, counted.
-/
import Derived.RangeFuncNested
import Derived.RangeFuncBound
import Derived.RangeFuncCalls
import Derived.RangeFuncLeaves
import Derived.Shelf.Abstract
import Derived.Shelf.RegionOpen
import Derived.WalkKit
import Derived.OwnWalkIn
import Derived.TacticsInMore
import Derived.LoopNIn
import Derived.LoopIn
import Derived.Sort.CutIn
import Derived.Test.YtbhmmcelndmijaaGreatGt
import Derived.Test.YtbhmmcelndmijaaGreatKSg
namespace Go.Proofs.YtbhmmcelndmijaaGreat
open Go.RowKit Go.Maps Go.Shelf
attribute [local go_sem] Oper.semAt_some
theorem room_wide (k : Nat) : Fence.wide.room k := fun d h => by cases h
theorem RoundIn.anyD {m m' : Nat} {P : Program} {l : Nat} {f : FuncId} {tmps : Array Value} {assign body : Code} {w : World} {R : Ending → World → Prop}
    (h : RoundIn Fence.wide m P l f tmps assign body w R) : RoundIn Fence.wide m' P l f tmps assign body w R := ⟨h.1, fun c cs _ => h.2 c cs (room_wide _)⟩
theorem YieldAt.anyD {m : Nat} (m' : Nat) {P : Program} {l : Nat} {args : Array Value} {W : World} {R : Ending → World → Prop} (h : YieldAt Fence.wide m P l args W R) : YieldAt Fence.wide m' P l args W R := by
  obtain ⟨fn, tmps, assign, body, hy, hR⟩ := h
  exact ⟨fn, tmps, assign, body, hy, RoundIn.anyD hR⟩
/-- Blocks as P says are as they were. -/
def KQ (P : Nat → Prop) (W W' : World) : Prop := ∀ b, P b → W'.heap[b]? = W.heap[b]?
theorem KQ.refl (P : Nat → Prop) (W : World) : KQ P W W := fun _ _ => rfl
theorem KQ.trans {P : Nat → Prop} {a b c : World} (h : KQ P a b) (k : KQ P b c) : KQ P a c := fun i hi => (k i hi).trans (h i hi)
theorem cell_lt {w : World} {b o : Nat} {v : Value} (h : w.cell? ⟨b, o, none⟩ = some v) : b < w.heap.size := World.block_lt_of_cell? w _ h
/-- The heap may have grown; whatever is cells, and whatever lies below B, is as it was. -/
structure Stay (B : Nat) (A A' : World) : Prop where
  os : A'.os = A.os
  tape : A'.tape = A.tape
  output : A'.output = A.output
  size : A.heap.size ≤ A'.heap.size
  same : ∀ (b : Nat) (o : Obj), A.heap[b]? = some o → (b < B ∨ o.isCells = true) → A'.heap[b]? = some o
theorem Stay.refl (B : Nat) (A : World) : Stay B A A := ⟨rfl, rfl, rfl, Nat.le_refl _, fun _ _ h _ => h⟩
theorem Stay.trans {B : Nat} {X Y Z : World} (h : Stay B X Y) (k : Stay B Y Z) : Stay B X Z := ⟨k.os.trans h.os, k.tape.trans h.tape, k.output.trans h.output, Nat.le_trans h.size k.size, fun b o h1 h2 => k.same b o (h.same b o h1 h2) h2⟩
theorem Stay.less {B B' : Nat} {X Y : World} (h : Stay B X Y) (hb : B' ≤ B) : Stay B' X Y := ⟨h.os, h.tape, h.output, h.size, fun b o h1 h2 => h.same b o h1 (h2.elim (fun h => Or.inl (by omega)) Or.inr)⟩
theorem Stay.grown {B : Nat} {X Y : World} (h : X.grownBy Y none) : Stay B X Y := ⟨h.os, h.tape, h.output, h.size, fun b _ h1 _ => (h.block b (Array.getElem?_eq_some_iff.1 h1).1 (by simp)).trans h1⟩
theorem Stay.put {B l : Nat} {W : World} {o : Obj} (o' : Obj) (hB : B ≤ l) (h : W.heap[l]? = some o) (hc : o.isCells = false) : Stay B W (W.putObj l o') := by
  refine ⟨(grownBy_putObj' W l o').os, (grownBy_putObj' W l o').tape, (grownBy_putObj' W l o').output, (grownBy_putObj' W l o').size, fun b u h1 h2 => ?_⟩
  by_cases e : b = l
  · subst e
    rw [h] at h1
    cases h1
    rw [hc] at h2
    rcases h2 with h2 | h2
    · omega
    · cases h2
  · exact (World.putObj_heap_other e).trans h1
theorem Stay.after {B : Nat} {w X Y : World} (h : w.grownBy X none) (k : Stay B X Y) (hB : w.heap.size ≤ B) : w.grownBy Y none :=
  ⟨k.os.trans h.os, k.tape.trans h.tape, k.output.trans h.output, Nat.le_trans h.size k.size, fun b hb hn => by
    have h1 := h.block b hb hn
    obtain ⟨o, ho⟩ : ∃ o, w.heap[b]? = some o := ⟨_, Array.getElem?_eq_getElem hb⟩
    rw [ho] at h1
    rw [ho]
    exact k.same b o h1 (Or.inl (by omega))⟩
theorem Stay.cells {B : Nat} {X Y : World} (h : Stay B X Y) : ∀ b o v, X.cell? ⟨b, o, none⟩ = some v → Y.cell? ⟨b, o, none⟩ = some v := fun b o v hv => by
  have hl := cell_lt hv
  obtain ⟨ob, hob⟩ : ∃ ob, X.heap[b]? = some ob := ⟨_, Array.getElem?_eq_getElem hl⟩
  refine (World.cell?_of_block ((h.same b ob hob (Or.inr ?_)).trans hob.symm)).trans hv
  simp only [World.cell?, hob] at hv
  cases ob <;> simp_all [Obj.isCells]
/-- All blocks from B on are as they were. -/
structure Kf (B : Nat) (A A' : World) : Prop where
  size : A.heap.size ≤ A'.heap.size
  same : ∀ b, B ≤ b → b < A.heap.size → A'.heap[b]? = A.heap[b]?
theorem Kf.trans {B : Nat} {X Y Z : World} (h : Kf B X Y) (k : Kf B Y Z) : Kf B X Z := ⟨Nat.le_trans h.size k.size, fun b h1 h2 => (k.same b h1 (Nat.lt_of_lt_of_le h2 h.size)).trans (h.same b h1 h2)⟩
theorem Kf.of_grownBy {B : Nat} {X Y : World} {row : Option Nat} (h : X.grownBy Y row) (hr : ∀ j, row = some j → j < B) : Kf B X Y := ⟨h.size, fun b h1 h2 => h.block b h2 (fun e => by have := hr b e.symm; omega)⟩
theorem Kf.more {B B' : Nat} {X Y : World} (h : Kf B X Y) (hb : B ≤ B') : Kf B' X Y := ⟨h.size, fun b h1 h2 => h.same b (by omega) h2⟩
/-- An iterator that hands on N things, one behind the other: each of its calls of yield is one that goes on. -/
def SeqN (P : Program) (n g : Nat) (lb : Array Value) (Enc : Nat → World → Array Value → Prop) (Kp : World → World → Prop) (N : Nat) (w : World) : Prop :=
  ∀ (l : Nat) (J : Nat → World → Prop) (W : World), Below w.heap.size w W → l < W.heap.size → (∀ k A A', J k A → Stay W.heap.size A A' → J k A') →
    (∀ m k args W1, k < N → J k W1 → Enc k W1 args → YieldAt Fence.wide m P l args W1 fun e W' => e = .returned (.bool true) ∧ J (k + 1) W' ∧ Kp W1 W' ∧ Kf W.heap.size W1 W') →
    J 0 W → CallsIn Fence.wide n P g (#[.func (.yield l) #[] #[]] ++ lb) W fun e W' => (∃ v, e = .returned v) ∧ J N W'
theorem range_cnt {P : Program} {n : Nat} {g : Operand} {ps : Array Tmp} {assign body : Code} {Q : Exit → Act → World → Prop} {a : Act} {w : World} {gf : Nat} {lb : Array Value}
    (hg : a.eval g = .func (.func gf) #[] lb) (eg : ∀ args w, (callFunc gf args).run P w = .ok (.enter gf args) w)
    {Enc : Nat → World → Array Value → Prop} {Kp : World → World → Prop} {N : Nat} (hseq : SeqN P (n - 1) gf lb Enc Kp N w)
    (hKt : ∀ {A B C : World}, Kp A B → Kp B C → Kp A C) (hKb : ∀ W o', Kp W (W.putObj (w.heap.size + 1) o')) (hKg : ∀ A B, w.heap.size ≤ A.heap.size → A.grownBy B none → Kp A B) (hps : ∀ k W args, Enc k W args → args.size = ps.size)
    (hE : ∀ k args A A', Enc k A args → Stay w.heap.size A A' → Enc k A' args)
    (I : Nat → World → Prop) (hI : ∀ k A A', I k A → Stay w.heap.size A A' → I k A') (h0 : I 0 w) (Ax : Nat → Array Value → Act → World → Prop) (hAx : ∀ k args a' A A', Ax k args a' A → Stay w.heap.size A A' → Ax k args a' A')
    (hassign : ∀ (m l k : Nat) (args : Array Value) (W : World) (K : Act → World → Prop), w.heap.size ≤ W.heap.size → Enc k W args → (∀ a' W', W.grownBy W' none → Ax k args a' W' → K a' W') →
      assign.wpIn (Fence.wide.inRound l) m P (Exit.then K (fun _ _ _ => False)) { tmps := (ps.zip args).foldl (fun t (p, v) => t.setIfInBounds p v) a.tmps, defers := [] } W)
    (hbody : ∀ (m l k : Nat) (args : Array Value) (a' : Act) (W : World), w.heap.size ≤ l → k < N → I k W → Enc k W args → Ax k args a' W →
      body.wpIn (Fence.wide.inRound l) m P (fun e _ W' => e = .normal ∧ I (k + 1) W' ∧ Kp W W' ∧ Kf w.heap.size W W') a' W)
    (hdone : ∀ (D : Nat) (W : World), w.heap.size ≤ D → I N W → W.heap[D]? = some (.deferred (some [])) → Q .normal { a with defers := { target := .collected D, args := #[] } :: a.defers } W) :
    (Code.rangeFunc g ps assign body).wpIn Fence.wide n P Q a w := by
  refine wpIn_rangeFunc (fun fn hfn => ?_)
  obtain ⟨rc, hrc⟩ : ∃ rc : LoopState → Loop, rc = fun s => { state := s, pending := none, fn, tmps := a.tmps, params := ps, assign, body, defers := w.heap.size } := ⟨_, rfl⟩
  have hent := run_enterLoop_outer (P := P) (w := w) fn a.tmps ps assign body
  have er : Loop.mk .ready none fn a.tmps ps assign body w.heap.size = rc .ready := by rw [hrc]
  obtain ⟨U, hU⟩ : ∃ U, (w.alloc (.deferred (some []))).alloc (.loop (rc .ready)) = U := ⟨_, rfl⟩
  have hUs : U.heap.size = w.heap.size + 2 := by rw [← hU]; simp
  have hD : U.heap[w.heap.size]? = some (.deferred (some [])) := by
    rw [← hU]
    exact (Below.heap_alloc _ _ _ (by simp)).trans (World.alloc_heap_new w _)
  have hL : U.heap[w.heap.size + 1]? = some (.loop (rc .ready)) := by
    rw [← hU]
    have := World.alloc_heap_new (w.alloc (.deferred (some []))) (.loop (rc .ready))
    rwa [World.size_alloc] at this
  have gU : w.grownBy U none := by rw [← hU]; exact grown_alloc (grown_alloc (grown_refl w none) _) _
  have bU : Below w.heap.size w U := by rw [← hU]; exact ((Below.refl _ w).alloc (Nat.le_refl _) _).alloc (by simp) _
  refine ⟨w.heap.size + 1, [{ target := .collected w.heap.size, args := #[] }], U, { target := .fn (.func gf) lb, args := #[.func (.yield (w.heap.size + 1)) #[] #[]] }, U, gf, #[.func (.yield (w.heap.size + 1)) #[] #[]] ++ lb, U, ?_, ?_, ?_, ?_, (fun h => by cases h), ?_⟩
  · rw [← hU, ← er]; exact hent
  · simp only [resolve, hg]
    simp [go_sem]
  · intro f' hf'
    trivial
  · simp [invoke, go_sem, eg]
  · refine (hseq (w.heap.size + 1) (fun k W => I k W ∧ W.heap[w.heap.size + 1]? = some (.loop (rc .ready)) ∧ W.heap[w.heap.size]? = some (.deferred (some []))) U bU (by omega) ?_ ?_ ⟨hI _ _ _ h0 (Stay.grown gU), hL, hD⟩).mono ?_
    · rintro k A A' ⟨k1, k2, k3⟩ hs
      exact ⟨hI _ _ _ k1 (hs.less (by omega)), hs.same _ _ k2 (Or.inl (by omega)), hs.same _ _ k3 (Or.inl (by omega))⟩
    · rintro m k args W hk ⟨k1, k2, k3⟩ hen
      have hy := run_yield (P := P) (args := args) k2 (by rw [hrc]; exact hps k W args hen)
      rw [hrc] at hy
      refine ⟨fn, _, assign, body, hy, roundIn_of_wpIn hfn (hassign m _ k args W _ (by have := (Array.getElem?_eq_some_iff.1 k2).1; omega) hen (fun a' Wa hga hax => ?_))⟩
      have hlt0 : w.heap.size + 1 < W.heap.size := (Array.getElem?_eq_some_iff.1 k2).1
      have q1 := hKg W Wa (by omega) hga
      have q2 : Kf U.heap.size W Wa := Kf.of_grownBy hga (fun j e => by cases e)
      replace k2 := (hga.block _ hlt0 (by simp)).trans k2
      replace k3 := (hga.block _ (by omega) (by simp)).trans k3
      replace k1 := hI _ _ _ k1 (Stay.grown hga)
      replace hen := hE _ _ _ _ hen (Stay.grown hga)
      have hlt : w.heap.size + 1 < Wa.heap.size := Nat.lt_of_lt_of_le hlt0 hga.size
      clear hy hga
      generalize hWW : Wa = Wb at *
      clear hWW
      refine ⟨_, run_beginRound k2 (by rw [hrc]), ?_⟩
      have s1 : Stay w.heap.size Wb (Wb.putObj (w.heap.size + 1) (.loop { rc .ready with state := .busy })) := Stay.put _ (by omega) k2 rfl
      have l1 : (Wb.putObj (w.heap.size + 1) (.loop { rc .ready with state := .busy })).heap[w.heap.size + 1]? = some (.loop { rc .ready with state := .busy }) := World.putObj_heap_same hlt
      have d1 : (Wb.putObj (w.heap.size + 1) (.loop { rc .ready with state := .busy })).heap[w.heap.size]? = some (.deferred (some [])) := (World.putObj_heap_other (by omega)).trans k3
      have p1 := hKb Wb (.loop { rc .ready with state := .busy })
      have f1 : Kf U.heap.size Wb (Wb.putObj (w.heap.size + 1) (.loop { rc .ready with state := .busy })) := Kf.of_grownBy (grownBy_putObj' _ _ _) (fun j e => by cases e; omega)
      have hB := hbody m (w.heap.size + 1) k args a' _ (by omega) hk (hI _ _ _ k1 s1) (hE _ _ _ _ hen s1) (hAx _ _ _ _ _ hax s1)
      generalize Wb.putObj (w.heap.size + 1) (.loop { rc .ready with state := .busy }) = W2 at *
      refine wpIn_mono hB ?_
      rintro e a3 W3 ⟨rfl, i3, kp3, kf3⟩
      have l3 := (kf3.same _ (by omega) (Array.getElem?_eq_some_iff.1 l1).1).trans l1
      have d3 := (kf3.same _ (Nat.le_refl _) (Array.getElem?_eq_some_iff.1 d1).1).trans d1
      have hr := run_endRound (P := P) none l3
      have s3 : Stay w.heap.size W3 (W3.putObj (w.heap.size + 1) (.loop (rc .ready))) := Stay.put _ (by omega) l3 rfl
      have er2 : ({ ({ rc .ready with state := .busy } : Loop) with state := if (none : Option Code).isNone then .ready else .done, pending := none } : Loop) = rc .ready := by rw [hrc]; rfl
      rw [er2] at hr
      refine ⟨_, _, hr, rfl, ⟨hI _ _ _ i3 s3, World.putObj_heap_same (Array.getElem?_eq_some_iff.1 l3).1, (World.putObj_heap_other (by omega)).trans d3⟩, hKt q1 (hKt p1 (hKt kp3 (hKb _ _))), ?_⟩
      exact q2.trans (f1.trans (Kf.trans (kf3.more (by omega)) (Kf.of_grownBy (grownBy_putObj' _ _ _) (fun j e => by cases e; omega))))
    · rintro e W2 ⟨⟨v, rfl⟩, i2, l2, d2⟩
      have hend := run_endLoop (P := P) l2 (by rw [hrc]; simp)
      have ep : (rc .ready).pending = none := by rw [hrc]
      rw [ep] at hend
      exact ⟨none, _, hend, hdone w.heap.size _ (Nat.le_refl _) (hI _ _ _ i2 (Stay.put _ (by omega) l2 rfl)) ((World.putObj_heap_other (by omega)).trans d2)⟩
end Go.Proofs.YtbhmmcelndmijaaGreat
/-
  walk: the keys of a page and of those below it, from one on: a leaf.
-/
namespace Go.Proofs.YtbhmmcelndmijaaGreat
open Go.RowKit Go.Maps Go.Shelf
attribute [local go_sem] Oper.semAt_some
/-- What the rows of a page of one's own hold, as long as their blocks are as they were. -/
theorem key_blk {w : World} {bp k1 : Nat} {b c : Value} {p1 : Option Addr} {p : Pa.Pg} (h : Pa.PgO w bp (.agg #[.bool p.leaf, .slice p1 p.keys.length k1, b, c]) p) (h0 : 0 < p.keys.length) : ∃ g, p1 = some ⟨g, 0, none⟩ ∧ bp ≤ g ∧ g < w.heap.size ∧ ∀ V : World, V.heap[g]? = w.heap[g]? → ∀ i x, p.keys[i]? = some x → V.cell? ⟨g, i, none⟩ = some (.string x) := by
  obtain ⟨x', y, z, e, h1, h2, h3, h4⟩ := h
  injection e with e
  have e' := congrArg Array.toList e
  simp at e'
  obtain ⟨rfl, rfl, rfl⟩ := e'
  rcases Sl.owns_cases h2 with ⟨_, h0', _⟩ | ⟨g, c, cur, e, hg, hB, hn, hc, hs, hx, hl⟩
  · omega
  · injection e with e1 e2 e3
    subst e1
    refine ⟨g, rfl, hg, hB.lt, fun V hV i x hi => ?_⟩
    rw [World.cell?_of_block hV, hB.cell]
    exact Sl.take_get hx (by unfold Pa.strs; rw [List.getElem?_map, hi]; rfl)
theorem val_blk {w : World} {bp k2 : Nat} {a c : Value} {p2 : Option Addr} {p : Pa.Pg} (h : Pa.PgO w bp (.agg #[.bool p.leaf, a, .slice p2 p.vals.length k2, c]) p) (h0 : 0 < p.vals.length) : ∃ g, p2 = some ⟨g, 0, none⟩ ∧ bp ≤ g ∧ g < w.heap.size ∧ ∀ V : World, V.heap[g]? = w.heap[g]? → ∀ i x, p.vals[i]? = some x → V.cell? ⟨g, i, none⟩ = some (.string x) := by
  obtain ⟨x', y, z, e, h1, h2, h3, h4⟩ := h
  injection e with e
  have e' := congrArg Array.toList e
  simp at e'
  obtain ⟨rfl, rfl, rfl⟩ := e'
  rcases Sl.owns_cases h3 with ⟨_, h0', _⟩ | ⟨g, c, cur, e, hg, hB, hn, hc, hs, hx, hl⟩
  · omega
  · injection e with e1 e2 e3
    subst e1
    refine ⟨g, rfl, hg, hB.lt, fun V hV i x hi => ?_⟩
    rw [World.cell?_of_block hV, hB.cell]
    exact Sl.take_get hx (by unfold Pa.strs; rw [List.getElem?_map, hi]; rfl)
theorem kid_blk {w : World} {bp k3 : Nat} {a b : Value} {p3 : Option Addr} {p : Pa.Pg} (h : Pa.PgO w bp (.agg #[.bool p.leaf, a, b, .slice p3 p.kids.length k3]) p) (h0 : 0 < p.kids.length) : ∃ g, p3 = some ⟨g, 0, none⟩ ∧ bp ≤ g ∧ g < w.heap.size ∧ ∀ V : World, V.heap[g]? = w.heap[g]? → ∀ i x, p.kids[i]? = some x → V.cell? ⟨g, i, none⟩ = some (.int .i64 x) := by
  obtain ⟨x', y, z, e, h1, h2, h3, h4⟩ := h
  injection e with e
  have e' := congrArg Array.toList e
  simp at e'
  obtain ⟨rfl, rfl, rfl⟩ := e'
  rcases Sl.owns_cases h4 with ⟨_, h0', _⟩ | ⟨g, c, cur, e, hg, hB, hn, hc, hs, hx, hl⟩
  · omega
  · injection e with e1 e2 e3
    subst e1
    refine ⟨g, rfl, hg, hB.lt, fun V hV i x hi => ?_⟩
    rw [World.cell?_of_block hV, hB.cell]
    exact Sl.take_get hx (by unfold Pa.ints; rw [List.getElem?_map, hi]; rfl)
/-- What a walk leaves. -/
def WkP (P : Nat → Prop) (B : Nat) (J : Nat → World → Prop) (k : Nat) (W : World) (e : Ending) (W' : World) : Prop := e = .returned (.bool true) ∧ J k W' ∧ KQ P W W' ∧ Kf B W W'
theorem stay_drew (B : Nat) (V : World) : Stay B V V.drew := Stay.grown (grown_drew (grown_refl V none))
set_option maxRecDepth 100000 in
set_option maxHeartbeats 4000000 in
theorem walk_leaf (l n B : Nat) (P : Nat → Prop) (J : Nat → World → Prop) (Lst : List (ByteArray × ByteArray)) (hJ : ∀ k A A', J k A → Stay B A A' → J k A')
    (hY : ∀ m k x W1, Lst[k]? = some x → J k W1 → YieldAt Fence.wide m Tryz.prog l #[.string x.1, .string x.2] W1 fun e W' => e = .returned (.bool true) ∧ J (k + 1) W' ∧ KQ P W1 W' ∧ Kf B W1 W')
    (b a : Nat) (at_ : Int) (lo hi fr : ByteArray) (p : Pa.Pg) (W : World) (hB : B ≤ W.heap.size) (hPB : ∀ i, P i → i < B) (hlf : p.leaf = true) (hk0 : 0 < p.keys.length) (hn1 : p.keys.length ≤ 1000) (hvl : p.vals.length = p.keys.length) (hfit : p.fits)
    (h42 : ∀ V, W.grownBy V none → Calls Tryz.prog 42 #[.pointer (some ⟨b, 0, none⟩), .int .i64 at_, .agg #[.string lo, .string hi]] V (Pa.DecPost V p 0))
    (hseg : ∀ i x y, p.keys[i]? = some x → p.vals[i]? = some y → Pa.findN p.keys fr ≤ i → Lst[a + (i - Pa.findN p.keys fr)]? = some (x, y)) (h0 : J a W) :
    CallsIn Fence.wide n Tryz.prog 45 #[.pointer (some ⟨b, 0, none⟩), .int .i64 at_, .agg #[.string lo, .string hi], .string fr, .func (.yield l) #[] #[]] W (WkP P B J (a + (p.keys.length - Pa.findN p.keys fr)) W) := by
  have C42 := hid h42
  have C43 : Hid (∀ V v, Pa.PgV V v p → Calls Tryz.prog 43 #[v, .string fr] V fun e w' => e = .returned (.tuple #[.int .i64 (Pa.findN p.keys fr), .bool (Pa.findIs p.keys fr)]) ∧ V.grownBy w' none) := fun V v hv => Pa.find_any v p fr V hv hfit
  have hF := Pa.findN_le p.keys fr
  have HY := hid hY
  have HJ := hid hJ
  have HS := hid hseg
  have H0 := hid h0
  have HPB := hid hPB
  clear h42 hY hJ hseg h0 hfit hPB
  obtain ⟨Q0, hQ0⟩ : ∃ Q, Q = WkP P B J (a + (p.keys.length - Pa.findN p.keys fr)) W := ⟨_, rfl⟩
  rw [← hQ0]
  have HQ := hid (And.intro hQ0 trivial)
  clear hQ0
  refine callsIn_of_wp Tryz.func45 rfl trivial ?_ rfl
  simp only [Tryz.ntmps45, List.size_toArray, List.length_cons, List.length_nil, Nat.reduceAdd, Nat.reduceSub, Array.replicate_succ, Array.replicate_zero, List.push_toArray, List.append_toArray, List.nil_append, List.cons_append]
  refine wpIn_wide.2 ?_
  go_upto_region 2 with (first
    | (go_at_call 42; refine (C42.out _ (grown_alloc (grown_refl W none) _)).mono ?_; rintro e w2 ⟨u, rfl, o2, g2⟩; have O2 := hid o2; have G2 := hid (grown_none (grown_alloc (grown_refl W none) _) g2); obtain ⟨p1, k1, p2, k2, p3, k3, rfl⟩ := PgO.form o2; clear o2 g2 C42))
  obtain ⟨g1, rfl, u1, v1, x1⟩ := key_blk O2.out hk0
  obtain ⟨g2, rfl, u2, v2, x2⟩ := val_blk O2.out (by omega)
  rw [World.size_alloc] at u1 u2
  have X1 := hid x1
  have X2 := hid x2
  have V2 := hid (O2.out.pgV.kept (grown_alloc (grown_refl w2 none) (.cells #[.bool p.leaf, .slice (some ⟨g1, 0, none⟩) p.keys.length k1, .slice (some ⟨g2, 0, none⟩) p.vals.length k2, .slice p3 p.kids.length k3] 70)))
  have BX := hid (Blk.new w2 70 #[.bool p.leaf, .slice (some ⟨g1, 0, none⟩) p.keys.length k1, .slice (some ⟨g2, 0, none⟩) p.vals.length k2, .slice p3 p.kids.length k3])
  have G3 := hid (grown_alloc (grown_refl w2 none) (.cells #[.bool p.leaf, .slice (some ⟨g1, 0, none⟩) p.keys.length k1, .slice (some ⟨g2, 0, none⟩) p.vals.length k2, .slice p3 p.kids.length k3] 70))
  have hs2 := G2.out.size
  have HVL : Hid (∀ n, n < p.keys.length → ∃ x, p.vals[n]? = some x) := fun n hn => ⟨_, List.getElem?_eq_getElem (by omega)⟩
  rw [hlf, hvl] at *
  generalize w2.alloc (.cells #[.bool true, .slice (some ⟨g1, 0, none⟩) p.keys.length k1, .slice (some ⟨g2, 0, none⟩) p.keys.length k2, .slice p3 p.kids.length k3] 70) = w3 at *
  have hb2 := BX.out.lt
  generalize hbx : w2.heap.size = bx at *
  have c0 := BX.out.cell 0
  have c1 := BX.out.cell 1
  have c2 := BX.out.cell 2
  have c3 := BX.out.cell 3
  simp at c0 c1 c2 c3
  clear x1 x2 O2
  go_upto_region 6 with (first
    | (go_at_call 43; refine (C43.out _ _ V2.out).mono ?_; rintro e w4 ⟨rfl, g4⟩; have G4 := hid g4; have B4 := hid (BX.out.kept g4 (by simp)); clear g4 C43))
  have SS : Hid (∀ V, Kf B w4 V → V.cell? ⟨bx, 1, none⟩ = some (.slice (some ⟨g1, 0, none⟩) p.keys.length k1) ∧ V.cell? ⟨bx, 2, none⟩ = some (.slice (some ⟨g2, 0, none⟩) p.keys.length k2) ∧ (∀ i x, p.keys[i]? = some x → V.cell? ⟨g1, i, none⟩ = some (.string x)) ∧ ∀ i x, p.vals[i]? = some x → V.cell? ⟨g2, i, none⟩ = some (.string x)) := fun V hV => by
    have s4 := G4.out.size
    have b4 : Blk V bx 70 _ := (hV.same bx (by omega) B4.out.lt).trans B4.out
    have d1 := b4.cell 1
    have d2 := b4.cell 2
    simp at d1 d2
    have e1 : V.heap[g1]? = w2.heap[g1]? := (hV.same g1 (by omega) (by omega)).trans ((G4.out.block g1 (by omega) (by simp)).trans (G3.out.block g1 (by omega) (by simp)))
    have e2 : V.heap[g2]? = w2.heap[g2]? := (hV.same g2 (by omega) (by omega)).trans ((G4.out.block g2 (by omega) (by simp)).trans (G3.out.block g2 (by omega) (by simp)))
    exact ⟨d1, d2, X1.out V e1, X2.out V e2⟩
  have GA : Hid (W.grownBy w4 none) := grown_none (grown_none G2.out G3.out) G4.out
  have J4 : Hid (J a w4) := HJ.out a W w4 H0.out (Stay.grown GA.out)
  have Q4 : Hid (KQ P W w4) := fun i hi => GA.out.block i (by have := HPB.out i hi; omega) (by simp)
  have F4 : Hid (Kf B W w4) := ⟨GA.out.size, fun i _ hi => GA.out.block i hi (by simp)⟩
  generalize hLn : p.keys.length = Ln at *
  have HLN := hid (And.intro hLn trivial)
  generalize hFn : Pa.findN p.keys fr = F at *
  clear hLn hFn B4 G4 G3 G2 BX V2 X1 X2 c0 c1 c2 c3 H0 hs2 hb2 u1 v1 u2 v2 hbx
  have hdd : ∀ k : Nat, (Fence.wide.depth.isSome = true → 1 ≤ k) := fun k h => by cases h
  have MX : Tryz.prog.follows .mixedOrders = true := by kernel_rfl
  go_wp2_with fail
  go_loopg [15] (Ln - F) (fun gk s15 wr => ∃ i : Nat, s15 = .int .i64 i ∧ i + gk = Ln ∧ F ≤ i ∧ J (a + (i - F)) wr ∧ KQ P W wr ∧ Kf B w4 wr)
  case atStart => exact ⟨F, rfl, by omega, Nat.le_refl _, by rw [Nat.sub_self, Nat.add_zero]; exact J4.out, Q4.out, ⟨Nat.le_refl _, fun _ _ _ => rfl⟩⟩
  case round =>
    obtain ⟨i, rfl, hi, hFi, hj, hq, hf⟩ := hrel
    have JR := hid hj
    have QR := hid hq
    have FR := hid hf
    obtain ⟨y1, y2, y3, y4⟩ := SS.out wr hf
    clear hj hq hf
    cases gk with
    | zero =>
      obtain rfl : i = Ln := by omega
      clear y3 y4
      go_wp2_with fail
      rw [HQ.out.1]
      exact ⟨rfl, JR.out, QR.out, F4.out.trans FR.out⟩
    | succ gk =>
      obtain ⟨key, hkey⟩ : ∃ x, p.keys[i]? = some x := ⟨_, List.getElem?_eq_getElem (by have := HLN.out.1; omega)⟩
      obtain ⟨val, hval⟩ : ∃ x, p.vals[i]? = some x := HVL.out i (by omega)
      have z1 := y3 i key hkey
      have z2 := y4 i val hval
      have hL := HS.out i key val hkey hval hFi
      obtain ⟨fn, tmps, assign, body, hy, hR⟩ := HY.out 0 (a + (i - F)) (key, val) wr.drew hL (HJ.out _ _ _ JR.out (stay_drew _ _))
      have HR := hid hR
      have i0 : (0 : Int) ≤ (i : Int) := by omega
      have i1 : (i : Int) < Ln := by omega
      have i2 : (i : Int).toNat = i := by omega
      have wi : IntKind.i64.wrap ((i : Int) + 1) = (i : Int) + 1 := by rw [IntKind.wrap_i64]; omega
      clear y3 y4 hkey hval hL hR SS HY HS
      simp only [] at hy
      go_upto_region 9 with fail
      refine (wpIn_wide (n := n)).1 ?_
      gi_cut [54] from 100 (fun c54 Y => c54 = .bool false ∧ J (a + (i - F) + 1) Y ∧ KQ P wr Y ∧ Kf B wr Y)
      case first =>
        clear JR QR FR HQ HJ F4 Q4 J4 GA HLN
        gi_region_with_o (first
          | (refine ⟨hdd _, ?_⟩; refine (RoundIn.anyD HR.out).mono ?_; clear HR; rintro e w7 ⟨rfl, j7, q7, f7⟩))
        all_goals (
          (try gi_wp2_with fail)
          gi_meet
          exact ⟨rfl, j7, q7, ⟨f7.size, f7.same⟩⟩)
      case rest =>
        obtain ⟨rfl, j7, q7, f7⟩ := hcut
        have J7 := hid j7
        have Q7 := hid q7
        have F7 := hid f7
        clear j7 q7 f7
        gi_wp2_with fail
        go_wp2_with fail
        go_roundg gk
        case measure => omega
        case rel => exact ⟨i + 1, by simp, by omega, by omega, by rw [show a + (i + 1 - F) = a + (i - F) + 1 by omega]; exact J7.out, QR.out.trans Q7.out, FR.out.trans F7.out⟩
end Go.Proofs.YtbhmmcelndmijaaGreat
