/-
  A range over a function whose rounds all go on, counted: for iterators that range over another one themselves.
-/
import Derived.Test.YtdodammplhlihaaDoorCt
namespace Go.Proofs.YtdodammplhlihaaDoor
open Go.RowKit Go.Maps Go.Shelf
attribute [local go_sem] Oper.semAt_some
/-- The heap may have grown; whatever is cells, and whatever lies below B, is as it was. -/
structure Stay (B : Nat) (A A' : World) : Prop where
  os : A'.os = A.os
  tape : A'.tape = A.tape
  output : A'.output = A.output
  size : A.heap.size ≤ A'.heap.size
  same : ∀ (b : Nat) (o : Obj), A.heap[b]? = some o → (b < B ∨ o.isCells = true) → A'.heap[b]? = some o
theorem Stay.refl (B : Nat) (A : World) : Stay B A A := ⟨rfl, rfl, rfl, Nat.le_refl _, fun _ _ h _ => h⟩
theorem Stay.trans {B : Nat} {X Y Z : World} (h : Stay B X Y) (k : Stay B Y Z) : Stay B X Z := ⟨k.os.trans h.os, k.tape.trans h.tape, k.output.trans h.output, Nat.le_trans h.size k.size, fun b o h1 h2 => k.same b o (h.same b o h1 h2) h2⟩
theorem Stay.less {B B' : Nat} {X Y : World} (h : Stay B X Y) (hb : B' ≤ B) : Stay B' X Y := ⟨h.os, h.tape, h.output, h.size, fun b o h1 h2 => h.same b o h1 (h2.elim (fun h => Or.inl (by omega)) Or.inr)⟩
theorem Stay.grown {B : Nat} {X Y : World} (h : X.grownBy Y none) : Stay B X Y := ⟨h.os, h.tape, h.output, h.size, fun b _ h1 _ => (h.block b (Array.getElem?_eq_some_iff.1 h1).1 (by simp)).trans h1⟩
theorem Stay.put {B l : Nat} {W : World} {o : Obj} (o' : Obj) (hB : B ≤ l) (h : W.heap[l]? = some o) (hc : o.isCells = false) : Stay B W (W.putObj l o') := by
  refine ⟨(grownBy_putObj' W l o').os, (grownBy_putObj' W l o').tape, (grownBy_putObj' W l o').output, (grownBy_putObj' W l o').size, fun b u h1 h2 => ?_⟩
  by_cases e : b = l
  · subst e
    rw [h] at h1
    cases h1
    rw [hc] at h2
    rcases h2 with h2 | h2
    · omega
    · cases h2
  · exact (World.putObj_heap_other e).trans h1
theorem Stay.after {B : Nat} {w X Y : World} (h : w.grownBy X none) (k : Stay B X Y) (hB : w.heap.size ≤ B) : w.grownBy Y none :=
  ⟨k.os.trans h.os, k.tape.trans h.tape, k.output.trans h.output, Nat.le_trans h.size k.size, fun b hb hn => by
    have h1 := h.block b hb hn
    obtain ⟨o, ho⟩ : ∃ o, w.heap[b]? = some o := ⟨_, Array.getElem?_eq_getElem hb⟩
    rw [ho] at h1
    rw [ho]
    exact k.same b o h1 (Or.inl (by omega))⟩
theorem Stay.cells {B : Nat} {X Y : World} (h : Stay B X Y) : ∀ b o v, X.cell? ⟨b, o, none⟩ = some v → Y.cell? ⟨b, o, none⟩ = some v := fun b o v hv => by
  have hl := cell_lt hv
  obtain ⟨ob, hob⟩ : ∃ ob, X.heap[b]? = some ob := ⟨_, Array.getElem?_eq_getElem hl⟩
  refine (World.cell?_of_block ((h.same b ob hob (Or.inr ?_)).trans hob.symm)).trans hv
  simp only [World.cell?, hob] at hv
  cases ob <;> simp_all [Obj.isCells]
/-- All blocks from B on are as they were. -/
structure Kf (B : Nat) (A A' : World) : Prop where
  size : A.heap.size ≤ A'.heap.size
  same : ∀ b, B ≤ b → b < A.heap.size → A'.heap[b]? = A.heap[b]?
theorem Kf.trans {B : Nat} {X Y Z : World} (h : Kf B X Y) (k : Kf B Y Z) : Kf B X Z := ⟨Nat.le_trans h.size k.size, fun b h1 h2 => (k.same b h1 (Nat.lt_of_lt_of_le h2 h.size)).trans (h.same b h1 h2)⟩
theorem Kf.of_grownBy {B : Nat} {X Y : World} {row : Option Nat} (h : X.grownBy Y row) (hr : ∀ j, row = some j → j < B) : Kf B X Y := ⟨h.size, fun b h1 h2 => h.block b h2 (fun e => by have := hr b e.symm; omega)⟩
theorem Kf.more {B B' : Nat} {X Y : World} (h : Kf B X Y) (hb : B ≤ B') : Kf B' X Y := ⟨h.size, fun b h1 h2 => h.same b (by omega) h2⟩
/-- An iterator that hands on N things, one behind the other: each of its calls of yield is one that goes on. -/
def SeqN (P : Program) (n g : Nat) (lb : Array Value) (Enc : Nat → World → Array Value → Prop) (Kp : World → World → Prop) (N : Nat) (w : World) : Prop :=
  ∀ (l : Nat) (J : Nat → World → Prop) (W : World), Below w.heap.size w W → l < W.heap.size → (∀ k A A', J k A → Stay W.heap.size A A' → J k A') →
    (∀ m k args W1, k < N → J k W1 → Enc k W1 args → YieldAt Fence.wide m P l args W1 fun e W' => e = .returned (.bool true) ∧ J (k + 1) W' ∧ Kp W1 W' ∧ Kf W.heap.size W1 W') →
    J 0 W → CallsIn Fence.wide n P g (#[.func (.yield l) #[] #[]] ++ lb) W fun e W' => (∃ v, e = .returned v) ∧ J N W'
theorem range_cnt {P : Program} {n : Nat} {g : Operand} {ps : Array Tmp} {assign body : Code} {Q : Exit → Act → World → Prop} {a : Act} {w : World} {gf : Nat} {lb : Array Value}
    (hg : a.eval g = .func (.func gf) #[] lb) (eg : ∀ args w, (callFunc gf args).run P w = .ok (.enter gf args) w)
    {Enc : Nat → World → Array Value → Prop} {Kp : World → World → Prop} {N : Nat} (hseq : SeqN P (n - 1) gf lb Enc Kp N w)
    (hKt : ∀ {A B C : World}, Kp A B → Kp B C → Kp A C) (hKb : ∀ W o', Kp W (W.putObj (w.heap.size + 1) o')) (hKg : ∀ A B, w.heap.size ≤ A.heap.size → A.grownBy B none → Kp A B) (hps : ∀ k W args, Enc k W args → args.size = ps.size)
    (hE : ∀ k args A A', Enc k A args → Stay w.heap.size A A' → Enc k A' args)
    (I : Nat → World → Prop) (hI : ∀ k A A', I k A → Stay w.heap.size A A' → I k A') (h0 : I 0 w) (Ax : Nat → Array Value → Act → World → Prop) (hAx : ∀ k args a' A A', Ax k args a' A → Stay w.heap.size A A' → Ax k args a' A')
    (hassign : ∀ (m l k : Nat) (args : Array Value) (W : World) (K : Act → World → Prop), w.heap.size ≤ W.heap.size → Enc k W args → (∀ a' W', W.grownBy W' none → Ax k args a' W' → K a' W') →
      assign.wpIn (Fence.wide.inRound l) m P (Exit.then K (fun _ _ _ => False)) { tmps := (ps.zip args).foldl (fun t (p, v) => t.setIfInBounds p v) a.tmps, defers := [] } W)
    (hbody : ∀ (m l k : Nat) (args : Array Value) (a' : Act) (W : World), w.heap.size ≤ l → k < N → I k W → Enc k W args → Ax k args a' W →
      body.wpIn (Fence.wide.inRound l) m P (fun e _ W' => e = .normal ∧ I (k + 1) W' ∧ Kp W W' ∧ Kf w.heap.size W W') a' W)
    (hdone : ∀ (D : Nat) (W : World), w.heap.size ≤ D → I N W → W.heap[D]? = some (.deferred (some [])) → Q .normal { a with defers := { target := .collected D, args := #[] } :: a.defers } W) :
    (Code.rangeFunc g ps assign body).wpIn Fence.wide n P Q a w := by
  refine wpIn_rangeFunc (fun fn hfn => ?_)
  obtain ⟨rc, hrc⟩ : ∃ rc : LoopState → Loop, rc = fun s => { state := s, pending := none, fn, tmps := a.tmps, params := ps, assign, body, defers := w.heap.size } := ⟨_, rfl⟩
  have hent := run_enterLoop_outer (P := P) (w := w) fn a.tmps ps assign body
  have er : Loop.mk .ready none fn a.tmps ps assign body w.heap.size = rc .ready := by rw [hrc]
  obtain ⟨U, hU⟩ : ∃ U, (w.alloc (.deferred (some []))).alloc (.loop (rc .ready)) = U := ⟨_, rfl⟩
  have hUs : U.heap.size = w.heap.size + 2 := by rw [← hU]; simp
  have hD : U.heap[w.heap.size]? = some (.deferred (some [])) := by
    rw [← hU]
    exact (Below.heap_alloc _ _ _ (by simp)).trans (World.alloc_heap_new w _)
  have hL : U.heap[w.heap.size + 1]? = some (.loop (rc .ready)) := by
    rw [← hU]
    have := World.alloc_heap_new (w.alloc (.deferred (some []))) (.loop (rc .ready))
    rwa [World.size_alloc] at this
  have gU : w.grownBy U none := by rw [← hU]; exact grown_alloc (grown_alloc (grown_refl w none) _) _
  have bU : Below w.heap.size w U := by rw [← hU]; exact ((Below.refl _ w).alloc (Nat.le_refl _) _).alloc (by simp) _
  refine ⟨w.heap.size + 1, [{ target := .collected w.heap.size, args := #[] }], U, { target := .fn (.func gf) lb, args := #[.func (.yield (w.heap.size + 1)) #[] #[]] }, U, gf, #[.func (.yield (w.heap.size + 1)) #[] #[]] ++ lb, U, ?_, ?_, ?_, ?_, (fun h => by cases h), ?_⟩
  · rw [← hU, ← er]; exact hent
  · simp only [resolve, hg]
    simp [go_sem]
  · intro f' hf'
    trivial
  · simp [invoke, go_sem, eg]
  · refine (hseq (w.heap.size + 1) (fun k W => I k W ∧ W.heap[w.heap.size + 1]? = some (.loop (rc .ready)) ∧ W.heap[w.heap.size]? = some (.deferred (some []))) U bU (by omega) ?_ ?_ ⟨hI _ _ _ h0 (Stay.grown gU), hL, hD⟩).mono ?_
    · rintro k A A' ⟨k1, k2, k3⟩ hs
      exact ⟨hI _ _ _ k1 (hs.less (by omega)), hs.same _ _ k2 (Or.inl (by omega)), hs.same _ _ k3 (Or.inl (by omega))⟩
    · rintro m k args W hk ⟨k1, k2, k3⟩ hen
      have hy := run_yield (P := P) (args := args) k2 (by rw [hrc]; exact hps k W args hen)
      rw [hrc] at hy
      refine ⟨fn, _, assign, body, hy, roundIn_of_wpIn hfn (hassign m _ k args W _ (by have := (Array.getElem?_eq_some_iff.1 k2).1; omega) hen (fun a' Wa hga hax => ?_))⟩
      have hlt0 : w.heap.size + 1 < W.heap.size := (Array.getElem?_eq_some_iff.1 k2).1
      have q1 := hKg W Wa (by omega) hga
      have q2 : Kf U.heap.size W Wa := Kf.of_grownBy hga (fun j e => by cases e)
      replace k2 := (hga.block _ hlt0 (by simp)).trans k2
      replace k3 := (hga.block _ (by omega) (by simp)).trans k3
      replace k1 := hI _ _ _ k1 (Stay.grown hga)
      replace hen := hE _ _ _ _ hen (Stay.grown hga)
      have hlt : w.heap.size + 1 < Wa.heap.size := Nat.lt_of_lt_of_le hlt0 hga.size
      clear hy hga
      generalize hWW : Wa = Wb at *
      clear hWW
      refine ⟨_, run_beginRound k2 (by rw [hrc]), ?_⟩
      have s1 : Stay w.heap.size Wb (Wb.putObj (w.heap.size + 1) (.loop { rc .ready with state := .busy })) := Stay.put _ (by omega) k2 rfl
      have l1 : (Wb.putObj (w.heap.size + 1) (.loop { rc .ready with state := .busy })).heap[w.heap.size + 1]? = some (.loop { rc .ready with state := .busy }) := World.putObj_heap_same hlt
      have d1 : (Wb.putObj (w.heap.size + 1) (.loop { rc .ready with state := .busy })).heap[w.heap.size]? = some (.deferred (some [])) := (World.putObj_heap_other (by omega)).trans k3
      have p1 := hKb Wb (.loop { rc .ready with state := .busy })
      have f1 : Kf U.heap.size Wb (Wb.putObj (w.heap.size + 1) (.loop { rc .ready with state := .busy })) := Kf.of_grownBy (grownBy_putObj' _ _ _) (fun j e => by cases e; omega)
      have hB := hbody m (w.heap.size + 1) k args a' _ (by omega) hk (hI _ _ _ k1 s1) (hE _ _ _ _ hen s1) (hAx _ _ _ _ _ hax s1)
      generalize Wb.putObj (w.heap.size + 1) (.loop { rc .ready with state := .busy }) = W2 at *
      refine wpIn_mono hB ?_
      rintro e a3 W3 ⟨rfl, i3, kp3, kf3⟩
      have l3 := (kf3.same _ (by omega) (Array.getElem?_eq_some_iff.1 l1).1).trans l1
      have d3 := (kf3.same _ (Nat.le_refl _) (Array.getElem?_eq_some_iff.1 d1).1).trans d1
      have hr := run_endRound (P := P) none l3
      have s3 : Stay w.heap.size W3 (W3.putObj (w.heap.size + 1) (.loop (rc .ready))) := Stay.put _ (by omega) l3 rfl
      have er2 : ({ ({ rc .ready with state := .busy } : Loop) with state := if (none : Option Code).isNone then .ready else .done, pending := none } : Loop) = rc .ready := by rw [hrc]; rfl
      rw [er2] at hr
      refine ⟨_, _, hr, rfl, ⟨hI _ _ _ i3 s3, World.putObj_heap_same (Array.getElem?_eq_some_iff.1 l3).1, (World.putObj_heap_other (by omega)).trans d3⟩, hKt q1 (hKt p1 (hKt kp3 (hKb _ _))), ?_⟩
      exact q2.trans (f1.trans (Kf.trans (kf3.more (by omega)) (Kf.of_grownBy (grownBy_putObj' _ _ _) (fun j e => by cases e; omega))))
    · rintro e W2 ⟨⟨v, rfl⟩, i2, l2, d2⟩
      have hend := run_endLoop (P := P) l2 (by rw [hrc]; simp)
      have ep : (rc .ready).pending = none := by rw [hrc]
      rw [ep] at hend
      exact ⟨none, _, hend, hdone w.heap.size _ (Nat.le_refl _) (hI _ _ _ i2 (Stay.put _ (by omega) l2 rfl)) ((World.putObj_heap_other (by omega)).trans d2)⟩
end Go.Proofs.YtdodammplhlihaaDoor
