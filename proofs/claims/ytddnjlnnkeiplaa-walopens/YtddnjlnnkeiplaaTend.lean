/-
  What a disk's call may turn: its own block, its maps, its list of changes; nothing below base, and no other cells.
-/
import Derived.Test.YtddnjlnnkeiplaaKRef
import Derived.Test.YtddnjlnnkeiplaaKTear
namespace Go.Proofs.Ytddnjlnnkeiplaa
open Go.RowKit Go.Maps
/-- A block that no call of the disk at b turns. -/
def Safe (base b : Nat) (w : World) (i : Nat) : Prop := i < base ∨ (i ≠ b ∧ ∃ cs t fz, w.heap[i]? = some (.cells cs t fz) ∧ t ≠ 101)
structure Tend (base b : Nat) (w w' : World) : Prop where
  os : w'.os = w.os
  tape : w'.tape = w.tape
  output : w'.output = w.output
  size : w.heap.size ≤ w'.heap.size
  keep : ∀ i, i < w.heap.size → Safe base b w i → w'.heap[i]? = w.heap[i]?
theorem Tend.of_grown {base b : Nat} {w w' : World} {row : Option Nat} (h : w.grownBy w' row) (hr : ∀ i, Safe base b w i → some i ≠ row) : Tend base b w w' :=
  ⟨h.os, h.tape, h.output, h.size, fun i hi hs => h.block i hi (hr i hs)⟩
theorem Tend.of_none {base b : Nat} {w w' : World} (h : w.grownBy w' none) : Tend base b w w' := Tend.of_grown h (fun _ _ => by simp)
theorem Tend.of_self {base b : Nat} {w w' : World} (h : w.grownBy w' (some b)) (hb : base ≤ b) : Tend base b w w' := Tend.of_grown h (fun i hs e => by
  have e' := Option.some.inj e
  rcases hs with hs | ⟨hn, _⟩
  · omega
  · exact hn e')
theorem Tend.of_map {base b g : Nat} {w w' : World} {l : FS} (h : w.grownBy w' (some g)) (hg : base ≤ g) (ho : OwnsF w g l) : Tend base b w w' := Tend.of_grown h (fun i hs e => by
  have e' := Option.some.inj e
  subst e'
  rcases hs with hs | ⟨_, cs, t, fz, hc, _⟩
  · omega
  · obtain ⟨es, clock, hm⟩ := ho.isMap
    rw [hm] at hc
    cases hc)
theorem Tend.of_row {base b : Nat} {w w' : World} {v : Value} {n : Nat} {xs : List Value} (h : w.grownBy w' v.ownBlock) (ho : w.ownsRow base 101 5 v n xs) : Tend base b w w' := Tend.of_grown h (fun i hs e => by
  rcases ho.2 with ⟨rfl, _⟩ | ⟨g, cap, cur, rfl, hg, hh, _⟩
  · cases e
  · have e' : i = g := Option.some.inj e
    subst e'
    rcases hs with hs | ⟨_, cs, t, fz, hc, ht⟩
    · omega
    · rw [hh] at hc
      injection hc with hc
      injection hc with _ h2
      exact ht h2.symm)
theorem Safe.after {base b : Nat} {w w' : World} {i : Nat} (h : Tend base b w w') (hi : i < w.heap.size) (hs : Safe base b w i) : Safe base b w' i := by
  have hk := h.keep i hi hs
  rcases hs with hs | ⟨hn, cs, t, fz, hc, ht⟩
  · exact Or.inl hs
  · exact Or.inr ⟨hn, cs, t, fz, hk.trans hc, ht⟩
theorem Tend.refl (base b : Nat) (w : World) : Tend base b w w := ⟨rfl, rfl, rfl, Nat.le_refl _, fun _ _ _ => rfl⟩
theorem Tend.trans {base b : Nat} {w w' w'' : World} (h : Tend base b w w') (k : Tend base b w' w'') : Tend base b w w'' :=
  ⟨k.os.trans h.os, k.tape.trans h.tape, k.output.trans h.output, Nat.le_trans h.size k.size, fun i hi hs => (k.keep i (Nat.lt_of_lt_of_le hi h.size) (Safe.after h hi hs)).trans (h.keep i hi hs)⟩
theorem Tend.grown {b : Nat} {w w' w'' : World} (h0 : w.grownBy w' none) (h : Tend w.heap.size b w' w'') : w.grownBy w'' none :=
  ⟨h.os.trans h0.os, h.tape.trans h0.tape, h.output.trans h0.output, Nat.le_trans h0.size h.size, fun i hi _ => (h.keep i (Nat.lt_of_lt_of_le hi h0.size) (Or.inl hi)).trans (h0.block i hi (by simp))⟩
/-- Blocks of cells that are none of the disk's stay. -/
theorem Blk.tend {base b i : Nat} {w w' : World} {t : TypeId} {cs : Array Value} (h : Blk w i t cs) (hT : Tend base b w w') (hi : i ≠ b) (ht : t ≠ 101) : Blk w' i t cs :=
  (hT.keep i h.lt (Or.inr ⟨hi, cs, t, (0, 0), h, ht⟩)).trans h
theorem info80 : (Try.prog.info? 101).map (fun i => (i.zero, i.size, i.bytes)) = some (some (.agg #[.int .i64 0, .string ⟨#[]⟩, .string ⟨#[]⟩, .string ⟨#[]⟩, .int .i64 0]), 5, 64) := by kernel_rfl
theorem looseL_snoc (l : List Chg) (c : Chg) : looseL l ++ c.cells = looseL (l ++ [c]) := by
  unfold looseL
  rw [List.flatMap_append, List.flatMap_cons, List.flatMap_nil, List.append_nil]
/-- append of a change, as a step of a region that draws. -/
theorem step_append {ops : Array Oper} {o : Oper} {a : Act} {w : World} {K : Act → World → Prop} {Q : Exit → Act → World → Prop} {E : Prop} (base : Nat) (v : Value) (l : List Chg) (c : Chg) (ad : Addr) (cc : Nat) (s x : Operand)
    (hrow : w.ownsRow base 101 5 v l.length (looseL l)) (hcell : ∀ j u, c.cells[j]? = some u → w.cell? (ad.add j) = some u) (hl : l.length ≤ 1000) (hbase : base ≤ w.heap.size)
    (hg : o.guard = none) (ho : o.op = Op.call { callee := Callee.builtin Builtin.append, args := #[s, x], argTypes := #[71, 71] }) (hs : a.eval s = v) (hx : a.eval x = .slice (some ad) 1 cc)
    (hK : ∀ v' w', w'.ownsRow base 101 5 v' (l.length + 1) (looseL (l ++ [c])) → w.grownBy w' v.ownBlock → K (a.put o.dst v') w') :
    if Region.wanted o (yielded ops a.tmps) = true then Oper.wp Try.prog o a w K Q else E := by
  have hw : Region.wanted o (yielded ops a.tmps) = true := by simp [Region.wanted, hg]
  rw [if_pos hw]
  obtain ⟨i80, hi, hz0, hz1, hz2⟩ := info_parts info80
  refine wp_append_own w s x 71 ho base 101 i80 _ 5 64 Try.underlying71 hi hz0 hz1 hz2 rfl (by decide) v l.length (looseL l) hs hrow ad 1 cc c.cells hx rfl hcell ?_ (by unfold maxLen; omega) (by omega) hbase ?_
  · intro u hu
    unfold Chg.cells at hu
    simp only [List.mem_cons, List.not_mem_nil, or_false] at hu
    rcases hu with rfl | rfl | rfl | rfl | rfl <;> rfl
  · intro v' w' h1 h2 _
    rw [looseL_snoc] at h1
    exact hK v' w' h1 h2
end Go.Proofs.Ytddnjlnnkeiplaa
