/-
  Small facts on memory for the walks of this seat: a block of cells that holds a row of integers, and what a store, a draw and a new block do to it. Nothing of the program is named here.
-/
import Derived.WalkKit
import Derived.WalkSpells
import Derived.WalkLawsBesides
namespace Go.Proofs.YtbhmmcelndmijaaGreat
open Go.RowKit

/-- Block b holds just these cells; none is frozen. -/
def Blk (w : World) (b : Nat) (t : TypeId) (cs : Array Value) : Prop := w.heap[b]? = some (.cells cs t (0, 0))

/-- A row of n integers of a kind. -/
def arr (k : IntKind) (n : Nat) (f : Nat → Int) : Array Value := Array.ofFn (n := n) (fun i => Value.int k (f i.val))

/-- A number's value put at a place. -/
def upd (f : Nat → Int) (j : Nat) (v : Int) : Nat → Int := fun i => if i = j then v else f i

theorem arr_size (k : IntKind) (n : Nat) (f : Nat → Int) : (arr k n f).size = n := by simp [arr]
theorem arr_get (k : IntKind) (n : Nat) (f : Nat → Int) (i : Nat) (h : i < n) : (arr k n f)[i]? = some (.int k (f i)) := by
  simp [arr, h]
theorem arr_congr (k : IntKind) (n : Nat) (f g : Nat → Int) (h : ∀ i, i < n → f i = g i) : arr k n f = arr k n g := by
  apply Array.ext
  · simp [arr]
  · intro i h1 h2
    simp [arr] at h1 ⊢
    exact h i h1
theorem arr_set (k : IntKind) (n : Nat) (f : Nat → Int) (j : Nat) (v : Int) : (arr k n f).setIfInBounds j (.int k v) = arr k n (upd f j v) := by
  apply Array.ext
  · simp [arr]
  · intro i h1 h2
    have hi : i < n := by simpa [arr] using h2
    apply Option.some.inj
    rw [← Array.getElem?_eq_getElem h1, ← Array.getElem?_eq_getElem h2, arr_get k n _ i hi, Array.getElem?_setIfInBounds]
    by_cases e : j = i
    · subst e; simp [arr_size, hi, upd]
    · rw [if_neg e, arr_get k n f i hi]; simp [upd]; exact fun h => absurd h.symm e

theorem Blk.lt {w : World} {b : Nat} {t : TypeId} {cs : Array Value} (h : Blk w b t cs) : b < w.heap.size := by
  have : w.heap[b]? = some (.cells cs t (0, 0)) := h
  by_cases hlt : b < w.heap.size
  · exact hlt
  · rw [Array.getElem?_eq_none (by omega)] at this; cases this
theorem Blk.cell {w : World} {b : Nat} {t : TypeId} {cs : Array Value} (h : Blk w b t cs) (i : Nat) : w.cell? ⟨b, i, none⟩ = cs[i]? := cell_of_row w b i cs t (0, 0) h
theorem Blk.frozen {w : World} {b : Nat} {t : TypeId} {cs : Array Value} (h : Blk w b t cs) (i : Nat) : w.frozen? ⟨b, i, none⟩ = false := frozen_of_row w b i cs t h
theorem Blk.ints {w : World} {b : Nat} {t : TypeId} {k : IntKind} {n : Nat} {f : Nat → Int} (h : Blk w b t (arr k n f)) : ∀ i, i < n → w.cell? ⟨b, i, none⟩ = some (.int k (f i)) := fun i hi => by
  rw [h.cell i, arr_get k n f i hi]
theorem Blk.drew {w : World} {b : Nat} {t : TypeId} {cs : Array Value} (h : Blk w b t cs) : Blk w.drew b t cs := h
theorem Blk.alloc {w : World} {b : Nat} {t : TypeId} {cs : Array Value} (h : Blk w b t cs) (o : Obj) : Blk (w.alloc o) b t cs := by
  unfold Blk; rw [Below.heap_alloc w o b h.lt]; exact h
theorem Blk.new (w : World) (t : TypeId) (cs : Array Value) : Blk (w.alloc (.cells cs t)) w.heap.size t cs := heap_alloc_new w _
theorem Blk.set {w : World} {b : Nat} {t : TypeId} {cs : Array Value} (h : Blk w b t cs) (i : Nat) (v : Value) : Blk (w.setCell ⟨b, i, none⟩ v) b t (cs.setIfInBounds i v) := heap_setCell_same w b i cs t v h
theorem Blk.seti {w : World} {b : Nat} {t : TypeId} {k : IntKind} {n : Nat} {f : Nat → Int} (h : Blk w b t (arr k n f)) (i : Nat) (v : Int) : Blk (w.setCell ⟨b, i, none⟩ (.int k v)) b t (arr k n (upd f i v)) := by
  rw [← arr_set]; exact h.set i _
theorem Blk.other {w : World} {b : Nat} {t : TypeId} {cs : Array Value} (h : Blk w b t cs) {a : Addr} (v : Value) (hn : b ≠ a.block) : Blk (w.setCell a v) b t cs := by
  unfold Blk; rw [heap_setCell_other w a b v hn]; exact h
theorem Blk.congr {w : World} {b : Nat} {t : TypeId} {k : IntKind} {n : Nat} {f g : Nat → Int} (h : Blk w b t (arr k n f)) (e : ∀ i, i < n → f i = g i) : Blk w b t (arr k n g) := by
  rw [← arr_congr k n f g e]; exact h
theorem Blk.kept {w w' : World} {b : Nat} {t : TypeId} {cs : Array Value} {row : Option Nat} (h : Blk w b t cs) (hg : w.grownBy w' row) (hn : some b ≠ row) : Blk w' b t cs := (hg.block b h.lt hn).trans h

theorem grown_refl (w : World) (row : Option Nat) : w.grownBy w row := ⟨rfl, rfl, rfl, Nat.le_refl _, fun _ _ _ => rfl⟩
theorem grown_drew {w w' : World} {row : Option Nat} (h : w.grownBy w' row) : w.grownBy w'.drew row := ⟨h.os, h.tape, h.output, h.size, h.block⟩
theorem grown_trans {a b c : World} {row : Option Nat} (h : a.grownBy b row) (k : b.grownBy c row) : a.grownBy c row :=
  ⟨k.os.trans h.os, k.tape.trans h.tape, k.output.trans h.output, Nat.le_trans h.size k.size, fun i hi hn => (k.block i (Nat.lt_of_lt_of_le hi h.size) hn).trans (h.block i hi hn)⟩
theorem grown_set {w w' : World} {b : Nat} (h : w.grownBy w' (some b)) (i : Nat) (v : Value) : w.grownBy (w'.setCell ⟨b, i, none⟩ v) (some b) :=
  ⟨h.os, h.tape, h.output, by simpa [World.setCell] using h.size, fun k hk hn => (heap_setCell_other w' ⟨b, i, none⟩ k v (fun e => hn (by rw [e]))).trans (h.block k hk hn)⟩
theorem grown_set_new {w w' : World} {row : Option Nat} (h : w.grownBy w' row) {a : Addr} (v : Value) (ha : w.heap.size ≤ a.block) : w.grownBy (w'.setCell a v) row :=
  ⟨h.os, h.tape, h.output, by simpa [World.setCell] using h.size, fun k hk hn => (heap_setCell_other w' a k v (by omega)).trans (h.block k hk hn)⟩
theorem grown_alloc {w w' : World} {row : Option Nat} (h : w.grownBy w' row) (o : Obj) : w.grownBy (w'.alloc o) row :=
  ⟨h.os, h.tape, h.output, by simp; have := h.size; omega, fun k hk hn => (Below.heap_alloc w' o k (Nat.lt_of_lt_of_le hk h.size)).trans (h.block k hk hn)⟩
/-- A callee that turned a block which is new to us turned nothing of ours. -/
theorem grown_through {a b c : World} {row : Option Nat} {k : Nat} (h : a.grownBy b row) (g : b.grownBy c (some k)) (hk : a.heap.size ≤ k) : a.grownBy c row :=
  ⟨g.os.trans h.os, g.tape.trans h.tape, g.output.trans h.output, Nat.le_trans h.size g.size, fun i hi hn => (g.block i (Nat.lt_of_lt_of_le hi h.size) (by simp; omega)).trans (h.block i hi hn)⟩
theorem grown_none {a b c : World} {row : Option Nat} (h : a.grownBy b row) (g : b.grownBy c none) : a.grownBy c row :=
  ⟨g.os.trans h.os, g.tape.trans h.tape, g.output.trans h.output, Nat.le_trans h.size g.size, fun i hi hn => (g.block i (Nat.lt_of_lt_of_le hi h.size) (by simp)).trans (h.block i hi hn)⟩
theorem grown_below {w w' : World} (h : w.grownBy w' none) : Below w.heap.size w w' := ⟨h.os, h.tape, h.output, h.size, fun k hk => h.block k hk (by simp)⟩
end Go.Proofs.YtbhmmcelndmijaaGreat
