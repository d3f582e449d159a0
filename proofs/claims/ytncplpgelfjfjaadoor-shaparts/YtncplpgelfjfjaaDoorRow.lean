/-
  Whole rows of cells loaded and stored, in the form in which the walks of this seat take them: behind a store the world is a letter of which the row, and that nothing else turned, is known.
-/
import Derived.Test.YtncplpgelfjfjaaDoorMem
namespace Go.Proofs.YtncplpgelfjfjaaDoor
open Go.RowKit
variable {P : Program}
theorem arr_one (k : IntKind) (n : Nat) (f : Nat → Int) : (arr k n f).all (·.oneCell') = true := by
  rw [Array.all_eq_true_iff_forall_mem]
  intro v hv
  obtain ⟨i, hi, rfl⟩ := Array.mem_iff_getElem.1 hv
  simp [arr, Value.oneCell']
theorem load_blk {ops : Array Oper} {rest : List Oper} {o : Oper} {a : Act} {w : World} {Q : Exit → Act → World → Prop} (ty : TypeId) (g : Nat) (t : TypeId) (cs : Array Value) (hg : Blk w g t cs) (d : TypeDesc)
    (hu : P.underlying ty = some d) (hd : (match d with | .struct _ | .array _ _ => true | _ => false) = true) (hi : (P.info? ty).map (·.size) = some cs.size) (x : Operand)
    (hgd : o.guard = none) (ho : o.op = .load ty x) (hx : a.eval x = .pointer (some ⟨g, 0, none⟩))
    (h : wpList P ops Q rest (a.put o.dst (.agg cs)) w) : wpList P ops Q (o :: rest) a w :=
  wpList_load_row hgd ty x ho g hx t cs (0, 0) d hg hu hd hi h
theorem setRow_blk {w : World} {g : Nat} {t : TypeId} {old : Array Value} (hg : Blk w g t old) (cells : Array Value) : Blk (w.setRow g cells) g t cells := setRow_heap w g old cells t (0, 0) hg
theorem setRow_grown (w : World) (g : Nat) (cells : Array Value) : w.grownBy (w.setRow g cells) (some g) :=
  ⟨rfl, rfl, rfl, by simp, fun k _ hn => setRow_other w g k cells (fun e => hn (by rw [e]))⟩
theorem store_blk {ops : Array Oper} {rest : List Oper} {o : Oper} {a : Act} {w : World} {Q : Exit → Act → World → Prop} (ty : TypeId) (g : Nat) (t : TypeId) (old cells : Array Value) (hg : Blk w g t old)
    (hi : (P.info? ty).map (·.size) = some cells.size) (hold : old.size = cells.size) (h1 : cells.all (·.oneCell') = true) (x y : Operand)
    (hgd : o.guard = none) (ho : o.op = .store ty x y) (hx : a.eval x = .pointer (some ⟨g, 0, none⟩)) (hy : a.eval y = .agg cells)
    (h : ∀ w', Blk w' g t cells → w.grownBy w' (some g) → wpList P ops Q rest (a.put o.dst undef) w') : wpList P ops Q (o :: rest) a w :=
  wpList_store_row hgd ty x y ho g cells hx hy t old hg hi hold h1 (h _ (setRow_blk hg cells) (setRow_grown w g cells))
/-- Block b holds these cells, of whatever type and mark: what is asked of a table that is only read. -/
def Cel (w : World) (b : Nat) (cs : Array Value) : Prop := ∃ t fr, w.heap[b]? = some (.cells cs t fr)
theorem Cel.lt {w : World} {b : Nat} {cs : Array Value} (h : Cel w b cs) : b < w.heap.size := by
  obtain ⟨t, fr, h⟩ := h
  by_cases hlt : b < w.heap.size
  · exact hlt
  · rw [Array.getElem?_eq_none (by omega)] at h; cases h
theorem Cel.cell {w : World} {b : Nat} {cs : Array Value} (h : Cel w b cs) (i : Nat) : w.cell? ⟨b, i, none⟩ = cs[i]? := by
  obtain ⟨t, fr, h⟩ := h
  exact cell_of_row w b i cs t fr h
theorem Cel.ints {w : World} {b : Nat} {k : IntKind} {n : Nat} {f : Nat → Int} (h : Cel w b (arr k n f)) : ∀ i, i < n → w.cell? ⟨b, i, none⟩ = some (.int k (f i)) := fun i hi => by
  rw [h.cell i, arr_get k n f i hi]
theorem Cel.kept {w w' : World} {b : Nat} {cs : Array Value} {row : Option Nat} (h : Cel w b cs) (hg : w.grownBy w' row) (hn : some b ≠ row) : Cel w' b cs := by
  have hl := h.lt
  obtain ⟨t, fr, h⟩ := h
  exact ⟨t, fr, (hg.block b hl hn).trans h⟩
end Go.Proofs.YtncplpgelfjfjaaDoor
