/-
  The contracts of the writer: bytes that grow.
-/
import Derived.Test.YtddnjlnnkeiplaaWRead
import Derived.Lib.AppendStr
namespace Go.Proofs.Ytddnjlnnkeiplaa.Wi
open Go.RowKit
theorem info5 : (Try.prog.info? 5).map (fun i => (i.zero, i.size, i.bytes)) = some (some (.int .u8 0), 1, 1) := by kernel_rfl
theorem bytes_len (s : ByteArray) : s.data.toList.length = s.size := Array.length_toList
def byL (l : List UInt8) : List Value := l.map fun b => Value.int .u8 (b.toNat : Int)
/-- A writer's block, and that what it holds are these bytes. -/
def Wr (w : World) (b : Nat) (l : List UInt8) : Prop := ∃ v, Blk w b 80 #[v] ∧ w.ownsRow (b + 1) 5 1 v l.length (byL l)
theorem below_grown {w0 w w' : World} {b : Nat} (h : w0.grownBy w none) (g : Below b w w') (hb : w0.heap.size ≤ b) : w0.grownBy w' none :=
  ⟨g.os.trans h.os, g.tape.trans h.tape, g.output.trans h.output, Nat.le_trans h.size g.size, fun k hk hn => (g.block k (Nat.lt_of_lt_of_le hk hb)).trans (h.block k hk hn)⟩
theorem Wr.kept {w w' : World} {b : Nat} {l : List UInt8} (h : Wr w b l) (g : w.grownBy w' none) : Wr w' b l := by
  obtain ⟨v, h1, h2⟩ := h
  refine ⟨v, h1.kept g (by simp), h2.kept g ?_⟩
  cases hv : v.ownBlock with
  | none => exact Or.inl rfl
  | some b => exact Or.inr (by simp)
theorem byL_append (l : List UInt8) (s : ByteArray) : byL l ++ Lib.strCells s = byL (l ++ s.data.toList) := by
  unfold byL
  rw [List.map_append]
  rfl
theorem numS_list (n k : Nat) : (numS n k).data.toList = numL n k := rfl
theorem numS_size (n k : Nat) : (numS n k).size = k := by rw [← bytes_len, numS_list, numL_len]
theorem below_of {w w' : World} {b : Nat} (h : w.grownBy w' none) (hb : b < w.heap.size) : Below b w w' := (Below.refl b w).grown h (by omega) (fun k e => by cases e)
theorem Wr.lt {w : World} {b : Nat} {l : List UInt8} (h : Wr w b l) : b < w.heap.size := by
  obtain ⟨v, h1, _⟩ := h
  exact h1.lt
theorem owned_str (l : List UInt8) (w : World) (base : Nat) (v : Value) (h : w.ownsRow base 5 1 v l.length (byL l)) : (convert 75 9 v).run Try.prog w = .ok (.string ⟨l.toArray⟩) w := by
  rcases h.2 with ⟨rfl, h0⟩ | ⟨g, cap, cur, rfl, _, hg, _, _, _, hcur⟩
  · have : l = [] := List.eq_nil_of_length_eq_zero h0
    subst this
    rw [run_convert_bytes_string w 75 9 5 none 0 0 Try.underlying75 Try.underlying5 Try.underlying9]
    rfl
  · exact run_convert_bytes_back (P := Try.prog) w 75 9 5 ⟨g, 0, none⟩ cap l Try.underlying75 Try.underlying5 Try.underlying9 (fun j hj => by
      rw [add_off, cell_of_row w g j cur 5 (0, 0) hg, ← Array.getElem?_toList]
      have h2 := congrArg (fun l : List Value => l[j]?) hcur
      unfold byL at h2
      simp only [List.getElem?_take, List.getElem?_map, List.getElem?_eq_getElem hj] at h2
      rw [if_pos (by omega)] at h2
      rw [h2]
      rfl)
end Go.Proofs.Ytddnjlnnkeiplaa.Wi
