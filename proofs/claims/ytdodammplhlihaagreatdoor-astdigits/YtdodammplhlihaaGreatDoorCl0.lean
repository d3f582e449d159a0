/-
  Rows of nodes that are written in place, and rows that grow.
-/
import Derived.Test.YtdodammplhlihaaGreatDoorNd
import Derived.Test.YtdodammplhlihaaGreatDoorProg
import Derived.KernelRfl
import Derived.OwnWalk
import Derived.Laws.AppendOwnNone
namespace Go.Proofs.YtdodammplhlihaaGreatDoor.Tr
open Go.RowKit
theorem hid {p : Prop} (h : p) : Hid p := h
mutual
theorem Nd.indA {M : Nd → Prop} (h : ∀ k t s n ks, (∀ y ∈ ks, M y) → M (.mk k t s n ks)) : ∀ x : Nd, M x
  | .mk k t s n ks => h k t s n ks (Nd.indL h ks)
theorem Nd.indL {M : Nd → Prop} (h : ∀ k t s n ks, (∀ y ∈ ks, M y) → M (.mk k t s n ks)) : ∀ l : List Nd, ∀ y ∈ l, M y
  | [], _, hy => by cases hy
  | x :: r, y, hy => by
    have h1 := Nd.indA h x
    have h2 := Nd.indL h r
    rcases List.mem_cons.1 hy with e | hy
    · rw [e]; exact h1
    · exact h2 y hy
end
def put5 (cs : Array Value) (o : Nat) (a b c d e : Value) : Array Value := ((((cs.setIfInBounds o a).setIfInBounds (o + 1) b).setIfInBounds (o + 2) c).setIfInBounds (o + 3) d).setIfInBounds (o + 4) e
theorem put5_size (cs : Array Value) (o : Nat) (a b c d e : Value) : (put5 cs o a b c d e).size = cs.size := by simp [put5]
theorem put5_other (cs : Array Value) (o : Nat) (a b c d e : Value) (j : Nat) (h : j < o) : (put5 cs o a b c d e)[j]? = cs[j]? := by
  unfold put5
  rw [Array.getElem?_setIfInBounds_ne (by omega), Array.getElem?_setIfInBounds_ne (by omega), Array.getElem?_setIfInBounds_ne (by omega), Array.getElem?_setIfInBounds_ne (by omega), Array.getElem?_setIfInBounds_ne (by omega)]
theorem put5_0 (cs : Array Value) (o : Nat) (a b c d e : Value) (h : o + 4 < cs.size) : (put5 cs o a b c d e)[o]? = some a := by
  unfold put5
  rw [Array.getElem?_setIfInBounds_ne (by omega), Array.getElem?_setIfInBounds_ne (by omega), Array.getElem?_setIfInBounds_ne (by omega), Array.getElem?_setIfInBounds_ne (by omega), Array.getElem?_setIfInBounds_self_of_lt (by omega)]
theorem put5_1 (cs : Array Value) (o : Nat) (a b c d e : Value) (h : o + 4 < cs.size) : (put5 cs o a b c d e)[o + 1]? = some b := by
  unfold put5
  rw [Array.getElem?_setIfInBounds_ne (by omega), Array.getElem?_setIfInBounds_ne (by omega), Array.getElem?_setIfInBounds_ne (by omega), Array.getElem?_setIfInBounds_self_of_lt (by simp; omega)]
theorem put5_2 (cs : Array Value) (o : Nat) (a b c d e : Value) (h : o + 4 < cs.size) : (put5 cs o a b c d e)[o + 2]? = some c := by
  unfold put5
  rw [Array.getElem?_setIfInBounds_ne (by omega), Array.getElem?_setIfInBounds_ne (by omega), Array.getElem?_setIfInBounds_self_of_lt (by simp; omega)]
theorem put5_3 (cs : Array Value) (o : Nat) (a b c d e : Value) (h : o + 4 < cs.size) : (put5 cs o a b c d e)[o + 3]? = some d := by
  unfold put5
  rw [Array.getElem?_setIfInBounds_ne (by omega), Array.getElem?_setIfInBounds_self_of_lt (by simp; omega)]
theorem put5_4 (cs : Array Value) (o : Nat) (a b c d e : Value) (h : o + 4 < cs.size) : (put5 cs o a b c d e)[o + 4]? = some e := by
  unfold put5
  rw [Array.getElem?_setIfInBounds_self_of_lt (by simp; omega)]
def set5 (w : World) (g o : Nat) (a b c d e : Value) : World := ((((w.setCell ⟨g, o, none⟩ a).setCell ⟨g, o + 1, none⟩ b).setCell ⟨g, o + 2, none⟩ c).setCell ⟨g, o + 3, none⟩ d).setCell ⟨g, o + 4, none⟩ e
theorem _root_.Go.Proofs.YtdodammplhlihaaGreatDoor.Blk.set5 {w : World} {g : Nat} {t : TypeId} {cs : Array Value} (h : Blk w g t cs) (o : Nat) (a b c d e : Value) : Blk (set5 w g o a b c d e) g t (put5 cs o a b c d e) :=
  ((((h.set o a).set (o + 1) b).set (o + 2) c).set (o + 3) d).set (o + 4) e
theorem grown_set5 {w w' : World} {g : Nat} (h : w.grownBy w' (some g)) (o : Nat) (a b c d e : Value) : w.grownBy (set5 w' g o a b c d e) (some g) :=
  grown_set (grown_set (grown_set (grown_set (grown_set h o a) (o + 1) b) (o + 2) c) (o + 3) d) (o + 4) e
theorem grown_set5_new {w w' : World} {g : Nat} {row : Option Nat} (h : w.grownBy w' row) (o : Nat) (a b c d e : Value) (hg : w.heap.size ≤ g) : w.grownBy (set5 w' g o a b c d e) row :=
  grown_set_new (grown_set_new (grown_set_new (grown_set_new (grown_set_new h _ hg) _ hg) _ hg) _ hg) _ hg
/-- A row of which one more place is written. -/
theorem row_put {w : World} {g k : Nat} {t : TypeId} {cs : Array Value} {l : List Nd} {q : Value} (hk : k < l.length) (hB : Blk w g t cs) (hs : cs.size = 5 * l.length) (hr : RowN w (fun b => g + 1 ≤ b) g 0 (l.take k)) (hx : KsV w (fun b => g + 1 ≤ b) q (l[k]).kids) :
    RowN (set5 w g (k * 5) (.int .i64 (l[k]).kind) (.int .i64 (l[k]).ty) (.string (l[k]).txt) (.int .i64 (l[k]).num) q) (fun b => g + 1 ≤ b) g 0 (l.take (k + 1)) := by
  have hB' := hB.set5 (k * 5) (.int .i64 (l[k]).kind) (.int .i64 (l[k]).ty) (.string (l[k]).txt) (.int .i64 (l[k]).num) q
  have hG := grown_set5 (grown_refl w (some g)) (k * 5) (.int .i64 (l[k]).kind) (.int .i64 (l[k]).ty) (.string (l[k]).txt) (.int .i64 (l[k]).num) q
  generalize set5 w g (k * 5) (.int .i64 (l[k]).kind) (.int .i64 (l[k]).ty) (.string (l[k]).txt) (.int .i64 (l[k]).num) q = w' at *
  have hK : Kp w w' (fun b => g + 1 ≤ b) := Kp.of_grown hG (fun b hb e => by have := Option.some.inj e; omega)
  refine RowN.of (fun i hi => ?_)
  rw [List.length_take] at hi
  rw [List.getElem_take, Nat.zero_add]
  by_cases he : i = k
  · subst he
    have hz : i * 5 + 4 < cs.size := by omega
    have e := Nat.mul_comm 5 i
    rw [e]
    exact NdAt.mk (by rw [hB'.cell, put5_0 _ _ _ _ _ _ _ hz]) (by rw [hB'.cell, put5_1 _ _ _ _ _ _ _ hz]) (by rw [hB'.cell, put5_2 _ _ _ _ _ _ _ hz]) (by rw [hB'.cell, put5_3 _ _ _ _ _ _ _ hz]) (by rw [hB'.cell, put5_4 _ _ _ _ _ _ _ hz]) (hx.keptP hK (fun _ h _ => h))
  · have hlt : i < k := by omega
    have h0 := hr.at i (by rw [List.length_take]; omega)
    rw [List.getElem_take, Nat.zero_add] at h0
    obtain ⟨q', c0, c1, c2, c3, c4, c5⟩ := h0.cells
    have same : ∀ j, j < k * 5 → w'.cell? ⟨g, j, none⟩ = w.cell? ⟨g, j, none⟩ := fun j hj => by rw [hB'.cell, hB.cell, put5_other _ _ _ _ _ _ _ _ hj]
    exact NdAt.mk (by rw [same _ (by omega), c0]) (by rw [same _ (by omega), c1]) (by rw [same _ (by omega), c2]) (by rw [same _ (by omega), c3]) (by rw [same _ (by omega), c4]) (c5.keptP hK (fun _ h _ => h))
theorem info24 : (Tryz.prog.info? 33).map (fun i => (i.zero, i.size, i.bytes)) = some (some (.agg #[.int .i64 0, .int .i64 0, .string ⟨#[]⟩, .int .i64 0, .slice none 0 0]), 5, 64) := by kernel_rfl
def zeroN (n : Nat) : Array Value := madeCells (Value.agg #[.int .i64 0, .int .i64 0, .string ⟨#[]⟩, .int .i64 0, .slice none 0 0]).cells (n * 5)
theorem zeroN_size (n : Nat) : (zeroN n).size = 5 * n := by unfold zeroN; rw [size_madeCells, Nat.mul_comm]
theorem make_nodes (k : Nat) (w : World) (hk : k ≤ 10000) : (Instr.makeSlice 31 (.int .i64 k) (.int .i64 k)).run Tryz.prog w = .ok (.slice (some ⟨w.heap.size, 0, none⟩) k k) (w.alloc (.cells (zeroN k) 33)) := by
  obtain ⟨i5, hi, hz0, hz1, hz2⟩ := info_parts info24
  have h := run_make (P := Tryz.prog) w 31 33 i5 _ Tryz.underlying31 hi hz0 .i64 .i64 k k (by omega) (Int.le_refl _) (by rw [hz2]; omega) (by omega)
  rw [hz1, Int.toNat_natCast] at h
  exact h
theorem at_or {cs : Array Value} {j : Nat} (h : j < cs.size) : ∃ u, cs[j]? = some u := ⟨_, Array.getElem?_eq_getElem h⟩
end Go.Proofs.YtdodammplhlihaaGreatDoor.Tr
