/-
  Small facts on memory for the walks of this seat: a block of cells that holds a row of integers, and what a store, a draw and a new block do to it. Nothing of the program is named here. Files as lists of a name and its bytes, and the map of package disk that holds them. Changes as the program keeps them.
-/
import Derived.WalkKit
import Derived.WalkSpells
import Derived.WalkLawsBesides
import Derived.Test.YtddnjlnnkeiplaaProg
import Derived.Maps.OwnSet
import Derived.Maps.RangeWalk
import Derived.Maps.Ext
namespace Go.Proofs.Ytddnjlnnkeiplaa
open Go.RowKit

/-- Block b holds just these cells; none is frozen. -/
def Blk (w : World) (b : Nat) (t : TypeId) (cs : Array Value) : Prop := w.heap[b]? = some (.cells cs t (0, 0))

/-- A row of n integers of a kind. -/
def arr (k : IntKind) (n : Nat) (f : Nat → Int) : Array Value := Array.ofFn (n := n) (fun i => Value.int k (f i.val))

/-- A number's value put at a place. -/
def upd (f : Nat → Int) (j : Nat) (v : Int) : Nat → Int := fun i => if i = j then v else f i

theorem arr_size (k : IntKind) (n : Nat) (f : Nat → Int) : (arr k n f).size = n := by simp [arr]
theorem arr_get (k : IntKind) (n : Nat) (f : Nat → Int) (i : Nat) (h : i < n) : (arr k n f)[i]? = some (.int k (f i)) := by
  simp [arr, h]
theorem arr_congr (k : IntKind) (n : Nat) (f g : Nat → Int) (h : ∀ i, i < n → f i = g i) : arr k n f = arr k n g := by
  apply Array.ext
  · simp [arr]
  · intro i h1 h2
    simp [arr] at h1 ⊢
    exact h i h1
theorem arr_set (k : IntKind) (n : Nat) (f : Nat → Int) (j : Nat) (v : Int) : (arr k n f).setIfInBounds j (.int k v) = arr k n (upd f j v) := by
  apply Array.ext
  · simp [arr]
  · intro i h1 h2
    have hi : i < n := by simpa [arr] using h2
    apply Option.some.inj
    rw [← Array.getElem?_eq_getElem h1, ← Array.getElem?_eq_getElem h2, arr_get k n _ i hi, Array.getElem?_setIfInBounds]
    by_cases e : j = i
    · subst e; simp [arr_size, hi, upd]
    · rw [if_neg e, arr_get k n f i hi]; simp [upd]; exact fun h => absurd h.symm e

theorem Blk.lt {w : World} {b : Nat} {t : TypeId} {cs : Array Value} (h : Blk w b t cs) : b < w.heap.size := by
  have : w.heap[b]? = some (.cells cs t (0, 0)) := h
  by_cases hlt : b < w.heap.size
  · exact hlt
  · rw [Array.getElem?_eq_none (by omega)] at this; cases this
theorem Blk.cell {w : World} {b : Nat} {t : TypeId} {cs : Array Value} (h : Blk w b t cs) (i : Nat) : w.cell? ⟨b, i, none⟩ = cs[i]? := cell_of_row w b i cs t (0, 0) h
theorem Blk.frozen {w : World} {b : Nat} {t : TypeId} {cs : Array Value} (h : Blk w b t cs) (i : Nat) : w.frozen? ⟨b, i, none⟩ = false := frozen_of_row w b i cs t h
theorem Blk.ints {w : World} {b : Nat} {t : TypeId} {k : IntKind} {n : Nat} {f : Nat → Int} (h : Blk w b t (arr k n f)) : ∀ i, i < n → w.cell? ⟨b, i, none⟩ = some (.int k (f i)) := fun i hi => by
  rw [h.cell i, arr_get k n f i hi]
theorem Blk.drew {w : World} {b : Nat} {t : TypeId} {cs : Array Value} (h : Blk w b t cs) : Blk w.drew b t cs := h
theorem Blk.alloc {w : World} {b : Nat} {t : TypeId} {cs : Array Value} (h : Blk w b t cs) (o : Obj) : Blk (w.alloc o) b t cs := by
  unfold Blk; rw [Below.heap_alloc w o b h.lt]; exact h
theorem Blk.new (w : World) (t : TypeId) (cs : Array Value) : Blk (w.alloc (.cells cs t)) w.heap.size t cs := heap_alloc_new w _
theorem Blk.set {w : World} {b : Nat} {t : TypeId} {cs : Array Value} (h : Blk w b t cs) (i : Nat) (v : Value) : Blk (w.setCell ⟨b, i, none⟩ v) b t (cs.setIfInBounds i v) := heap_setCell_same w b i cs t v h
theorem Blk.seti {w : World} {b : Nat} {t : TypeId} {k : IntKind} {n : Nat} {f : Nat → Int} (h : Blk w b t (arr k n f)) (i : Nat) (v : Int) : Blk (w.setCell ⟨b, i, none⟩ (.int k v)) b t (arr k n (upd f i v)) := by
  rw [← arr_set]; exact h.set i _
theorem Blk.other {w : World} {b : Nat} {t : TypeId} {cs : Array Value} (h : Blk w b t cs) {a : Addr} (v : Value) (hn : b ≠ a.block) : Blk (w.setCell a v) b t cs := by
  unfold Blk; rw [heap_setCell_other w a b v hn]; exact h
theorem Blk.congr {w : World} {b : Nat} {t : TypeId} {k : IntKind} {n : Nat} {f g : Nat → Int} (h : Blk w b t (arr k n f)) (e : ∀ i, i < n → f i = g i) : Blk w b t (arr k n g) := by
  rw [← arr_congr k n f g e]; exact h
theorem Blk.kept {w w' : World} {b : Nat} {t : TypeId} {cs : Array Value} {row : Option Nat} (h : Blk w b t cs) (hg : w.grownBy w' row) (hn : some b ≠ row) : Blk w' b t cs := (hg.block b h.lt hn).trans h

theorem grown_refl (w : World) (row : Option Nat) : w.grownBy w row := ⟨rfl, rfl, rfl, Nat.le_refl _, fun _ _ _ => rfl⟩
theorem grown_drew {w w' : World} {row : Option Nat} (h : w.grownBy w' row) : w.grownBy w'.drew row := ⟨h.os, h.tape, h.output, h.size, h.block⟩
theorem grown_trans {a b c : World} {row : Option Nat} (h : a.grownBy b row) (k : b.grownBy c row) : a.grownBy c row :=
  ⟨k.os.trans h.os, k.tape.trans h.tape, k.output.trans h.output, Nat.le_trans h.size k.size, fun i hi hn => (k.block i (Nat.lt_of_lt_of_le hi h.size) hn).trans (h.block i hi hn)⟩
theorem grown_set {w w' : World} {b : Nat} (h : w.grownBy w' (some b)) (i : Nat) (v : Value) : w.grownBy (w'.setCell ⟨b, i, none⟩ v) (some b) :=
  ⟨h.os, h.tape, h.output, by simpa [World.setCell] using h.size, fun k hk hn => (heap_setCell_other w' ⟨b, i, none⟩ k v (fun e => hn (by rw [e]))).trans (h.block k hk hn)⟩
theorem grown_set_new {w w' : World} {row : Option Nat} (h : w.grownBy w' row) {a : Addr} (v : Value) (ha : w.heap.size ≤ a.block) : w.grownBy (w'.setCell a v) row :=
  ⟨h.os, h.tape, h.output, by simpa [World.setCell] using h.size, fun k hk hn => (heap_setCell_other w' a k v (by omega)).trans (h.block k hk hn)⟩
theorem grown_alloc {w w' : World} {row : Option Nat} (h : w.grownBy w' row) (o : Obj) : w.grownBy (w'.alloc o) row :=
  ⟨h.os, h.tape, h.output, by simp; have := h.size; omega, fun k hk hn => (Below.heap_alloc w' o k (Nat.lt_of_lt_of_le hk h.size)).trans (h.block k hk hn)⟩
/-- A callee that turned a block which is new to us turned nothing of ours. -/
theorem grown_through {a b c : World} {row : Option Nat} {k : Nat} (h : a.grownBy b row) (g : b.grownBy c (some k)) (hk : a.heap.size ≤ k) : a.grownBy c row :=
  ⟨g.os.trans h.os, g.tape.trans h.tape, g.output.trans h.output, Nat.le_trans h.size g.size, fun i hi hn => (g.block i (Nat.lt_of_lt_of_le hi h.size) (by simp; omega)).trans (h.block i hi hn)⟩
theorem grown_none {a b c : World} {row : Option Nat} (h : a.grownBy b row) (g : b.grownBy c none) : a.grownBy c row :=
  ⟨g.os.trans h.os, g.tape.trans h.tape, g.output.trans h.output, Nat.le_trans h.size g.size, fun i hi hn => (g.block i (Nat.lt_of_lt_of_le hi h.size) (by simp)).trans (h.block i hi hn)⟩
theorem grown_below {w w' : World} (h : w.grownBy w' none) : Below w.heap.size w w' := ⟨h.os, h.tape, h.output, h.size, fun k hk => h.block k hk (by simp)⟩
end Go.Proofs.Ytddnjlnnkeiplaa
namespace Go.Proofs.Ytddnjlnnkeiplaa
open Go.RowKit Go.Maps
/-- A change, as the program keeps it. -/
structure Chg where
  kind : Nat
  name : ByteArray
  bytes : ByteArray
  to : ByteArray
  n : Int
def Chg.cells (c : Chg) : List Value := [.int .i64 c.kind, .string c.name, .string c.bytes, .string c.to, .int .i64 c.n]
def Chg.val (c : Chg) : Value := .agg #[.int .i64 c.kind, .string c.name, .string c.bytes, .string c.to, .int .i64 c.n]
abbrev FS := List (ByteArray × ByteArray)
def keyL (s : ByteArray) : Lit := .string s.data.toList
def entryL (p : ByteArray × ByteArray) : Lit × DataW Unit := (keyL p.1, .lit (keyL p.2))
def datum (l : FS) : DataW Unit := .map (l.map entryL)
def sameB (a b : ByteArray) : Bool := a.data.toList == b.data.toList
def getF (l : FS) (n : ByteArray) : Option ByteArray := (l.find? fun p => sameB p.1 n).map (·.2)
def insF (x : ByteArray × ByteArray) : FS → FS
  | [] => [x]
  | y :: r => if (keyL x.1).before (keyL y.1) then x :: y :: r else y :: insF x r
def delF (l : FS) (n : ByteArray) : FS := l.filter fun p => !sameB p.1 n
def putF (l : FS) (n s : ByteArray) : FS := insF (n, s) (delF l n)
/-- What a change does to files. -/
def doF (l : FS) (c : Chg) : FS :=
  if c.kind = 0 then putF l c.name ((getF l c.name).getD ⟨#[]⟩ ++ c.bytes)
  else if c.kind = 1 then putF l c.name c.bytes
  else match getF l c.name with
    | none => l
    | some s => if c.kind = 2 then putF (delF l c.name) c.to s else if c.kind = 3 then delF l c.name else putF l c.name (s.extract 0 (min c.n.toNat s.size))
theorem sameKey_key (a b : ByteArray) : (keyL a).sameKey (keyL b) = sameB a b := rfl
theorem bytes_ext {a b : ByteArray} (h : a.data.toList = b.data.toList) : a = b := by
  cases a with | mk x => cases b with | mk y => exact congrArg ByteArray.mk (Array.toList_inj.1 h)
theorem sameB_iff (a b : ByteArray) : sameB a b = true ↔ a = b := by
  unfold sameB
  rw [beq_iff_eq]
  exact ⟨bytes_ext, fun h => by rw [h]⟩
theorem map_insF (x : ByteArray × ByteArray) : ∀ l : FS, (insF x l).map entryL = DataW.insert (entryL x) (l.map entryL)
  | [] => rfl
  | y :: r => by
    show List.map entryL (if (keyL x.1).before (keyL y.1) then x :: y :: r else y :: insF x r) = if (entryL x).1.before (entryL y).1 then entryL x :: entryL y :: r.map entryL else entryL y :: DataW.insert (entryL x) (r.map entryL)
    rw [show (entryL x).1.before (entryL y).1 = (keyL x.1).before (keyL y.1) from rfl]
    split
    · rfl
    · rw [List.map_cons, map_insF x r]
theorem map_delF (l : FS) (n : ByteArray) : (delF l n).map entryL = (l.map entryL).filter fun p => !p.1.sameKey (keyL n) := by
  unfold delF
  induction l with
  | nil => rfl
  | cons y r ih =>
    rw [List.map_cons, List.filter_cons, List.filter_cons, show (entryL y).1.sameKey (keyL n) = sameB y.1 n from rfl]
    split
    · rw [List.map_cons, ih]
    · exact ih
theorem datum_put (l : FS) (n s : ByteArray) : (datum l).put (keyL n) (.lit (keyL s)) = datum (putF l n s) := by
  unfold datum DataW.put putF
  rw [map_insF, map_delF]
  rfl
theorem datum_del (l : FS) (n : ByteArray) : (datum l).del (keyL n) = datum (delF l n) := by
  unfold datum DataW.del
  rw [map_delF]
theorem find_entry (l : FS) (n : ByteArray) : (l.map entryL).find? (fun p => p.1.sameKey (keyL n)) = (l.find? fun p => sameB p.1 n).map entryL := by
  induction l with
  | nil => rfl
  | cons y r ih =>
    rw [List.map_cons, List.find?_cons, List.find?_cons, show (entryL y).1.sameKey (keyL n) = sameB y.1 n from rfl]
    cases sameB y.1 n with
    | true => rfl
    | false => exact ih
theorem datum_has (l : FS) (n : ByteArray) : Maps.has (datum l) (keyL n) = (getF l n).isSome := by
  unfold datum getF
  rw [Maps.has_eq, Option.isSome_map]
  induction l with
  | nil => rfl
  | cons y r ih =>
    rw [List.map_cons, List.any_cons, List.find?_cons, show (entryL y).1.sameKey (keyL n) = sameB y.1 n from rfl]
    cases sameB y.1 n with
    | true => rfl
    | false => exact ih
theorem datum_at (l : FS) (n : ByteArray) : (datum l).atKey (keyL n) (.lit (keyL ⟨#[]⟩)) = .lit (keyL ((getF l n).getD ⟨#[]⟩)) := by
  unfold datum DataW.atKey getF
  simp only [find_entry]
  cases l.find? (fun p => sameB p.1 n) <;> rfl
theorem datum_size (l : FS) : Maps.size (datum l) = l.length := by
  unfold datum
  rw [Maps.size_eq, List.length_map]
/-- How an element of that map reads. -/
def fileElem : Value → Option (DataW Unit × List MemPlace)
  | .agg cs => match cs.toList with
    | [.string s] => if s.size ≤ maxLen then some (.lit (keyL s), []) else none
    | _ => none
  | _ => none
theorem fileElem_mk {s : ByteArray} (h : s.size ≤ maxLen) : fileElem (.agg #[.string s]) = some (.lit (keyL s), []) := by
  unfold fileElem
  simp [h]
theorem fileElem_inv {v : Value} {z : DataW Unit × List MemPlace} (h : fileElem v = some z) : ∃ s, v = .agg #[.string s] ∧ z = (.lit (keyL s), []) := by
  unfold fileElem at h
  split at h
  · rename_i cs
    split at h
    · rename_i s hs
      split at h
      · cases h
        exact ⟨s, by rw [show cs = #[.string s] from by rw [← Array.toList_inj, hs]], rfl⟩
      · cases h
    · cases h
  · cases h
theorem lit_inj {a b : ByteArray} (h : (DataW.lit (keyL a) : DataW Unit) = .lit (keyL b)) : a = b := by
  injection h with h1
  injection h1 with h2
  exact bytes_ext h2
theorem law9 : Keyed Try.prog 9 := string_keyed Try.underlying9
theorem zero84 (w : World) : (zeroValue 105).run Try.prog w = .ok (.agg #[.string ⟨#[]⟩]) w := by kernel_rfl
theorem key_ok {s : ByteArray} (h : s.size ≤ maxLen) : keyOf Try.prog 9 (.string s) = some (keyL s) := Go.WideMaps.keyOf_string_mk Try.underlying9 h
/-- Block g is a map that holds just these files. -/
def OwnsF (w : World) (g : Nat) (l : FS) : Prop := w.ownsMap Try.prog 9 fileElem g l.length (datum l)
theorem owns_tight {w : World} {g n : Nat} {l : FS} (h : w.ownsMap Try.prog 9 fileElem g n (datum l)) : OwnsF w g l := by
  obtain ⟨es, clock, hb, F, _, hD⟩ := h
  refine ⟨es, clock, hb, F, ?_, hD⟩
  have e : Maps.size (datum l) = es.size := by rw [hD]; simp [Maps.size, length_sorted]
  rw [← datum_size, e]
  exact Nat.le_refl _
theorem OwnsF.lt {w : World} {g : Nat} {l : FS} (h : OwnsF w g l) : g < w.heap.size := World.ownsMap.lt h
theorem OwnsF.kept {w w' : World} {g : Nat} {l : FS} {row : Option Nat} (h : OwnsF w g l) (hg : w.grownBy w' row) (hn : some g ≠ row) : OwnsF w' g l := World.ownsMap.kept h hg hn
theorem OwnsF.alloc {w : World} {g : Nat} {l : FS} (h : OwnsF w g l) (o : Obj) : OwnsF (w.alloc o) g l := World.ownsMap.alloc h o
theorem OwnsF.set {w : World} {g : Nat} {l : FS} (h : OwnsF w g l) {a : Addr} (ha : g ≠ a.block) (u : Value) : OwnsF (w.setCell a u) g l := World.ownsMap.setCell h ha u
theorem OwnsF.isMap {w : World} {g : Nat} {l : FS} (h : OwnsF w g l) : ∃ es clock, w.heap[g]? = some (.map es clock) := by
  obtain ⟨es, clock, hb, _⟩ := h
  exact ⟨es, clock, hb⟩
theorem Blk.ne_map {w : World} {b g : Nat} {t : TypeId} {cs : Array Value} {l : FS} (h : Blk w b t cs) (hg : OwnsF w g l) : b ≠ g := by
  obtain ⟨es, clock, hm⟩ := hg.isMap
  rintro rfl
  have h' : w.heap[b]? = some (.cells cs t (0, 0)) := h
  rw [hm] at h'
  cases h'
/-- Bounds on files: so many, each so long. -/
def Fits (l : FS) (B : Nat) : Prop := l.length ≤ B ∧ (∀ p ∈ l, p.2.size ≤ B) ∧ ∀ p ∈ l, p.1.size ≤ B
theorem Fits.mono {l : FS} {B C : Nat} (h : Fits l B) (hb : B ≤ C) : Fits l C := ⟨Nat.le_trans h.1 hb, fun p hp => Nat.le_trans (h.2.1 p hp) hb, fun p hp => Nat.le_trans (h.2.2 p hp) hb⟩
theorem fits_nil (B : Nat) : Fits [] B := ⟨Nat.zero_le _, (fun p hp => by cases hp), (fun p hp => by cases hp)⟩
theorem mem_insF {x p : ByteArray × ByteArray} : ∀ {l : FS}, p ∈ insF x l → p = x ∨ p ∈ l
  | [], h => by
    rw [show insF x [] = [x] from rfl, List.mem_singleton] at h
    exact Or.inl h
  | y :: r, h => by
    unfold insF at h
    split at h
    · rcases List.mem_cons.1 h with h | h
      · exact Or.inl h
      · exact Or.inr h
    · rcases List.mem_cons.1 h with h | h
      · exact Or.inr (by rw [h]; exact List.mem_cons_self)
      · rcases mem_insF h with h | h
        · exact Or.inl h
        · exact Or.inr (List.mem_cons_of_mem _ h)
theorem length_insF (x : ByteArray × ByteArray) : ∀ l : FS, (insF x l).length = l.length + 1
  | [] => rfl
  | y :: r => by
    unfold insF
    split
    · rfl
    · rw [List.length_cons, length_insF x r, List.length_cons]
theorem fits_del {l : FS} {B : Nat} (h : Fits l B) (n : ByteArray) : Fits (delF l n) B :=
  ⟨Nat.le_trans (List.length_filter_le _ _) h.1, fun p hp => h.2.1 p (List.mem_filter.1 hp).1, fun p hp => h.2.2 p (List.mem_filter.1 hp).1⟩
theorem fits_put {l : FS} {B C : Nat} (h : Fits l B) (n s : ByteArray) (hn : n.size ≤ C) (hs : s.size ≤ C) (hb : B + 1 ≤ C) : Fits (putF l n s) C := by
  have h' := fits_del h n
  refine ⟨?_, fun p hp => ?_, fun p hp => ?_⟩
  · unfold putF
    rw [length_insF]
    have := h'.1
    omega
  · rcases mem_insF hp with rfl | hp
    · exact hs
    · exact Nat.le_trans (h'.2.1 p hp) (by omega)
  · rcases mem_insF hp with rfl | hp
    · exact hn
    · exact Nat.le_trans (h'.2.2 p hp) (by omega)
theorem get_mem {l : FS} {n s : ByteArray} (h : getF l n = some s) : ∃ p ∈ l, p.2 = s ∧ p.1 = n := by
  unfold getF at h
  cases hf : l.find? (fun p => sameB p.1 n) with
  | none => rw [hf] at h; cases h
  | some p =>
    rw [hf] at h
    have hp := List.find?_some hf
    exact ⟨p, List.mem_of_find?_eq_some hf, Option.some.inj h, (sameB_iff _ _).1 hp⟩
theorem get_size {l : FS} {B : Nat} (h : Fits l B) (n : ByteArray) : ((getF l n).getD ⟨#[]⟩).size ≤ B := by
  cases hg : getF l n with
  | none => exact Nat.zero_le _
  | some s =>
    obtain ⟨p, hp, rfl, _⟩ := get_mem hg
    exact h.2.1 p hp
theorem fits_do {l : FS} {B C : Nat} (h : Fits l B) (c : Chg) (hC : c.bytes.size ≤ C) (hn : c.name.size ≤ B + C + 1) (ht : c.to.size ≤ B + C + 1) : Fits (doF l c) (B + C + 1) := by
  have hg := get_size h c.name
  unfold doF
  split
  · exact fits_put h _ _ hn (by rw [ByteArray.size_append]; omega) (by omega)
  · split
    · exact fits_put h _ _ hn (by omega) (by omega)
    · cases he : getF l c.name with
      | none => exact h.mono (by omega)
      | some s =>
        rw [he] at hg
        have hg' : s.size ≤ B := hg
        show Fits (if _ then _ else _) _
        split
        · exact fits_put (fits_del h _) _ _ ht (by omega) (by omega)
        · split
          · exact (fits_del h _).mono (by omega)
          · exact fits_put h _ _ hn (by rw [ByteArray.size_extract]; omega) (by omega)
end Go.Proofs.Ytddnjlnnkeiplaa
