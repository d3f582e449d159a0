/-
  Small facts on memory for the walks of this seat: a block of cells that holds a row of integers, and what a store, a draw and a new block do to it. Nothing of the program is named here. Trees as values, and what the layer makes of them. Nothing of the program is named here. A text's tree as a function of its words: what the parser makes of them. Nothing of the program is named here.
-/
import Derived.WalkKit
import Derived.WalkSpells
import Derived.WalkLawsBesides
import Derived.Test.YtajoncmmdeahnaaGreatDoorLx
namespace Go.Proofs.YtajoncmmdeahnaaGreatDoor
open Go.RowKit

/-- Block b holds just these cells; none is frozen. -/
def Blk (w : World) (b : Nat) (t : TypeId) (cs : Array Value) : Prop := w.heap[b]? = some (.cells cs t (0, 0))

/-- A row of n integers of a kind. -/
def arr (k : IntKind) (n : Nat) (f : Nat → Int) : Array Value := Array.ofFn (n := n) (fun i => Value.int k (f i.val))

/-- A number's value put at a place. -/
def upd (f : Nat → Int) (j : Nat) (v : Int) : Nat → Int := fun i => if i = j then v else f i

theorem arr_size (k : IntKind) (n : Nat) (f : Nat → Int) : (arr k n f).size = n := by simp [arr]
theorem arr_get (k : IntKind) (n : Nat) (f : Nat → Int) (i : Nat) (h : i < n) : (arr k n f)[i]? = some (.int k (f i)) := by
  simp [arr, h]
theorem arr_congr (k : IntKind) (n : Nat) (f g : Nat → Int) (h : ∀ i, i < n → f i = g i) : arr k n f = arr k n g := by
  apply Array.ext
  · simp [arr]
  · intro i h1 h2
    simp [arr] at h1 ⊢
    exact h i h1
theorem arr_set (k : IntKind) (n : Nat) (f : Nat → Int) (j : Nat) (v : Int) : (arr k n f).setIfInBounds j (.int k v) = arr k n (upd f j v) := by
  apply Array.ext
  · simp [arr]
  · intro i h1 h2
    have hi : i < n := by simpa [arr] using h2
    apply Option.some.inj
    rw [← Array.getElem?_eq_getElem h1, ← Array.getElem?_eq_getElem h2, arr_get k n _ i hi, Array.getElem?_setIfInBounds]
    by_cases e : j = i
    · subst e; simp [arr_size, hi, upd]
    · rw [if_neg e, arr_get k n f i hi]; simp [upd]; exact fun h => absurd h.symm e

theorem Blk.lt {w : World} {b : Nat} {t : TypeId} {cs : Array Value} (h : Blk w b t cs) : b < w.heap.size := by
  have : w.heap[b]? = some (.cells cs t (0, 0)) := h
  by_cases hlt : b < w.heap.size
  · exact hlt
  · rw [Array.getElem?_eq_none (by omega)] at this; cases this
theorem Blk.cell {w : World} {b : Nat} {t : TypeId} {cs : Array Value} (h : Blk w b t cs) (i : Nat) : w.cell? ⟨b, i, none⟩ = cs[i]? := cell_of_row w b i cs t (0, 0) h
theorem Blk.frozen {w : World} {b : Nat} {t : TypeId} {cs : Array Value} (h : Blk w b t cs) (i : Nat) : w.frozen? ⟨b, i, none⟩ = false := frozen_of_row w b i cs t h
theorem Blk.ints {w : World} {b : Nat} {t : TypeId} {k : IntKind} {n : Nat} {f : Nat → Int} (h : Blk w b t (arr k n f)) : ∀ i, i < n → w.cell? ⟨b, i, none⟩ = some (.int k (f i)) := fun i hi => by
  rw [h.cell i, arr_get k n f i hi]
theorem Blk.drew {w : World} {b : Nat} {t : TypeId} {cs : Array Value} (h : Blk w b t cs) : Blk w.drew b t cs := h
theorem Blk.alloc {w : World} {b : Nat} {t : TypeId} {cs : Array Value} (h : Blk w b t cs) (o : Obj) : Blk (w.alloc o) b t cs := by
  unfold Blk; rw [Below.heap_alloc w o b h.lt]; exact h
theorem Blk.new (w : World) (t : TypeId) (cs : Array Value) : Blk (w.alloc (.cells cs t)) w.heap.size t cs := heap_alloc_new w _
theorem Blk.set {w : World} {b : Nat} {t : TypeId} {cs : Array Value} (h : Blk w b t cs) (i : Nat) (v : Value) : Blk (w.setCell ⟨b, i, none⟩ v) b t (cs.setIfInBounds i v) := heap_setCell_same w b i cs t v h
theorem Blk.seti {w : World} {b : Nat} {t : TypeId} {k : IntKind} {n : Nat} {f : Nat → Int} (h : Blk w b t (arr k n f)) (i : Nat) (v : Int) : Blk (w.setCell ⟨b, i, none⟩ (.int k v)) b t (arr k n (upd f i v)) := by
  rw [← arr_set]; exact h.set i _
theorem Blk.other {w : World} {b : Nat} {t : TypeId} {cs : Array Value} (h : Blk w b t cs) {a : Addr} (v : Value) (hn : b ≠ a.block) : Blk (w.setCell a v) b t cs := by
  unfold Blk; rw [heap_setCell_other w a b v hn]; exact h
theorem Blk.congr {w : World} {b : Nat} {t : TypeId} {k : IntKind} {n : Nat} {f g : Nat → Int} (h : Blk w b t (arr k n f)) (e : ∀ i, i < n → f i = g i) : Blk w b t (arr k n g) := by
  rw [← arr_congr k n f g e]; exact h
theorem Blk.kept {w w' : World} {b : Nat} {t : TypeId} {cs : Array Value} {row : Option Nat} (h : Blk w b t cs) (hg : w.grownBy w' row) (hn : some b ≠ row) : Blk w' b t cs := (hg.block b h.lt hn).trans h

theorem grown_refl (w : World) (row : Option Nat) : w.grownBy w row := ⟨rfl, rfl, rfl, Nat.le_refl _, fun _ _ _ => rfl⟩
theorem grown_drew {w w' : World} {row : Option Nat} (h : w.grownBy w' row) : w.grownBy w'.drew row := ⟨h.os, h.tape, h.output, h.size, h.block⟩
theorem grown_trans {a b c : World} {row : Option Nat} (h : a.grownBy b row) (k : b.grownBy c row) : a.grownBy c row :=
  ⟨k.os.trans h.os, k.tape.trans h.tape, k.output.trans h.output, Nat.le_trans h.size k.size, fun i hi hn => (k.block i (Nat.lt_of_lt_of_le hi h.size) hn).trans (h.block i hi hn)⟩
theorem grown_set {w w' : World} {b : Nat} (h : w.grownBy w' (some b)) (i : Nat) (v : Value) : w.grownBy (w'.setCell ⟨b, i, none⟩ v) (some b) :=
  ⟨h.os, h.tape, h.output, by simpa [World.setCell] using h.size, fun k hk hn => (heap_setCell_other w' ⟨b, i, none⟩ k v (fun e => hn (by rw [e]))).trans (h.block k hk hn)⟩
theorem grown_set_new {w w' : World} {row : Option Nat} (h : w.grownBy w' row) {a : Addr} (v : Value) (ha : w.heap.size ≤ a.block) : w.grownBy (w'.setCell a v) row :=
  ⟨h.os, h.tape, h.output, by simpa [World.setCell] using h.size, fun k hk hn => (heap_setCell_other w' a k v (by omega)).trans (h.block k hk hn)⟩
theorem grown_alloc {w w' : World} {row : Option Nat} (h : w.grownBy w' row) (o : Obj) : w.grownBy (w'.alloc o) row :=
  ⟨h.os, h.tape, h.output, by simp; have := h.size; omega, fun k hk hn => (Below.heap_alloc w' o k (Nat.lt_of_lt_of_le hk h.size)).trans (h.block k hk hn)⟩
/-- A callee that turned a block which is new to us turned nothing of ours. -/
theorem grown_through {a b c : World} {row : Option Nat} {k : Nat} (h : a.grownBy b row) (g : b.grownBy c (some k)) (hk : a.heap.size ≤ k) : a.grownBy c row :=
  ⟨g.os.trans h.os, g.tape.trans h.tape, g.output.trans h.output, Nat.le_trans h.size g.size, fun i hi hn => (g.block i (Nat.lt_of_lt_of_le hi h.size) (by simp; omega)).trans (h.block i hi hn)⟩
theorem grown_none {a b c : World} {row : Option Nat} (h : a.grownBy b row) (g : b.grownBy c none) : a.grownBy c row :=
  ⟨g.os.trans h.os, g.tape.trans h.tape, g.output.trans h.output, Nat.le_trans h.size g.size, fun i hi hn => (g.block i (Nat.lt_of_lt_of_le hi h.size) (by simp)).trans (h.block i hi hn)⟩
theorem grown_below {w w' : World} (h : w.grownBy w' none) : Below w.heap.size w w' := ⟨h.os, h.tape, h.output, h.size, fun k hk => h.block k hk (by simp)⟩
end Go.Proofs.YtajoncmmdeahnaaGreatDoor
namespace Go.Proofs.YtajoncmmdeahnaaGreatDoor
open Go.RowKit
inductive Nd where
  | mk (k t : Int) (s : ByteArray) (n : Int) (ks : List Nd)
def Nd.kind : Nd → Int | .mk k _ _ _ _ => k
def Nd.ty : Nd → Int | .mk _ t _ _ _ => t
def Nd.txt : Nd → ByteArray | .mk _ _ s _ _ => s
def Nd.num : Nd → Int | .mk _ _ _ n _ => n
def Nd.kids : Nd → List Nd | .mk _ _ _ _ ks => ks
def Nd.zero : Nd := .mk 0 0 ⟨#[]⟩ 0 []
theorem Nd.eta (x : Nd) : Nd.mk x.kind x.ty x.txt x.num x.kids = x := by cases x; rfl
mutual
/-- How many nodes. -/
def Nd.cnt : Nd → Nat
  | .mk _ _ _ _ ks => 1 + Nd.cnts ks
def Nd.cnts : List Nd → Nat
  | [] => 0
  | x :: r => Nd.cnt x + Nd.cnts r
end
mutual
/-- How deep. -/
def Nd.dep : Nd → Nat
  | .mk _ _ _ _ ks => 1 + Nd.deps ks
def Nd.deps : List Nd → Nat
  | [] => 0
  | x :: r => max (Nd.dep x) (Nd.deps r)
end
mutual
/-- All nodes, by their places. -/
def Nd.all : Nd → List Nd
  | .mk k t s n ks => .mk k t s n ks :: Nd.alls ks
def Nd.alls : List Nd → List Nd
  | [] => []
  | x :: r => Nd.all x ++ Nd.alls r
end
mutual
theorem Nd.all_len : ∀ x : Nd, x.all.length = x.cnt
  | .mk k t s n ks => by
    rw [Nd.all, Nd.cnt, List.length_cons, Nd.alls_len ks]; omega
theorem Nd.alls_len : ∀ l : List Nd, (Nd.alls l).length = Nd.cnts l
  | [] => rfl
  | x :: r => by rw [Nd.alls, Nd.cnts, List.length_append, Nd.all_len x, Nd.alls_len r]
end
theorem Nd.alls_append (a b : List Nd) : Nd.alls (a ++ b) = Nd.alls a ++ Nd.alls b := by
  induction a with
  | nil => rfl
  | cons x r ih => rw [List.cons_append, Nd.alls, ih, Nd.alls, List.append_assoc]
theorem Nd.cnts_append (a b : List Nd) : Nd.cnts (a ++ b) = Nd.cnts a + Nd.cnts b := by
  rw [← Nd.alls_len, Nd.alls_append, List.length_append, Nd.alls_len, Nd.alls_len]
/-- What lies within bounds. -/
structure Bnd (k t : Int) (s : ByteArray) (n : Int) : Prop where
  k0 : 0 ≤ k
  k1 : k ≤ 255
  t0 : 0 ≤ t
  t1 : t ≤ 255
  s1 : s.size ≤ 100
  n0 : -9223372036854775808 ≤ n
  n1 : n ≤ 9223372036854775807
mutual
def Nd.ok : Nd → Prop
  | .mk k t s n ks => Bnd k t s n ∧ ks.length ≤ 255 ∧ Nd.oks ks
def Nd.oks : List Nd → Prop
  | [] => True
  | x :: r => Nd.ok x ∧ Nd.oks r
end
theorem Nd.oks_mem : ∀ {l : List Nd}, Nd.oks l → ∀ x ∈ l, Nd.ok x
  | x :: r, ⟨h1, h2⟩, y, hy => by
    rcases List.mem_cons.1 hy with rfl | h
    · exact h1
    · exact Nd.oks_mem h2 y h
theorem Nd.oks_of : ∀ {l : List Nd}, (∀ x ∈ l, Nd.ok x) → Nd.oks l
  | [], _ => trivial
  | x :: r, h => ⟨h x (by simp), Nd.oks_of (fun y hy => h y (by simp [hy]))⟩
theorem Nd.ok_kids {x : Nd} (h : x.ok) : ∀ y ∈ x.kids, y.ok := by
  cases x with
  | mk k t s n ks => exact Nd.oks_mem h.2.2
mutual
theorem Nd.all_ok : ∀ {x : Nd}, x.ok → ∀ y ∈ x.all, y.ok
  | .mk k t s n ks, h, y, hy => by
    rw [Nd.all] at hy
    rcases List.mem_cons.1 hy with rfl | hy
    · exact h
    · exact Nd.alls_ok h.2.2 y hy
theorem Nd.alls_ok : ∀ {l : List Nd}, Nd.oks l → ∀ y ∈ Nd.alls l, y.ok
  | [], _, y, hy => by cases hy
  | x :: r, h, y, hy => by
    rw [Nd.alls] at hy
    rcases List.mem_append.1 hy with hy | hy
    · exact Nd.all_ok h.1 y hy
    · exact Nd.alls_ok h.2 y hy
end
/-- A slice of n things of which the first stands at block g, a block as P says. -/
def SlV (P : Nat → Prop) (q : Value) (n g : Nat) : Prop := (q = .slice none 0 0 ∧ n = 0) ∨ (0 < n ∧ P g ∧ ∃ cap, q = .slice (some ⟨g, 0, none⟩) n cap ∧ n ≤ cap ∧ cap ≤ maxLen)
mutual
/-- The node x stands at cell o of block g; all below it stands in blocks as P says. -/
def NdAt (w : World) (P : Nat → Prop) (g o : Nat) : Nd → Prop
  | .mk k t s n ks => w.cell? ⟨g, o, none⟩ = some (.int .i64 k) ∧ w.cell? ⟨g, o + 1, none⟩ = some (.int .i64 t) ∧ w.cell? ⟨g, o + 2, none⟩ = some (.string s) ∧ w.cell? ⟨g, o + 3, none⟩ = some (.int .i64 n)
    ∧ ∃ q g', w.cell? ⟨g, o + 4, none⟩ = some q ∧ SlV P q ks.length g' ∧ RowN w P g' 0 ks
def RowN (w : World) (P : Nat → Prop) (g o : Nat) : List Nd → Prop
  | [] => True
  | x :: r => NdAt w P g o x ∧ RowN w P g (o + 5) r
end
/-- A slice reads as these nodes. -/
def KsV (w : World) (P : Nat → Prop) (q : Value) (ks : List Nd) : Prop := ∃ g, SlV P q ks.length g ∧ RowN w P g 0 ks
/-- A value reads as this node. -/
def NdV (w : World) (P : Nat → Prop) (v : Value) (x : Nd) : Prop := ∃ q, v = .agg #[.int .i64 x.kind, .int .i64 x.ty, .string x.txt, .int .i64 x.num, q] ∧ KsV w P q x.kids
theorem cell_lt {w : World} {g o : Nat} {v : Value} (h : w.cell? ⟨g, o, none⟩ = some v) : g < w.heap.size := by
  by_cases hlt : g < w.heap.size
  · exact hlt
  · simp [World.cell?, Array.getElem?_eq_none (Nat.le_of_not_lt hlt)] at h
theorem cell_same {w w' : World} {g o : Nat} {v : Value} (h : w.cell? ⟨g, o, none⟩ = some v) (hg : w'.heap[g]? = w.heap[g]?) : w'.cell? ⟨g, o, none⟩ = some v :=
  (World.cell?_of_block hg).trans h
/-- Blocks as P says are as they were. -/
def Kp (w w' : World) (P : Nat → Prop) : Prop := ∀ b, P b → b < w.heap.size → w'.heap[b]? = w.heap[b]?
theorem Kp.of_grown {w w' : World} {row : Option Nat} {P : Nat → Prop} (hg : w.grownBy w' row) (h : ∀ b, P b → some b ≠ row) : Kp w w' P := fun b h1 h2 => hg.block b h2 (h b h1)
theorem Kp.of_none {w w' : World} (P : Nat → Prop) (hg : w.grownBy w' none) : Kp w w' P := Kp.of_grown hg (by simp)
theorem Kp.mono {w w' : World} {P Q : Nat → Prop} (h : Kp w w' P) (k : ∀ b, Q b → P b) : Kp w w' Q := fun b h1 h2 => h b (k b h1) h2
theorem SlV.mono {P Q : Nat → Prop} {q : Value} {n g : Nat} (h : SlV P q n g) (k : ∀ b, P b → Q b) : SlV Q q n g := h.elim Or.inl (fun h => Or.inr ⟨h.1, k g h.2.1, h.2.2⟩)
theorem NdAt.lt {w : World} {P : Nat → Prop} {g o : Nat} : ∀ {x : Nd}, NdAt w P g o x → g < w.heap.size
  | .mk k t s n ks, h => by
    rw [NdAt] at h
    exact cell_lt h.1
theorem row_lt {w : World} {P : Nat → Prop} {g o : Nat} : ∀ {l : List Nd}, RowN w P g o l → 0 < l.length → g < w.heap.size
  | x :: r, h, _ => by
    rw [RowN] at h
    exact h.1.lt
mutual
theorem NdAt.keptP {w w' : World} {P Q : Nat → Prop} (hk : Kp w w' P) (hm : ∀ b, P b → b < w.heap.size → Q b) : ∀ {g o : Nat} {x : Nd}, w'.heap[g]? = w.heap[g]? → NdAt w P g o x → NdAt w' Q g o x
  | g, o, .mk k t s n ks, hg, h => by
    rw [NdAt] at h ⊢
    obtain ⟨h0, h1, h2, h3, q, g', h4, h5, h6⟩ := h
    refine ⟨cell_same h0 hg, cell_same h1 hg, cell_same h2 hg, cell_same h3 hg, q, g', cell_same h4 hg, ?_, ?_⟩
    · rcases h5 with h5 | ⟨hn, hp, h5⟩
      · exact Or.inl h5
      · exact Or.inr ⟨hn, hm g' hp (row_lt h6 hn), h5⟩
    · rcases h5 with ⟨_, h5⟩ | ⟨hn, hp, h5⟩
      · obtain rfl := List.length_eq_zero_iff.1 h5
        rw [RowN]; trivial
      · exact RowN.keptP hk hm (hk g' hp (row_lt h6 hn)) h6
theorem RowN.keptP {w w' : World} {P Q : Nat → Prop} (hk : Kp w w' P) (hm : ∀ b, P b → b < w.heap.size → Q b) : ∀ {g o : Nat} {l : List Nd}, w'.heap[g]? = w.heap[g]? → RowN w P g o l → RowN w' Q g o l
  | _, _, [], _, _ => by rw [RowN]; trivial
  | g, o, x :: r, hg, h => by
    rw [RowN] at h ⊢
    exact ⟨NdAt.keptP hk hm hg h.1, RowN.keptP hk hm hg h.2⟩
end
theorem KsV.keptP {w w' : World} {P Q : Nat → Prop} {q : Value} {ks : List Nd} (h : KsV w P q ks) (hk : Kp w w' P) (hm : ∀ b, P b → b < w.heap.size → Q b) : KsV w' Q q ks := by
  obtain ⟨g, h5, h6⟩ := h
  rcases h5 with ⟨rfl, h5⟩ | ⟨hn, hp, h5⟩
  · obtain rfl := List.length_eq_zero_iff.1 h5
    exact ⟨g, Or.inl ⟨rfl, rfl⟩, by rw [RowN]; trivial⟩
  · exact ⟨g, Or.inr ⟨hn, hm g hp (row_lt h6 hn), h5⟩, RowN.keptP hk hm (hk g hp (row_lt h6 hn)) h6⟩
theorem KsV.kept {w w' : World} {P : Nat → Prop} {q : Value} {ks : List Nd} (h : KsV w P q ks) (hg : w.grownBy w' none) : KsV w' P q ks := h.keptP (Kp.of_none P hg) (fun _ h _ => h)
theorem KsV.mono {w : World} {P Q : Nat → Prop} {q : Value} {ks : List Nd} (h : KsV w P q ks) (hm : ∀ b, P b → b < w.heap.size → Q b) : KsV w Q q ks := h.keptP (fun _ _ _ => rfl) hm
theorem NdV.kept {w w' : World} {P : Nat → Prop} {v : Value} {x : Nd} (h : NdV w P v x) (hg : w.grownBy w' none) : NdV w' P v x := by
  obtain ⟨q, h1, h2⟩ := h
  exact ⟨q, h1, h2.kept hg⟩
theorem NdV.mono {w : World} {P Q : Nat → Prop} {v : Value} {x : Nd} (h : NdV w P v x) (hm : ∀ b, P b → b < w.heap.size → Q b) : NdV w Q v x := by
  obtain ⟨q, h1, h2⟩ := h
  exact ⟨q, h1, h2.mono hm⟩
theorem NdAt.kept {w w' : World} {P : Nat → Prop} {g o : Nat} {x : Nd} (h : NdAt w P g o x) (hg : w.grownBy w' none) : NdAt w' P g o x :=
  NdAt.keptP (Kp.of_none P hg) (fun _ h _ => h) (hg.block g h.lt (by simp)) h
theorem RowN.at {w : World} {P : Nat → Prop} {g : Nat} : ∀ {o : Nat} {l : List Nd}, RowN w P g o l → ∀ i, (h : i < l.length) → NdAt w P g (o + 5 * i) l[i]
  | _, [], _, _, h => absurd h (Nat.not_lt_zero _)
  | o, x :: r, hr, 0, _ => by
    rw [RowN] at hr
    exact hr.1
  | o, x :: r, hr, i + 1, h => by
    rw [RowN] at hr
    have := RowN.at hr.2 i (by simpa using h)
    rw [show o + 5 + 5 * i = o + 5 * (i + 1) by omega] at this
    exact this
theorem RowN.of {w : World} {P : Nat → Prop} {g : Nat} : ∀ {o : Nat} {l : List Nd}, (∀ i, (h : i < l.length) → NdAt w P g (o + 5 * i) l[i]) → RowN w P g o l
  | _, [], _ => by rw [RowN]; trivial
  | o, x :: r, h => by
    rw [RowN]
    refine ⟨h 0 (by simp), RowN.of (fun i hi => ?_)⟩
    have := h (i + 1) (by simpa using hi)
    rw [show o + 5 * (i + 1) = o + 5 + 5 * i by omega] at this
    exact this
/-- A node's five cells. -/
theorem NdAt.cells {w : World} {P : Nat → Prop} {g o : Nat} {x : Nd} (h : NdAt w P g o x) : ∃ q, w.cell? ⟨g, o, none⟩ = some (.int .i64 x.kind) ∧ w.cell? ⟨g, o + 1, none⟩ = some (.int .i64 x.ty) ∧ w.cell? ⟨g, o + 2, none⟩ = some (.string x.txt) ∧ w.cell? ⟨g, o + 3, none⟩ = some (.int .i64 x.num) ∧ w.cell? ⟨g, o + 4, none⟩ = some q ∧ KsV w P q x.kids := by
  cases x with
  | mk k t s n ks =>
    rw [NdAt] at h
    obtain ⟨h0, h1, h2, h3, q, g', h4, h5, h6⟩ := h
    exact ⟨q, h0, h1, h2, h3, h4, g', h5, h6⟩
theorem NdAt.mk {w : World} {P : Nat → Prop} {g o : Nat} {x : Nd} {q : Value} (h0 : w.cell? ⟨g, o, none⟩ = some (.int .i64 x.kind)) (h1 : w.cell? ⟨g, o + 1, none⟩ = some (.int .i64 x.ty)) (h2 : w.cell? ⟨g, o + 2, none⟩ = some (.string x.txt)) (h3 : w.cell? ⟨g, o + 3, none⟩ = some (.int .i64 x.num)) (h4 : w.cell? ⟨g, o + 4, none⟩ = some q) (h5 : KsV w P q x.kids) : NdAt w P g o x := by
  cases x with
  | mk k t s n ks =>
    rw [NdAt]
    obtain ⟨g', h5, h6⟩ := h5
    exact ⟨h0, h1, h2, h3, q, g', h4, h5, h6⟩
theorem KsV.nil (w : World) (P : Nat → Prop) : KsV w P (.slice none 0 0) [] := ⟨0, Or.inl ⟨rfl, rfl⟩, by rw [RowN]; trivial⟩
theorem KsV.form {w : World} {P : Nat → Prop} {q : Value} {ks : List Nd} (h : KsV w P q ks) : ∃ p cap, q = .slice p ks.length cap ∧ ks.length ≤ cap ∧ cap ≤ maxLen ∧ (p = none ∨ ∃ g, p = some ⟨g, 0, none⟩ ∧ P g) := by
  obtain ⟨g, (⟨rfl, h2⟩ | ⟨_, hp, cap, rfl, h2, h3⟩), h4⟩ := h
  · exact ⟨none, 0, by rw [h2], by rw [h2]; exact Nat.le_refl _, Nat.zero_le _, Or.inl rfl⟩
  · exact ⟨_, cap, rfl, h2, h3, Or.inr ⟨g, rfl, hp⟩⟩
theorem KsV.at {w : World} {P : Nat → Prop} {p : Option Addr} {n cap : Nat} {ks : List Nd} (h : KsV w P (.slice p n cap) ks) (i : Nat) (hi : i < ks.length) : ∃ g, p = some ⟨g, 0, none⟩ ∧ P g ∧ NdAt w P g (5 * i) ks[i] := by
  obtain ⟨g, (⟨h1, h2⟩ | ⟨_, hp, cap, h1, h2, h3⟩), h4⟩ := h
  · omega
  · injection h1 with e1 e2 e3
    have := h4.at i hi
    rw [Nat.zero_add] at this
    exact ⟨g, e1, hp, this⟩
/-- The cells of nodes, one behind the other, as a row that is being built holds them. -/
def CellsN (w : World) (P : Nat → Prop) : List Value → List Nd → Prop
  | cs, [] => cs = []
  | cs, x :: r => ∃ q cs', cs = .int .i64 x.kind :: .int .i64 x.ty :: .string x.txt :: .int .i64 x.num :: q :: cs' ∧ KsV w P q x.kids ∧ CellsN w P cs' r
theorem CellsN.keptP {w w' : World} {P Q : Nat → Prop} (hk : Kp w w' P) (hm : ∀ b, P b → b < w.heap.size → Q b) : ∀ {cs : List Value} {ks : List Nd}, CellsN w P cs ks → CellsN w' Q cs ks
  | _, [], h => h
  | _, _ :: _, ⟨q, cs', h1, h2, h3⟩ => ⟨q, cs', h1, h2.keptP hk hm, CellsN.keptP hk hm h3⟩
theorem CellsN.snoc {w : World} {P : Nat → Prop} {x : Nd} {q : Value} (hx : KsV w P q x.kids) : ∀ {cs : List Value} {ks : List Nd}, CellsN w P cs ks → CellsN w P (cs ++ [.int .i64 x.kind, .int .i64 x.ty, .string x.txt, .int .i64 x.num, q]) (ks ++ [x])
  | _, [], h => by
    obtain rfl : _ = [] := h
    exact ⟨q, [], rfl, hx, rfl⟩
  | _, y :: r, ⟨q', cs', h1, h2, h3⟩ => by
    subst h1
    exact ⟨q', _, rfl, h2, CellsN.snoc hx h3⟩
theorem CellsN.len {w : World} {P : Nat → Prop} : ∀ {cs : List Value} {ks : List Nd}, CellsN w P cs ks → cs.length = 5 * ks.length
  | _, [], h => by
    obtain rfl : _ = [] := h
    rfl
  | _, y :: r, ⟨q', cs', h1, h2, h3⟩ => by
    subst h1
    simp only [List.length_cons, CellsN.len h3]
    omega
/-- They stand in memory. -/
theorem CellsN.row {w : World} {P : Nat → Prop} {g : Nat} : ∀ {o : Nat} {cs : List Value} {ks : List Nd}, CellsN w P cs ks → (∀ j u, cs[j]? = some u → w.cell? ⟨g, o + j, none⟩ = some u) → RowN w P g o ks
  | _, _, [], _, _ => by rw [RowN]; trivial
  | o, _, y :: r, ⟨q', cs', h1, h2, h3⟩, hc => by
    subst h1
    rw [RowN]
    refine ⟨NdAt.mk (hc 0 _ rfl) (hc 1 _ rfl) (hc 2 _ rfl) (hc 3 _ rfl) (hc 4 _ rfl) h2, CellsN.row h3 (fun j u hj => ?_)⟩
    have := hc (j + 5) u (by simpa using hj)
    rw [show o + (j + 5) = o + 5 + j by omega] at this
    exact this
end Go.Proofs.YtajoncmmdeahnaaGreatDoor
namespace Go.Proofs.YtajoncmmdeahnaaGreatDoor
def tkS (t : Tk) : ByteArray := ⟨t.s.toArray⟩
namespace Pm
/-- A digit; what digits tell, behind others; whether a word is one that strconv reads without a loss. -/
def dgt (c : UInt8) : Bool := 48 ≤ c && c ≤ 57
def digF (acc : Nat) (l : List UInt8) : Nat := l.foldl (fun a c => a * 10 + (c.toNat - 48)) acc
def okI (s : List UInt8) : Bool := !s.isEmpty && s.all dgt && decide (digF 0 s ≤ 9223372036854775807) && decide (s.length ≤ 4096)
/-- Digits with a point in their one form, and the number's bits. -/
def is0 (c : UInt8) : Bool := c == 48
def orD (l : List UInt8) : List UInt8 := if l = [] then [48] else l
def ahD (A : List UInt8) : List UInt8 := orD (A.dropWhile is0)
def beD (B : List UInt8) : List UInt8 := orD (B.reverse.dropWhile is0).reverse
def quoD (m x : Nat) : Nat := (FloatKind.f64.format.div (floatOfInt .f64 m) (floatOfInt .f64 ((10 ^ x : Nat) : Int))).getD 0
def okFl (s : List UInt8) : Bool := match s.dropWhile dgt with
  | 46 :: B => B.all dgt && decide ((s.takeWhile dgt).length ≤ 7) && decide (B.length ≤ 8)
  | _ => false
def flA (A B : List UInt8) : Nd := .mk 21 0 ⟨(ahD A ++ 46 :: beD B).toArray⟩ (quoD (digF 0 (ahD A ++ beD B)) (beD B).length : Nat) []
def flN (s : List UInt8) : Nd := flA (s.takeWhile dgt) ((s.dropWhile dgt).drop 1)
/-- A parser between two words: what is left, how many nodes were made, how deep it stands, whether something is too much. -/
structure Ps where
  ws : List Tk
  nodes : Nat
  depth : Nat
  over : Bool
/-- error none: nothing is said; error (some (at, e)): the parse ends there, with that error. -/
abbrev Rs (α : Type) := Except (Option (Nat × Nat)) (α × Ps)
abbrev Pr (α : Type) := Ps → Rs α
def Pr.bnd {α β : Type} (x : Pr α) (f : α → Pr β) : Pr β := fun p => match x p with
  | .ok (a, q) => f a q
  | .error e => .error e
def Pr.ret {α : Type} (a : α) : Pr α := fun p => .ok (a, p)
instance : Monad Pr := { pure := Pr.ret, bind := Pr.bnd }
def nxt : Pr Tk := fun p => match p.ws with
  | [] => .error none
  | t :: _ => .ok (t, p)
def failP {α : Type} (e : Nat) : Pr α := fun p => match p.ws with
  | [] => .error none
  | t :: _ => .error (some (t.pl, e))
def passP : Pr Unit := fun p => match p.ws with
  | [] => .error none
  | t :: r => if p.over then .error (some (t.pl, 3)) else .ok ((), { p with ws := r })
def seesP (s : List UInt8) : Pr Bool := do
  let t ← nxt
  return t.s == s
def wantP (s : List UInt8) : Pr Unit := do
  if ← seesP s then passP else failP 110
def nameP : Pr ByteArray := do
  let t ← nxt
  if t.kind == 1 then
    passP
    return tkS t
  else failP 110
def roomP (have_ most : Nat) : Pr Unit := fun p => .ok ((), if most ≤ have_ then { p with over := true } else p)
def deeper : Pr Unit := fun p => if p.depth ≤ 1000000 then .ok ((), { p with depth := p.depth + 1 }) else .error none
def higher : Pr Unit := fun p => if 1 ≤ p.depth ∧ p.depth ≤ 1000001 then .ok ((), { p with depth := p.depth - 1 }) else .error none
def openP (s : List UInt8) : Pr Unit := do
  fun p => roomP p.depth 40 p
  deeper
  wantP s
def shutP (s : List UInt8) : Pr Unit := do
  wantP s
  higher
def more : Pr Unit := fun p => if p.nodes ≤ 1000000 then .ok ((), { p with nodes := p.nodes + 1 }) else .error none
def madeP (n : Nd) : Pr Nd := do
  fun p => roomP p.nodes 2000 p
  more
  return n
def wInt : List UInt8 := [105, 110, 116]
def wFloat : List UInt8 := [102, 108, 111, 97, 116]
def wBool : List UInt8 := [98, 111, 111, 108]
def typedP : Pr Int := do
  let t ← nxt
  if t.s == wInt then passP; return 1
  else if t.s == wFloat then passP; return 2
  else if t.s == wBool then passP; return 3
  else failP 110
def wTrue : List UInt8 := [116, 114, 117, 101]
def wFalse : List UInt8 := [102, 97, 108, 115, 101]
def literalP : Pr Nd := do
  let t ← nxt
  if t.kind == 2 then
    if okI t.s then passP; madeP (.mk 20 0 ⟨#[]⟩ (digF 0 t.s : Nat) []) else fun _ => .error none
  else if t.kind == 3 then
    if okFl t.s then passP; madeP (flN t.s) else fun _ => .error none
  else if t.s == wTrue then passP; madeP (.mk 22 0 ⟨#[]⟩ 1 [])
  else if t.s == wFalse then passP; madeP (.mk 22 0 ⟨#[]⟩ 0 [])
  else failP 110
def rankN (s : List UInt8) : Nat :=
  if s == [124, 124] then 1 else if s == [38, 38] then 2
  else if s == [60] || s == [60, 61] || s == [62] || s == [62, 61] || s == [61, 61] || s == [33, 61] then 3
  else if s == [43] || s == [45] then 4
  else if s == [42] || s == [47] || s == [37] then 5 else 0
/-- What calls itself, through others. -/
structure Rc where
  expr : Nat → Pr Nd
  oper : Pr Nd
  block : Pr Nd
  branches : Pr Nd
def listL (item : Pr Nd) : Nat → List Nd → Pr (List Nd)
  | 0, _ => fun _ => .error none
  | k + 1, l => do
    if ← seesP [44] then
      passP
      roomP l.length 6
      let x ← item
      listL item k (l ++ [x])
    else return l
def listP (item : Pr Nd) : Pr (List Nd) := do
  let x ← item
  fun p => listL item (p.ws.length + 1) [x] p
def callP (R : Rc) (name : ByteArray) : Pr Nd := do
  openP [40]
  let ks ← (do if ← seesP [41] then return [] else listP (R.expr 1))
  shutP [41]
  madeP (.mk 24 0 name 0 ks)
def variableOrCallP (R : Rc) : Pr Nd := do
  let s ← nameP
  if ← seesP [40] then callP R s else madeP (.mk 23 0 s 0 [])
def bracketedP (R : Rc) : Pr Nd := do
  openP [40]
  let n ← R.expr 1
  shutP [41]
  return n
def signedP (R : Rc) (s : List UInt8) : Pr Nd := do
  openP s
  let n ← R.oper
  higher
  madeP (.mk 25 0 ⟨s.toArray⟩ 0 [n])
def convP (R : Rc) : Pr Nd := do
  let ty ← typedP
  let n ← bracketedP R
  madeP (.mk 27 ty ⟨#[]⟩ 0 [n])
def operP (R : Rc) : Pr Nd := do
  let t ← nxt
  if t.s == [45] || t.s == [33] then signedP R t.s
  else if t.s == [40] then bracketedP R
  else if t.s == wInt || t.s == wFloat then convP R
  else if t.kind == 1 then variableOrCallP R
  else literalP
def exprL (R : Rc) (low : Nat) : Nat → Nd → Pr Nd
  | 0, _ => fun _ => .error none
  | k + 1, n => do
    let t ← nxt
    if low ≤ rankN t.s then
      passP
      let m ← R.expr (rankN t.s + 1)
      let n ← madeP (.mk 26 0 (tkS t) 0 [n, m])
      exprL R low k n
    else return n
def exprP (R : Rc) (low : Nat) : Pr Nd := do
  let n ← R.oper
  fun p => exprL R low (p.ws.length + 1) n p
def endedP (mk : Nd → Nd) (kid : Nd) : Pr Nd := do
  wantP [59]
  madeP (mk kid)
def lineP (R : Rc) (kind : Int) : Pr Nd := do
  passP
  let n ← R.expr 1
  endedP (fun n => .mk kind 0 ⟨#[]⟩ 0 [n]) n
def storedP (R : Rc) (k : Int) (s : ByteArray) : Pr Nd := do
  passP
  let n ← R.expr 1
  endedP (fun n => .mk k 0 s 0 [n]) n
def doneP (R : Rc) (s : ByteArray) : Pr Nd := do
  let n ← callP R s
  endedP (fun n => .mk 13 0 ⟨#[]⟩ 0 [n]) n
def namedP (R : Rc) : Pr Nd := do
  let s ← nameP
  let t ← nxt
  if t.s == [58, 61] then storedP R 7 s
  else if t.s == [61] then storedP R 8 s
  else doneP R s
def wIf : List UInt8 := [105, 102]
def wElse : List UInt8 := [101, 108, 115, 101]
def wFor : List UInt8 := [102, 111, 114]
def wReturn : List UInt8 := [114, 101, 116, 117, 114, 110]
def wAssert : List UInt8 := [97, 115, 115, 101, 114, 116]
def wSkip : List UInt8 := [115, 107, 105, 112]
def elseIfP (R : Rc) : Pr Nd := do
  let n ← R.branches
  madeP (.mk 6 0 ⟨#[]⟩ 0 [n])
def otherwiseP (R : Rc) : Pr Nd := do
  if ← seesP wIf then elseIfP R else R.block
def branchesP (R : Rc) : Pr Nd := do
  openP wIf
  let c ← R.expr 1
  let b ← R.block
  let ks ← (do
    if ← seesP wElse then
      passP
      let o ← otherwiseP R
      return [c, b, o]
    else return [c, b])
  higher
  madeP (.mk 9 0 ⟨#[]⟩ 0 ks)
def loopP (R : Rc) : Pr Nd := do
  wantP wFor
  let c ← R.expr 1
  let b ← R.block
  madeP (.mk 10 0 ⟨#[]⟩ 0 [c, b])
def skipP : Pr Nd := do
  passP
  wantP [59]
  madeP (.mk 14 0 ⟨#[]⟩ 0 [])
def statementP (R : Rc) : Pr Nd := do
  let t ← nxt
  if t.s == wIf then R.branches
  else if t.s == wFor then loopP R
  else if t.s == wReturn then lineP R 11
  else if t.s == wAssert then lineP R 12
  else if t.s == wSkip then skipP
  else namedP R
def blockL (R : Rc) : Nat → List Nd → Pr (List Nd)
  | 0, _ => fun _ => .error none
  | k + 1, l => do
    if ← seesP [125] then return l
    else
      roomP l.length 32
      let x ← statementP R
      blockL R k (l ++ [x])
def blockP (R : Rc) : Pr Nd := do
  openP [123]
  let ks ← (fun p => blockL R (p.ws.length + 1) [] p : Pr (List Nd))
  shutP [125]
  madeP (.mk 6 0 ⟨#[]⟩ 0 ks)
def rc0 : Rc := ⟨fun _ _ => .error none, fun _ => .error none, fun _ => .error none, fun _ => .error none⟩
def rc : Nat → Rc
  | 0 => rc0
  | k + 1 => ⟨exprP (rc k), operP (rc k), blockP (rc k), branchesP (rc k)⟩
def constantP : Pr Nd := do
  if ← seesP [45] then
    passP
    let t ← nxt
    if t.kind == 2 || t.kind == 3 then
      let n ← literalP
      if n.kind == 21 then return .mk 21 0 n.txt (if n.num < 0 then n.num + 9223372036854775808 else n.num - 9223372036854775808) []
      else return .mk n.kind 0 n.txt (- n.num) []
    else failP 110
  else literalP
def wVar : List UInt8 := [118, 97, 114]
def wFunc : List UInt8 := [102, 117, 110, 99]
def wTest : List UInt8 := [116, 101, 115, 116]
def globalP : Pr Nd := do
  wantP wVar
  let s ← nameP
  let t ← typedP
  wantP [61]
  let n ← constantP
  wantP [59]
  madeP (.mk 2 t s 0 [n])
def parameterP : Pr Nd := do
  let s ← nameP
  let t ← typedP
  madeP (.mk 5 t s 0 [])
def functionP (R : Rc) : Pr Nd := do
  wantP wFunc
  let s ← nameP
  wantP [40]
  let ks ← (do if ← seesP [41] then return [] else listP parameterP)
  wantP [41]
  let t ← typedP
  let b ← R.block
  madeP (.mk 3 t s 0 (ks ++ [b]))
def testP (R : Rc) : Pr Nd := do
  wantP wTest
  let s ← nameP
  let b ← R.block
  madeP (.mk 4 0 s 0 [b])
def declarationP (R : Rc) : Pr Nd := do
  let t ← nxt
  if t.s == wVar then globalP
  else if t.s == wFunc then functionP R
  else testP R
def programL (R : Rc) : Nat → Nat → List Nd → Pr (List Nd)
  | 0, _, _ => fun _ => .error none
  | k + 1, g, l => do
    let t ← nxt
    if t.kind == 0 then return l
    else
      let g' ← (if t.s == wVar then do roomP g 16; return (g + 1) else do roomP (l.length - g) 32; return g)
      let x ← declarationP R
      programL R k g' (l ++ [x])
def programP (R : Rc) : Pr Nd := do
  let ks ← (fun p => programL R (p.ws.length + 1) 0 [] p : Pr (List Nd))
  let n ← madeP (.mk 1 0 ⟨#[]⟩ 0 ks)
  passP
  return n
end Pm
end Go.Proofs.YtajoncmmdeahnaaGreatDoor
