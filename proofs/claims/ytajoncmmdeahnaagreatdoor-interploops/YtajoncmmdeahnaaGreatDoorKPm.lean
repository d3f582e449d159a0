/-
  Small facts on memory for the walks of this seat: a block of cells that holds a row of integers, and what a store, a draw and a new block do to it. Nothing of the program is named here. Trees as values, and what the layer makes of them. Nothing of the program is named here. The interpreter as a function of trees: placed nodes, values, what a run is. Nothing of the program is named here. Placed trees in memory. Nothing of the program is named here. A text's tree as a function of its words: what the parser makes of them. Nothing of the program is named here.
-/
import Derived.WalkKit
import Derived.WalkSpells
import Derived.WalkLawsBesides
import Derived.Test.YtajoncmmdeahnaaGreatDoorLx
namespace Go.Proofs.YtajoncmmdeahnaaGreatDoor
open Go.RowKit
def Blk (w : World) (b : Nat) (t : TypeId) (cs : Array Value) : Prop := w.heap[b]? = some (.cells cs t (0, 0))
theorem Blk.lt {w : World} {b : Nat} {t : TypeId} {cs : Array Value} (h : Blk w b t cs) : b < w.heap.size := by
  have : w.heap[b]? = some (.cells cs t (0, 0)) := h
  by_cases hlt : b < w.heap.size
  · exact hlt
  · rw [Array.getElem?_eq_none (by omega)] at this; cases this
theorem Blk.cell {w : World} {b : Nat} {t : TypeId} {cs : Array Value} (h : Blk w b t cs) (i : Nat) : w.cell? ⟨b, i, none⟩ = cs[i]? := cell_of_row w b i cs t (0, 0) h
theorem Blk.frozen {w : World} {b : Nat} {t : TypeId} {cs : Array Value} (h : Blk w b t cs) (i : Nat) : w.frozen? ⟨b, i, none⟩ = false := frozen_of_row w b i cs t h
theorem Blk.drew {w : World} {b : Nat} {t : TypeId} {cs : Array Value} (h : Blk w b t cs) : Blk w.drew b t cs := h
theorem Blk.alloc {w : World} {b : Nat} {t : TypeId} {cs : Array Value} (h : Blk w b t cs) (o : Obj) : Blk (w.alloc o) b t cs := by
  unfold Blk; rw [Below.heap_alloc w o b h.lt]; exact h
theorem Blk.new (w : World) (t : TypeId) (cs : Array Value) : Blk (w.alloc (.cells cs t)) w.heap.size t cs := heap_alloc_new w _
theorem Blk.set {w : World} {b : Nat} {t : TypeId} {cs : Array Value} (h : Blk w b t cs) (i : Nat) (v : Value) : Blk (w.setCell ⟨b, i, none⟩ v) b t (cs.setIfInBounds i v) := heap_setCell_same w b i cs t v h
theorem Blk.other {w : World} {b : Nat} {t : TypeId} {cs : Array Value} (h : Blk w b t cs) {a : Addr} (v : Value) (hn : b ≠ a.block) : Blk (w.setCell a v) b t cs := by
  unfold Blk; rw [heap_setCell_other w a b v hn]; exact h
theorem Blk.kept {w w' : World} {b : Nat} {t : TypeId} {cs : Array Value} {row : Option Nat} (h : Blk w b t cs) (hg : w.grownBy w' row) (hn : some b ≠ row) : Blk w' b t cs := (hg.block b h.lt hn).trans h
theorem grown_refl (w : World) (row : Option Nat) : w.grownBy w row := ⟨rfl, rfl, rfl, Nat.le_refl _, fun _ _ _ => rfl⟩
theorem grown_drew {w w' : World} {row : Option Nat} (h : w.grownBy w' row) : w.grownBy w'.drew row := ⟨h.os, h.tape, h.output, h.size, h.block⟩
theorem grown_trans {a b c : World} {row : Option Nat} (h : a.grownBy b row) (k : b.grownBy c row) : a.grownBy c row :=
  ⟨k.os.trans h.os, k.tape.trans h.tape, k.output.trans h.output, Nat.le_trans h.size k.size, fun i hi hn => (k.block i (Nat.lt_of_lt_of_le hi h.size) hn).trans (h.block i hi hn)⟩
theorem grown_set {w w' : World} {b : Nat} (h : w.grownBy w' (some b)) (i : Nat) (v : Value) : w.grownBy (w'.setCell ⟨b, i, none⟩ v) (some b) :=
  ⟨h.os, h.tape, h.output, by simpa [World.setCell] using h.size, fun k hk hn => (heap_setCell_other w' ⟨b, i, none⟩ k v (fun e => hn (by rw [e]))).trans (h.block k hk hn)⟩
theorem grown_set_new {w w' : World} {row : Option Nat} (h : w.grownBy w' row) {a : Addr} (v : Value) (ha : w.heap.size ≤ a.block) : w.grownBy (w'.setCell a v) row :=
  ⟨h.os, h.tape, h.output, by simpa [World.setCell] using h.size, fun k hk hn => (heap_setCell_other w' a k v (by omega)).trans (h.block k hk hn)⟩
theorem grown_alloc {w w' : World} {row : Option Nat} (h : w.grownBy w' row) (o : Obj) : w.grownBy (w'.alloc o) row :=
  ⟨h.os, h.tape, h.output, by simp; have := h.size; omega, fun k hk hn => (Below.heap_alloc w' o k (Nat.lt_of_lt_of_le hk h.size)).trans (h.block k hk hn)⟩
theorem grown_through {a b c : World} {row : Option Nat} {k : Nat} (h : a.grownBy b row) (g : b.grownBy c (some k)) (hk : a.heap.size ≤ k) : a.grownBy c row :=
  ⟨g.os.trans h.os, g.tape.trans h.tape, g.output.trans h.output, Nat.le_trans h.size g.size, fun i hi hn => (g.block i (Nat.lt_of_lt_of_le hi h.size) (by simp; omega)).trans (h.block i hi hn)⟩
theorem grown_none {a b c : World} {row : Option Nat} (h : a.grownBy b row) (g : b.grownBy c none) : a.grownBy c row :=
  ⟨g.os.trans h.os, g.tape.trans h.tape, g.output.trans h.output, Nat.le_trans h.size g.size, fun i hi hn => (g.block i (Nat.lt_of_lt_of_le hi h.size) (by simp)).trans (h.block i hi hn)⟩
theorem grown_below {w w' : World} (h : w.grownBy w' none) : Below w.heap.size w w' := ⟨h.os, h.tape, h.output, h.size, fun k hk => h.block k hk (by simp)⟩
end Go.Proofs.YtajoncmmdeahnaaGreatDoor
namespace Go.Proofs.YtajoncmmdeahnaaGreatDoor
open Go.RowKit
inductive Nd where
  | mk (k t : Int) (s : ByteArray) (n : Int) (ks : List Nd)
def Nd.kind : Nd → Int | .mk k _ _ _ _ => k
def Nd.ty : Nd → Int | .mk _ t _ _ _ => t
def Nd.txt : Nd → ByteArray | .mk _ _ s _ _ => s
def Nd.num : Nd → Int | .mk _ _ _ n _ => n
def Nd.kids : Nd → List Nd | .mk _ _ _ _ ks => ks
mutual
/-- How many nodes. -/
def Nd.cnt : Nd → Nat
  | .mk _ _ _ _ ks => 1 + Nd.cnts ks
def Nd.cnts : List Nd → Nat
  | [] => 0
  | x :: r => Nd.cnt x + Nd.cnts r
end
structure Bnd (k t : Int) (s : ByteArray) (n : Int) : Prop where
  k0 : 0 ≤ k
  k1 : k ≤ 255
  t0 : 0 ≤ t
  t1 : t ≤ 255
  s1 : s.size ≤ 100
  n0 : -9223372036854775808 ≤ n
  n1 : n ≤ 9223372036854775807
mutual
def Nd.ok : Nd → Prop
  | .mk k t s n ks => Bnd k t s n ∧ ks.length ≤ 255 ∧ Nd.oks ks
def Nd.oks : List Nd → Prop
  | [] => True
  | x :: r => Nd.ok x ∧ Nd.oks r
end
theorem Nd.oks_mem : ∀ {l : List Nd}, Nd.oks l → ∀ x ∈ l, Nd.ok x
  | x :: r, ⟨h1, h2⟩, y, hy => by
    rcases List.mem_cons.1 hy with rfl | h
    · exact h1
    · exact Nd.oks_mem h2 y h
def SlV (P : Nat → Prop) (q : Value) (n g : Nat) : Prop := (q = .slice none 0 0 ∧ n = 0) ∨ (0 < n ∧ P g ∧ ∃ cap, q = .slice (some ⟨g, 0, none⟩) n cap ∧ n ≤ cap ∧ cap ≤ maxLen)
mutual
/-- The node x stands at cell o of block g; all below it stands in blocks as P says. -/
def NdAt (w : World) (P : Nat → Prop) (g o : Nat) : Nd → Prop
  | .mk k t s n ks => w.cell? ⟨g, o, none⟩ = some (.int .i64 k) ∧ w.cell? ⟨g, o + 1, none⟩ = some (.int .i64 t) ∧ w.cell? ⟨g, o + 2, none⟩ = some (.string s) ∧ w.cell? ⟨g, o + 3, none⟩ = some (.int .i64 n)
    ∧ ∃ q g', w.cell? ⟨g, o + 4, none⟩ = some q ∧ SlV P q ks.length g' ∧ RowN w P g' 0 ks
def RowN (w : World) (P : Nat → Prop) (g o : Nat) : List Nd → Prop
  | [] => True
  | x :: r => NdAt w P g o x ∧ RowN w P g (o + 5) r
end
def KsV (w : World) (P : Nat → Prop) (q : Value) (ks : List Nd) : Prop := ∃ g, SlV P q ks.length g ∧ RowN w P g 0 ks
def NdV (w : World) (P : Nat → Prop) (v : Value) (x : Nd) : Prop := ∃ q, v = .agg #[.int .i64 x.kind, .int .i64 x.ty, .string x.txt, .int .i64 x.num, q] ∧ KsV w P q x.kids
theorem cell_lt {w : World} {g o : Nat} {v : Value} (h : w.cell? ⟨g, o, none⟩ = some v) : g < w.heap.size := by
  by_cases hlt : g < w.heap.size
  · exact hlt
  · simp [World.cell?, Array.getElem?_eq_none (Nat.le_of_not_lt hlt)] at h
theorem cell_same {w w' : World} {g o : Nat} {v : Value} (h : w.cell? ⟨g, o, none⟩ = some v) (hg : w'.heap[g]? = w.heap[g]?) : w'.cell? ⟨g, o, none⟩ = some v :=
  (World.cell?_of_block hg).trans h
def Kp (w w' : World) (P : Nat → Prop) : Prop := ∀ b, P b → b < w.heap.size → w'.heap[b]? = w.heap[b]?
theorem Kp.of_grown {w w' : World} {row : Option Nat} {P : Nat → Prop} (hg : w.grownBy w' row) (h : ∀ b, P b → some b ≠ row) : Kp w w' P := fun b h1 h2 => hg.block b h2 (h b h1)
theorem Kp.of_none {w w' : World} (P : Nat → Prop) (hg : w.grownBy w' none) : Kp w w' P := Kp.of_grown hg (by simp)
theorem NdAt.lt {w : World} {P : Nat → Prop} {g o : Nat} : ∀ {x : Nd}, NdAt w P g o x → g < w.heap.size
  | .mk k t s n ks, h => by
    rw [NdAt] at h
    exact cell_lt h.1
theorem row_lt {w : World} {P : Nat → Prop} {g o : Nat} : ∀ {l : List Nd}, RowN w P g o l → 0 < l.length → g < w.heap.size
  | x :: r, h, _ => by
    rw [RowN] at h
    exact h.1.lt
mutual
theorem NdAt.keptP {w w' : World} {P Q : Nat → Prop} (hk : Kp w w' P) (hm : ∀ b, P b → b < w.heap.size → Q b) : ∀ {g o : Nat} {x : Nd}, w'.heap[g]? = w.heap[g]? → NdAt w P g o x → NdAt w' Q g o x
  | g, o, .mk k t s n ks, hg, h => by
    rw [NdAt] at h ⊢
    obtain ⟨h0, h1, h2, h3, q, g', h4, h5, h6⟩ := h
    refine ⟨cell_same h0 hg, cell_same h1 hg, cell_same h2 hg, cell_same h3 hg, q, g', cell_same h4 hg, ?_, ?_⟩
    · rcases h5 with h5 | ⟨hn, hp, h5⟩
      · exact Or.inl h5
      · exact Or.inr ⟨hn, hm g' hp (row_lt h6 hn), h5⟩
    · rcases h5 with ⟨_, h5⟩ | ⟨hn, hp, h5⟩
      · obtain rfl := List.length_eq_zero_iff.1 h5
        rw [RowN]; trivial
      · exact RowN.keptP hk hm (hk g' hp (row_lt h6 hn)) h6
theorem RowN.keptP {w w' : World} {P Q : Nat → Prop} (hk : Kp w w' P) (hm : ∀ b, P b → b < w.heap.size → Q b) : ∀ {g o : Nat} {l : List Nd}, w'.heap[g]? = w.heap[g]? → RowN w P g o l → RowN w' Q g o l
  | _, _, [], _, _ => by rw [RowN]; trivial
  | g, o, x :: r, hg, h => by
    rw [RowN] at h ⊢
    exact ⟨NdAt.keptP hk hm hg h.1, RowN.keptP hk hm hg h.2⟩
end
theorem KsV.keptP {w w' : World} {P Q : Nat → Prop} {q : Value} {ks : List Nd} (h : KsV w P q ks) (hk : Kp w w' P) (hm : ∀ b, P b → b < w.heap.size → Q b) : KsV w' Q q ks := by
  obtain ⟨g, h5, h6⟩ := h
  rcases h5 with ⟨rfl, h5⟩ | ⟨hn, hp, h5⟩
  · obtain rfl := List.length_eq_zero_iff.1 h5
    exact ⟨g, Or.inl ⟨rfl, rfl⟩, by rw [RowN]; trivial⟩
  · exact ⟨g, Or.inr ⟨hn, hm g hp (row_lt h6 hn), h5⟩, RowN.keptP hk hm (hk g hp (row_lt h6 hn)) h6⟩
theorem KsV.kept {w w' : World} {P : Nat → Prop} {q : Value} {ks : List Nd} (h : KsV w P q ks) (hg : w.grownBy w' none) : KsV w' P q ks := h.keptP (Kp.of_none P hg) (fun _ h _ => h)
theorem KsV.mono {w : World} {P Q : Nat → Prop} {q : Value} {ks : List Nd} (h : KsV w P q ks) (hm : ∀ b, P b → b < w.heap.size → Q b) : KsV w Q q ks := h.keptP (fun _ _ _ => rfl) hm
theorem RowN.at {w : World} {P : Nat → Prop} {g : Nat} : ∀ {o : Nat} {l : List Nd}, RowN w P g o l → ∀ i, (h : i < l.length) → NdAt w P g (o + 5 * i) l[i]
  | _, [], _, _, h => absurd h (Nat.not_lt_zero _)
  | o, x :: r, hr, 0, _ => by
    rw [RowN] at hr
    exact hr.1
  | o, x :: r, hr, i + 1, h => by
    rw [RowN] at hr
    have := RowN.at hr.2 i (by simpa using h)
    rw [show o + 5 + 5 * i = o + 5 * (i + 1) by omega] at this
    exact this
theorem RowN.of {w : World} {P : Nat → Prop} {g : Nat} : ∀ {o : Nat} {l : List Nd}, (∀ i, (h : i < l.length) → NdAt w P g (o + 5 * i) l[i]) → RowN w P g o l
  | _, [], _ => by rw [RowN]; trivial
  | o, x :: r, h => by
    rw [RowN]
    refine ⟨h 0 (by simp), RowN.of (fun i hi => ?_)⟩
    have := h (i + 1) (by simpa using hi)
    rw [show o + 5 * (i + 1) = o + 5 + 5 * i by omega] at this
    exact this
theorem NdAt.cells {w : World} {P : Nat → Prop} {g o : Nat} {x : Nd} (h : NdAt w P g o x) : ∃ q, w.cell? ⟨g, o, none⟩ = some (.int .i64 x.kind) ∧ w.cell? ⟨g, o + 1, none⟩ = some (.int .i64 x.ty) ∧ w.cell? ⟨g, o + 2, none⟩ = some (.string x.txt) ∧ w.cell? ⟨g, o + 3, none⟩ = some (.int .i64 x.num) ∧ w.cell? ⟨g, o + 4, none⟩ = some q ∧ KsV w P q x.kids := by
  cases x with
  | mk k t s n ks =>
    rw [NdAt] at h
    obtain ⟨h0, h1, h2, h3, q, g', h4, h5, h6⟩ := h
    exact ⟨q, h0, h1, h2, h3, h4, g', h5, h6⟩
theorem NdAt.mk {w : World} {P : Nat → Prop} {g o : Nat} {x : Nd} {q : Value} (h0 : w.cell? ⟨g, o, none⟩ = some (.int .i64 x.kind)) (h1 : w.cell? ⟨g, o + 1, none⟩ = some (.int .i64 x.ty)) (h2 : w.cell? ⟨g, o + 2, none⟩ = some (.string x.txt)) (h3 : w.cell? ⟨g, o + 3, none⟩ = some (.int .i64 x.num)) (h4 : w.cell? ⟨g, o + 4, none⟩ = some q) (h5 : KsV w P q x.kids) : NdAt w P g o x := by
  cases x with
  | mk k t s n ks =>
    rw [NdAt]
    obtain ⟨g', h5, h6⟩ := h5
    exact ⟨h0, h1, h2, h3, q, g', h4, h5, h6⟩
theorem KsV.nil (w : World) (P : Nat → Prop) : KsV w P (.slice none 0 0) [] := ⟨0, Or.inl ⟨rfl, rfl⟩, by rw [RowN]; trivial⟩
theorem KsV.form {w : World} {P : Nat → Prop} {q : Value} {ks : List Nd} (h : KsV w P q ks) : ∃ p cap, q = .slice p ks.length cap ∧ ks.length ≤ cap ∧ cap ≤ maxLen ∧ (p = none ∨ ∃ g, p = some ⟨g, 0, none⟩ ∧ P g) := by
  obtain ⟨g, (⟨rfl, h2⟩ | ⟨_, hp, cap, rfl, h2, h3⟩), h4⟩ := h
  · exact ⟨none, 0, by rw [h2], by rw [h2]; exact Nat.le_refl _, Nat.zero_le _, Or.inl rfl⟩
  · exact ⟨_, cap, rfl, h2, h3, Or.inr ⟨g, rfl, hp⟩⟩
theorem KsV.at {w : World} {P : Nat → Prop} {p : Option Addr} {n cap : Nat} {ks : List Nd} (h : KsV w P (.slice p n cap) ks) (i : Nat) (hi : i < ks.length) : ∃ g, p = some ⟨g, 0, none⟩ ∧ P g ∧ NdAt w P g (5 * i) ks[i] := by
  obtain ⟨g, (⟨h1, h2⟩ | ⟨_, hp, cap, h1, h2, h3⟩), h4⟩ := h
  · omega
  · injection h1 with e1 e2 e3
    have := h4.at i hi
    rw [Nat.zero_add] at this
    exact ⟨g, e1, hp, this⟩
def CellsN (w : World) (P : Nat → Prop) : List Value → List Nd → Prop
  | cs, [] => cs = []
  | cs, x :: r => ∃ q cs', cs = .int .i64 x.kind :: .int .i64 x.ty :: .string x.txt :: .int .i64 x.num :: q :: cs' ∧ KsV w P q x.kids ∧ CellsN w P cs' r
theorem CellsN.keptP {w w' : World} {P Q : Nat → Prop} (hk : Kp w w' P) (hm : ∀ b, P b → b < w.heap.size → Q b) : ∀ {cs : List Value} {ks : List Nd}, CellsN w P cs ks → CellsN w' Q cs ks
  | _, [], h => h
  | _, _ :: _, ⟨q, cs', h1, h2, h3⟩ => ⟨q, cs', h1, h2.keptP hk hm, CellsN.keptP hk hm h3⟩
theorem CellsN.snoc {w : World} {P : Nat → Prop} {x : Nd} {q : Value} (hx : KsV w P q x.kids) : ∀ {cs : List Value} {ks : List Nd}, CellsN w P cs ks → CellsN w P (cs ++ [.int .i64 x.kind, .int .i64 x.ty, .string x.txt, .int .i64 x.num, q]) (ks ++ [x])
  | _, [], h => by
    obtain rfl : _ = [] := h
    exact ⟨q, [], rfl, hx, rfl⟩
  | _, y :: r, ⟨q', cs', h1, h2, h3⟩ => by
    subst h1
    exact ⟨q', _, rfl, h2, CellsN.snoc hx h3⟩
theorem CellsN.row {w : World} {P : Nat → Prop} {g : Nat} : ∀ {o : Nat} {cs : List Value} {ks : List Nd}, CellsN w P cs ks → (∀ j u, cs[j]? = some u → w.cell? ⟨g, o + j, none⟩ = some u) → RowN w P g o ks
  | _, _, [], _, _ => by rw [RowN]; trivial
  | o, _, y :: r, ⟨q', cs', h1, h2, h3⟩, hc => by
    subst h1
    rw [RowN]
    refine ⟨NdAt.mk (hc 0 _ rfl) (hc 1 _ rfl) (hc 2 _ rfl) (hc 3 _ rfl) (hc 4 _ rfl) h2, CellsN.row h3 (fun j u hj => ?_)⟩
    have := hc (j + 5) u (by simpa using hj)
    rw [show o + (j + 5) = o + 5 + j by omega] at this
    exact this
end Go.Proofs.YtajoncmmdeahnaaGreatDoor
namespace Go.Proofs.YtajoncmmdeahnaaGreatDoor
open Go.RowKit
namespace Ip
inductive Pd where
  | mk (k t : Int) (s : ByteArray) (n : Int) (nm : ByteArray) (pl : Int) (ks : List Pd)
def Pd.kind : Pd → Int | .mk k _ _ _ _ _ _ => k
def Pd.ty : Pd → Int | .mk _ t _ _ _ _ _ => t
def Pd.txt : Pd → ByteArray | .mk _ _ s _ _ _ _ => s
def Pd.num : Pd → Int | .mk _ _ _ n _ _ _ => n
def Pd.nm : Pd → ByteArray | .mk _ _ _ _ m _ _ => m
def Pd.pl : Pd → Int | .mk _ _ _ _ _ p _ => p
def Pd.kids : Pd → List Pd | .mk _ _ _ _ _ _ ks => ks
def Pd.zero : Pd := .mk 0 0 ⟨#[]⟩ 0 ⟨#[]⟩ 0 []
mutual
/-- A tree with its places, the first one given, and the place behind its last one. -/
def placeT (nm : ByteArray) : Nd → Int → Pd × Int
  | .mk k t s n ks, i => (.mk k t s n nm i (placeL nm ks (wrap64 (i + 1))).1, (placeL nm ks (wrap64 (i + 1))).2)
def placeL (nm : ByteArray) : List Nd → Int → List Pd × Int
  | [], i => ([], i)
  | x :: r, i => ((placeT nm x i).1 :: (placeL nm r (placeT nm x i).2).1, (placeL nm r (placeT nm x i).2).2)
end
abbrev V := Int × Int
abbrev Vm := ByteArray → Option V
abbrev Sm := ByteArray → Int → Option Int
def vV (v : V) : Value := .agg #[.int .i64 v.1, .int .i64 v.2]
def same (a b : ByteArray) : Bool := a.data.toList == b.data.toList
def updV (f : Vm) (s : ByteArray) (v : V) : Vm := fun x => if same x s then some v else f x
def updS (f : Sm) (s : ByteArray) (n : Int) (v : Int) : Sm := fun x i => if same x s && (i == n) then some v else f x i
structure Ms where
  nam : Vm
  glo : Vm
  ans : V
  steps : Nat
  vis : Sm
  wr : Nat
structure Env where
  fuel : Nat
  bod : ByteArray → Option (List ByteArray × Pd)
abbrev Re (α : Type) := Except (Option (Nat × Ms)) (α × Ms)
abbrev In (α : Type) := Ms → Re α
def In.bnd {α β : Type} (x : In α) (f : α → In β) : In β := fun p => match x p with
  | .ok (a, q) => f a q
  | .error e => .error e
def In.ret {α : Type} (a : α) : In α := fun p => .ok (a, p)
instance : Monad In := { pure := In.ret, bind := In.bnd }
def trap {α : Type} (n : Nat) : In α := fun p => .error (some (n, p))
def uns {α : Type} : In α := fun _ => .error none
def needM (n : Nat) : In Unit := if n = 0 then pure () else trap n
def b2i (b : Bool) : Int := if b then 1 else 0
def trueV (v : V) : Bool := v.1 == 3 && v.2 == 1
def intV (n : Int) : V := (1, n)
def boolV (b : Bool) : V := (3, b2i b)
def ofV (v : V) : Nat := (IntKind.u64.wrap v.2).toNat
def cmpI (s : List UInt8) (x y : Int) : Bool :=
  if s == [60] then decide (x < y) else if s == [60, 61] then decide (x ≤ y) else if s == [62] then decide (y < x) else if s == [62, 61] then decide (y ≤ x)
  else if s == [61, 61] then x == y else !(x == y)
def wholesM (s : List UInt8) (x y : Int) : V × Nat :=
  if s == [43] then (intV (IntKind.i64.wrap (x + y)), 0) else if s == [45] then (intV (IntKind.i64.wrap (x - y)), 0) else if s == [42] then (intV (IntKind.i64.wrap (x * y)), 0)
  else if s == [47] then (if y = 0 then ((0, 0), 3) else (intV (IntKind.i64.wrap (x.tdiv y)), 0))
  else if s == [37] then (if y = 0 then ((0, 0), 3) else (intV (x.tmod y), 0))
  else (boolV (cmpI s x y), 0)
def wholeS : List (List UInt8) := [[43], [45], [42], [47], [37], [60], [60, 61], [62], [62, 61], [61, 61], [33, 61]]
structure Fl where
  bin : List UInt8 → Nat → Nat → Option V
  neg : Nat → Option V
  cut : Nat → Option (V × Nat)
def binM (L : Fl) (s : List UInt8) (a b : V) : Option (V × Nat) :=
  if a.1 = 1 ∧ b.1 = 1 then (if wholeS.contains s then some (wholesM s a.2 b.2) else none)
  else if a.1 = 2 ∧ b.1 = 2 then (L.bin s (ofV a) (ofV b)).map fun v => (v, 0)
  else if a.1 = 3 ∧ b.1 = 3 ∧ s = [61, 61] then some (boolV (trueV a == trueV b), 0) else none
def unM (L : Fl) (s : List UInt8) (a : V) : Option V := if s = [45] ∧ a.1 = 2 then L.neg (ofV a) else none
def convM (L : Fl) (t : Int) (a : V) : Option (V × Nat) := if t = 1 ∧ a.1 = 2 then L.cut (ofV a) else none
structure Rc where
  ex : Nat → Pd → In V
  bl : Nat → Pd → In Bool
def stepM (E : Env) (n : Pd) : In Unit := fun st => if st.steps = E.fuel then .error (some (6, st))
  else if 1000000 < n.nm.size ∨ n.pl < -9223372036854775808 ∨ 9223372036854775807 < n.pl then .error none
  else .ok ((), { st with steps := st.steps + 1, vis := updS st.vis n.nm n.pl (IntKind.i64.wrap ((st.vis n.nm n.pl).getD 0 + 1)) })
def varM (s : ByteArray) : In V := fun st => if 1000000 < s.size then .error none else match st.nam s with
  | some v => .ok (v, st)
  | none => .ok ((st.glo s).getD (0, 0), st)
def assignM (s : ByteArray) (v : V) : In Unit := fun st => if 1000000 < s.size ∨ 1000000 ≤ st.wr then .error none else match st.nam s with
  | some _ => .ok ((), { st with nam := updV st.nam s v, wr := st.wr + 1 })
  | none => .ok ((), { st with glo := updV st.glo s v, wr := st.wr + 1 })
def defineM (s : ByteArray) (v : V) : In Unit := fun st => if 1000000 < s.size ∨ 1000000 ≤ st.wr then .error none else .ok ((), { st with nam := updV st.nam s v, wr := st.wr + 1 })
def kidM {α : Type} (n : Pd) (i : Nat) (f : Pd → In α) : In α := match n.kids[i]? with
  | none => uns
  | some x => f x
def resM {α : Type} (x : Option α) : In α := match x with
  | none => uns
  | some v => pure v
def enterM (R : Rc) (d : Nat) (b : Pd) (f : Vm) : In V := fun st => match R.bl d b { st with nam := f, ans := (0, 0) } with
  | .ok (_, q) => if st.wr ≤ q.wr then .ok (q.ans, { q with nam := st.nam, ans := st.ans }) else .error none
  | .error e => .error e
def calledM (E : Env) (R : Rc) (d : Nat) (n : Pd) : In V := (fun (_ : Env) (_ : Rc) (_ : Nat) (_ : Pd) _ => .error none) E R d n
def betweenM (L : Fl) (R : Rc) (d : Nat) (n : Pd) : In V := do
  let a ← kidM n 0 (R.ex d)
  if (n.txt.data.toList == [38, 38] && !trueV a) || (n.txt.data.toList == [124, 124] && trueV a) then return a
  let b ← kidM n 1 (R.ex d)
  let r ← resM (binM L n.txt.data.toList a b)
  needM r.2
  return r.1
def exprM (L : Fl) (E : Env) (R : Rc) (d : Nat) (n : Pd) : In V := do
  stepM E n
  if n.kind = 23 then varM n.txt
  else if n.kind = 24 then calledM E R d n
  else if n.kind = 25 then do
    let v ← kidM n 0 (R.ex d)
    resM (unM L n.txt.data.toList v)
  else if n.kind = 26 then betweenM L R d n
  else if n.kind = 27 then do
    let v ← kidM n 0 (R.ex d)
    let r ← resM (convM L n.ty v)
    needM r.2
    return r.1
  else return (n.ty, n.num)
def branchM (R : Rc) (d : Nat) (n : Pd) : In Bool := (fun (_ : Rc) (_ : Nat) (_ : Pd) _ => .error none) R d n
def loopM (R : Rc) (d : Nat) (n : Pd) : Nat → In Bool
  | 0 => uns
  | j + 1 => do
    let v ← kidM n 0 (R.ex d)
    if trueV v then do
      let b ← kidM n 1 (R.bl d)
      if b then return true
      loopM R d n j
    else return false
def answerM (v : V) : In Unit := fun st => .ok ((), { st with ans := v })
def stmtM (E : Env) (R : Rc) (k d : Nat) (n : Pd) : In Bool := do
  stepM E n
  if n.kind = 9 then branchM R d n
  else if n.kind = 10 then loopM R d n k
  else if n.kind = 11 then do
    let v ← kidM n 0 (R.ex d)
    answerM v
    return true
  else if n.kind = 7 then do
    let v ← kidM n 0 (R.ex d)
    defineM n.txt v
    return false
  else if n.kind = 8 then do
    let v ← kidM n 0 (R.ex d)
    assignM n.txt v
    return false
  else if n.kind = 12 then do
    let v ← kidM n 0 (R.ex d)
    (if trueV v then pure () else trap 2)
    return false
  else if n.kind = 13 then do
    let _ ← kidM n 0 (R.ex d)
    return false
  else return false
def stmtsM (E : Env) (R : Rc) (k d : Nat) : List Pd → In Bool
  | [] => pure false
  | x :: r => do
    let b ← stmtM E R k d x
    if b then return true
    stmtsM E R k d r
def blockM (E : Env) (R : Rc) (k d : Nat) (n : Pd) : In Bool := do
  stepM E n
  stmtsM E R k d n.kids
def rc (L : Fl) (E : Env) : Nat → Rc
  | 0 => ⟨fun _ _ => uns, fun _ _ => uns⟩
  | k + 1 => ⟨exprM L E (rc L E k), blockM E (rc L E k) k⟩
def endM (L : Fl) (E : Env) (k : Nat) (g : Vm) (test : ByteArray) : Option (Nat × Ms) := match E.bod test with
  | none => none
  | some (_, b) => match (rc L E k).bl 0 b ⟨fun _ => none, g, (0, 0), 0, fun _ _ => none, 0⟩ with
    | .ok (_, q) => some (1, q)
    | .error e => e
def bodyL : List Pd → List ByteArray → Pd → List ByteArray × Pd
  | [], ps, b => (ps, b)
  | x :: r, ps, b => if x.kind = 5 then bodyL r (ps ++ [x.txt]) b else bodyL r ps x
def bodyM (d : Nd) : List ByteArray × Pd := bodyL (placeT d.txt d 0).1.kids [] Pd.zero
def updB (f : ByteArray → Option (List ByteArray × Pd)) (s : ByteArray) (v : List ByteArray × Pd) : ByteArray → Option (List ByteArray × Pd) := fun x => if same x s then some v else f x
def bodsOf : List Nd → (ByteArray → Option (List ByteArray × Pd)) → ByteArray → Option (List ByteArray × Pd)
  | [], F => F
  | x :: r, F => bodsOf r (if x.kind = 2 then F else updB F x.txt (bodyM x))
def globsOf : List Nd → Vm → Option Vm
  | [], F => some F
  | x :: r, F => if x.kind = 2 then (match x.kids with
      | [] => none
      | y :: _ => globsOf r (updV F x.txt (y.ty, y.num))) else globsOf r F
def envOf (p : Nd) (fuel : Nat) : Env := ⟨fuel, bodsOf p.kids fun _ => none⟩
def runM (L : Fl) (k : Nat) (p : Nd) (test : ByteArray) (fuel : Nat) : Option (Nat × Ms) := match globsOf p.kids fun _ => none with
  | none => none
  | some g => endM L (envOf p fuel) k g test
end Ip
end Go.Proofs.YtajoncmmdeahnaaGreatDoor
namespace Go.Proofs.YtajoncmmdeahnaaGreatDoor
open Go.RowKit
namespace Ip
mutual
/-- The node x stands at cell o of block g; all below it stands in blocks as P says. -/
def PdAt (w : World) (P : Nat → Prop) (g o : Nat) : Pd → Prop
  | .mk k t s n m p ks => w.cell? ⟨g, o, none⟩ = some (.int .i64 k) ∧ w.cell? ⟨g, o + 1, none⟩ = some (.int .i64 t) ∧ w.cell? ⟨g, o + 2, none⟩ = some (.string s) ∧ w.cell? ⟨g, o + 3, none⟩ = some (.int .i64 n)
    ∧ w.cell? ⟨g, o + 4, none⟩ = some (.slice none 0 0) ∧ w.cell? ⟨g, o + 5, none⟩ = some (.string m) ∧ w.cell? ⟨g, o + 6, none⟩ = some (.int .i64 p) ∧ ∃ q g', w.cell? ⟨g, o + 7, none⟩ = some q ∧ SlV P q ks.length g' ∧ RowP w P g' 0 ks
def RowP (w : World) (P : Nat → Prop) (g o : Nat) : List Pd → Prop
  | [] => True
  | x :: r => PdAt w P g o x ∧ RowP w P g (o + 8) r
end
def KsP (w : World) (P : Nat → Prop) (q : Value) (ks : List Pd) : Prop := ∃ g, SlV P q ks.length g ∧ RowP w P g 0 ks
def PdV (w : World) (P : Nat → Prop) (v : Value) (x : Pd) : Prop := ∃ q, v = .agg #[.int .i64 x.kind, .int .i64 x.ty, .string x.txt, .int .i64 x.num, .slice none 0 0, .string x.nm, .int .i64 x.pl, q] ∧ KsP w P q x.kids
theorem PdAt.lt {w : World} {P : Nat → Prop} {g o : Nat} : ∀ {x : Pd}, PdAt w P g o x → g < w.heap.size
  | .mk k t s n m p ks, h => by
    rw [PdAt] at h
    exact cell_lt h.1
theorem rowP_lt {w : World} {P : Nat → Prop} {g o : Nat} : ∀ {l : List Pd}, RowP w P g o l → 0 < l.length → g < w.heap.size
  | x :: r, h, _ => by
    rw [RowP] at h
    exact h.1.lt
mutual
theorem PdAt.keptP {w w' : World} {P Q : Nat → Prop} (hk : Kp w w' P) (hm : ∀ b, P b → b < w.heap.size → Q b) : ∀ {g o : Nat} {x : Pd}, w'.heap[g]? = w.heap[g]? → PdAt w P g o x → PdAt w' Q g o x
  | g, o, .mk k t s n m p ks, hg, h => by
    rw [PdAt] at h ⊢
    obtain ⟨h0, h1, h2, h3, c4, c5, c6, q, g', h4, h5, h6⟩ := h
    refine ⟨cell_same h0 hg, cell_same h1 hg, cell_same h2 hg, cell_same h3 hg, cell_same c4 hg, cell_same c5 hg, cell_same c6 hg, q, g', cell_same h4 hg, ?_, ?_⟩
    · rcases h5 with h5 | ⟨hn, hp, h5⟩
      · exact Or.inl h5
      · exact Or.inr ⟨hn, hm g' hp (rowP_lt h6 hn), h5⟩
    · rcases h5 with ⟨_, h5⟩ | ⟨hn, hp, h5⟩
      · obtain rfl := List.length_eq_zero_iff.1 h5
        rw [RowP]; trivial
      · exact RowP.keptP hk hm (hk g' hp (rowP_lt h6 hn)) h6
theorem RowP.keptP {w w' : World} {P Q : Nat → Prop} (hk : Kp w w' P) (hm : ∀ b, P b → b < w.heap.size → Q b) : ∀ {g o : Nat} {l : List Pd}, w'.heap[g]? = w.heap[g]? → RowP w P g o l → RowP w' Q g o l
  | _, _, [], _, _ => by rw [RowP]; trivial
  | g, o, x :: r, hg, h => by
    rw [RowP] at h ⊢
    exact ⟨PdAt.keptP hk hm hg h.1, RowP.keptP hk hm hg h.2⟩
end
theorem KsP.keptP {w w' : World} {P Q : Nat → Prop} {q : Value} {ks : List Pd} (h : KsP w P q ks) (hk : Kp w w' P) (hm : ∀ b, P b → b < w.heap.size → Q b) : KsP w' Q q ks := by
  obtain ⟨g, h5, h6⟩ := h
  rcases h5 with ⟨rfl, h5⟩ | ⟨hn, hp, h5⟩
  · obtain rfl := List.length_eq_zero_iff.1 h5
    exact ⟨g, Or.inl ⟨rfl, rfl⟩, by rw [RowP]; trivial⟩
  · exact ⟨g, Or.inr ⟨hn, hm g hp (rowP_lt h6 hn), h5⟩, RowP.keptP hk hm (hk g hp (rowP_lt h6 hn)) h6⟩
theorem KsP.kept {w w' : World} {P : Nat → Prop} {q : Value} {ks : List Pd} (h : KsP w P q ks) (hg : w.grownBy w' none) : KsP w' P q ks := h.keptP (Kp.of_none P hg) (fun _ h _ => h)
theorem KsP.mono {w : World} {P Q : Nat → Prop} {q : Value} {ks : List Pd} (h : KsP w P q ks) (hm : ∀ b, P b → b < w.heap.size → Q b) : KsP w Q q ks := h.keptP (fun _ _ _ => rfl) hm
theorem RowP.at {w : World} {P : Nat → Prop} {g : Nat} : ∀ {o : Nat} {l : List Pd}, RowP w P g o l → ∀ i, (h : i < l.length) → PdAt w P g (o + 8 * i) l[i]
  | _, [], _, _, h => absurd h (Nat.not_lt_zero _)
  | o, x :: r, hr, 0, _ => by
    rw [RowP] at hr
    exact hr.1
  | o, x :: r, hr, i + 1, h => by
    rw [RowP] at hr
    have := RowP.at hr.2 i (by simpa using h)
    rw [show o + 8 + 8 * i = o + 8 * (i + 1) by omega] at this
    exact this
theorem PdAt.cells {w : World} {P : Nat → Prop} {g o : Nat} {x : Pd} (h : PdAt w P g o x) : ∃ q, w.cell? ⟨g, o, none⟩ = some (.int .i64 x.kind) ∧ w.cell? ⟨g, o + 1, none⟩ = some (.int .i64 x.ty) ∧ w.cell? ⟨g, o + 2, none⟩ = some (.string x.txt) ∧ w.cell? ⟨g, o + 3, none⟩ = some (.int .i64 x.num) ∧ w.cell? ⟨g, o + 4, none⟩ = some (.slice none 0 0) ∧ w.cell? ⟨g, o + 5, none⟩ = some (.string x.nm) ∧ w.cell? ⟨g, o + 6, none⟩ = some (.int .i64 x.pl) ∧ w.cell? ⟨g, o + 7, none⟩ = some q ∧ KsP w P q x.kids := by
  cases x with
  | mk k t s n ks =>
    rw [PdAt] at h
    obtain ⟨h0, h1, h2, h3, c4, c5, c6, q, g', h4, h5, h6⟩ := h
    exact ⟨q, h0, h1, h2, h3, c4, c5, c6, h4, g', h5, h6⟩
theorem PdAt.mk {w : World} {P : Nat → Prop} {g o : Nat} {x : Pd} {q : Value} (h0 : w.cell? ⟨g, o, none⟩ = some (.int .i64 x.kind)) (h1 : w.cell? ⟨g, o + 1, none⟩ = some (.int .i64 x.ty)) (h2 : w.cell? ⟨g, o + 2, none⟩ = some (.string x.txt)) (h3 : w.cell? ⟨g, o + 3, none⟩ = some (.int .i64 x.num)) (c4 : w.cell? ⟨g, o + 4, none⟩ = some (.slice none 0 0)) (c5 : w.cell? ⟨g, o + 5, none⟩ = some (.string x.nm)) (c6 : w.cell? ⟨g, o + 6, none⟩ = some (.int .i64 x.pl)) (h4 : w.cell? ⟨g, o + 7, none⟩ = some q) (h5 : KsP w P q x.kids) : PdAt w P g o x := by
  cases x with
  | mk k t s n ks =>
    rw [PdAt]
    obtain ⟨g', h5, h6⟩ := h5
    exact ⟨h0, h1, h2, h3, c4, c5, c6, q, g', h4, h5, h6⟩
theorem KsP.nil (w : World) (P : Nat → Prop) : KsP w P (.slice none 0 0) [] := ⟨0, Or.inl ⟨rfl, rfl⟩, by rw [RowP]; trivial⟩
theorem KsP.form {w : World} {P : Nat → Prop} {q : Value} {ks : List Pd} (h : KsP w P q ks) : ∃ p cap, q = .slice p ks.length cap ∧ ks.length ≤ cap ∧ cap ≤ maxLen ∧ (p = none ∨ ∃ g, p = some ⟨g, 0, none⟩ ∧ P g) := by
  obtain ⟨g, (⟨rfl, h2⟩ | ⟨_, hp, cap, rfl, h2, h3⟩), h4⟩ := h
  · exact ⟨none, 0, by rw [h2], by rw [h2]; exact Nat.le_refl _, Nat.zero_le _, Or.inl rfl⟩
  · exact ⟨_, cap, rfl, h2, h3, Or.inr ⟨g, rfl, hp⟩⟩
theorem KsP.at {w : World} {P : Nat → Prop} {p : Option Addr} {n cap : Nat} {ks : List Pd} (h : KsP w P (.slice p n cap) ks) (i : Nat) (hi : i < ks.length) : ∃ g, p = some ⟨g, 0, none⟩ ∧ P g ∧ PdAt w P g (8 * i) ks[i] := by
  obtain ⟨g, (⟨h1, h2⟩ | ⟨_, hp, cap, h1, h2, h3⟩), h4⟩ := h
  · omega
  · injection h1 with e1 e2 e3
    have := h4.at i hi
    rw [Nat.zero_add] at this
    exact ⟨g, e1, hp, this⟩
def CellsP (w : World) (P : Nat → Prop) : List Value → List Pd → Prop
  | cs, [] => cs = []
  | cs, x :: r => ∃ q cs', cs = .int .i64 x.kind :: .int .i64 x.ty :: .string x.txt :: .int .i64 x.num :: .slice none 0 0 :: .string x.nm :: .int .i64 x.pl :: q :: cs' ∧ KsP w P q x.kids ∧ CellsP w P cs' r
theorem CellsP.keptP {w w' : World} {P Q : Nat → Prop} (hk : Kp w w' P) (hm : ∀ b, P b → b < w.heap.size → Q b) : ∀ {cs : List Value} {ks : List Pd}, CellsP w P cs ks → CellsP w' Q cs ks
  | _, [], h => h
  | _, _ :: _, ⟨q, cs', h1, h2, h3⟩ => ⟨q, cs', h1, h2.keptP hk hm, CellsP.keptP hk hm h3⟩
theorem CellsP.snoc {w : World} {P : Nat → Prop} {x : Pd} {q : Value} (hx : KsP w P q x.kids) : ∀ {cs : List Value} {ks : List Pd}, CellsP w P cs ks → CellsP w P (cs ++ [.int .i64 x.kind, .int .i64 x.ty, .string x.txt, .int .i64 x.num, .slice none 0 0, .string x.nm, .int .i64 x.pl, q]) (ks ++ [x])
  | _, [], h => by
    obtain rfl : _ = [] := h
    exact ⟨q, [], rfl, hx, rfl⟩
  | _, y :: r, ⟨q', cs', h1, h2, h3⟩ => by
    subst h1
    exact ⟨q', _, rfl, h2, CellsP.snoc hx h3⟩
theorem CellsP.row {w : World} {P : Nat → Prop} {g : Nat} : ∀ {o : Nat} {cs : List Value} {ks : List Pd}, CellsP w P cs ks → (∀ j u, cs[j]? = some u → w.cell? ⟨g, o + j, none⟩ = some u) → RowP w P g o ks
  | _, _, [], _, _ => by rw [RowP]; trivial
  | o, _, y :: r, ⟨q', cs', h1, h2, h3⟩, hc => by
    subst h1
    rw [RowP]
    refine ⟨PdAt.mk (hc 0 _ rfl) (hc 1 _ rfl) (hc 2 _ rfl) (hc 3 _ rfl) (hc 4 _ rfl) (hc 5 _ rfl) (hc 6 _ rfl) (hc 7 _ rfl) h2, CellsP.row h3 (fun j u hj => ?_)⟩
    have := hc (j + 8) u (by simpa using hj)
    rw [show o + (j + 8) = o + 8 + j by omega] at this
    exact this
end Ip
end Go.Proofs.YtajoncmmdeahnaaGreatDoor
namespace Go.Proofs.YtajoncmmdeahnaaGreatDoor
def tkS (t : Tk) : ByteArray := ⟨t.s.toArray⟩
namespace Pm
def dgt (c : UInt8) : Bool := 48 ≤ c && c ≤ 57
def digF (acc : Nat) (l : List UInt8) : Nat := l.foldl (fun a c => a * 10 + (c.toNat - 48)) acc
def okI (s : List UInt8) : Bool := !s.isEmpty && s.all dgt && decide (digF 0 s ≤ 9223372036854775807) && decide (s.length ≤ 4096)
def is0 (c : UInt8) : Bool := c == 48
def orD (l : List UInt8) : List UInt8 := if l = [] then [48] else l
def ahD (A : List UInt8) : List UInt8 := orD (A.dropWhile is0)
def beD (B : List UInt8) : List UInt8 := orD (B.reverse.dropWhile is0).reverse
def quoD (m x : Nat) : Nat := (FloatKind.f64.format.div (floatOfInt .f64 m) (floatOfInt .f64 ((10 ^ x : Nat) : Int))).getD 0
def okFl (s : List UInt8) : Bool := (fun (_ : List UInt8) => false) s
def flA (A B : List UInt8) : Nd := .mk 21 0 ⟨(ahD A ++ 46 :: beD B).toArray⟩ (quoD (digF 0 (ahD A ++ beD B)) (beD B).length : Nat) []
def flN (s : List UInt8) : Nd := flA (s.takeWhile dgt) ((s.dropWhile dgt).drop 1)
structure Ps where
  ws : List Tk
  nodes : Nat
  depth : Nat
  over : Bool
abbrev Rs (α : Type) := Except (Option (Nat × Nat)) (α × Ps)
abbrev Pr (α : Type) := Ps → Rs α
def Pr.bnd {α β : Type} (x : Pr α) (f : α → Pr β) : Pr β := fun p => match x p with
  | .ok (a, q) => f a q
  | .error e => .error e
def Pr.ret {α : Type} (a : α) : Pr α := fun p => .ok (a, p)
instance : Monad Pr := { pure := Pr.ret, bind := Pr.bnd }
def nxt : Pr Tk := fun p => match p.ws with
  | [] => .error none
  | t :: _ => .ok (t, p)
def failP {α : Type} (e : Nat) : Pr α := fun p => match p.ws with
  | [] => .error none
  | t :: _ => .error (some (t.pl, e))
def passP : Pr Unit := fun p => match p.ws with
  | [] => .error none
  | t :: r => if p.over then .error (some (t.pl, 3)) else .ok ((), { p with ws := r })
def seesP (s : List UInt8) : Pr Bool := do
  let t ← nxt
  return t.s == s
def wantP (s : List UInt8) : Pr Unit := do
  if ← seesP s then passP else failP 110
def nameP : Pr ByteArray := do
  let t ← nxt
  if t.kind == 1 then
    passP
    return tkS t
  else failP 110
def roomP (have_ most : Nat) : Pr Unit := fun p => .ok ((), if most ≤ have_ then { p with over := true } else p)
def deeper : Pr Unit := fun p => if p.depth ≤ 1000000 then .ok ((), { p with depth := p.depth + 1 }) else .error none
def higher : Pr Unit := fun p => if 1 ≤ p.depth ∧ p.depth ≤ 1000001 then .ok ((), { p with depth := p.depth - 1 }) else .error none
def openP (s : List UInt8) : Pr Unit := do
  fun p => roomP p.depth 40 p
  deeper
  wantP s
def shutP (s : List UInt8) : Pr Unit := do
  wantP s
  higher
def more : Pr Unit := fun p => if p.nodes ≤ 1000000 then .ok ((), { p with nodes := p.nodes + 1 }) else .error none
def madeP (n : Nd) : Pr Nd := do
  fun p => roomP p.nodes 2000 p
  more
  return n
def wInt : List UInt8 := [105, 110, 116]
def wFloat : List UInt8 := [102, 108, 111, 97, 116]
def wBool : List UInt8 := [98, 111, 111, 108]
def typedP : Pr Int := do
  let t ← nxt
  if t.s == wInt then passP; return 1
  else if t.s == wFloat then passP; return 2
  else if t.s == wBool then passP; return 3
  else failP 110
def wTrue : List UInt8 := [116, 114, 117, 101]
def wFalse : List UInt8 := [102, 97, 108, 115, 101]
def literalP : Pr Nd := do
  let t ← nxt
  if t.kind == 2 then
    if okI t.s then passP; madeP (.mk 20 0 ⟨#[]⟩ (digF 0 t.s : Nat) []) else fun _ => .error none
  else if t.kind == 3 then
    if okFl t.s then passP; madeP (flN t.s) else fun _ => .error none
  else if t.s == wTrue then passP; madeP (.mk 22 0 ⟨#[]⟩ 1 [])
  else if t.s == wFalse then passP; madeP (.mk 22 0 ⟨#[]⟩ 0 [])
  else failP 110
def rankN (s : List UInt8) : Nat :=
  if s == [124, 124] then 1 else if s == [38, 38] then 2
  else if s == [60] || s == [60, 61] || s == [62] || s == [62, 61] || s == [61, 61] || s == [33, 61] then 3
  else if s == [43] || s == [45] then 4
  else if s == [42] || s == [47] || s == [37] then 5 else 0
structure Rc where
  expr : Nat → Pr Nd
  oper : Pr Nd
  block : Pr Nd
  branches : Pr Nd
def listL (item : Pr Nd) : Nat → List Nd → Pr (List Nd)
  | 0, _ => fun _ => .error none
  | k + 1, l => do
    if ← seesP [44] then
      passP
      roomP l.length 6
      let x ← item
      listL item k (l ++ [x])
    else return l
def callP (R : Rc) (name : ByteArray) : Pr Nd := (fun (_ : Rc) (_ : ByteArray) _ => .error none) R name
def variableOrCallP (R : Rc) : Pr Nd := do
  let s ← nameP
  if ← seesP [40] then callP R s else madeP (.mk 23 0 s 0 [])
def bracketedP (R : Rc) : Pr Nd := do
  openP [40]
  let n ← R.expr 1
  shutP [41]
  return n
def signedP (R : Rc) (s : List UInt8) : Pr Nd := (fun (_ : Rc) (_ : List UInt8) _ => .error none) R s
def convP (R : Rc) : Pr Nd := do
  let ty ← typedP
  let n ← bracketedP R
  madeP (.mk 27 ty ⟨#[]⟩ 0 [n])
def operP (R : Rc) : Pr Nd := do
  let t ← nxt
  if t.s == [45] || t.s == [33] then signedP R t.s
  else if t.s == [40] then bracketedP R
  else if t.s == wInt || t.s == wFloat then convP R
  else if t.kind == 1 then variableOrCallP R
  else literalP
def exprL (R : Rc) (low : Nat) : Nat → Nd → Pr Nd
  | 0, _ => fun _ => .error none
  | k + 1, n => do
    let t ← nxt
    if low ≤ rankN t.s then
      passP
      let m ← R.expr (rankN t.s + 1)
      let n ← madeP (.mk 26 0 (tkS t) 0 [n, m])
      exprL R low k n
    else return n
def exprP (R : Rc) (low : Nat) : Pr Nd := do
  let n ← R.oper
  fun p => exprL R low (p.ws.length + 1) n p
def endedP (mk : Nd → Nd) (kid : Nd) : Pr Nd := do
  wantP [59]
  madeP (mk kid)
def lineP (R : Rc) (kind : Int) : Pr Nd := do
  passP
  let n ← R.expr 1
  endedP (fun n => .mk kind 0 ⟨#[]⟩ 0 [n]) n
def storedP (R : Rc) (k : Int) (s : ByteArray) : Pr Nd := do
  passP
  let n ← R.expr 1
  endedP (fun n => .mk k 0 s 0 [n]) n
def doneP (R : Rc) (s : ByteArray) : Pr Nd := do
  let n ← callP R s
  endedP (fun n => .mk 13 0 ⟨#[]⟩ 0 [n]) n
def namedP (R : Rc) : Pr Nd := do
  let s ← nameP
  let t ← nxt
  if t.s == [58, 61] then storedP R 7 s
  else if t.s == [61] then storedP R 8 s
  else doneP R s
def wIf : List UInt8 := [105, 102]
def wFor : List UInt8 := [102, 111, 114]
def wReturn : List UInt8 := [114, 101, 116, 117, 114, 110]
def wAssert : List UInt8 := [97, 115, 115, 101, 114, 116]
def wSkip : List UInt8 := [115, 107, 105, 112]
def otherwiseP (R : Rc) : Pr Nd := (fun (_ : Rc) _ => .error none) R
def branchesP (R : Rc) : Pr Nd := (fun (_ : Rc) _ => .error none) R
def loopP (R : Rc) : Pr Nd := do
  wantP wFor
  let c ← R.expr 1
  let b ← R.block
  madeP (.mk 10 0 ⟨#[]⟩ 0 [c, b])
def skipP : Pr Nd := do
  passP
  wantP [59]
  madeP (.mk 14 0 ⟨#[]⟩ 0 [])
def statementP (R : Rc) : Pr Nd := do
  let t ← nxt
  if t.s == wIf then R.branches
  else if t.s == wFor then loopP R
  else if t.s == wReturn then lineP R 11
  else if t.s == wAssert then lineP R 12
  else if t.s == wSkip then skipP
  else namedP R
def blockL (R : Rc) : Nat → List Nd → Pr (List Nd)
  | 0, _ => fun _ => .error none
  | k + 1, l => do
    if ← seesP [125] then return l
    else
      roomP l.length 32
      let x ← statementP R
      blockL R k (l ++ [x])
def blockP (R : Rc) : Pr Nd := do
  openP [123]
  let ks ← (fun p => blockL R (p.ws.length + 1) [] p : Pr (List Nd))
  shutP [125]
  madeP (.mk 6 0 ⟨#[]⟩ 0 ks)
def rc0 : Rc := ⟨fun _ _ => .error none, fun _ => .error none, fun _ => .error none, fun _ => .error none⟩
def rc : Nat → Rc
  | 0 => rc0
  | k + 1 => ⟨exprP (rc k), operP (rc k), blockP (rc k), branchesP (rc k)⟩
def constantP : Pr Nd := do
  if ← seesP [45] then fun _ => .error none else literalP
def wVar : List UInt8 := [118, 97, 114]
def wFunc : List UInt8 := [102, 117, 110, 99]
def wTest : List UInt8 := [116, 101, 115, 116]
def globalP : Pr Nd := do
  wantP wVar
  let s ← nameP
  let t ← typedP
  wantP [61]
  let n ← constantP
  wantP [59]
  madeP (.mk 2 t s 0 [n])
def functionP (R : Rc) : Pr Nd := (fun (_ : Rc) _ => .error none) R
def testP (R : Rc) : Pr Nd := do
  wantP wTest
  let s ← nameP
  let b ← R.block
  madeP (.mk 4 0 s 0 [b])
def declarationP (R : Rc) : Pr Nd := do
  let t ← nxt
  if t.s == wVar then globalP
  else if t.s == wFunc then functionP R
  else testP R
def programL (R : Rc) : Nat → Nat → List Nd → Pr (List Nd)
  | 0, _, _ => fun _ => .error none
  | k + 1, g, l => do
    let t ← nxt
    if t.kind == 0 then return l
    else
      let g' ← (if t.s == wVar then do roomP g 16; return (g + 1) else do roomP (l.length - g) 32; return g)
      let x ← declarationP R
      programL R k g' (l ++ [x])
def programP (R : Rc) : Pr Nd := do
  let ks ← (fun p => programL R (p.ws.length + 1) 0 [] p : Pr (List Nd))
  let n ← madeP (.mk 1 0 ⟨#[]⟩ 0 ks)
  passP
  return n
end Pm
end Go.Proofs.YtajoncmmdeahnaaGreatDoor
