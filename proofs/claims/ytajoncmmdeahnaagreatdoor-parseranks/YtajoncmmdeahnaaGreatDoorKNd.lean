/-
  Small facts on memory for the walks of this seat: a block of cells that holds a row of integers, and what a store, a draw and a new block do to it. Nothing of the program is named here. Trees as values, and what the layer makes of them. Nothing of the program is named here.
-/
import Derived.WalkKit
import Derived.WalkSpells
import Derived.WalkLawsBesides
namespace Go.Proofs.YtajoncmmdeahnaaGreatDoor
open Go.RowKit
def Blk (w : World) (b : Nat) (t : TypeId) (cs : Array Value) : Prop := w.heap[b]? = some (.cells cs t (0, 0))
theorem Blk.lt {w : World} {b : Nat} {t : TypeId} {cs : Array Value} (h : Blk w b t cs) : b < w.heap.size := by
  have : w.heap[b]? = some (.cells cs t (0, 0)) := h
  by_cases hlt : b < w.heap.size
  · exact hlt
  · rw [Array.getElem?_eq_none (by omega)] at this; cases this
theorem Blk.cell {w : World} {b : Nat} {t : TypeId} {cs : Array Value} (h : Blk w b t cs) (i : Nat) : w.cell? ⟨b, i, none⟩ = cs[i]? := cell_of_row w b i cs t (0, 0) h
theorem Blk.frozen {w : World} {b : Nat} {t : TypeId} {cs : Array Value} (h : Blk w b t cs) (i : Nat) : w.frozen? ⟨b, i, none⟩ = false := frozen_of_row w b i cs t h
theorem Blk.drew {w : World} {b : Nat} {t : TypeId} {cs : Array Value} (h : Blk w b t cs) : Blk w.drew b t cs := h
theorem Blk.alloc {w : World} {b : Nat} {t : TypeId} {cs : Array Value} (h : Blk w b t cs) (o : Obj) : Blk (w.alloc o) b t cs := by
  unfold Blk; rw [Below.heap_alloc w o b h.lt]; exact h
theorem Blk.new (w : World) (t : TypeId) (cs : Array Value) : Blk (w.alloc (.cells cs t)) w.heap.size t cs := heap_alloc_new w _
theorem Blk.set {w : World} {b : Nat} {t : TypeId} {cs : Array Value} (h : Blk w b t cs) (i : Nat) (v : Value) : Blk (w.setCell ⟨b, i, none⟩ v) b t (cs.setIfInBounds i v) := heap_setCell_same w b i cs t v h
theorem Blk.other {w : World} {b : Nat} {t : TypeId} {cs : Array Value} (h : Blk w b t cs) {a : Addr} (v : Value) (hn : b ≠ a.block) : Blk (w.setCell a v) b t cs := by
  unfold Blk; rw [heap_setCell_other w a b v hn]; exact h
theorem Blk.kept {w w' : World} {b : Nat} {t : TypeId} {cs : Array Value} {row : Option Nat} (h : Blk w b t cs) (hg : w.grownBy w' row) (hn : some b ≠ row) : Blk w' b t cs := (hg.block b h.lt hn).trans h
theorem grown_refl (w : World) (row : Option Nat) : w.grownBy w row := ⟨rfl, rfl, rfl, Nat.le_refl _, fun _ _ _ => rfl⟩
theorem grown_drew {w w' : World} {row : Option Nat} (h : w.grownBy w' row) : w.grownBy w'.drew row := ⟨h.os, h.tape, h.output, h.size, h.block⟩
theorem grown_set {w w' : World} {b : Nat} (h : w.grownBy w' (some b)) (i : Nat) (v : Value) : w.grownBy (w'.setCell ⟨b, i, none⟩ v) (some b) :=
  ⟨h.os, h.tape, h.output, by simpa [World.setCell] using h.size, fun k hk hn => (heap_setCell_other w' ⟨b, i, none⟩ k v (fun e => hn (by rw [e]))).trans (h.block k hk hn)⟩
theorem grown_set_new {w w' : World} {row : Option Nat} (h : w.grownBy w' row) {a : Addr} (v : Value) (ha : w.heap.size ≤ a.block) : w.grownBy (w'.setCell a v) row :=
  ⟨h.os, h.tape, h.output, by simpa [World.setCell] using h.size, fun k hk hn => (heap_setCell_other w' a k v (by omega)).trans (h.block k hk hn)⟩
theorem grown_alloc {w w' : World} {row : Option Nat} (h : w.grownBy w' row) (o : Obj) : w.grownBy (w'.alloc o) row :=
  ⟨h.os, h.tape, h.output, by simp; have := h.size; omega, fun k hk hn => (Below.heap_alloc w' o k (Nat.lt_of_lt_of_le hk h.size)).trans (h.block k hk hn)⟩
theorem grown_through {a b c : World} {row : Option Nat} {k : Nat} (h : a.grownBy b row) (g : b.grownBy c (some k)) (hk : a.heap.size ≤ k) : a.grownBy c row :=
  ⟨g.os.trans h.os, g.tape.trans h.tape, g.output.trans h.output, Nat.le_trans h.size g.size, fun i hi hn => (g.block i (Nat.lt_of_lt_of_le hi h.size) (by simp; omega)).trans (h.block i hi hn)⟩
theorem grown_none {a b c : World} {row : Option Nat} (h : a.grownBy b row) (g : b.grownBy c none) : a.grownBy c row :=
  ⟨g.os.trans h.os, g.tape.trans h.tape, g.output.trans h.output, Nat.le_trans h.size g.size, fun i hi hn => (g.block i (Nat.lt_of_lt_of_le hi h.size) (by simp)).trans (h.block i hi hn)⟩
theorem grown_below {w w' : World} (h : w.grownBy w' none) : Below w.heap.size w w' := ⟨h.os, h.tape, h.output, h.size, fun k hk => h.block k hk (by simp)⟩
end Go.Proofs.YtajoncmmdeahnaaGreatDoor
namespace Go.Proofs.YtajoncmmdeahnaaGreatDoor
open Go.RowKit
inductive Nd where
  | mk (k t : Int) (s : ByteArray) (n : Int) (ks : List Nd)
def Nd.kind : Nd → Int | .mk k _ _ _ _ => k
def Nd.ty : Nd → Int | .mk _ t _ _ _ => t
def Nd.txt : Nd → ByteArray | .mk _ _ s _ _ => s
def Nd.num : Nd → Int | .mk _ _ _ n _ => n
def Nd.kids : Nd → List Nd | .mk _ _ _ _ ks => ks
mutual
/-- How many nodes. -/
def Nd.cnt : Nd → Nat
  | .mk _ _ _ _ ks => 1 + Nd.cnts ks
def Nd.cnts : List Nd → Nat
  | [] => 0
  | x :: r => Nd.cnt x + Nd.cnts r
end
mutual
/-- All nodes, by their places. -/
def Nd.all : Nd → List Nd
  | .mk k t s n ks => .mk k t s n ks :: Nd.alls ks
def Nd.alls : List Nd → List Nd
  | [] => []
  | x :: r => Nd.all x ++ Nd.alls r
end
mutual
theorem Nd.all_len : ∀ x : Nd, x.all.length = x.cnt
  | .mk k t s n ks => by
    rw [Nd.all, Nd.cnt, List.length_cons, Nd.alls_len ks]; omega
theorem Nd.alls_len : ∀ l : List Nd, (Nd.alls l).length = Nd.cnts l
  | [] => rfl
  | x :: r => by rw [Nd.alls, Nd.cnts, List.length_append, Nd.all_len x, Nd.alls_len r]
end
theorem Nd.alls_append (a b : List Nd) : Nd.alls (a ++ b) = Nd.alls a ++ Nd.alls b := by
  induction a with
  | nil => rfl
  | cons x r ih => rw [List.cons_append, Nd.alls, ih, Nd.alls, List.append_assoc]
theorem Nd.cnts_append (a b : List Nd) : Nd.cnts (a ++ b) = Nd.cnts a + Nd.cnts b := by
  rw [← Nd.alls_len, Nd.alls_append, List.length_append, Nd.alls_len, Nd.alls_len]
structure Bnd (k t : Int) (s : ByteArray) (n : Int) : Prop where
  k0 : 0 ≤ k
  k1 : k ≤ 255
  t0 : 0 ≤ t
  t1 : t ≤ 255
  s1 : s.size ≤ 100
  n0 : -9223372036854775808 ≤ n
  n1 : n ≤ 9223372036854775807
mutual
def Nd.ok : Nd → Prop
  | .mk k t s n ks => Bnd k t s n ∧ ks.length ≤ 255 ∧ Nd.oks ks
def Nd.oks : List Nd → Prop
  | [] => True
  | x :: r => Nd.ok x ∧ Nd.oks r
end
theorem Nd.oks_mem : ∀ {l : List Nd}, Nd.oks l → ∀ x ∈ l, Nd.ok x
  | x :: r, ⟨h1, h2⟩, y, hy => by
    rcases List.mem_cons.1 hy with rfl | h
    · exact h1
    · exact Nd.oks_mem h2 y h
mutual
theorem Nd.all_ok : ∀ {x : Nd}, x.ok → ∀ y ∈ x.all, y.ok
  | .mk k t s n ks, h, y, hy => by
    rw [Nd.all] at hy
    rcases List.mem_cons.1 hy with rfl | hy
    · exact h
    · exact Nd.alls_ok h.2.2 y hy
theorem Nd.alls_ok : ∀ {l : List Nd}, Nd.oks l → ∀ y ∈ Nd.alls l, y.ok
  | [], _, y, hy => by cases hy
  | x :: r, h, y, hy => by
    rw [Nd.alls] at hy
    rcases List.mem_append.1 hy with hy | hy
    · exact Nd.all_ok h.1 y hy
    · exact Nd.alls_ok h.2 y hy
end
def SlV (P : Nat → Prop) (q : Value) (n g : Nat) : Prop := (q = .slice none 0 0 ∧ n = 0) ∨ (0 < n ∧ P g ∧ ∃ cap, q = .slice (some ⟨g, 0, none⟩) n cap ∧ n ≤ cap ∧ cap ≤ maxLen)
mutual
/-- The node x stands at cell o of block g; all below it stands in blocks as P says. -/
def NdAt (w : World) (P : Nat → Prop) (g o : Nat) : Nd → Prop
  | .mk k t s n ks => w.cell? ⟨g, o, none⟩ = some (.int .i64 k) ∧ w.cell? ⟨g, o + 1, none⟩ = some (.int .i64 t) ∧ w.cell? ⟨g, o + 2, none⟩ = some (.string s) ∧ w.cell? ⟨g, o + 3, none⟩ = some (.int .i64 n)
    ∧ ∃ q g', w.cell? ⟨g, o + 4, none⟩ = some q ∧ SlV P q ks.length g' ∧ RowN w P g' 0 ks
def RowN (w : World) (P : Nat → Prop) (g o : Nat) : List Nd → Prop
  | [] => True
  | x :: r => NdAt w P g o x ∧ RowN w P g (o + 5) r
end
def KsV (w : World) (P : Nat → Prop) (q : Value) (ks : List Nd) : Prop := ∃ g, SlV P q ks.length g ∧ RowN w P g 0 ks
def NdV (w : World) (P : Nat → Prop) (v : Value) (x : Nd) : Prop := ∃ q, v = .agg #[.int .i64 x.kind, .int .i64 x.ty, .string x.txt, .int .i64 x.num, q] ∧ KsV w P q x.kids
theorem cell_lt {w : World} {g o : Nat} {v : Value} (h : w.cell? ⟨g, o, none⟩ = some v) : g < w.heap.size := by
  by_cases hlt : g < w.heap.size
  · exact hlt
  · simp [World.cell?, Array.getElem?_eq_none (Nat.le_of_not_lt hlt)] at h
theorem cell_same {w w' : World} {g o : Nat} {v : Value} (h : w.cell? ⟨g, o, none⟩ = some v) (hg : w'.heap[g]? = w.heap[g]?) : w'.cell? ⟨g, o, none⟩ = some v :=
  (World.cell?_of_block hg).trans h
def Kp (w w' : World) (P : Nat → Prop) : Prop := ∀ b, P b → b < w.heap.size → w'.heap[b]? = w.heap[b]?
theorem Kp.of_grown {w w' : World} {row : Option Nat} {P : Nat → Prop} (hg : w.grownBy w' row) (h : ∀ b, P b → some b ≠ row) : Kp w w' P := fun b h1 h2 => hg.block b h2 (h b h1)
theorem Kp.of_none {w w' : World} (P : Nat → Prop) (hg : w.grownBy w' none) : Kp w w' P := Kp.of_grown hg (by simp)
theorem NdAt.lt {w : World} {P : Nat → Prop} {g o : Nat} : ∀ {x : Nd}, NdAt w P g o x → g < w.heap.size
  | .mk k t s n ks, h => by
    rw [NdAt] at h
    exact cell_lt h.1
theorem row_lt {w : World} {P : Nat → Prop} {g o : Nat} : ∀ {l : List Nd}, RowN w P g o l → 0 < l.length → g < w.heap.size
  | x :: r, h, _ => by
    rw [RowN] at h
    exact h.1.lt
mutual
theorem NdAt.keptP {w w' : World} {P Q : Nat → Prop} (hk : Kp w w' P) (hm : ∀ b, P b → b < w.heap.size → Q b) : ∀ {g o : Nat} {x : Nd}, w'.heap[g]? = w.heap[g]? → NdAt w P g o x → NdAt w' Q g o x
  | g, o, .mk k t s n ks, hg, h => by
    rw [NdAt] at h ⊢
    obtain ⟨h0, h1, h2, h3, q, g', h4, h5, h6⟩ := h
    refine ⟨cell_same h0 hg, cell_same h1 hg, cell_same h2 hg, cell_same h3 hg, q, g', cell_same h4 hg, ?_, ?_⟩
    · rcases h5 with h5 | ⟨hn, hp, h5⟩
      · exact Or.inl h5
      · exact Or.inr ⟨hn, hm g' hp (row_lt h6 hn), h5⟩
    · rcases h5 with ⟨_, h5⟩ | ⟨hn, hp, h5⟩
      · obtain rfl := List.length_eq_zero_iff.1 h5
        rw [RowN]; trivial
      · exact RowN.keptP hk hm (hk g' hp (row_lt h6 hn)) h6
theorem RowN.keptP {w w' : World} {P Q : Nat → Prop} (hk : Kp w w' P) (hm : ∀ b, P b → b < w.heap.size → Q b) : ∀ {g o : Nat} {l : List Nd}, w'.heap[g]? = w.heap[g]? → RowN w P g o l → RowN w' Q g o l
  | _, _, [], _, _ => by rw [RowN]; trivial
  | g, o, x :: r, hg, h => by
    rw [RowN] at h ⊢
    exact ⟨NdAt.keptP hk hm hg h.1, RowN.keptP hk hm hg h.2⟩
end
theorem KsV.keptP {w w' : World} {P Q : Nat → Prop} {q : Value} {ks : List Nd} (h : KsV w P q ks) (hk : Kp w w' P) (hm : ∀ b, P b → b < w.heap.size → Q b) : KsV w' Q q ks := by
  obtain ⟨g, h5, h6⟩ := h
  rcases h5 with ⟨rfl, h5⟩ | ⟨hn, hp, h5⟩
  · obtain rfl := List.length_eq_zero_iff.1 h5
    exact ⟨g, Or.inl ⟨rfl, rfl⟩, by rw [RowN]; trivial⟩
  · exact ⟨g, Or.inr ⟨hn, hm g hp (row_lt h6 hn), h5⟩, RowN.keptP hk hm (hk g hp (row_lt h6 hn)) h6⟩
theorem KsV.kept {w w' : World} {P : Nat → Prop} {q : Value} {ks : List Nd} (h : KsV w P q ks) (hg : w.grownBy w' none) : KsV w' P q ks := h.keptP (Kp.of_none P hg) (fun _ h _ => h)
theorem KsV.mono {w : World} {P Q : Nat → Prop} {q : Value} {ks : List Nd} (h : KsV w P q ks) (hm : ∀ b, P b → b < w.heap.size → Q b) : KsV w Q q ks := h.keptP (fun _ _ _ => rfl) hm
theorem NdV.mono {w : World} {P Q : Nat → Prop} {v : Value} {x : Nd} (h : NdV w P v x) (hm : ∀ b, P b → b < w.heap.size → Q b) : NdV w Q v x := by
  obtain ⟨q, h1, h2⟩ := h
  exact ⟨q, h1, h2.mono hm⟩
theorem NdAt.kept {w w' : World} {P : Nat → Prop} {g o : Nat} {x : Nd} (h : NdAt w P g o x) (hg : w.grownBy w' none) : NdAt w' P g o x :=
  NdAt.keptP (Kp.of_none P hg) (fun _ h _ => h) (hg.block g h.lt (by simp)) h
theorem RowN.at {w : World} {P : Nat → Prop} {g : Nat} : ∀ {o : Nat} {l : List Nd}, RowN w P g o l → ∀ i, (h : i < l.length) → NdAt w P g (o + 5 * i) l[i]
  | _, [], _, _, h => absurd h (Nat.not_lt_zero _)
  | o, x :: r, hr, 0, _ => by
    rw [RowN] at hr
    exact hr.1
  | o, x :: r, hr, i + 1, h => by
    rw [RowN] at hr
    have := RowN.at hr.2 i (by simpa using h)
    rw [show o + 5 + 5 * i = o + 5 * (i + 1) by omega] at this
    exact this
theorem RowN.of {w : World} {P : Nat → Prop} {g : Nat} : ∀ {o : Nat} {l : List Nd}, (∀ i, (h : i < l.length) → NdAt w P g (o + 5 * i) l[i]) → RowN w P g o l
  | _, [], _ => by rw [RowN]; trivial
  | o, x :: r, h => by
    rw [RowN]
    refine ⟨h 0 (by simp), RowN.of (fun i hi => ?_)⟩
    have := h (i + 1) (by simpa using hi)
    rw [show o + 5 * (i + 1) = o + 5 + 5 * i by omega] at this
    exact this
theorem NdAt.cells {w : World} {P : Nat → Prop} {g o : Nat} {x : Nd} (h : NdAt w P g o x) : ∃ q, w.cell? ⟨g, o, none⟩ = some (.int .i64 x.kind) ∧ w.cell? ⟨g, o + 1, none⟩ = some (.int .i64 x.ty) ∧ w.cell? ⟨g, o + 2, none⟩ = some (.string x.txt) ∧ w.cell? ⟨g, o + 3, none⟩ = some (.int .i64 x.num) ∧ w.cell? ⟨g, o + 4, none⟩ = some q ∧ KsV w P q x.kids := by
  cases x with
  | mk k t s n ks =>
    rw [NdAt] at h
    obtain ⟨h0, h1, h2, h3, q, g', h4, h5, h6⟩ := h
    exact ⟨q, h0, h1, h2, h3, h4, g', h5, h6⟩
theorem NdAt.mk {w : World} {P : Nat → Prop} {g o : Nat} {x : Nd} {q : Value} (h0 : w.cell? ⟨g, o, none⟩ = some (.int .i64 x.kind)) (h1 : w.cell? ⟨g, o + 1, none⟩ = some (.int .i64 x.ty)) (h2 : w.cell? ⟨g, o + 2, none⟩ = some (.string x.txt)) (h3 : w.cell? ⟨g, o + 3, none⟩ = some (.int .i64 x.num)) (h4 : w.cell? ⟨g, o + 4, none⟩ = some q) (h5 : KsV w P q x.kids) : NdAt w P g o x := by
  cases x with
  | mk k t s n ks =>
    rw [NdAt]
    obtain ⟨g', h5, h6⟩ := h5
    exact ⟨h0, h1, h2, h3, q, g', h4, h5, h6⟩
theorem KsV.nil (w : World) (P : Nat → Prop) : KsV w P (.slice none 0 0) [] := ⟨0, Or.inl ⟨rfl, rfl⟩, by rw [RowN]; trivial⟩
theorem KsV.form {w : World} {P : Nat → Prop} {q : Value} {ks : List Nd} (h : KsV w P q ks) : ∃ p cap, q = .slice p ks.length cap ∧ ks.length ≤ cap ∧ cap ≤ maxLen ∧ (p = none ∨ ∃ g, p = some ⟨g, 0, none⟩ ∧ P g) := by
  obtain ⟨g, (⟨rfl, h2⟩ | ⟨_, hp, cap, rfl, h2, h3⟩), h4⟩ := h
  · exact ⟨none, 0, by rw [h2], by rw [h2]; exact Nat.le_refl _, Nat.zero_le _, Or.inl rfl⟩
  · exact ⟨_, cap, rfl, h2, h3, Or.inr ⟨g, rfl, hp⟩⟩
theorem KsV.at {w : World} {P : Nat → Prop} {p : Option Addr} {n cap : Nat} {ks : List Nd} (h : KsV w P (.slice p n cap) ks) (i : Nat) (hi : i < ks.length) : ∃ g, p = some ⟨g, 0, none⟩ ∧ P g ∧ NdAt w P g (5 * i) ks[i] := by
  obtain ⟨g, (⟨h1, h2⟩ | ⟨_, hp, cap, h1, h2, h3⟩), h4⟩ := h
  · omega
  · injection h1 with e1 e2 e3
    have := h4.at i hi
    rw [Nat.zero_add] at this
    exact ⟨g, e1, hp, this⟩
def CellsN (w : World) (P : Nat → Prop) : List Value → List Nd → Prop
  | cs, [] => cs = []
  | cs, x :: r => ∃ q cs', cs = .int .i64 x.kind :: .int .i64 x.ty :: .string x.txt :: .int .i64 x.num :: q :: cs' ∧ KsV w P q x.kids ∧ CellsN w P cs' r
theorem CellsN.keptP {w w' : World} {P Q : Nat → Prop} (hk : Kp w w' P) (hm : ∀ b, P b → b < w.heap.size → Q b) : ∀ {cs : List Value} {ks : List Nd}, CellsN w P cs ks → CellsN w' Q cs ks
  | _, [], h => h
  | _, _ :: _, ⟨q, cs', h1, h2, h3⟩ => ⟨q, cs', h1, h2.keptP hk hm, CellsN.keptP hk hm h3⟩
theorem CellsN.snoc {w : World} {P : Nat → Prop} {x : Nd} {q : Value} (hx : KsV w P q x.kids) : ∀ {cs : List Value} {ks : List Nd}, CellsN w P cs ks → CellsN w P (cs ++ [.int .i64 x.kind, .int .i64 x.ty, .string x.txt, .int .i64 x.num, q]) (ks ++ [x])
  | _, [], h => by
    obtain rfl : _ = [] := h
    exact ⟨q, [], rfl, hx, rfl⟩
  | _, y :: r, ⟨q', cs', h1, h2, h3⟩ => by
    subst h1
    exact ⟨q', _, rfl, h2, CellsN.snoc hx h3⟩
theorem CellsN.row {w : World} {P : Nat → Prop} {g : Nat} : ∀ {o : Nat} {cs : List Value} {ks : List Nd}, CellsN w P cs ks → (∀ j u, cs[j]? = some u → w.cell? ⟨g, o + j, none⟩ = some u) → RowN w P g o ks
  | _, _, [], _, _ => by rw [RowN]; trivial
  | o, _, y :: r, ⟨q', cs', h1, h2, h3⟩, hc => by
    subst h1
    rw [RowN]
    refine ⟨NdAt.mk (hc 0 _ rfl) (hc 1 _ rfl) (hc 2 _ rfl) (hc 3 _ rfl) (hc 4 _ rfl) h2, CellsN.row h3 (fun j u hj => ?_)⟩
    have := hc (j + 5) u (by simpa using hj)
    rw [show o + (j + 5) = o + 5 + j by omega] at this
    exact this
end Go.Proofs.YtajoncmmdeahnaaGreatDoor
