/-
  Rows of nodes that are written in place, and rows that grow. Trees whose rows lie in blocks of their own: block by block, from lo on and below hi. Clone: a tree of its own. Clone: the rows of a copy are blocks of their own, each unlike all others. The checker's smallest questions: bytes, kept words, names, kinds.
-/
import Derived.Test.YtajoncmmdeahnaaGreatDoorKPm
import Derived.Test.YtajoncmmdeahnaaGreatDoorProg
import Derived.KernelRfl
import Derived.OwnWalk
import Derived.Laws.AppendOwnNone
import Derived.Test.YtajoncmmdeahnaaGreatDoorKLNm
namespace Go.Proofs.YtajoncmmdeahnaaGreatDoor
open Go.RowKit
theorem hid {p : Prop} (h : p) : Hid p := h
mutual
theorem Nd.indA {M : Nd → Prop} (h : ∀ k t s n ks, (∀ y ∈ ks, M y) → M (.mk k t s n ks)) : ∀ x : Nd, M x
  | .mk k t s n ks => h k t s n ks (Nd.indL h ks)
theorem Nd.indL {M : Nd → Prop} (h : ∀ k t s n ks, (∀ y ∈ ks, M y) → M (.mk k t s n ks)) : ∀ l : List Nd, ∀ y ∈ l, M y
  | [], _, hy => by cases hy
  | x :: r, y, hy => by
    have h1 := Nd.indA h x
    have h2 := Nd.indL h r
    rcases List.mem_cons.1 hy with e | hy
    · rw [e]; exact h1
    · exact h2 y hy
end
def put5 (cs : Array Value) (o : Nat) (a b c d e : Value) : Array Value := ((((cs.setIfInBounds o a).setIfInBounds (o + 1) b).setIfInBounds (o + 2) c).setIfInBounds (o + 3) d).setIfInBounds (o + 4) e
theorem put5_size (cs : Array Value) (o : Nat) (a b c d e : Value) : (put5 cs o a b c d e).size = cs.size := by simp [put5]
theorem put5_other (cs : Array Value) (o : Nat) (a b c d e : Value) (j : Nat) (h : j < o) : (put5 cs o a b c d e)[j]? = cs[j]? := by
  unfold put5
  rw [Array.getElem?_setIfInBounds_ne (by omega), Array.getElem?_setIfInBounds_ne (by omega), Array.getElem?_setIfInBounds_ne (by omega), Array.getElem?_setIfInBounds_ne (by omega), Array.getElem?_setIfInBounds_ne (by omega)]
theorem put5_0 (cs : Array Value) (o : Nat) (a b c d e : Value) (h : o + 4 < cs.size) : (put5 cs o a b c d e)[o]? = some a := by
  unfold put5
  rw [Array.getElem?_setIfInBounds_ne (by omega), Array.getElem?_setIfInBounds_ne (by omega), Array.getElem?_setIfInBounds_ne (by omega), Array.getElem?_setIfInBounds_ne (by omega), Array.getElem?_setIfInBounds_self_of_lt (by omega)]
theorem put5_1 (cs : Array Value) (o : Nat) (a b c d e : Value) (h : o + 4 < cs.size) : (put5 cs o a b c d e)[o + 1]? = some b := by
  unfold put5
  rw [Array.getElem?_setIfInBounds_ne (by omega), Array.getElem?_setIfInBounds_ne (by omega), Array.getElem?_setIfInBounds_ne (by omega), Array.getElem?_setIfInBounds_self_of_lt (by simp; omega)]
theorem put5_2 (cs : Array Value) (o : Nat) (a b c d e : Value) (h : o + 4 < cs.size) : (put5 cs o a b c d e)[o + 2]? = some c := by
  unfold put5
  rw [Array.getElem?_setIfInBounds_ne (by omega), Array.getElem?_setIfInBounds_ne (by omega), Array.getElem?_setIfInBounds_self_of_lt (by simp; omega)]
theorem put5_3 (cs : Array Value) (o : Nat) (a b c d e : Value) (h : o + 4 < cs.size) : (put5 cs o a b c d e)[o + 3]? = some d := by
  unfold put5
  rw [Array.getElem?_setIfInBounds_ne (by omega), Array.getElem?_setIfInBounds_self_of_lt (by simp; omega)]
theorem put5_4 (cs : Array Value) (o : Nat) (a b c d e : Value) (h : o + 4 < cs.size) : (put5 cs o a b c d e)[o + 4]? = some e := by
  unfold put5
  rw [Array.getElem?_setIfInBounds_self_of_lt (by simp; omega)]
def set5 (w : World) (g o : Nat) (a b c d e : Value) : World := ((((w.setCell ⟨g, o, none⟩ a).setCell ⟨g, o + 1, none⟩ b).setCell ⟨g, o + 2, none⟩ c).setCell ⟨g, o + 3, none⟩ d).setCell ⟨g, o + 4, none⟩ e
theorem Blk.set5 {w : World} {g : Nat} {t : TypeId} {cs : Array Value} (h : Blk w g t cs) (o : Nat) (a b c d e : Value) : Blk (set5 w g o a b c d e) g t (put5 cs o a b c d e) :=
  ((((h.set o a).set (o + 1) b).set (o + 2) c).set (o + 3) d).set (o + 4) e
theorem grown_set5 {w w' : World} {g : Nat} (h : w.grownBy w' (some g)) (o : Nat) (a b c d e : Value) : w.grownBy (set5 w' g o a b c d e) (some g) :=
  grown_set (grown_set (grown_set (grown_set (grown_set h o a) (o + 1) b) (o + 2) c) (o + 3) d) (o + 4) e
theorem grown_set5_new {w w' : World} {g : Nat} {row : Option Nat} (h : w.grownBy w' row) (o : Nat) (a b c d e : Value) (hg : w.heap.size ≤ g) : w.grownBy (set5 w' g o a b c d e) row :=
  grown_set_new (grown_set_new (grown_set_new (grown_set_new (grown_set_new h _ hg) _ hg) _ hg) _ hg) _ hg
theorem info27 : (Tryz.prog.info? 27).map (fun i => (i.zero, i.size, i.bytes)) = some (some (.agg #[.int .i64 0, .int .i64 0, .string ⟨#[]⟩, .int .i64 0, .slice none 0 0]), 5, 64) := by kernel_rfl
def zeroN (n : Nat) : Array Value := madeCells (Value.agg #[.int .i64 0, .int .i64 0, .string ⟨#[]⟩, .int .i64 0, .slice none 0 0]).cells (n * 5)
theorem zeroN_size (n : Nat) : (zeroN n).size = 5 * n := by unfold zeroN; rw [size_madeCells, Nat.mul_comm]
theorem make_nodes (k : Nat) (w : World) (hk : k ≤ 10000) : (Instr.makeSlice 25 (.int .i64 k) (.int .i64 k)).run Tryz.prog w = .ok (.slice (some ⟨w.heap.size, 0, none⟩) k k) (w.alloc (.cells (zeroN k) 27)) := by
  obtain ⟨i5, hi, hz0, hz1, hz2⟩ := info_parts info27
  have h := run_make (P := Tryz.prog) w 25 27 i5 _ Tryz.underlying25 hi hz0 .i64 .i64 k k (by omega) (Int.le_refl _) (by rw [hz2]; omega) (by omega)
  rw [hz1, Int.toNat_natCast] at h
  exact h
theorem at_or {cs : Array Value} {j : Nat} (h : j < cs.size) : ∃ u, cs[j]? = some u := ⟨_, Array.getElem?_eq_getElem h⟩
end Go.Proofs.YtajoncmmdeahnaaGreatDoor
namespace Go.Proofs.YtajoncmmdeahnaaGreatDoor
open Go.RowKit
mutual
/-- The node x stands at cell o of block g; the rows of all below it are blocks of their own, from lo on and below hi. -/
def NdI (w : World) (g o lo hi : Nat) : Nd → Prop
  | .mk k t s n ks => w.cell? ⟨g, o, none⟩ = some (.int .i64 k) ∧ w.cell? ⟨g, o + 1, none⟩ = some (.int .i64 t) ∧ w.cell? ⟨g, o + 2, none⟩ = some (.string s) ∧ w.cell? ⟨g, o + 3, none⟩ = some (.int .i64 n)
    ∧ ∃ q, w.cell? ⟨g, o + 4, none⟩ = some q ∧ ((q = .slice none 0 0 ∧ ks = [] ∧ lo ≤ hi) ∨ (∃ g' cap cs, q = .slice (some ⟨g', 0, none⟩) ks.length cap ∧ ks.length ≤ cap ∧ cap ≤ maxLen ∧ 0 < ks.length ∧ lo ≤ g' ∧ Blk w g' 27 cs ∧ cs.size = 5 * ks.length ∧ RowI w g' 0 (g' + 1) hi ks))
def RowI (w : World) (g o lo hi : Nat) : List Nd → Prop
  | [] => lo ≤ hi
  | x :: r => ∃ mid, NdI w g o lo mid x ∧ RowI w g (o + 5) mid hi r
end
def KsI (w : World) (lo hi : Nat) (q : Value) (ks : List Nd) : Prop := (q = .slice none 0 0 ∧ ks = [] ∧ lo ≤ hi) ∨ (∃ g' cap cs, q = .slice (some ⟨g', 0, none⟩) ks.length cap ∧ ks.length ≤ cap ∧ cap ≤ maxLen ∧ 0 < ks.length ∧ lo ≤ g' ∧ Blk w g' 27 cs ∧ cs.size = 5 * ks.length ∧ RowI w g' 0 (g' + 1) hi ks)
theorem NdI.mk {w : World} {g o lo hi : Nat} {x : Nd} {q : Value} (h0 : w.cell? ⟨g, o, none⟩ = some (.int .i64 x.kind)) (h1 : w.cell? ⟨g, o + 1, none⟩ = some (.int .i64 x.ty)) (h2 : w.cell? ⟨g, o + 2, none⟩ = some (.string x.txt)) (h3 : w.cell? ⟨g, o + 3, none⟩ = some (.int .i64 x.num)) (h4 : w.cell? ⟨g, o + 4, none⟩ = some q) (h5 : KsI w lo hi q x.kids) : NdI w g o lo hi x := by
  cases x with
  | mk k t s n ks =>
    rw [NdI]
    exact ⟨h0, h1, h2, h3, q, h4, h5⟩
theorem NdI.cells {w : World} {g o lo hi : Nat} {x : Nd} (h : NdI w g o lo hi x) : ∃ q, w.cell? ⟨g, o, none⟩ = some (.int .i64 x.kind) ∧ w.cell? ⟨g, o + 1, none⟩ = some (.int .i64 x.ty) ∧ w.cell? ⟨g, o + 2, none⟩ = some (.string x.txt) ∧ w.cell? ⟨g, o + 3, none⟩ = some (.int .i64 x.num) ∧ w.cell? ⟨g, o + 4, none⟩ = some q ∧ KsI w lo hi q x.kids := by
  cases x with
  | mk k t s n ks =>
    rw [NdI] at h
    obtain ⟨h0, h1, h2, h3, q, h4, h5⟩ := h
    exact ⟨q, h0, h1, h2, h3, h4, h5⟩
mutual
theorem NdI.le {w : World} : ∀ {g o lo hi : Nat} {x : Nd}, NdI w g o lo hi x → lo ≤ hi
  | g, o, lo, hi, .mk k t s n ks, h => by
    rw [NdI] at h
    obtain ⟨_, _, _, _, q, _, ⟨_, _, h⟩ | ⟨g', cap, cs, _, _, _, _, h1, _, _, h2⟩⟩ := h
    · exact h
    · have := RowI.le h2
      omega
theorem RowI.le {w : World} : ∀ {g o lo hi : Nat} {l : List Nd}, RowI w g o lo hi l → lo ≤ hi
  | _, _, _, _, [], h => by rw [RowI] at h; exact h
  | g, o, lo, hi, x :: r, h => by
    rw [RowI] at h
    obtain ⟨mid, h1, h2⟩ := h
    exact Nat.le_trans (NdI.le h1) (RowI.le h2)
end
mutual
theorem NdI.kept {w w' : World} : ∀ {g o lo hi : Nat} {x : Nd}, (∀ b, lo ≤ b → b < hi → w'.heap[b]? = w.heap[b]?) → (∀ j, o ≤ j → j < o + 5 → w'.cell? ⟨g, j, none⟩ = w.cell? ⟨g, j, none⟩) → NdI w g o lo hi x → NdI w' g o lo hi x
  | g, o, lo, hi, .mk k t s n ks, hb, hc, h => by
    rw [NdI] at h ⊢
    obtain ⟨h0, h1, h2, h3, q, h4, h5⟩ := h
    refine ⟨(hc _ (by omega) (by omega)).trans h0, (hc _ (by omega) (by omega)).trans h1, (hc _ (by omega) (by omega)).trans h2, (hc _ (by omega) (by omega)).trans h3, q, (hc _ (by omega) (by omega)).trans h4, ?_⟩
    rcases h5 with h5 | ⟨g', cap, cs, e1, e2, e3, e4, e5, e6, e7, e8⟩
    · exact Or.inl h5
    · have hl := RowI.le e8
      exact Or.inr ⟨g', cap, cs, e1, e2, e3, e4, e5, (hb g' e5 (by omega)).trans e6, e7, RowI.kept (fun b b1 b2 => hb b (by omega) b2) (fun j _ _ => World.cell?_of_block (hb g' e5 (by omega))) e8⟩
theorem RowI.kept {w w' : World} : ∀ {g o lo hi : Nat} {l : List Nd}, (∀ b, lo ≤ b → b < hi → w'.heap[b]? = w.heap[b]?) → (∀ j, o ≤ j → j < o + 5 * l.length → w'.cell? ⟨g, j, none⟩ = w.cell? ⟨g, j, none⟩) → RowI w g o lo hi l → RowI w' g o lo hi l
  | _, _, _, _, [], _, _, h => by rw [RowI] at h ⊢; exact h
  | g, o, lo, hi, x :: r, hb, hc, h => by
    rw [RowI] at h ⊢
    rw [List.length_cons] at hc
    obtain ⟨mid, h1, h2⟩ := h
    have l1 := NdI.le h1
    have l2 := RowI.le h2
    exact ⟨mid, NdI.kept (fun b b1 b2 => hb b b1 (by omega)) (fun j j1 j2 => hc j j1 (by omega)) h1, RowI.kept (fun b b1 b2 => hb b (by omega) b2) (fun j j1 j2 => hc j (by omega) (by omega)) h2⟩
end
theorem KsI.kept {w w' : World} {lo hi : Nat} {q : Value} {ks : List Nd} (hb : ∀ b, lo ≤ b → b < hi → w'.heap[b]? = w.heap[b]?) (h : KsI w lo hi q ks) : KsI w' lo hi q ks := by
  rcases h with h5 | ⟨g', cap, cs, e1, e2, e3, e4, e5, e6, e7, e8⟩
  · exact Or.inl h5
  · have hl := RowI.le e8
    exact Or.inr ⟨g', cap, cs, e1, e2, e3, e4, e5, (hb g' e5 (by omega)).trans e6, e7, RowI.kept (fun b b1 b2 => hb b (by omega) b2) (fun j _ _ => World.cell?_of_block (hb g' e5 (by omega))) e8⟩
theorem RowI.snoc {w : World} {g m hi : Nat} {x : Nd} : ∀ {o lo : Nat} {l : List Nd}, RowI w g o lo m l → NdI w g (o + 5 * l.length) m hi x → RowI w g o lo hi (l ++ [x])
  | o, lo, [], h, hx => by
    rw [RowI] at h
    rw [List.nil_append, RowI]
    rw [List.length_nil, Nat.mul_zero, Nat.add_zero] at hx
    obtain ⟨q, c0, c1, c2, c3, c4, c5⟩ := hx.cells
    refine ⟨hi, NdI.mk c0 c1 c2 c3 c4 ?_, by rw [RowI]; exact Nat.le_refl _⟩
    rcases c5 with ⟨e1, e2, e3⟩ | ⟨g', cap, cs, e1, e2, e3, e4, e5, e6, e7, e8⟩
    · exact Or.inl ⟨e1, e2, by omega⟩
    · exact Or.inr ⟨g', cap, cs, e1, e2, e3, e4, by omega, e6, e7, e8⟩
  | o, lo, y :: r, h, hx => by
    rw [RowI] at h
    rw [List.cons_append, RowI]
    obtain ⟨mid, h1, h2⟩ := h
    rw [List.length_cons, show o + 5 * (r.length + 1) = o + 5 + 5 * r.length by omega] at hx
    exact ⟨mid, h1, RowI.snoc h2 hx⟩
mutual
theorem NdI.nd {w : World} {P : Nat → Prop} : ∀ {g o lo hi : Nat} {x : Nd}, (∀ b, lo ≤ b → b < hi → P b) → NdI w g o lo hi x → NdAt w P g o x
  | g, o, lo, hi, .mk k t s n ks, hP, h => by
    rw [NdI] at h
    rw [NdAt]
    obtain ⟨h0, h1, h2, h3, q, h4, h5⟩ := h
    rcases h5 with ⟨e1, e2, _⟩ | ⟨g', cap, cs, e1, e2, e3, e4, e5, e6, e7, e8⟩
    · subst e2
      exact ⟨h0, h1, h2, h3, q, 0, h4, Or.inl ⟨e1, rfl⟩, by rw [RowN]; trivial⟩
    · have hl := RowI.le e8
      exact ⟨h0, h1, h2, h3, q, g', h4, Or.inr ⟨e4, hP g' e5 (by omega), cap, e1, e2, e3⟩, RowI.nd (fun b b1 b2 => hP b (by omega) b2) e8⟩
theorem RowI.nd {w : World} {P : Nat → Prop} : ∀ {g o lo hi : Nat} {l : List Nd}, (∀ b, lo ≤ b → b < hi → P b) → RowI w g o lo hi l → RowN w P g o l
  | _, _, _, _, [], _, _ => by rw [RowN]; trivial
  | g, o, lo, hi, x :: r, hP, h => by
    rw [RowI] at h
    rw [RowN]
    obtain ⟨mid, h1, h2⟩ := h
    have l1 := NdI.le h1
    have l2 := RowI.le h2
    exact ⟨NdI.nd (fun b b1 b2 => hP b b1 (by omega)) h1, RowI.nd (fun b b1 b2 => hP b (by omega) b2) h2⟩
end
theorem KsI.ks {w : World} {P : Nat → Prop} {lo hi : Nat} {q : Value} {ks : List Nd} (hP : ∀ b, lo ≤ b → b < hi → P b) (h : KsI w lo hi q ks) : KsV w P q ks := by
  rcases h with ⟨e1, e2, _⟩ | ⟨g', cap, cs, e1, e2, e3, e4, e5, e6, e7, e8⟩
  · subst e1 e2
    exact KsV.nil _ _
  · have hl := RowI.le e8
    exact ⟨g', Or.inr ⟨e4, hP g' e5 (by omega), cap, e1, e2, e3⟩, RowI.nd (fun b b1 b2 => hP b (by omega) b2) e8⟩
theorem rowI_put {w : World} {g k m h : Nat} {t : TypeId} {cs : Array Value} {l : List Nd} {q : Value} (hk : k < l.length) (hB : Blk w g t cs) (hs : cs.size = 5 * l.length) (hm : g < m) (hr : RowI w g 0 (g + 1) m (l.take k)) (hx : KsI w m h q (l[k]).kids) :
    RowI (set5 w g (k * 5) (.int .i64 (l[k]).kind) (.int .i64 (l[k]).ty) (.string (l[k]).txt) (.int .i64 (l[k]).num) q) g 0 (g + 1) h (l.take (k + 1)) := by
  have hB' := hB.set5 (k * 5) (.int .i64 (l[k]).kind) (.int .i64 (l[k]).ty) (.string (l[k]).txt) (.int .i64 (l[k]).num) q
  have hG := grown_set5 (grown_refl w (some g)) (k * 5) (.int .i64 (l[k]).kind) (.int .i64 (l[k]).ty) (.string (l[k]).txt) (.int .i64 (l[k]).num) q
  have hS : (set5 w g (k * 5) (.int .i64 (l[k]).kind) (.int .i64 (l[k]).ty) (.string (l[k]).txt) (.int .i64 (l[k]).num) q).heap.size = w.heap.size := by simp [set5, World.setCell]
  generalize set5 w g (k * 5) (.int .i64 (l[k]).kind) (.int .i64 (l[k]).ty) (.string (l[k]).txt) (.int .i64 (l[k]).num) q = w' at *
  have hkp : ∀ b, g + 1 ≤ b → b < w.heap.size → w'.heap[b]? = w.heap[b]? := fun b b1 b2 => hG.block b b2 (fun e => by have := Option.some.inj e; omega)
  have hkp' : ∀ b, g + 1 ≤ b → w'.heap[b]? = w.heap[b]? ∨ w.heap.size ≤ b := fun b b1 => by
    by_cases hb : b < w.heap.size
    · exact Or.inl (hkp b b1 hb)
    · exact Or.inr (by omega)
  have hsz : w'.heap.size = w.heap.size := hS
  rw [List.take_succ_eq_append_getElem hk]
  have hkA : ∀ b, g + 1 ≤ b → w'.heap[b]? = w.heap[b]? := fun b b1 => by
    rcases hkp' b b1 with h1 | h1
    · exact h1
    · rw [Array.getElem?_eq_none (by omega), Array.getElem?_eq_none (by omega)]
  refine RowI.snoc (RowI.kept (fun b b1 _ => hkA b b1) (fun j j1 j2 => ?_) hr) ?_
  · rw [List.length_take] at j2
    rw [hB'.cell, hB.cell, put5_other _ _ _ _ _ _ _ _ (by omega)]
  · have hz : k * 5 + 4 < cs.size := by omega
    rw [List.length_take, Nat.min_eq_left (Nat.le_of_lt hk), Nat.zero_add, Nat.mul_comm 5 k]
    exact NdI.mk (by rw [hB'.cell, put5_0 _ _ _ _ _ _ _ hz]) (by rw [hB'.cell, put5_1 _ _ _ _ _ _ _ hz]) (by rw [hB'.cell, put5_2 _ _ _ _ _ _ _ hz]) (by rw [hB'.cell, put5_3 _ _ _ _ _ _ _ hz]) (by rw [hB'.cell, put5_4 _ _ _ _ _ _ _ hz]) (hx.kept (fun b b1 _ => hkA b (by omega)))
end Go.Proofs.YtajoncmmdeahnaaGreatDoor
namespace Go.Proofs.YtajoncmmdeahnaaGreatDoor
open Go.RowKit
end Go.Proofs.YtajoncmmdeahnaaGreatDoor
namespace Go.Proofs.YtajoncmmdeahnaaGreatDoor
open Go.RowKit
def CloneQ (w : World) (x : Nd) (e : Ending) (w' : World) : Prop := ∃ q, e = .returned (.agg #[.int .i64 x.kind, .int .i64 x.ty, .string x.txt, .int .i64 x.num, q]) ∧ KsI w' w.heap.size w'.heap.size q x.kids ∧ w.grownBy w' none
def CliI (w : World) (k t : Int) (s : ByteArray) (n : Int) (q : Value) (ks : List Nd) (i : Nat) (wr : World) : Prop :=
  w.grownBy wr none ∧ Blk wr w.heap.size 27 #[.int .i64 k, .int .i64 t, .string s, .int .i64 n, q] ∧ Blk wr (w.heap.size + 1) 27 #[.int .i64 0, .int .i64 0, .string ⟨#[]⟩, .int .i64 0, .slice none 0 0]
    ∧ ∃ cs, Blk wr (w.heap.size + 2) 27 cs ∧ cs.size = 5 * ks.length ∧ RowI wr (w.heap.size + 2) 0 (w.heap.size + 2 + 1) wr.heap.size (ks.take i)
set_option maxRecDepth 100000 in
theorem cloneI_nil (k t : Int) (s : ByteArray) (n : Int) (w : World) : Calls Tryz.prog 23 #[.agg #[.int .i64 k, .int .i64 t, .string s, .int .i64 n, .slice none 0 0]] w (CloneQ w (.mk k t s n [])) := by
  go_enter Tryz.func23, Tryz.ntmps23
  go_wp2
  go_loopw [15] (fun i wr => i = .int .i64 0 ∧ wr = (w.alloc (.cells #[.int .i64 k, .int .i64 t, .string s, .int .i64 n, .slice none 0 0] 27)).alloc (.cells #[.int .i64 0, .int .i64 0, .string ⟨#[]⟩, .int .i64 0, .slice none 0 0] 27)) (fun _ _ => 0)
  case atStart => exact ⟨rfl, rfl⟩
  case round =>
    obtain ⟨rfl, rfl⟩ := hrel
    go_wp2
    refine bodyPost_ret (v := .agg #[.int .i64 k, .int .i64 t, .string s, .int .i64 n, .slice none 0 0]) (by simp [results, Tryz.results23, go_sem]) rfl ?_
    refine ⟨.slice none 0 0, rfl, ?_, ?_⟩
    · refine Or.inl ⟨rfl, rfl, ?_⟩
      simp; omega
    · repeat (first | exact grown_refl _ _ | refine grown_set_new ?_ _ (by simp) | refine grown_alloc ?_ _)
set_option maxRecDepth 100000 in
set_option maxHeartbeats 1000000 in
theorem cloneI_some (k t : Int) (s : ByteArray) (n : Int) (g0 cap : Nat) (ks : List Nd) (P : Nat → Prop) (w : World) (hn : ks.length ≤ 255) (h0 : 0 < ks.length) (hks : KsV w P (.slice (some ⟨g0, 0, none⟩) ks.length cap) ks)
    (ih : ∀ y ∈ ks, ∀ (v : Value) (W : World), NdV W P v y → Calls Tryz.prog 23 #[v] W (CloneQ W y)) : Calls Tryz.prog 23 #[.agg #[.int .i64 k, .int .i64 t, .string s, .int .i64 n, .slice (some ⟨g0, 0, none⟩) ks.length cap]] w (CloneQ w (.mk k t s n ks)) := by
  have IH : Hid (∀ y ∈ ks, ∀ (v : Value) (W : World), NdV W P v y → Calls Tryz.prog 23 #[v] W (CloneQ W y)) := ih
  have HK : Hid (KsV w P (.slice (some ⟨g0, 0, none⟩) ks.length cap) ks) := hks
  clear ih hks
  obtain ⟨L, hL⟩ : ∃ L, ks.length = L := ⟨_, rfl⟩
  have HL : Hid (ks.length = L) := hL
  rw [hL] at hn h0
  have HK' : Hid (KsV w P (.slice (some ⟨g0, 0, none⟩) L cap) ks) := by rw [← hL]; exact HK.out
  rw [hL]
  clear HK hL
  have i0 : (0 : Int) < L := by omega
  have i1 : (L : Int) ≤ 255 := by omega
  have MK : ∀ W, (Instr.makeSlice 25 (.int .i64 L) (.int .i64 L)).run Tryz.prog W = .ok (.slice (some ⟨W.heap.size, 0, none⟩) L L) (W.alloc (.cells (zeroN L) 27)) := fun W => make_nodes L W (by omega)
  go_enter Tryz.func23, Tryz.ntmps23
  go_wp2
  go_loopw [15] (fun i wr => ∃ j : Nat, j ≤ L ∧ i = .int .i64 j ∧ CliI w k t s n (.slice (some ⟨g0, 0, none⟩) L cap) ks j wr) (fun i _ => L - (intOf i).toNat)
  case atStart =>
    refine ⟨0, Nat.zero_le _, rfl, grown_alloc (grown_alloc (grown_alloc (grown_refl w none) _) _) _, ((Blk.new w 27 _).alloc _).alloc _, ?_, zeroN L, ?_, ?_, ?_⟩
    · have := (Blk.new (w.alloc (.cells #[.int .i64 k, .int .i64 t, .string s, .int .i64 n, .slice (some ⟨g0, 0, none⟩) L cap] 27)) 27 #[.int .i64 0, .int .i64 0, .string ⟨#[]⟩, .int .i64 0, .slice none 0 0]).alloc (.cells (zeroN L) 27)
      rw [World.size_alloc] at this
      exact this
    · have := Blk.new ((w.alloc (.cells #[.int .i64 k, .int .i64 t, .string s, .int .i64 n, .slice (some ⟨g0, 0, none⟩) L cap] 27)).alloc (.cells #[.int .i64 0, .int .i64 0, .string ⟨#[]⟩, .int .i64 0, .slice none 0 0] 27)) 27 (zeroN L)
      rw [World.size_alloc, World.size_alloc] at this
      exact this
    · rw [zeroN_size, HL.out]
    · rw [List.take_zero, RowI]; simp
  case round =>
    obtain ⟨j, hj, rfl, hI⟩ := hrel
    have j0 : (0 : Int) ≤ j := by omega
    obtain ⟨hg, hB0, hB1, cs, hB2, hcs, hrow⟩ := hI
    have G := hid hg
    have B0 := hid hB0
    have B1 := hid hB1
    have B2 := hid hB2
    have RW := hid hrow
    have x4 : wr.cell? ⟨w.heap.size, 4, none⟩ = some (.slice (some ⟨g0, 0, none⟩) L cap) := by rw [hB0.cell]; rfl
    by_cases hlt : j < L
    · have j1 : (j : Int) < L := by omega
      have hjk : j < ks.length := by rw [HL.out]; exact hlt
      obtain ⟨g', hg', _, hat⟩ := (HK'.out.kept hg).at j hjk
      injection hg' with hg'
      injection hg' with hg'
      subst hg'
      obtain ⟨q, c0, c1, c2, c3, c4, hkq⟩ := hat.cells
      rw [Nat.mul_comm 5 j] at c0 c1 c2 c3 c4
      have CC : Hid (Calls Tryz.prog 23 #[.agg #[.int .i64 (ks[j]).kind, .int .i64 (ks[j]).ty, .string (ks[j]).txt, .int .i64 (ks[j]).num, q]] wr (CloneQ wr (ks[j]))) := IH.out _ (List.getElem_mem hjk) _ wr ⟨q, rfl, hkq⟩
      obtain ⟨p', cap', hq, _⟩ := hkq.form
      subst hq
      have hz : j * 5 + 4 < cs.size := by rw [hcs, HL.out]; omega
      have HC := hid hcs
      have hw2 : w.heap.size + 2 < wr.heap.size := hB2.lt
      clear hg hB0 hB1 hB2 hrow hkq hat hcs IH HK'
      go_wp2_with (go_at_call 23; refine CC.out.mono ?_; rintro e w2 ⟨q2, rfl, hk2, hg2⟩; obtain ⟨p2, cap2, e2, _⟩ := (hk2.ks (P := fun _ => True) (fun _ _ _ => trivial)).form; subst e2; have K2 := hid hk2; have G2 := hid hg2; have b0 := hid (B0.out.kept hg2 (by simp)); have b1 := hid (B1.out.kept hg2 (by simp)); have b2 := hid (B2.out.kept hg2 (by simp)); obtain ⟨u0, y0⟩ := at_or (cs := cs) (j := j * 5) (by omega); obtain ⟨u1, y1⟩ := at_or (cs := cs) (j := j * 5 + 1) (by omega); obtain ⟨u2, y2⟩ := at_or (cs := cs) (j := j * 5 + 2) (by omega); obtain ⟨u3, y3⟩ := at_or (cs := cs) (j := j * 5 + 3) (by omega); obtain ⟨u4, y4⟩ := at_or (cs := cs) (j := j * 5 + 4) (by omega); rw [← b2.out.cell] at y0 y1 y2 y3 y4; have f0 := b2.out.frozen (j * 5); have f1 := b2.out.frozen (j * 5 + 1); have f2 := b2.out.frozen (j * 5 + 2); have f3 := b2.out.frozen (j * 5 + 3); have f4 := b2.out.frozen (j * 5 + 4); clear hk2 hg2 CC)
      go_roundw
      case rel =>
        have gs := grown_set5 (grown_refl w2 (some (w.heap.size + 2))) (j * 5) (.int .i64 (ks[j]).kind) (.int .i64 (ks[j]).ty) (.string (ks[j]).txt) (.int .i64 (ks[j]).num) (.slice p2 (ks[j]).kids.length cap2)
        have r2 := RowI.kept (w' := w2) (fun b _ hb => G2.out.block b hb (by simp)) (fun j _ _ => World.cell?_of_block (G2.out.block (w.heap.size + 2) hw2 (by simp))) RW.out
        have r3 := rowI_put hjk b2.out HC.out (by omega) r2 K2.out
        have hs5 : (set5 w2 (w.heap.size + 2) (j * 5) (.int .i64 (ks[j]).kind) (.int .i64 (ks[j]).ty) (.string (ks[j]).txt) (.int .i64 (ks[j]).num) (.slice p2 (ks[j]).kids.length cap2)).heap.size = w2.heap.size := by simp [set5, World.setCell]
        rw [← hs5] at r3
        exact ⟨j + 1, by omega, by go_num, grown_set5_new (grown_none G.out G2.out) _ _ _ _ _ _ (by omega), b0.out.kept gs (by simp), b1.out.kept gs (by simp), _, b2.out.set5 _ _ _ _ _ _, by rw [put5_size]; exact HC.out, r3⟩
      case measure => simp [intOf]; omega
    · have hjL : j = L := by omega
      subst hjL
      have j1 : ¬ (j : Int) < j := by omega
      have x0 : wr.cell? ⟨w.heap.size, 0, none⟩ = some (.int .i64 k) := by rw [hB0.cell]; rfl
      have x1 : wr.cell? ⟨w.heap.size, 1, none⟩ = some (.int .i64 t) := by rw [hB0.cell]; rfl
      have x2 : wr.cell? ⟨w.heap.size, 2, none⟩ = some (.string s) := by rw [hB0.cell]; rfl
      have x3 : wr.cell? ⟨w.heap.size, 3, none⟩ = some (.int .i64 n) := by rw [hB0.cell]; rfl
      have fx := hB0.frozen 4
      have z0 : wr.cell? ⟨w.heap.size + 1, 0, none⟩ = some (.int .i64 0) := by rw [hB1.cell]; rfl
      have z1 : wr.cell? ⟨w.heap.size + 1, 1, none⟩ = some (.int .i64 0) := by rw [hB1.cell]; rfl
      have z2 : wr.cell? ⟨w.heap.size + 1, 2, none⟩ = some (.string ⟨#[]⟩) := by rw [hB1.cell]; rfl
      have z3 : wr.cell? ⟨w.heap.size + 1, 3, none⟩ = some (.int .i64 0) := by rw [hB1.cell]; rfl
      have z4 : wr.cell? ⟨w.heap.size + 1, 4, none⟩ = some (.slice none 0 0) := by rw [hB1.cell]; rfl
      have f0 := hB1.frozen 0
      have f1 := hB1.frozen 1
      have f2 := hB1.frozen 2
      have f3 := hB1.frozen 3
      have f4 := hB1.frozen 4
      have hw2 : w.heap.size + 2 < wr.heap.size := hB2.lt
      have HC9 := hid hcs
      clear hg hB0 hB1 hB2 hrow hcs IH HK'
      go_wp2
      obtain ⟨wA, eA⟩ : ∃ wA, wr.setCell ⟨w.heap.size, 4, none⟩ (.slice (some ⟨w.heap.size + 2, 0, none⟩) j j) = wA := ⟨_, rfl⟩
      have gA : wr.grownBy wA (some w.heap.size) := by rw [← eA]; exact grown_set (grown_refl wr _) 4 _
      have gF : wA.grownBy (set5 wA (w.heap.size + 1) 0 (.int .i64 k) (.int .i64 t) (.string s) (.int .i64 n) (.slice (some ⟨w.heap.size + 2, 0, none⟩) j j)) (some (w.heap.size + 1)) := grown_set5 (grown_refl wA _) 0 _ _ _ _ _
      have kp : ∀ b, w.heap.size + 2 ≤ b → b < wr.heap.size → (set5 wA (w.heap.size + 1) 0 (.int .i64 k) (.int .i64 t) (.string s) (.int .i64 n) (.slice (some ⟨w.heap.size + 2, 0, none⟩) j j)).heap[b]? = wr.heap[b]? := fun b h1 h2 =>
        (gF.block b (Nat.lt_of_lt_of_le h2 gA.size) (fun e => by have := Option.some.inj e; omega)).trans (gA.block b h2 (fun e => by have := Option.some.inj e; omega))
      have bF : Blk (set5 wA (w.heap.size + 1) 0 (.int .i64 k) (.int .i64 t) (.string s) (.int .i64 n) (.slice (some ⟨w.heap.size + 2, 0, none⟩) j j)) (w.heap.size + 2) 27 cs := (kp _ (Nat.le_refl _) hw2).trans B2.out
      have gW : w.grownBy (set5 wA (w.heap.size + 1) 0 (.int .i64 k) (.int .i64 t) (.string s) (.int .i64 n) (.slice (some ⟨w.heap.size + 2, 0, none⟩) j j)) none := grown_set5_new (grown_through G.out gA (Nat.le_refl _)) _ _ _ _ _ _ (by omega)
      have rG := RowI.kept (w := wr) (w' := set5 wA (w.heap.size + 1) 0 (.int .i64 k) (.int .i64 t) (.string s) (.int .i64 n) (.slice (some ⟨w.heap.size + 2, 0, none⟩) j j)) (fun b b1 b2 => kp b (by omega) b2) (fun j _ _ => World.cell?_of_block (kp _ (Nat.le_refl _) hw2)) RW.out
      have hsF : (set5 wA (w.heap.size + 1) 0 (.int .i64 k) (.int .i64 t) (.string s) (.int .i64 n) (.slice (some ⟨w.heap.size + 2, 0, none⟩) j j)).heap.size = wr.heap.size := by rw [← eA]; simp [set5, World.setCell]
      rw [List.take_of_length_le (by rw [HL.out]; exact Nat.le_refl _), ← hsF] at rG
      refine bodyPost_ret (v := .agg #[.int .i64 k, .int .i64 t, .string s, .int .i64 n, .slice (some ⟨w.heap.size + 2, 0, none⟩) j j]) (by simp [results, Tryz.results23, go_sem, z0, z1, z2, z3, z4]) rfl ?_
      subst eA
      refine ⟨_, rfl, Or.inr ⟨w.heap.size + 2, j, cs, ?_, ?_, ?_, ?_, by omega, bF, HC9.out, rG⟩, gW⟩
      · show _ = Value.slice _ ks.length _
        rw [HL.out]
      · show ks.length ≤ j
        rw [HL.out]; exact Nat.le_refl _
      · unfold maxLen; omega
      · show 0 < ks.length
        rw [HL.out]; exact h0
theorem cloneI_any (P : Nat → Prop) : ∀ (x : Nd), x.ok → ∀ (v : Value) (w : World), NdV w P v x → Calls Tryz.prog 23 #[v] w (CloneQ w x) := by
  refine Nd.indA ?_
  intro k t s n ks ih hok v w ⟨q, hv, hk⟩
  subst hv
  have hk' := hk
  obtain ⟨g, (⟨rfl, h2⟩ | ⟨hn, hp, cap, rfl, h2, h3⟩), h4⟩ := hk
  · obtain rfl : ks = [] := List.length_eq_zero_iff.1 h2
    exact cloneI_nil k t s n w
  · exact cloneI_some k t s n g cap ks P w hok.2.1 hn hk' (fun y hy v W hv => ih y hy (Nd.oks_mem hok.2.2 y hy) v W hv)
end Go.Proofs.YtajoncmmdeahnaaGreatDoor
namespace Go.Proofs.YtajoncmmdeahnaaGreatDoor
open Go.RowKit
namespace Ck
set_option maxRecDepth 100000 in
theorem isDigit_any (c : UInt8) (w : World) : Calls Tryz.prog 92 #[.int .u8 c.toNat] w fun e w' => e = .returned (.bool (isD c)) ∧ w' = w := by
  have h := Lw.isD_iff c
  generalize isD c = b at *
  have c0 : (0 : Int) ≤ (c.toNat : Int) := by omega
  generalize (c.toNat : Int) = x at *
  have H := hid h
  clear h
  go_enter Tryz.func92, Tryz.ntmps92
  go_wp2
  all_goals (
    go_ret
    refine Lw.ret_bool ?_
    refine Eq.trans ?_ H.out.symm
    first
      | rfl
      | (simp [*]; done)
      | (simp [*]; omega)
      | (rw [Bool.eq_iff_iff]; simp; omega))
set_option maxRecDepth 100000 in
theorem isLetter_any (c : UInt8) (w : World) : Calls Tryz.prog 93 #[.int .u8 c.toNat] w fun e w' => e = .returned (.bool (isL c)) ∧ w' = w := by
  have h := Lw.isL_iff c
  generalize isL c = b at *
  have c0 : (0 : Int) ≤ (c.toNat : Int) := by omega
  generalize (c.toNat : Int) = x at *
  have H := hid h
  clear h
  go_enter Tryz.func93, Tryz.ntmps93
  go_wp2
  all_goals (
    go_ret
    refine Lw.ret_bool ?_
    refine Eq.trans ?_ H.out.symm
    first
      | rfl
      | (simp [*]; done)
      | (simp [*]; omega)
      | (rw [Bool.eq_iff_iff]; simp; omega))
set_option maxRecDepth 100000 in
set_option maxHeartbeats 1000000 in
theorem isKept_any (s : ByteArray) (w : World) : Calls Tryz.prog 94 #[.string s] w fun e w' => e = .returned (.bool (wordL s.toList)) ∧ w' = w := by
  obtain ⟨b, hb⟩ : ∃ b, wordL s.toList = b := ⟨_, rfl⟩
  rw [hb]
  have H := hid hb
  clear hb
  go_enter Tryz.func94, Tryz.ntmps94
  go_wp2
  all_goals (
    first
      | (exfalso; simp_all; done)
      | (go_ret
         refine Lw.ret_bool (Eq.trans ?_ H.out)
         simp only [wordL, keptL, List.contains_cons, Bool.true_or, Bool.or_true, Bool.false_or, List.contains_nil, *]))
def lit3 (k : Int) : Bool := k == 20 || k == 21 || k == 22
def exprK (k : Int) : Bool := k == 23 || k == 24 || k == 25 || k == 26 || k == 27 || lit3 k
def numT (t : Int) : Bool := t == 1 || t == 2
set_option maxRecDepth 100000 in
theorem isLiteral_any (k : Int) (w : World) : Calls Tryz.prog 175 #[.int .i64 k] w fun e w' => e = .returned (.bool (lit3 k)) ∧ w' = w := by
  unfold lit3
  cases h1 : (k == 20) <;> cases h2 : (k == 21) <;> cases h3 : (k == 22)
  all_goals
    go_enter Tryz.func175, Tryz.ntmps175
    go_wp2
    go_ret
    exact ⟨rfl, rfl⟩
set_option maxRecDepth 100000 in
theorem isNumber_any (t : Int) (w : World) : Calls Tryz.prog 246 #[.int .i64 t] w fun e w' => e = .returned (.bool (numT t)) ∧ w' = w := by
  unfold numT
  cases h1 : (t == 1) <;> cases h2 : (t == 2)
  all_goals
    go_enter Tryz.func246, Tryz.ntmps246
    go_wp2
    go_ret
    exact ⟨rfl, rfl⟩
set_option maxRecDepth 100000 in
theorem isExpression_any (k : Int) (w : World) : Calls Tryz.prog 244 #[.int .i64 k] w fun e w' => e = .returned (.bool (exprK k)) ∧ w' = w := by
  have C : Hid (∀ W, Calls Tryz.prog 175 #[.int .i64 k] W fun e w' => e = .returned (.bool (lit3 k)) ∧ w' = W) := fun W => isLiteral_any k W
  unfold exprK
  generalize lit3 k = b at *
  by_cases h1 : k = 23
  · subst h1
    go_enter Tryz.func244, Tryz.ntmps244
    go_wp2
    go_ret
    exact ⟨rfl, rfl⟩
  by_cases h2 : k = 24
  · subst h2
    go_enter Tryz.func244, Tryz.ntmps244
    go_wp2
    go_ret
    exact ⟨rfl, rfl⟩
  by_cases h3 : k = 25
  · subst h3
    go_enter Tryz.func244, Tryz.ntmps244
    go_wp2
    go_ret
    exact ⟨rfl, rfl⟩
  by_cases h4 : k = 26
  · subst h4
    go_enter Tryz.func244, Tryz.ntmps244
    go_wp2
    go_ret
    exact ⟨rfl, rfl⟩
  by_cases h5 : k = 27
  · subst h5
    go_enter Tryz.func244, Tryz.ntmps244
    go_wp2
    go_ret
    exact ⟨rfl, rfl⟩
  have e1 : (k == 23) = false := by rw [beq_eq_false_iff_ne]; exact h1
  have e2 : (k == 24) = false := by rw [beq_eq_false_iff_ne]; exact h2
  have e3 : (k == 25) = false := by rw [beq_eq_false_iff_ne]; exact h3
  have e4 : (k == 26) = false := by rw [beq_eq_false_iff_ne]; exact h4
  have e5 : (k == 27) = false := by rw [beq_eq_false_iff_ne]; exact h5
  clear h1 h2 h3 h4 h5
  rw [e1, e2, e3, e4, e5]
  go_enter Tryz.func244, Tryz.ntmps244
  go_wp2_with (go_at_call 175; refine (C.out _).mono ?_; rintro e w1 ⟨rfl, rfl⟩; clear C)
  go_ret
  exact ⟨by simp, rfl⟩
def RjV (n : Nat) : List PanicEntry := [{ v := .iface 107 (.agg #[.int .i64 n]), recovered := false }]
set_option maxRecDepth 100000 in
theorem reject_any (n : Nat) (w : World) : Calls Tryz.prog 97 #[.int .i64 n] w fun e w' => e = .panicked (RjV n) ∧ w' = w := by
  go_enter Tryz.func97, Tryz.ntmps97
  go_wp2
  exact ⟨rfl, rfl, rfl⟩
set_option maxRecDepth 100000 in
theorem limit_any (h m : Int) (w : World) : Calls Tryz.prog 137 #[.int .i64 h, .int .i64 m] w fun e w' => (if m < h then e = .panicked (RjV 125) else e = .returned (.tuple #[])) ∧ w' = w := by
  have C : Hid (∀ W, Calls Tryz.prog 97 #[.int .i64 (125 : Nat)] W fun e w' => e = .panicked (RjV 125) ∧ w' = W) := fun W => reject_any 125 W
  by_cases hm : m < h
  · simp only [if_pos hm]
    have k : decide (m < h) = true := decide_eq_true hm
    go_enter Tryz.func137, Tryz.ntmps137
    go_wp2_with (go_at_call 97; refine (C.out _).mono ?_; rintro e w1 ⟨rfl, rfl⟩; clear C)
    exact ⟨rfl, rfl, rfl⟩
  · simp only [if_neg hm]
    have k : decide (m < h) = false := decide_eq_false hm
    go_enter Tryz.func137, Tryz.ntmps137
    go_wp2_with fail
    go_end0
    exact ⟨rfl, rfl⟩
set_option maxRecDepth 100000 in
theorem need_any (b : Bool) (w : World) : Calls Tryz.prog 245 #[.bool b] w fun e w' => (if b = true then e = .returned (.tuple #[]) else e = .panicked (RjV 122)) ∧ w' = w := by
  have C : Hid (∀ W, Calls Tryz.prog 97 #[.int .i64 (122 : Nat)] W fun e w' => e = .panicked (RjV 122) ∧ w' = W) := fun W => reject_any 122 W
  cases b with
  | false =>
    go_enter Tryz.func245, Tryz.ntmps245
    go_wp2_with (go_at_call 97; refine (C.out _).mono ?_; rintro e w1 ⟨rfl, rfl⟩; clear C)
    exact ⟨rfl, rfl, rfl⟩
  | true =>
    go_enter Tryz.func245, Tryz.ntmps245
    go_wp2_with fail
    go_end0
    exact ⟨rfl, rfl⟩
def nmB (l : List UInt8) : Bool := match l with
  | [] => false
  | c :: r => decide ((c :: r).length ≤ 16) && !isD c && (c :: r).all isLD && !wordL (c :: r)
theorem nmB_eq (s : ByteArray) (h : 0 < s.size) : nmB s.toList = (decide (s.size ≤ 16) && !isD s[0] && s.toList.all isLD && !wordL s.toList) := by
  have e := Lw.drop_at s 0 h
  rw [List.drop_zero] at e
  have hl : s.toList.length = s.size := Lw.size_toList s
  rw [e] at hl ⊢
  show (decide ((s[0] :: s.toList.drop (0 + 1)).length ≤ 16) && !isD s[0] && (s[0] :: s.toList.drop (0 + 1)).all isLD && !wordL (s[0] :: s.toList.drop (0 + 1))) = _
  rw [hl]
set_option maxRecDepth 100000 in
set_option maxHeartbeats 1000000 in
theorem isName_any (s : ByteArray) (w : World) (hs : (s.size : Int) ≤ 9223372036854775807) : Calls Tryz.prog 51 #[.string s] w fun e w' => e = .returned (.bool (nmB s.toList)) ∧ w' = w := by
  by_cases h0 : 0 < s.size
  · rw [nmB_eq s h0]
    have n1 := Lw.toList_ne s h0
    have n2 : s.toList.isEmpty = false := by simpa using n1
    have i0 : (0 : Int) < s.size := by omega
    have CD : Hid (∀ W, Calls Tryz.prog 92 #[.int .u8 s[0].toNat] W fun e w' => e = .returned (.bool (isD s[0])) ∧ w' = W) := fun W => isDigit_any s[0] W
    by_cases h16 : s.size ≤ 16
    · have i16 : ¬ (16 : Int) < s.size := by omega
      rw [decide_eq_true h16]
      cases hd : isD s[0] with
      | true =>
        rw [hd] at CD
        go_enter Tryz.func51, Tryz.ntmps51
        go_wp2_with (go_at_call 92; refine (CD.out _).mono ?_; rintro e w1 ⟨rfl, rfl⟩; clear CD)
        go_ret
        exact ⟨rfl, rfl⟩
      | false =>
        rw [hd] at CD
        have CW : Hid (∀ W, Calls Tryz.prog 94 #[.string s] W fun e w' => e = .returned (.bool (wordL s.toList)) ∧ w' = W) := fun W => isKept_any s W
        generalize wordL s.toList = wb at *
        have CB : Hid (∀ (j : Nat) (hj : j < s.size) W, Calls Tryz.prog 92 #[.int .u8 (s[j]'hj).toNat] W fun e w' => e = .returned (.bool (isD (s[j]'hj))) ∧ w' = W) := fun j hj W => isDigit_any _ W
        have CC : Hid (∀ (j : Nat) (hj : j < s.size) W, Calls Tryz.prog 93 #[.int .u8 (s[j]'hj).toNat] W fun e w' => e = .returned (.bool (isL (s[j]'hj))) ∧ w' = W) := fun j hj W => isLetter_any _ W
        obtain ⟨R, hR⟩ : ∃ R, (true && !false && s.toList.all isLD && !wb) = R := ⟨_, rfl⟩
        have HR : Hid ((s.toList.drop 0).all isLD = s.toList.all isLD ∧ ((s.toList.all isLD && !wb) = R)) := ⟨by rw [List.drop_zero], by rw [← hR]; rfl⟩
        rw [hR]
        generalize s.toList.all isLD = A at *
        clear hR hd h16
        go_enter Tryz.func51, Tryz.ntmps51
        go_wp2_with (go_at_call 92; refine (CD.out _).mono ?_; rintro e w1 ⟨rfl, hw⟩; replace hw := hw.symm; subst hw; clear CD)
        go_loopw [18] (fun i wr => ∃ (j : Nat), j ≤ s.size ∧ i = .int .i64 j ∧ Hid ((s.toList.drop j).all isLD = A ∧ ((A && !wb) = R)) ∧ wr = w) (fun i _ => s.size - (intOf i).toNat)
        case atStart => exact ⟨0, Nat.zero_le _, rfl, HR, rfl⟩
        case round =>
          obtain ⟨j, hj, rfl, HJ, hw⟩ := hrel
          replace hw := hw.symm
          subst hw
          have j0 : (0 : Int) ≤ j := by omega
          clear HR
          by_cases hlt : j < s.size
          · have j1 : (j : Int) < s.size := by omega
            have HJ2 := HJ.out
            rw [Lw.drop_at s j hlt, List.all_cons] at HJ2
            have C1 := hid (CB.out j hlt)
            have C2 := hid (CC.out j hlt)
            clear CB CC HJ
            unfold isLD at HJ2
            cases h1 : isD s[j] with
            | true =>
              rw [h1, Bool.or_true, Bool.true_and] at HJ2
              rw [h1] at C1
              have NX := hid HJ2
              clear HJ2 h1
              go_wp2_with (go_at_call 92; refine (C1.out _).mono ?_; rintro e w1 ⟨rfl, rfl⟩; clear C1)
              go_round
              case rel => exact ⟨j + 1, by omega, by go_num, NX, by first | rfl | trivial⟩
              case measure => simp [intOf]; omega
            | false =>
              rw [h1, Bool.or_false] at HJ2
              rw [h1] at C1
              cases h2 : isL s[j] with
              | true =>
                rw [h2, Bool.true_and] at HJ2
                rw [h2] at C2
                have NX := hid HJ2
                clear HJ2 h1 h2
                go_wp2_with (first
                  | (go_at_call 92; refine (C1.out _).mono ?_; rintro e w1 ⟨rfl, rfl⟩; clear C1)
                  | (go_at_call 93; refine (C2.out _).mono ?_; rintro e w1 ⟨rfl, rfl⟩; clear C2))
                go_round
                case rel => exact ⟨j + 1, by omega, by go_num, NX, by first | rfl | trivial⟩
                case measure => simp [intOf]; omega
              | false =>
                rw [h2, Bool.false_and] at HJ2
                rw [h2] at C2
                have e : R = false := by rw [← HJ2.2, ← HJ2.1]; rfl
                subst e
                clear HJ2 h1 h2
                go_wp2_with (first
                  | (go_at_call 92; refine (C1.out _).mono ?_; rintro e w1 ⟨rfl, rfl⟩; clear C1)
                  | (go_at_call 93; refine (C2.out _).mono ?_; rintro e w1 ⟨rfl, rfl⟩; clear C2))
                go_ret
                exact ⟨rfl, rfl⟩
          · have j1 : ¬ (j : Int) < s.size := by omega
            have HJ2 := HJ.out
            rw [Lw.drop_end s j hlt] at HJ2
            have e : R = !wb := by rw [← HJ2.2, ← HJ2.1]; rfl
            subst e
            clear HJ2 HJ
            go_wp2_with (go_at_call 94; refine (CW.out _).mono ?_; rintro e w1 ⟨rfl, rfl⟩; clear CW)
            go_ret
            exact ⟨rfl, rfl⟩
    · have i16 : (16 : Int) < s.size := by omega
      rw [decide_eq_false h16]
      clear h16
      go_enter Tryz.func51, Tryz.ntmps51
      go_wp2
      go_ret
      exact ⟨rfl, rfl⟩
  · have n1 := Lw.toList_nil s (by omega)
    rw [show nmB s.toList = false by rw [n1]; rfl]
    go_enter Tryz.func51, Tryz.ntmps51
    go_wp2
    go_ret
    exact ⟨rfl, rfl⟩
end Ck
end Go.Proofs.YtajoncmmdeahnaaGreatDoor
