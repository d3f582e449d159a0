/-
  Trees whose rows lie in blocks of their own: block by block, from lo on and below hi.
-/
import Derived.Test.YtdodammplhlihaaDoorCl0
namespace Go.Proofs.YtdodammplhlihaaDoor
open Go.RowKit
mutual
/-- The node x stands at cell o of block g; the rows of all below it are blocks of their own, from lo on and below hi. -/
def NdI (w : World) (g o lo hi : Nat) : Nd → Prop
  | .mk k t s n ks => w.cell? ⟨g, o, none⟩ = some (.int .i64 k) ∧ w.cell? ⟨g, o + 1, none⟩ = some (.int .i64 t) ∧ w.cell? ⟨g, o + 2, none⟩ = some (.string s) ∧ w.cell? ⟨g, o + 3, none⟩ = some (.int .i64 n)
    ∧ ∃ q, w.cell? ⟨g, o + 4, none⟩ = some q ∧ ((q = .slice none 0 0 ∧ ks = [] ∧ lo ≤ hi) ∨ (∃ g' cap cs, q = .slice (some ⟨g', 0, none⟩) ks.length cap ∧ ks.length ≤ cap ∧ cap ≤ maxLen ∧ 0 < ks.length ∧ lo ≤ g' ∧ Blk w g' 24 cs ∧ cs.size = 5 * ks.length ∧ RowI w g' 0 (g' + 1) hi ks))
def RowI (w : World) (g o lo hi : Nat) : List Nd → Prop
  | [] => lo ≤ hi
  | x :: r => ∃ mid, NdI w g o lo mid x ∧ RowI w g (o + 5) mid hi r
end
/-- A slice reads as these nodes, in blocks of one's own. -/
def KsI (w : World) (lo hi : Nat) (q : Value) (ks : List Nd) : Prop := (q = .slice none 0 0 ∧ ks = [] ∧ lo ≤ hi) ∨ (∃ g' cap cs, q = .slice (some ⟨g', 0, none⟩) ks.length cap ∧ ks.length ≤ cap ∧ cap ≤ maxLen ∧ 0 < ks.length ∧ lo ≤ g' ∧ Blk w g' 24 cs ∧ cs.size = 5 * ks.length ∧ RowI w g' 0 (g' + 1) hi ks)
theorem NdI.mk {w : World} {g o lo hi : Nat} {x : Nd} {q : Value} (h0 : w.cell? ⟨g, o, none⟩ = some (.int .i64 x.kind)) (h1 : w.cell? ⟨g, o + 1, none⟩ = some (.int .i64 x.ty)) (h2 : w.cell? ⟨g, o + 2, none⟩ = some (.string x.txt)) (h3 : w.cell? ⟨g, o + 3, none⟩ = some (.int .i64 x.num)) (h4 : w.cell? ⟨g, o + 4, none⟩ = some q) (h5 : KsI w lo hi q x.kids) : NdI w g o lo hi x := by
  cases x with
  | mk k t s n ks =>
    rw [NdI]
    exact ⟨h0, h1, h2, h3, q, h4, h5⟩
theorem NdI.cells {w : World} {g o lo hi : Nat} {x : Nd} (h : NdI w g o lo hi x) : ∃ q, w.cell? ⟨g, o, none⟩ = some (.int .i64 x.kind) ∧ w.cell? ⟨g, o + 1, none⟩ = some (.int .i64 x.ty) ∧ w.cell? ⟨g, o + 2, none⟩ = some (.string x.txt) ∧ w.cell? ⟨g, o + 3, none⟩ = some (.int .i64 x.num) ∧ w.cell? ⟨g, o + 4, none⟩ = some q ∧ KsI w lo hi q x.kids := by
  cases x with
  | mk k t s n ks =>
    rw [NdI] at h
    obtain ⟨h0, h1, h2, h3, q, h4, h5⟩ := h
    exact ⟨q, h0, h1, h2, h3, h4, h5⟩
mutual
theorem NdI.le {w : World} : ∀ {g o lo hi : Nat} {x : Nd}, NdI w g o lo hi x → lo ≤ hi
  | g, o, lo, hi, .mk k t s n ks, h => by
    rw [NdI] at h
    obtain ⟨_, _, _, _, q, _, ⟨_, _, h⟩ | ⟨g', cap, cs, _, _, _, _, h1, _, _, h2⟩⟩ := h
    · exact h
    · have := RowI.le h2
      omega
theorem RowI.le {w : World} : ∀ {g o lo hi : Nat} {l : List Nd}, RowI w g o lo hi l → lo ≤ hi
  | _, _, _, _, [], h => by rw [RowI] at h; exact h
  | g, o, lo, hi, x :: r, h => by
    rw [RowI] at h
    obtain ⟨mid, h1, h2⟩ := h
    exact Nat.le_trans (NdI.le h1) (RowI.le h2)
end
mutual
theorem NdI.kept {w w' : World} : ∀ {g o lo hi : Nat} {x : Nd}, (∀ b, lo ≤ b → b < hi → w'.heap[b]? = w.heap[b]?) → (∀ j, o ≤ j → j < o + 5 → w'.cell? ⟨g, j, none⟩ = w.cell? ⟨g, j, none⟩) → NdI w g o lo hi x → NdI w' g o lo hi x
  | g, o, lo, hi, .mk k t s n ks, hb, hc, h => by
    rw [NdI] at h ⊢
    obtain ⟨h0, h1, h2, h3, q, h4, h5⟩ := h
    refine ⟨(hc _ (by omega) (by omega)).trans h0, (hc _ (by omega) (by omega)).trans h1, (hc _ (by omega) (by omega)).trans h2, (hc _ (by omega) (by omega)).trans h3, q, (hc _ (by omega) (by omega)).trans h4, ?_⟩
    rcases h5 with h5 | ⟨g', cap, cs, e1, e2, e3, e4, e5, e6, e7, e8⟩
    · exact Or.inl h5
    · have hl := RowI.le e8
      exact Or.inr ⟨g', cap, cs, e1, e2, e3, e4, e5, (hb g' e5 (by omega)).trans e6, e7, RowI.kept (fun b b1 b2 => hb b (by omega) b2) (fun j _ _ => World.cell?_of_block (hb g' e5 (by omega))) e8⟩
theorem RowI.kept {w w' : World} : ∀ {g o lo hi : Nat} {l : List Nd}, (∀ b, lo ≤ b → b < hi → w'.heap[b]? = w.heap[b]?) → (∀ j, o ≤ j → j < o + 5 * l.length → w'.cell? ⟨g, j, none⟩ = w.cell? ⟨g, j, none⟩) → RowI w g o lo hi l → RowI w' g o lo hi l
  | _, _, _, _, [], _, _, h => by rw [RowI] at h ⊢; exact h
  | g, o, lo, hi, x :: r, hb, hc, h => by
    rw [RowI] at h ⊢
    rw [List.length_cons] at hc
    obtain ⟨mid, h1, h2⟩ := h
    have l1 := NdI.le h1
    have l2 := RowI.le h2
    exact ⟨mid, NdI.kept (fun b b1 b2 => hb b b1 (by omega)) (fun j j1 j2 => hc j j1 (by omega)) h1, RowI.kept (fun b b1 b2 => hb b (by omega) b2) (fun j j1 j2 => hc j (by omega) (by omega)) h2⟩
end
theorem KsI.kept {w w' : World} {lo hi : Nat} {q : Value} {ks : List Nd} (hb : ∀ b, lo ≤ b → b < hi → w'.heap[b]? = w.heap[b]?) (h : KsI w lo hi q ks) : KsI w' lo hi q ks := by
  rcases h with h5 | ⟨g', cap, cs, e1, e2, e3, e4, e5, e6, e7, e8⟩
  · exact Or.inl h5
  · have hl := RowI.le e8
    exact Or.inr ⟨g', cap, cs, e1, e2, e3, e4, e5, (hb g' e5 (by omega)).trans e6, e7, RowI.kept (fun b b1 b2 => hb b (by omega) b2) (fun j _ _ => World.cell?_of_block (hb g' e5 (by omega))) e8⟩
theorem KsI.le {w : World} {lo hi : Nat} {q : Value} {ks : List Nd} (h : KsI w lo hi q ks) : lo ≤ hi := by
  rcases h with ⟨_, _, h⟩ | ⟨g', cap, cs, _, _, _, _, h1, _, _, h2⟩
  · exact h
  · have := RowI.le h2
    omega
theorem RowI.snoc {w : World} {g m hi : Nat} {x : Nd} : ∀ {o lo : Nat} {l : List Nd}, RowI w g o lo m l → NdI w g (o + 5 * l.length) m hi x → RowI w g o lo hi (l ++ [x])
  | o, lo, [], h, hx => by
    rw [RowI] at h
    rw [List.nil_append, RowI]
    rw [List.length_nil, Nat.mul_zero, Nat.add_zero] at hx
    obtain ⟨q, c0, c1, c2, c3, c4, c5⟩ := hx.cells
    refine ⟨hi, NdI.mk c0 c1 c2 c3 c4 ?_, by rw [RowI]; exact Nat.le_refl _⟩
    rcases c5 with ⟨e1, e2, e3⟩ | ⟨g', cap, cs, e1, e2, e3, e4, e5, e6, e7, e8⟩
    · exact Or.inl ⟨e1, e2, by omega⟩
    · exact Or.inr ⟨g', cap, cs, e1, e2, e3, e4, by omega, e6, e7, e8⟩
  | o, lo, y :: r, h, hx => by
    rw [RowI] at h
    rw [List.cons_append, RowI]
    obtain ⟨mid, h1, h2⟩ := h
    rw [List.length_cons, show o + 5 * (r.length + 1) = o + 5 + 5 * r.length by omega] at hx
    exact ⟨mid, h1, RowI.snoc h2 hx⟩
mutual
theorem NdI.nd {w : World} {P : Nat → Prop} : ∀ {g o lo hi : Nat} {x : Nd}, (∀ b, lo ≤ b → b < hi → P b) → NdI w g o lo hi x → NdAt w P g o x
  | g, o, lo, hi, .mk k t s n ks, hP, h => by
    rw [NdI] at h
    rw [NdAt]
    obtain ⟨h0, h1, h2, h3, q, h4, h5⟩ := h
    rcases h5 with ⟨e1, e2, _⟩ | ⟨g', cap, cs, e1, e2, e3, e4, e5, e6, e7, e8⟩
    · subst e2
      exact ⟨h0, h1, h2, h3, q, 0, h4, Or.inl ⟨e1, rfl⟩, by rw [RowN]; trivial⟩
    · have hl := RowI.le e8
      exact ⟨h0, h1, h2, h3, q, g', h4, Or.inr ⟨e4, hP g' e5 (by omega), cap, e1, e2, e3⟩, RowI.nd (fun b b1 b2 => hP b (by omega) b2) e8⟩
theorem RowI.nd {w : World} {P : Nat → Prop} : ∀ {g o lo hi : Nat} {l : List Nd}, (∀ b, lo ≤ b → b < hi → P b) → RowI w g o lo hi l → RowN w P g o l
  | _, _, _, _, [], _, _ => by rw [RowN]; trivial
  | g, o, lo, hi, x :: r, hP, h => by
    rw [RowI] at h
    rw [RowN]
    obtain ⟨mid, h1, h2⟩ := h
    have l1 := NdI.le h1
    have l2 := RowI.le h2
    exact ⟨NdI.nd (fun b b1 b2 => hP b b1 (by omega)) h1, RowI.nd (fun b b1 b2 => hP b (by omega) b2) h2⟩
end
theorem KsI.ks {w : World} {P : Nat → Prop} {lo hi : Nat} {q : Value} {ks : List Nd} (hP : ∀ b, lo ≤ b → b < hi → P b) (h : KsI w lo hi q ks) : KsV w P q ks := by
  rcases h with ⟨e1, e2, _⟩ | ⟨g', cap, cs, e1, e2, e3, e4, e5, e6, e7, e8⟩
  · subst e1 e2
    exact KsV.nil _ _
  · have hl := RowI.le e8
    exact ⟨g', Or.inr ⟨e4, hP g' e5 (by omega), cap, e1, e2, e3⟩, RowI.nd (fun b b1 b2 => hP b (by omega) b2) e8⟩
/-- A row of one's own of which one more place is written. -/
theorem rowI_put {w : World} {g k m h : Nat} {t : TypeId} {cs : Array Value} {l : List Nd} {q : Value} (hk : k < l.length) (hB : Blk w g t cs) (hs : cs.size = 5 * l.length) (hm : g < m) (hr : RowI w g 0 (g + 1) m (l.take k)) (hx : KsI w m h q (l[k]).kids) :
    RowI (set5 w g (k * 5) (.int .i64 (l[k]).kind) (.int .i64 (l[k]).ty) (.string (l[k]).txt) (.int .i64 (l[k]).num) q) g 0 (g + 1) h (l.take (k + 1)) := by
  have hB' := hB.set5 (k * 5) (.int .i64 (l[k]).kind) (.int .i64 (l[k]).ty) (.string (l[k]).txt) (.int .i64 (l[k]).num) q
  have hG := grown_set5 (grown_refl w (some g)) (k * 5) (.int .i64 (l[k]).kind) (.int .i64 (l[k]).ty) (.string (l[k]).txt) (.int .i64 (l[k]).num) q
  have hS : (set5 w g (k * 5) (.int .i64 (l[k]).kind) (.int .i64 (l[k]).ty) (.string (l[k]).txt) (.int .i64 (l[k]).num) q).heap.size = w.heap.size := by simp [set5, World.setCell]
  generalize set5 w g (k * 5) (.int .i64 (l[k]).kind) (.int .i64 (l[k]).ty) (.string (l[k]).txt) (.int .i64 (l[k]).num) q = w' at *
  have hkp : ∀ b, g + 1 ≤ b → b < w.heap.size → w'.heap[b]? = w.heap[b]? := fun b b1 b2 => hG.block b b2 (fun e => by have := Option.some.inj e; omega)
  have hkp' : ∀ b, g + 1 ≤ b → w'.heap[b]? = w.heap[b]? ∨ w.heap.size ≤ b := fun b b1 => by
    by_cases hb : b < w.heap.size
    · exact Or.inl (hkp b b1 hb)
    · exact Or.inr (by omega)
  have hsz : w'.heap.size = w.heap.size := hS
  rw [List.take_succ_eq_append_getElem hk]
  have hkA : ∀ b, g + 1 ≤ b → w'.heap[b]? = w.heap[b]? := fun b b1 => by
    rcases hkp' b b1 with h1 | h1
    · exact h1
    · rw [Array.getElem?_eq_none (by omega), Array.getElem?_eq_none (by omega)]
  refine RowI.snoc (RowI.kept (fun b b1 _ => hkA b b1) (fun j j1 j2 => ?_) hr) ?_
  · rw [List.length_take] at j2
    rw [hB'.cell, hB.cell, put5_other _ _ _ _ _ _ _ _ (by omega)]
  · have hz : k * 5 + 4 < cs.size := by omega
    rw [List.length_take, Nat.min_eq_left (Nat.le_of_lt hk), Nat.zero_add, Nat.mul_comm 5 k]
    exact NdI.mk (by rw [hB'.cell, put5_0 _ _ _ _ _ _ _ hz]) (by rw [hB'.cell, put5_1 _ _ _ _ _ _ _ hz]) (by rw [hB'.cell, put5_2 _ _ _ _ _ _ _ hz]) (by rw [hB'.cell, put5_3 _ _ _ _ _ _ _ hz]) (by rw [hB'.cell, put5_4 _ _ _ _ _ _ _ hz]) (hx.kept (fun b b1 _ => hkA b (by omega)))
end Go.Proofs.YtdodammplhlihaaDoor
