/-
  A node that is written anew within a tree of one's own: the tree with that node at its place.
-/
import Derived.Test.YtdodammplhlihaaDoorIv
import Derived.Test.YtdodammplhlihaaDoorVi
import Derived.Test.YtdodammplhlihaaDoorKx
namespace Go.Proofs.YtdodammplhlihaaDoor
open Go.RowKit
mutual
theorem NdI.spots {w : World} : ∀ {g o lo hi : Nat} {x : Nd}, NdI w g o lo hi x → ∀ s ∈ spN w g o x, (s.g = g ∧ s.o = o) ∨ (lo ≤ s.g ∧ s.g < hi)
  | g, o, lo, hi, .mk k t s n ks, h, y, hy => by
    rw [NdI] at h
    rw [spN] at hy
    obtain ⟨_, _, _, _, q, h4, h5⟩ := h
    rcases List.mem_cons.1 hy with rfl | hy
    · exact Or.inl ⟨rfl, rfl⟩
    · rcases h5 with ⟨_, e2, _⟩ | ⟨g', cap, cs, e1, _, _, _, e5, _, _, e8⟩
      · subst e2
        rw [spL] at hy
        cases hy
      · have ek : kidB w g o = g' := by unfold kidB; rw [h4, e1]
        rw [ek] at hy
        have hl := RowI.le e8
        rcases RowI.spots e8 y hy with ⟨h1, _⟩ | ⟨h1, h2⟩
        · exact Or.inr ⟨by omega, by omega⟩
        · exact Or.inr ⟨by omega, h2⟩
theorem RowI.spots {w : World} : ∀ {g o lo hi : Nat} {l : List Nd}, RowI w g o lo hi l → ∀ s ∈ spL w g o l, (s.g = g ∧ o ≤ s.o) ∨ (lo ≤ s.g ∧ s.g < hi)
  | _, _, _, _, [], _, y, hy => by rw [spL] at hy; cases hy
  | g, o, lo, hi, x :: r, h, y, hy => by
    rw [RowI] at h
    rw [spL] at hy
    obtain ⟨mid, h1, h2⟩ := h
    have l1 := NdI.le h1
    have l2 := RowI.le h2
    rcases List.mem_append.1 hy with hy | hy
    · rcases NdI.spots h1 y hy with ⟨e1, e2⟩ | ⟨e1, e2⟩
      · exact Or.inl ⟨e1, by omega⟩
      · exact Or.inr ⟨e1, by omega⟩
    · rcases RowI.spots h2 y hy with ⟨e1, e2⟩ | ⟨e1, e2⟩
      · exact Or.inl ⟨e1, by omega⟩
      · exact Or.inr ⟨by omega, e2⟩
end
theorem Nd.replA_out (b : Nd) (p : Nat) : ∀ (l : List Nd) (a : Nat), (p < a ∨ a + Nd.cnts l ≤ p) → Nd.replA b p a l = l
  | [], _, _ => by rw [Nd.replA]
  | x :: r, a, h => by
    rw [Nd.cnts] at h
    have hc : 0 < x.cnt := by cases x with | mk k t s n ks => rw [Nd.cnt]; omega
    rw [Nd.replA, if_neg (by omega), Nd.replA_out b p r (a + x.cnt) (by omega)]
theorem Nd.repl_out (b x : Nd) (p : Nat) (h : x.cnt ≤ p) : Nd.repl b x p = x := by
  cases x with
  | mk k t s n ks =>
    rw [Nd.cnt] at h
    rw [Nd.repl, if_neg (by omega), Nd.replA_out b p ks 1 (by omega)]
mutual
theorem Nd.repl_ok {b : Nd} (hb : b.ok) : ∀ (x : Nd) (p : Nat), x.ok → (Nd.repl b x p).ok
  | .mk k t s n ks, p, h => by
    rw [Nd.repl]
    by_cases h0 : p = 0
    · rw [if_pos h0]; exact hb
    · rw [if_neg h0]
      exact ⟨h.1, by rw [Nd.replA_len]; exact h.2.1, Nd.replA_ok hb ks p 1 h.2.2⟩
theorem Nd.replA_ok {b : Nd} (hb : b.ok) : ∀ (l : List Nd) (p a : Nat), Nd.oks l → Nd.oks (Nd.replA b p a l)
  | [], _, _, _ => by rw [Nd.replA]; trivial
  | x :: r, p, a, h => by
    rw [Nd.replA]
    refine ⟨?_, Nd.replA_ok hb r p (a + x.cnt) h.2⟩
    by_cases hc : a ≤ p ∧ p < a + x.cnt
    · rw [if_pos hc]; exact Nd.repl_ok hb x (p - a) h.1
    · rw [if_neg hc]; exact h.1
end
/-- One node alone is written anew: b, at cell O of block G. -/
structure WrN (P : Nat → Prop) (w w' : World) (G O : Nat) (b : Nd) : Prop where
  blk : ∀ c, c ≠ G → c < w.heap.size → w'.heap[c]? = w.heap[c]?
  cel : ∀ j, (j < O ∨ O + 5 ≤ j) → w'.cell? ⟨G, j, none⟩ = w.cell? ⟨G, j, none⟩
  nod : NdAt w' P G O b
mutual
theorem NdI.store {P : Nat → Prop} {w w' : World} {G O : Nat} {b : Nd} (hw : WrN P w w' G O b) : ∀ {g o lo hi : Nat} {x : Nd} {p : Nat} {s : Sp}, NdI w g o lo hi x → (g < lo ∨ hi ≤ g) → hi ≤ w.heap.size → (∀ c, lo ≤ c → c < hi → P c) → (spN w g o x)[p]? = some s → s.g = G → s.o = O → NdAt w' P g o (Nd.repl b x p)
  | g, o, lo, hi, .mk k t s n ks, p, y, h, hg, hz, hP, hp, hG, hO => by
    rw [spN] at hp
    rw [Nd.repl]
    by_cases h0 : p = 0
    · subst h0
      rw [if_pos rfl]
      rw [List.getElem?_cons_zero] at hp
      have e := Option.some.inj hp
      subst e
      subst hG hO
      exact hw.nod
    · rw [if_neg h0]
      obtain ⟨p', rfl⟩ : ∃ p', p = p' + 1 := ⟨p - 1, by omega⟩
      rw [List.getElem?_cons_succ] at hp
      rw [NdI] at h
      obtain ⟨c0, c1, c2, c3, q, c4, h5⟩ := h
      rcases h5 with ⟨_, e2, _⟩ | ⟨g', cap, cs, e1, e2, e3, e4, e5, _, _, e8⟩
      · subst e2
        rw [spL] at hp
        cases hp
      · have ek : kidB w g o = g' := by unfold kidB; rw [c4, e1]
        rw [ek] at hp
        have hm := List.mem_of_getElem? hp
        have hl := RowI.le e8
        have hne : g ≠ G := by
          rcases RowI.spots e8 y hm with ⟨h1, _⟩ | ⟨h1, h2⟩ <;> omega
        have hh := hw.blk g hne (cell_lt c0)
        rw [NdAt]
        refine ⟨cell_same c0 hh, cell_same c1 hh, cell_same c2 hh, cell_same c3 hh, q, g', cell_same c4 hh, Or.inr ⟨by rw [Nd.replA_len]; exact e4, hP g' e5 (by omega), cap, by rw [Nd.replA_len]; exact e1, by rw [Nd.replA_len]; exact e2, e3⟩, ?_⟩
        exact RowI.store hw e8 (by omega) hz (fun c c1 c2 => hP c (by omega) c2) (a := 1) (by omega) (by rw [Nat.add_sub_cancel]; exact hp) hG hO
theorem RowI.store {P : Nat → Prop} {w w' : World} {G O : Nat} {b : Nd} (hw : WrN P w w' G O b) : ∀ {g o lo hi : Nat} {l : List Nd} {p a : Nat} {s : Sp}, RowI w g o lo hi l → g < lo → hi ≤ w.heap.size → (∀ c, lo ≤ c → c < hi → P c) → a ≤ p → (spL w g o l)[p - a]? = some s → s.g = G → s.o = O → RowN w' P g o (Nd.replA b p a l)
  | _, _, _, _, [], _, _, _, _, _, _, _, _, hp, _, _ => by rw [spL] at hp; cases hp
  | g, o, lo, hi, x :: r, p, a, y, h, hg, hz, hP, ha, hp, hG, hO => by
    rw [RowI] at h
    obtain ⟨mid, h1, h2⟩ := h
    have l1 := NdI.le h1
    have l2 := RowI.le h2
    have hgs : g < w.heap.size := by
      obtain ⟨_, c0, _⟩ := h1.cells
      exact cell_lt c0
    rw [spL] at hp
    rw [Nd.replA, RowN]
    by_cases hc : p < a + x.cnt
    · rw [if_pos ⟨ha, hc⟩, Nd.replA_out b p r _ (Or.inl hc)]
      rw [List.getElem?_append_left (by rw [spN_len]; omega)] at hp
      have hm := NdI.spots h1 y (List.mem_of_getElem? hp)
      refine ⟨NdI.store hw h1 (Or.inl hg) (by omega) (fun c c1 c2 => hP c c1 (by omega)) hp hG hO, RowI.nd (fun c c1 c2 => hP c (by omega) c2) (RowI.kept (fun c c1 c2 => hw.blk c (by rcases hm with ⟨m1, _⟩ | ⟨m1, m2⟩ <;> omega) (by omega)) (fun j j1 _ => ?_) h2)⟩
      by_cases hgG : g = G
      · subst hgG
        exact hw.cel j (Or.inr (by rcases hm with ⟨m1, m2⟩ | ⟨m1, m2⟩ <;> omega))
      · exact World.cell?_of_block (hw.blk g hgG hgs)
    · rw [if_neg (by omega)]
      rw [List.getElem?_append_right (by rw [spN_len]; omega), spN_len] at hp
      have hm := RowI.spots h2 y (List.mem_of_getElem? hp)
      refine ⟨NdI.nd (fun c c1 c2 => hP c c1 (by omega)) (NdI.kept (fun c c1 c2 => hw.blk c (by rcases hm with ⟨m1, _⟩ | ⟨m1, m2⟩ <;> omega) (by omega)) (fun j j1 j2 => ?_) h1), RowI.store hw h2 (by omega) hz (fun c c1 c2 => hP c (by omega) c2) (a := a + x.cnt) (by omega) (by rw [show p - (a + x.cnt) = p - a - x.cnt by omega]; exact hp) hG hO⟩
      by_cases hgG : g = G
      · subst hgG
        exact hw.cel j (Or.inl (by rcases hm with ⟨m1, m2⟩ | ⟨m1, m2⟩ <;> omega))
      · exact World.cell?_of_block (hw.blk g hgG hgs)
end

mutual
theorem NdI.blk {w : World} : ∀ {g o lo hi : Nat} {x : Nd}, NdI w g o lo hi x → (∃ t cs, Blk w g t cs ∧ o + 5 ≤ cs.size) → ∀ s ∈ spN w g o x, ∃ t cs, Blk w s.g t cs ∧ s.o + 5 ≤ cs.size
  | g, o, lo, hi, .mk k t s n ks, h, hb, y, hy => by
    rw [NdI] at h
    rw [spN] at hy
    obtain ⟨_, _, _, _, q, h4, h5⟩ := h
    rcases List.mem_cons.1 hy with rfl | hy
    · exact hb
    · rcases h5 with ⟨_, e2, _⟩ | ⟨g', cap, cs, e1, _, _, _, e5, e6, e7, e8⟩
      · subst e2
        rw [spL] at hy
        cases hy
      · have ek : kidB w g o = g' := by unfold kidB; rw [h4, e1]
        rw [ek] at hy
        exact RowI.blk e8 ⟨24, cs, e6, by omega⟩ y hy
theorem RowI.blk {w : World} : ∀ {g o lo hi : Nat} {l : List Nd}, RowI w g o lo hi l → (∃ t cs, Blk w g t cs ∧ o + 5 * l.length ≤ cs.size) → ∀ s ∈ spL w g o l, ∃ t cs, Blk w s.g t cs ∧ s.o + 5 ≤ cs.size
  | _, _, _, _, [], _, _, y, hy => by rw [spL] at hy; cases hy
  | g, o, lo, hi, x :: r, h, hb, y, hy => by
    rw [RowI] at h
    rw [spL] at hy
    obtain ⟨mid, h1, h2⟩ := h
    obtain ⟨t, cs, b1, b2⟩ := hb
    rw [List.length_cons] at b2
    rcases List.mem_append.1 hy with hy | hy
    · exact NdI.blk h1 ⟨t, cs, b1, by omega⟩ y hy
    · exact RowI.blk h2 ⟨t, cs, b1, by omega⟩ y hy
end
theorem put5_behind (cs : Array Value) (o : Nat) (a b c d e : Value) (j : Nat) (h : o + 5 ≤ j) : (put5 cs o a b c d e)[j]? = cs[j]? := by
  unfold put5
  rw [Array.getElem?_setIfInBounds_ne (by omega), Array.getElem?_setIfInBounds_ne (by omega), Array.getElem?_setIfInBounds_ne (by omega), Array.getElem?_setIfInBounds_ne (by omega), Array.getElem?_setIfInBounds_ne (by omega)]
/-- A store of a whole node, in a world that has grown. -/
theorem wr_set5 {P : Nat → Prop} {w v : World} {G O : Nat} {t : TypeId} {cs : Array Value} {b : Nd} {q : Value} (hg : w.grownBy v none) (hB : Blk w G t cs) (hO : O + 5 ≤ cs.size) (hq : KsV v (fun c => P c ∧ c ≠ G) q b.kids) :
    WrN P w (set5 v G O (.int .i64 b.kind) (.int .i64 b.ty) (.string b.txt) (.int .i64 b.num) q) G O b := by
  have hBv := hB.kept hg (by simp)
  have hB' := hBv.set5 O (.int .i64 b.kind) (.int .i64 b.ty) (.string b.txt) (.int .i64 b.num) q
  have hG := grown_set5 (grown_refl v (some G)) O (.int .i64 b.kind) (.int .i64 b.ty) (.string b.txt) (.int .i64 b.num) q
  generalize set5 v G O (.int .i64 b.kind) (.int .i64 b.ty) (.string b.txt) (.int .i64 b.num) q = w' at *
  have hz : O + 4 < cs.size := by omega
  refine ⟨fun c h1 h2 => (hG.block c (Nat.lt_of_lt_of_le h2 hg.size) (fun e => h1 (Option.some.inj e))).trans (hg.block c h2 (by simp)), fun j hj => ?_, ?_⟩
  · rw [hB'.cell, hB.cell]
    rcases hj with hj | hj
    · rw [put5_other _ _ _ _ _ _ _ _ hj]
    · rw [put5_behind _ _ _ _ _ _ _ _ hj]
  · exact NdAt.mk (by rw [hB'.cell, put5_0 _ _ _ _ _ _ _ hz]) (by rw [hB'.cell, put5_1 _ _ _ _ _ _ _ hz]) (by rw [hB'.cell, put5_2 _ _ _ _ _ _ _ hz]) (by rw [hB'.cell, put5_3 _ _ _ _ _ _ _ hz]) (by rw [hB'.cell, put5_4 _ _ _ _ _ _ _ hz]) (hq.keptP (Kp.of_grown hG (fun c hc e => hc.2 (Option.some.inj e))) (fun c hc _ => hc.1))
end Go.Proofs.YtdodammplhlihaaDoor
