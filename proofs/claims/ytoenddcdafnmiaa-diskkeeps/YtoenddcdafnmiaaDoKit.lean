/-
  do of the law: what it leaves.
-/
import Derived.Test.YtoenddcdafnmiaaSim
import Derived.Test.YtoenddcdafnmiaaClone
namespace Go.Proofs.Ytoenddcdafnmiaa
open Go.RowKit Go.Maps
def DoPost (base b : Nat) (q : Dk) (m : Md) (w : World) (e : Ending) (w' : World) : Prop := ∃ (a2 : Option Addr) (n2 k2 : Nat) (a3 : Option Addr) (n3 k3 : Nat), e = .returned (.tuple #[.agg #[.pointer (some ⟨b, 0, none⟩), .slice a2 n2 k2, .slice a3 n3 k3, .int .i64 (-1), .slice none 0 0, .int .i64 m.ch, .bool false], .bool true]) ∧ IsDisk w' base b q ∧ FilesT w' (.slice a2 n2 k2) m.sure ∧ ChgsT w' (.slice a3 n3 k3) m.cs ∧ Tend base b w w'
theorem Blk.seven {w : World} {b : Nat} {t : TypeId} {v0 v1 v2 v3 v4 v5 v6 : Value} (h : Blk w b t #[v0, v1, v2, v3, v4, v5, v6]) : (w.cell? ⟨b, 0, none⟩ = some v0 ∧ w.cell? ⟨b, 1, none⟩ = some v1 ∧ w.cell? ⟨b, 2, none⟩ = some v2 ∧ w.cell? ⟨b, 3, none⟩ = some v3 ∧ w.cell? ⟨b, 4, none⟩ = some v4 ∧ w.cell? ⟨b, 5, none⟩ = some v5 ∧ w.cell? ⟨b, 6, none⟩ = some v6) ∧ w.frozen? ⟨b, 0, none⟩ = false ∧ w.frozen? ⟨b, 1, none⟩ = false ∧ w.frozen? ⟨b, 2, none⟩ = false ∧ w.frozen? ⟨b, 3, none⟩ = false ∧ w.frozen? ⟨b, 4, none⟩ = false ∧ w.frozen? ⟨b, 5, none⟩ = false ∧ w.frozen? ⟨b, 6, none⟩ = false :=
  ⟨⟨h.cell 0, h.cell 1, h.cell 2, h.cell 3, h.cell 4, h.cell 5, h.cell 6⟩, h.frozen 0, h.frozen 1, h.frozen 2, h.frozen 3, h.frozen 4, h.frozen 5, h.frozen 6⟩
theorem Blk.eight {w : World} {b : Nat} {t : TypeId} {v0 v1 v2 v3 v4 v5 v6 v7 : Value} (h : Blk w b t #[v0, v1, v2, v3, v4, v5, v6, v7]) : w.cell? ⟨b, 0, none⟩ = some v0 ∧ w.cell? ⟨b, 1, none⟩ = some v1 ∧ w.cell? ⟨b, 2, none⟩ = some v2 ∧ w.cell? ⟨b, 3, none⟩ = some v3 ∧ w.cell? ⟨b, 4, none⟩ = some v4 ∧ w.cell? ⟨b, 5, none⟩ = some v5 ∧ w.cell? ⟨b, 6, none⟩ = some v6 ∧ w.cell? ⟨b, 7, none⟩ = some v7 :=
  ⟨h.cell 0, h.cell 1, h.cell 2, h.cell 3, h.cell 4, h.cell 5, h.cell 6, h.cell 7⟩
theorem ChgsT.set {w : World} {v : Value} {l : List Chg} (h : ChgsT w v l) {b : Nat} (hb : Off v b) (i : Nat) (u : Value) : ChgsT (w.setCell ⟨b, i, none⟩ u) v l := ⟨h.1.set hb i u, h.2.set b i u⟩
/-- A block of another type holds none of a slice's elements. -/
theorem TyV.off {t t' : TypeId} {w : World} {v : Value} {b : Nat} {cs : Array Value} (h : TyV t w v) (hB : Blk w b t' cs) (hn : t' ≠ t) : Off v b := by
  intro g o n c e hp hg
  subst hg
  obtain ⟨cur, fz, hb⟩ := h g o n c e hp
  have hB' : w.heap[g]? = some (.cells cs t' (0, 0)) := hB
  rw [hb] at hB'
  injection hB' with q
  injection q with q1 q2 q3
  exact hn q2.symm
theorem IsDisk.blk {w : World} {base b : Nat} {k : Dk} (h : IsDisk w base b k) : ∃ cs, Blk w b 64 cs := by
  obtain ⟨_, vn, vs, vl, hb, _⟩ := h
  exact ⟨_, hb⟩
/-- A block that is no disk's is written. -/
theorem IsDisk.set {w : World} {base b : Nat} {k : Dk} (h : IsDisk w base b k) {c : Nat} {t : TypeId} {cs : Array Value} (hB : Blk w c t cs) (h1 : t ≠ 64) (h2 : t ≠ 80) (i : Nat) (u : Value) : IsDisk (w.setCell ⟨c, i, none⟩ u) base b k := by
  obtain ⟨h0, vn, vs, vl, hb, hn, hs, hne, hl⟩ := h
  have hg : w.grownBy (w.setCell ⟨c, i, none⟩ u) (some c) := grown_set (grown_refl _ _) i u
  have hbc : b ≠ c := fun e => by
    subst e
    have hB' : w.heap[b]? = some (.cells cs t (0, 0)) := hB
    have hb' : w.heap[b]? = some (.cells _ 64 (0, 0)) := hb
    rw [hb'] at hB'
    injection hB' with q
    injection q with q1 q2 q3
    exact h1 q2.symm
  refine ⟨h0, vn, vs, vl, hb.kept hg (fun e => hbc (Option.some.inj e)), hn.set hB i u, hs.set hB i u, hne, hl.kept hg ?_⟩
  cases hq : vl.ownBlock with
  | none => exact Or.inl rfl
  | some g =>
    refine Or.inr (fun e => ?_)
    have e' : g = c := Option.some.inj e
    subst e'
    rcases hl.2 with ⟨rfl, _⟩ | ⟨g', cap, cur, rfl, _, hh, _⟩
    · cases hq
    · have : g' = g := Option.some.inj hq
      subst this
      have hB' : w.heap[g']? = some (.cells cs t (0, 0)) := hB
      rw [hh] at hB'
      injection hB' with q
      injection q with q1 q2 q3
      exact h2 q2.symm
theorem Tend.set {base b : Nat} {w w' : World} (h : Tend base b w w') {c : Nat} (hc : w.heap.size ≤ c) (i : Nat) (u : Value) : Tend base b w (w'.setCell ⟨c, i, none⟩ u) :=
  ⟨h.os, h.tape, h.output, by rw [size_set]; exact h.size, fun j hj hs => by rw [heap_setCell_other w' _ j u (by show j ≠ c; omega)]; exact h.keep j hj hs⟩
/-- Six cells behind the first one are written. -/
abbrev set6 (w : World) (c : Nat) (v1 v2 v3 v4 v5 v6 : Value) : World := (((((w.setCell ⟨c, 1, none⟩ v1).setCell ⟨c, 2, none⟩ v2).setCell ⟨c, 3, none⟩ v3).setCell ⟨c, 4, none⟩ v4).setCell ⟨c, 5, none⟩ v5).setCell ⟨c, 6, none⟩ v6
theorem Blk.sx {w : World} {c : Nat} {t : TypeId} {p u1 u2 u3 u4 u5 u6 : Value} (h : Blk w c t #[p, u1, u2, u3, u4, u5, u6]) (v1 v2 v3 v4 v5 v6 : Value) : Blk (set6 w c v1 v2 v3 v4 v5 v6) c t #[p, v1, v2, v3, v4, v5, v6] :=
  (((((h.set 1 v1).set 2 v2).set 3 v3).set 4 v4).set 5 v5).set 6 v6
theorem Blk.sxo {w : World} {c d : Nat} {t : TypeId} {cs : Array Value} (h : Blk w d t cs) (hn : d ≠ c) (v1 v2 v3 v4 v5 v6 : Value) : Blk (set6 w c v1 v2 v3 v4 v5 v6) d t cs :=
  (((((h.other v1 hn).other v2 hn).other v3 hn).other v4 hn).other v5 hn).other v6 hn
theorem IsDisk.sx {w : World} {base b : Nat} {k : Dk} (h : IsDisk w base b k) {c : Nat} {t : TypeId} {cs : Array Value} (hB : Blk w c t cs) (h1 : t ≠ 64) (h2 : t ≠ 80) (v1 v2 v3 v4 v5 v6 : Value) : IsDisk (set6 w c v1 v2 v3 v4 v5 v6) base b k :=
  (((((h.set hB h1 h2 1 v1).set (hB.set 1 v1) h1 h2 2 v2).set ((hB.set 1 v1).set 2 v2) h1 h2 3 v3).set (((hB.set 1 v1).set 2 v2).set 3 v3) h1 h2 4 v4).set ((((hB.set 1 v1).set 2 v2).set 3 v3).set 4 v4) h1 h2 5 v5).set (((((hB.set 1 v1).set 2 v2).set 3 v3).set 4 v4).set 5 v5) h1 h2 6 v6
theorem grown_sx {w w' : World} (h : w.grownBy w' none) {c : Nat} (hc : w.heap.size ≤ c) (v1 v2 v3 v4 v5 v6 : Value) : w.grownBy (set6 w' c v1 v2 v3 v4 v5 v6) none :=
  grown_set_new (grown_set_new (grown_set_new (grown_set_new (grown_set_new (grown_set_new h v1 hc) v2 hc) v3 hc) v4 hc) v5 hc) v6 hc
theorem FilesT.sx {w : World} {v : Value} {l : FS} (h : FilesT w v l) {c : Nat} (hb : Off v c) (v1 v2 v3 v4 v5 v6 : Value) : FilesT (set6 w c v1 v2 v3 v4 v5 v6) v l :=
  (((((h.set hb 1 v1).set hb 2 v2).set hb 3 v3).set hb 4 v4).set hb 5 v5).set hb 6 v6
theorem ChgsT.sx {w : World} {v : Value} {l : List Chg} (h : ChgsT w v l) {c : Nat} (hb : Off v c) (v1 v2 v3 v4 v5 v6 : Value) : ChgsT (set6 w c v1 v2 v3 v4 v5 v6) v l :=
  (((((h.set hb 1 v1).set hb 2 v2).set hb 3 v3).set hb 4 v4).set hb 5 v5).set hb 6 v6
theorem Tend.sx {base b : Nat} {w w' : World} (h : Tend base b w w') {c : Nat} (hc : w.heap.size ≤ c) (v1 v2 v3 v4 v5 v6 : Value) : Tend base b w (set6 w' c v1 v2 v3 v4 v5 v6) :=
  (((((h.set hc 1 v1).set hc 2 v2).set hc 3 v3).set hc 4 v4).set hc 5 v5).set hc 6 v6
end Go.Proofs.Ytoenddcdafnmiaa
