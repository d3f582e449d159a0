/-
  What a disk's calls leave of blocks that are none of its own.
-/
import Derived.Test.YtoenddcdafnmiaaKRcrash
import Derived.Test.YtoenddcdafnmiaaTend
namespace Go.Proofs.Ytoenddcdafnmiaa
open Go.RowKit Go.Maps
/-- Blocks of cells that are no disk, and no list of its changes, are as they were. -/
def Far (w w' : World) : Prop := ∀ (g : Nat) (cur : Array Value) (t : TypeId) (fz : Nat × Nat), w.heap[g]? = some (.cells cur t fz) → t ≠ 64 → t ≠ 80 → w'.heap[g]? = w.heap[g]?
theorem lt_of_heap {w : World} {g : Nat} {o : Obj} (h : w.heap[g]? = some o) : g < w.heap.size := by
  by_cases hx : g < w.heap.size
  · exact hx
  · rw [Array.getElem?_eq_none (by omega)] at h; cases h
theorem Far.refl (w : World) : Far w w := fun _ _ _ _ _ _ _ => rfl
theorem Far.trans {a b c : World} (h : Far a b) (k : Far b c) : Far a c := fun g cur t fz hg h1 h2 => by
  have e := h g cur t fz hg h1 h2
  exact (k g cur t fz (e.trans hg) h1 h2).trans e
theorem Far.of_none {w w' : World} (h : w.grownBy w' none) : Far w w' := fun g _ _ _ hg _ _ => h.block g (lt_of_heap hg) (by simp)
theorem Far.of_self {w w' : World} {b : Nat} {cs : Array Value} (hB : Blk w b 64 cs) (h : w.grownBy w' (some b)) : Far w w' := fun g cur t fz hg h1 _ => h.block g (lt_of_heap hg) (fun e => by
  have e' : g = b := Option.some.inj e
  subst e'
  have hB' : w.heap[g]? = some (.cells cs 64 (0, 0)) := hB
  rw [hg] at hB'
  injection hB' with q
  injection q with q1 q2 q3
  exact h1 q2)
theorem Far.of_tend {w w' : World} {base b : Nat} {cs : Array Value} (hB : Blk w b 64 cs) (h : Tend base b w w') : Far w w' := fun g cur t fz hg h1 h2 => h.keep g (lt_of_heap hg) (Or.inr ⟨fun e => by
  subst e
  have hB' : w.heap[g]? = some (.cells cs 64 (0, 0)) := hB
  rw [hg] at hB'
  injection hB' with q
  injection q with q1 q2 q3
  exact h1 q2, cur, t, fz, hg, h2⟩)
theorem Blk.far {w w' : World} {b : Nat} {t : TypeId} {cs : Array Value} (h : Blk w b t cs) (hF : Far w w') (h1 : t ≠ 64) (h2 : t ≠ 80) : Blk w' b t cs := (hF b cs t (0, 0) h h1 h2).trans h
theorem TyV.far {t : TypeId} {w w' : World} {v : Value} (h : TyV t w v) (hF : Far w w') (h1 : t ≠ 64) (h2 : t ≠ 80) : TyV t w' v := by
  intro g o n c e hn
  obtain ⟨cur, fz, hb⟩ := h g o n c e hn
  exact ⟨cur, fz, (hF g cur t fz hb h1 h2).trans hb⟩
theorem cell_eq {w w' : World} {g : Nat} (h : w'.heap[g]? = w.heap[g]?) (i : Nat) : w'.cell? ⟨g, i, none⟩ = w.cell? ⟨g, i, none⟩ := by
  simp only [World.cell?, h]
theorem FilesT.far {w w' : World} {v : Value} {l : FS} (h : FilesT w v l) (hF : Far w w') : FilesT w' v l := by
  refine ⟨?_, h.2.far hF (by decide) (by decide)⟩
  rcases h.1 with h1 | ⟨cap, g, o, e, hcap, hmx, h0, h1⟩
  · exact Or.inl h1
  refine Or.inr ⟨cap, g, o, e, hcap, hmx, fun i hi => ?_, fun i hi => ?_⟩
  · obtain ⟨cur, fz, hb⟩ := h.2 g o _ cap e (by omega)
    rw [cell_eq (hF g cur 73 fz hb (by decide) (by decide))]
    exact h0 i hi
  · obtain ⟨cur, fz, hb⟩ := h.2 g o _ cap e (by omega)
    rw [cell_eq (hF g cur 73 fz hb (by decide) (by decide))]
    exact h1 i hi
theorem ChgsT.far {w w' : World} {v : Value} {l : List Chg} (h : ChgsT w v l) (hF : Far w w') : ChgsT w' v l := by
  refine ⟨?_, h.2.far hF (by decide) (by decide)⟩
  rcases h.1 with h1 | ⟨cap, g, o, e, hcap, hmx, h0⟩
  · exact Or.inl h1
  refine Or.inr ⟨cap, g, o, e, hcap, hmx, fun i hi j hj => ?_⟩
  obtain ⟨cur, fz, hb⟩ := h.2 g o _ cap e (by omega)
  rw [cell_eq (hF g cur 69 fz hb (by decide) (by decide))]
  exact h0 i hi j hj
end Go.Proofs.Ytoenddcdafnmiaa
