/-
  put: bytes are appended to the file, and made sure. What a disk's calls leave of a log, and a log's of a disk.
-/
import Derived.Test.YtddnjlnnkeiplaaLapp
namespace Go.Proofs.Ytddnjlnnkeiplaa
open Go.RowKit Go.Maps
theorem heap_lt {w : World} {g : Nat} {o : Obj} (h : w.heap[g]? = some o) : g < w.heap.size := by
  by_cases hx : g < w.heap.size
  · exact hx
  · rw [Array.getElem?_eq_none (by omega)] at h; cases h
theorem row_same {w w' : World} {base e size n : Nat} {v : Value} {xs : List Value} (h : w.ownsRow base e size v n xs) (hk : ∀ (g : Nat) (cur : Array Value), w.heap[g]? = some (Obj.cells cur e (0, 0)) → w'.heap[g]? = w.heap[g]?) : w'.ownsRow base e size v n xs := by
  obtain ⟨h1, h2⟩ := h
  refine ⟨h1, ?_⟩
  rcases h2 with h2 | ⟨g, cap, cur, e1, hb, hh, r⟩
  · exact Or.inl h2
  · exact Or.inr ⟨g, cap, cur, e1, hb, (hk g cur hh).trans hh, r⟩
/-- A disk's call leaves a log as it was. -/
theorem IsLog.keptD {w w' : World} {base b d bd : Nat} {g : Lg} {cs : Array Value} (h : IsLog w base b g) (hd : Blk w d 73 cs) (hT : Tend bd d w w') : IsLog w' base b g := by
  obtain ⟨h0, vr, vw, hb, hr, hw⟩ := h
  have keep : ∀ (i : Nat) (t : TypeId) (cur : Array Value) (fz : Nat × Nat), w.heap[i]? = some (Obj.cells cur t fz) → t ≠ 73 → t ≠ 101 → w'.heap[i]? = w.heap[i]? := fun i t cur fz hi h1 h2 => hT.keep i (heap_lt hi) (Or.inr ⟨fun e => by
    subst e
    have hd' : w.heap[i]? = some (.cells cs 73 (0, 0)) := hd
    rw [hi] at hd'
    injection hd' with q
    injection q with q1 q2 q3
    exact h1 q2, cur, t, fz, hi, h2⟩)
  refine ⟨h0, vr, vw, (keep b 77 _ _ hb (by decide) (by decide)).trans hb, row_same hr (fun g cur hg => keep g 84 cur _ hg (by decide) (by decide)), row_same hw (fun g cur hg => keep g 5 cur _ hg (by decide) (by decide))⟩
/-- A log's call leaves a disk as it was. -/
theorem IsDisk.keptL {w w' : World} {base b bd d : Nat} {k : Dk} {cs : Array Value} (h : IsDisk w bd d k) (hb : Blk w b 77 cs) (hT : LT base b w w') : IsDisk w' bd d k := by
  obtain ⟨h0, vn, vs, vl, hB, hn, hs, hne, hl⟩ := h
  have keepC : ∀ (i : Nat) (t : TypeId) (cur : Array Value) (fz : Nat × Nat), w.heap[i]? = some (Obj.cells cur t fz) → t ≠ 77 → t ≠ 84 → t ≠ 5 → w'.heap[i]? = w.heap[i]? := fun i t cur fz hi h1 h2 h3 => hT.keep i (heap_lt hi) (Or.inr ⟨fun e => by
    subst e
    have hb' : w.heap[i]? = some (.cells cs 77 (0, 0)) := hb
    rw [hi] at hb'
    injection hb' with q
    injection q with q1 q2 q3
    exact h1 q2, fun cs' t' fz' hq => by
      rw [hi] at hq
      injection hq with q
      injection q with q1 q2 q3
      subst q2
      exact ⟨h2, h3⟩⟩)
  have keepM : ∀ i l, OwnsF w i l → OwnsF w' i l := fun i l ho => by
    obtain ⟨es, clock, hm⟩ := ho.isMap
    refine ho.of_heap (hT.keep i ho.lt (Or.inr ⟨fun e => ?_, fun cs' t' fz' hq => ?_⟩))
    · subst e
      exact hb.ne_map ho rfl
    · rw [hm] at hq
      cases hq
  have keepV : ∀ v l, MapV w bd v l → MapV w' bd v l := fun v l hv => by
    rcases hv with hv | ⟨g, rfl, hg, ho⟩
    · exact Or.inl hv
    · exact Or.inr ⟨g, rfl, hg, keepM g l ho⟩
  exact ⟨h0, vn, vs, vl, (keepC d 73 _ _ hB (by decide) (by decide) (by decide)).trans hB, keepV _ _ hn, keepV _ _ hs, hne, row_same hl (fun g cur hg => keepC g 101 cur _ hg (by decide) (by decide) (by decide))⟩
theorem IsLog.blk {w : World} {base b : Nat} {g : Lg} (h : IsLog w base b g) : ∃ cs, Blk w b 77 cs := by
  obtain ⟨_, vr, vw, hb, _⟩ := h
  exact ⟨_, hb⟩
theorem IsDisk.blk {w : World} {base b : Nat} {k : Dk} (h : IsDisk w base b k) : ∃ cs, Blk w b 73 cs := by
  obtain ⟨_, vn, vs, vl, hb, _⟩ := h
  exact ⟨_, hb⟩
end Go.Proofs.Ytddnjlnnkeiplaa
