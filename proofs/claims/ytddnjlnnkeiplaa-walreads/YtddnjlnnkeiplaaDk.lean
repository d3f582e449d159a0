/-
  A disk of the program, in memory: what it holds; and the contracts of New, Dead, Up, Name.
-/
import Derived.Test.YtddnjlnnkeiplaaFs
namespace Go.Proofs.Ytddnjlnnkeiplaa
open Go.RowKit Go.Maps
structure Dk where
  now : FS
  sure : FS
  loose : List Chg
  unsure : Nat
  changes : Nat
  dead : Bool
def MapV (w : World) (base : Nat) (v : Value) (l : FS) : Prop := (v = .map none ∧ l = []) ∨ ∃ g, v = .map (some g) ∧ base ≤ g ∧ OwnsF w g l
def rowD (vn vs vl : Value) (u c : Nat) (dd : Bool) : Array Value := #[vn, vs, vl, .int .i64 u, .slice none 0 0, .int .i64 c, .bool false, .int .i64 0, .bool dd]
def looseL (l : List Chg) : List Value := l.flatMap Chg.cells
/-- Block b is a disk of this state, without a plan, with any room; its maps and its list lie from base on. -/
def IsDisk (w : World) (base b : Nat) (k : Dk) : Prop :=
  base ≤ b ∧ ∃ vn vs vl, Blk w b 73 (rowD vn vs vl k.unsure k.changes k.dead) ∧ MapV w base vn k.now ∧ MapV w base vs k.sure ∧ (∀ g, vn = .map (some g) → vs ≠ .map (some g)) ∧ w.ownsRow base 101 5 vl k.loose.length (looseL k.loose)
theorem MapV.kept {w w' : World} {base : Nat} {v : Value} {l : FS} {row : Option Nat} (h : MapV w base v l) (hg : w.grownBy w' row) (hn : ∀ g, v = .map (some g) → some g ≠ row) : MapV w' base v l := by
  rcases h with h | ⟨g, rfl, hb, ho⟩
  · exact Or.inl h
  · exact Or.inr ⟨g, rfl, hb, ho.kept hg (hn g rfl)⟩
theorem looseL_len (l : List Chg) : (looseL l).length = l.length * 5 := by
  induction l with
  | nil => rfl
  | cons c r ih =>
    unfold looseL at ih ⊢
    rw [List.flatMap_cons, List.length_append, ih, List.length_cons]
    show 5 + _ = _
    omega
theorem Blk.d0 {w : World} {b : Nat} {vn vs vl : Value} {u c : Nat} {dd : Bool} (h : Blk w b 73 (rowD vn vs vl u c dd)) : w.cell? ⟨b, 0, none⟩ = some vn := by rw [h.cell]; rfl
theorem Blk.d1 {w : World} {b : Nat} {vn vs vl : Value} {u c : Nat} {dd : Bool} (h : Blk w b 73 (rowD vn vs vl u c dd)) : w.cell? ⟨b, 1, none⟩ = some vs := by rw [h.cell]; rfl
theorem Blk.d2 {w : World} {b : Nat} {vn vs vl : Value} {u c : Nat} {dd : Bool} (h : Blk w b 73 (rowD vn vs vl u c dd)) : w.cell? ⟨b, 2, none⟩ = some vl := by rw [h.cell]; rfl
theorem Blk.d3 {w : World} {b : Nat} {vn vs vl : Value} {u c : Nat} {dd : Bool} (h : Blk w b 73 (rowD vn vs vl u c dd)) : w.cell? ⟨b, 3, none⟩ = some (.int .i64 u) := by rw [h.cell]; rfl
theorem Blk.d4 {w : World} {b : Nat} {vn vs vl : Value} {u c : Nat} {dd : Bool} (h : Blk w b 73 (rowD vn vs vl u c dd)) : w.cell? ⟨b, 4, none⟩ = some (.slice none 0 0) := by rw [h.cell]; rfl
theorem Blk.d5 {w : World} {b : Nat} {vn vs vl : Value} {u c : Nat} {dd : Bool} (h : Blk w b 73 (rowD vn vs vl u c dd)) : w.cell? ⟨b, 5, none⟩ = some (.int .i64 c) := by rw [h.cell]; rfl
theorem Blk.d6 {w : World} {b : Nat} {vn vs vl : Value} {u c : Nat} {dd : Bool} (h : Blk w b 73 (rowD vn vs vl u c dd)) : w.cell? ⟨b, 6, none⟩ = some (.bool false) := by rw [h.cell]; rfl
theorem Blk.d8 {w : World} {b : Nat} {vn vs vl : Value} {u c : Nat} {dd : Bool} (h : Blk w b 73 (rowD vn vs vl u c dd)) : w.cell? ⟨b, 8, none⟩ = some (.bool dd) := by rw [h.cell]; rfl
theorem IsDisk.lt {w : World} {base b : Nat} {k : Dk} (h : IsDisk w base b k) : b < w.heap.size := by
  obtain ⟨_, _, _, _, hb, _⟩ := h
  exact hb.lt
/-- Nothing of the disk has turned. -/
theorem IsDisk.kept {w w' : World} {base b : Nat} {k : Dk} (h : IsDisk w base b k) (hg : w.grownBy w' none) : IsDisk w' base b k := by
  obtain ⟨h0, vn, vs, vl, hb, hn, hs, hne, hl⟩ := h
  refine ⟨h0, vn, vs, vl, hb.kept hg (by simp), hn.kept hg (by simp), hs.kept hg (by simp), hne, hl.kept hg ?_⟩
  cases vl.ownBlock with
  | none => exact Or.inl rfl
  | some x => exact Or.inr (by simp)
set_option maxRecDepth 100000 in
theorem new_any (w : World) : Calls Try.prog 9 #[] w fun e w' => e = .returned (.pointer (some ⟨w.heap.size, 0, none⟩)) ∧ IsDisk w' w.heap.size w.heap.size ⟨[], [], [], 0, 0, false⟩ ∧ w.grownBy w' none := by
  go_enter Try.func9, Try.ntmps9
  go_wp2
  go_ret
  refine ⟨rfl, ⟨Nat.le_refl _, .map none, .map none, .slice none 0 0, Blk.new _ _ _, Or.inl ⟨rfl, rfl⟩, Or.inl ⟨rfl, rfl⟩, (fun g h => by cases h), ?_⟩, grown_alloc (grown_refl _ _) _⟩
  exact ⟨rfl, Or.inl ⟨rfl, rfl⟩⟩
set_option maxRecDepth 100000 in
theorem dead_any (b : Nat) (dd : Bool) (w : World) (h : w.cell? ⟨b, 8, none⟩ = some (.bool dd)) : Calls Try.prog 27 #[.pointer (some ⟨b, 0, none⟩)] w fun e w' => e = .returned (.bool dd) ∧ w' = w := by
  go_enter Try.func27, Try.ntmps27
  go_wp2
  go_ret
  exact ⟨rfl, rfl⟩
set_option maxRecDepth 100000 in
theorem dead_nil (w : World) : Calls Try.prog 27 #[.pointer none] w fun e w' => e = .returned (.bool true) ∧ w' = w := by
  go_enter Try.func27, Try.ntmps27
  go_wp2
  go_ret
  exact ⟨rfl, rfl⟩
set_option maxRecDepth 100000 in
theorem up_nil (w : World) : Calls Try.prog 17 #[.pointer none] w fun e w' => e = .returned (.bool false) ∧ w' = w := by
  go_enter Try.func17, Try.ntmps17
  go_wp2
  go_ret
  exact ⟨rfl, rfl⟩
/-- May a byte stand in a name? -/
def okB (c : UInt8) : Bool := c == 46 || (97 ≤ c && c ≤ 122)
def nameB (s : ByteArray) : Bool := (1 ≤ s.size && s.size ≤ 16) && s.data.toList.all okB
end Go.Proofs.Ytddnjlnnkeiplaa
