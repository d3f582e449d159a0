/-
  A disk of the program, in memory: what it holds; and the contracts of New, Dead, Up, Name. Which texts may be names: the program's and the document's.
-/
import Derived.Test.YtddnjlnnkeiplaaKFs
namespace Go.Proofs.Ytddnjlnnkeiplaa
open Go.RowKit Go.Maps
structure Dk where
  now : FS
  sure : FS
  loose : List Chg
  unsure : Nat
  changes : Nat
  dead : Bool
def MapV (w : World) (base : Nat) (v : Value) (l : FS) : Prop := (v = .map none ∧ l = []) ∨ ∃ g, v = .map (some g) ∧ base ≤ g ∧ OwnsF w g l
def rowD (vn vs vl : Value) (u c : Nat) (dd : Bool) : Array Value := #[vn, vs, vl, .int .i64 u, .slice none 0 0, .int .i64 c, .bool false, .int .i64 0, .bool dd]
def looseL (l : List Chg) : List Value := l.flatMap Chg.cells
/-- Block b is a disk of this state, without a plan, with any room; its maps and its list lie from base on. -/
def IsDisk (w : World) (base b : Nat) (k : Dk) : Prop :=
  base ≤ b ∧ ∃ vn vs vl, Blk w b 73 (rowD vn vs vl k.unsure k.changes k.dead) ∧ MapV w base vn k.now ∧ MapV w base vs k.sure ∧ (∀ g, vn = .map (some g) → vs ≠ .map (some g)) ∧ w.ownsRow base 101 5 vl k.loose.length (looseL k.loose)
theorem MapV.kept {w w' : World} {base : Nat} {v : Value} {l : FS} {row : Option Nat} (h : MapV w base v l) (hg : w.grownBy w' row) (hn : ∀ g, v = .map (some g) → some g ≠ row) : MapV w' base v l := by
  rcases h with h | ⟨g, rfl, hb, ho⟩
  · exact Or.inl h
  · exact Or.inr ⟨g, rfl, hb, ho.kept hg (hn g rfl)⟩
theorem looseL_len (l : List Chg) : (looseL l).length = l.length * 5 := by
  induction l with
  | nil => rfl
  | cons c r ih =>
    unfold looseL at ih ⊢
    rw [List.flatMap_cons, List.length_append, ih, List.length_cons]
    show 5 + _ = _
    omega
theorem Blk.d0 {w : World} {b : Nat} {vn vs vl : Value} {u c : Nat} {dd : Bool} (h : Blk w b 73 (rowD vn vs vl u c dd)) : w.cell? ⟨b, 0, none⟩ = some vn := by rw [h.cell]; rfl
theorem Blk.d1 {w : World} {b : Nat} {vn vs vl : Value} {u c : Nat} {dd : Bool} (h : Blk w b 73 (rowD vn vs vl u c dd)) : w.cell? ⟨b, 1, none⟩ = some vs := by rw [h.cell]; rfl
theorem Blk.d2 {w : World} {b : Nat} {vn vs vl : Value} {u c : Nat} {dd : Bool} (h : Blk w b 73 (rowD vn vs vl u c dd)) : w.cell? ⟨b, 2, none⟩ = some vl := by rw [h.cell]; rfl
theorem Blk.d3 {w : World} {b : Nat} {vn vs vl : Value} {u c : Nat} {dd : Bool} (h : Blk w b 73 (rowD vn vs vl u c dd)) : w.cell? ⟨b, 3, none⟩ = some (.int .i64 u) := by rw [h.cell]; rfl
theorem Blk.d4 {w : World} {b : Nat} {vn vs vl : Value} {u c : Nat} {dd : Bool} (h : Blk w b 73 (rowD vn vs vl u c dd)) : w.cell? ⟨b, 4, none⟩ = some (.slice none 0 0) := by rw [h.cell]; rfl
theorem Blk.d5 {w : World} {b : Nat} {vn vs vl : Value} {u c : Nat} {dd : Bool} (h : Blk w b 73 (rowD vn vs vl u c dd)) : w.cell? ⟨b, 5, none⟩ = some (.int .i64 c) := by rw [h.cell]; rfl
theorem Blk.d6 {w : World} {b : Nat} {vn vs vl : Value} {u c : Nat} {dd : Bool} (h : Blk w b 73 (rowD vn vs vl u c dd)) : w.cell? ⟨b, 6, none⟩ = some (.bool false) := by rw [h.cell]; rfl
theorem Blk.d8 {w : World} {b : Nat} {vn vs vl : Value} {u c : Nat} {dd : Bool} (h : Blk w b 73 (rowD vn vs vl u c dd)) : w.cell? ⟨b, 8, none⟩ = some (.bool dd) := by rw [h.cell]; rfl
theorem IsDisk.lt {w : World} {base b : Nat} {k : Dk} (h : IsDisk w base b k) : b < w.heap.size := by
  obtain ⟨_, _, _, _, hb, _⟩ := h
  exact hb.lt
/-- Nothing of the disk has turned. -/
theorem IsDisk.kept {w w' : World} {base b : Nat} {k : Dk} (h : IsDisk w base b k) (hg : w.grownBy w' none) : IsDisk w' base b k := by
  obtain ⟨h0, vn, vs, vl, hb, hn, hs, hne, hl⟩ := h
  refine ⟨h0, vn, vs, vl, hb.kept hg (by simp), hn.kept hg (by simp), hs.kept hg (by simp), hne, hl.kept hg ?_⟩
  cases vl.ownBlock with
  | none => exact Or.inl rfl
  | some x => exact Or.inr (by simp)
set_option maxRecDepth 100000 in
theorem new_any (w : World) : Calls Try.prog 9 #[] w fun e w' => e = .returned (.pointer (some ⟨w.heap.size, 0, none⟩)) ∧ IsDisk w' w.heap.size w.heap.size ⟨[], [], [], 0, 0, false⟩ ∧ w.grownBy w' none := by
  go_enter Try.func9, Try.ntmps9
  go_wp2
  go_ret
  refine ⟨rfl, ⟨Nat.le_refl _, .map none, .map none, .slice none 0 0, Blk.new _ _ _, Or.inl ⟨rfl, rfl⟩, Or.inl ⟨rfl, rfl⟩, (fun g h => by cases h), ?_⟩, grown_alloc (grown_refl _ _) _⟩
  exact ⟨rfl, Or.inl ⟨rfl, rfl⟩⟩
set_option maxRecDepth 100000 in
theorem dead_any (b : Nat) (dd : Bool) (w : World) (h : w.cell? ⟨b, 8, none⟩ = some (.bool dd)) : Calls Try.prog 27 #[.pointer (some ⟨b, 0, none⟩)] w fun e w' => e = .returned (.bool dd) ∧ w' = w := by
  go_enter Try.func27, Try.ntmps27
  go_wp2
  go_ret
  exact ⟨rfl, rfl⟩
set_option maxRecDepth 100000 in
theorem dead_nil (w : World) : Calls Try.prog 27 #[.pointer none] w fun e w' => e = .returned (.bool true) ∧ w' = w := by
  go_enter Try.func27, Try.ntmps27
  go_wp2
  go_ret
  exact ⟨rfl, rfl⟩
set_option maxRecDepth 100000 in
theorem up_nil (w : World) : Calls Try.prog 17 #[.pointer none] w fun e w' => e = .returned (.bool false) ∧ w' = w := by
  go_enter Try.func17, Try.ntmps17
  go_wp2
  go_ret
  exact ⟨rfl, rfl⟩
/-- May a byte stand in a name? -/
def okB (c : UInt8) : Bool := c == 46 || (97 ≤ c && c ≤ 122)
def nameB (s : ByteArray) : Bool := (1 ≤ s.size && s.size ≤ 16) && s.data.toList.all okB
end Go.Proofs.Ytddnjlnnkeiplaa
namespace Go.Proofs.Ytddnjlnnkeiplaa
open Go.RowKit Go.Maps
theorem okB_iff (c : UInt8) : okB c = true ↔ ((c.toNat : Int) = 46 ∨ (97 ≤ (c.toNat : Int) ∧ (c.toNat : Int) ≤ 122)) := by
  unfold okB
  simp only [Bool.or_eq_true, Bool.and_eq_true, beq_iff_eq, decide_eq_true_eq, UInt8.le_iff_toNat_le, ← UInt8.toNat_inj]
  show _ ↔ _
  rw [show (46 : UInt8).toNat = 46 from rfl, show (97 : UInt8).toNat = 97 from rfl, show (122 : UInt8).toNat = 122 from rfl]
  omega
theorem take_snoc (s : ByteArray) (k : Nat) (h : k < s.size) : s.data.toList.take (k + 1) = s.data.toList.take k ++ [s[k]] := by
  rw [List.take_succ_eq_append_getElem (by simpa using h)]; rfl
theorem all_step (s : ByteArray) (k : Nat) (h : k < s.size) (ha : (s.data.toList.take k).all okB = true) : (s.data.toList.take (k + 1)).all okB = okB s[k] := by
  rw [take_snoc s k h, List.all_append, ha]
  simp
theorem all_no (s : ByteArray) (k : Nat) (h : k < s.size) (hn : okB s[k] = false) : s.data.toList.all okB = false := by
  rw [← Bool.not_eq_true, List.all_eq_true]
  intro hall
  have : s[k] ∈ s.data.toList := by
    have e : s[k] = s.data.toList[k]'(by simpa using h) := rfl
    rw [e]
    exact List.getElem_mem _
  rw [hall _ this] at hn
  cases hn
theorem all_end (s : ByteArray) (k : Nat) (h : ¬ k < s.size) (ha : (s.data.toList.take k).all okB = true) : s.data.toList.all okB = true := by
  rw [← ha, List.take_of_length_le (by simp; omega)]
set_option maxRecDepth 100000 in
set_option maxHeartbeats 1000000 in
theorem name_any (s : ByteArray) (w : World) (hs : s.size ≤ maxLen) : Calls Try.prog 59 #[.string s] w fun e w' => e = .returned (.bool (nameB s)) ∧ w' = w := by
  unfold maxLen at hs
  by_cases h1 : s.size < 1
  · have e : nameB s = false := by unfold nameB; simp; intro h; omega
    rw [e]
    have i1 : (s.size : Int) < 1 := by omega
    go_enter Try.func59, Try.ntmps59
    go_wp2
    go_ret
    exact ⟨rfl, rfl⟩
  by_cases h2 : 16 < s.size
  · have e : nameB s = false := by unfold nameB; simp; intro _ h; omega
    rw [e]
    have i1 : ¬ (s.size : Int) < 1 := by omega
    have i2 : (16 : Int) < s.size := by omega
    go_enter Try.func59, Try.ntmps59
    go_wp2
    go_ret
    exact ⟨rfl, rfl⟩
  have e : nameB s = s.data.toList.all okB := by
    unfold nameB
    rw [show decide (1 ≤ s.size) = true from decide_eq_true (by omega), show decide (s.size ≤ 16) = true from decide_eq_true (by omega)]
    rfl
  rw [e]
  have i1 : ¬ (s.size : Int) < 1 := by omega
  have i2 : ¬ (16 : Int) < s.size := by omega
  have i3 : (s.size : Int) ≤ 16 := by omega
  have b1 : decide ((s.size : Int) < 1) = false := by simp; omega
  have b2 : decide ((16 : Int) < s.size) = false := by simp; omega
  clear e
  obtain ⟨z, ez⟩ : ∃ z, s.data.toList.all okB = z := ⟨_, rfl⟩
  rw [ez]
  have EZ : Hid (s.data.toList.all okB = z) := ez
  clear ez
  go_enter Try.func59, Try.ntmps59
  go_wp2
  go_loop [14] (fun i => ∃ k : Nat, k ≤ s.size ∧ i = .int .i64 k ∧ (s.data.toList.take k).all okB = true) (fun i => s.size - (intOf i).toNat)
  case atStart => exact ⟨0, Nat.zero_le _, rfl, rfl⟩
  case round =>
    obtain ⟨k, hk, rfl, hall⟩ := hrel
    have HA : Hid ((s.data.toList.take k).all okB = true) := hall
    clear hall
    by_cases hlt : k < s.size
    · have k0 : (0 : Int) ≤ (k : Int) := by omega
      have k1 : (k : Int) < (s.size : Int) := by omega
      have k2 : (k : Int) ≤ 16 := by omega
      have HI := okB_iff s[k]
      have HS := all_step s k hlt HA.out
      have hbx : (s[k].toNat : Int) < 256 := by have := s[k].toNat_lt; omega
      have hb0 : (0 : Int) ≤ (s[k].toNat : Int) := by omega
      by_cases hok : okB s[k] = true
      · have HT : Hid ((s.data.toList.take (k + 1)).all okB = true) := by rw [HS]; exact hok
        rcases HI.1 hok with h46 | ⟨h97, h122⟩
        · have t1 : ((s[k].toNat : Int) != 46) = false := by simp; omega
          clear HI HS hok h46
          go_wp2
          go_round
          case rel => exact ⟨k + 1, by omega, by go_num, HT.out⟩
          case measure => simp [intOf]; omega
        · have t1 : ((s[k].toNat : Int) != 46) = true := by simp; omega
          have t2 : ¬ ((s[k].toNat : Int) < 97) := by omega
          have t3 : ¬ (122 < (s[k].toNat : Int)) := by omega
          clear HI HS hok
          go_wp2
          go_round
          case rel => exact ⟨k + 1, by omega, by go_num, HT.out⟩
          case measure => simp [intOf]; omega
      · have hno : okB s[k] = false := by simpa using hok
        have hz : z = false := EZ.out.symm.trans (all_no s k hlt hno)
        subst hz
        clear EZ
        have hne : ¬ ((s[k].toNat : Int) = 46) := fun h => hok (HI.2 (Or.inl h))
        have t1 : ((s[k].toNat : Int) != 46) = true := by simp; omega
        by_cases t2 : (s[k].toNat : Int) < 97
        · clear HI HS hok hno hne
          go_wp2
          go_ret
          exact ⟨rfl, rfl⟩
        · have t3 : 122 < (s[k].toNat : Int) := by
            by_cases t : 122 < (s[k].toNat : Int)
            · exact t
            · exact absurd (HI.2 (Or.inr ⟨by omega, by omega⟩)) hok
          clear HI HS hok hno hne
          go_wp2
          go_ret
          exact ⟨rfl, rfl⟩
    · have k1 : ¬ (k : Int) < (s.size : Int) := by omega
      have hz : z = true := EZ.out.symm.trans (all_end s k hlt HA.out)
      subst hz
      clear EZ
      go_wp2
      go_ret
      exact ⟨rfl, rfl⟩
theorem nameB_all (s : ByteArray) (h : s.data.toList.all okB = true) : nameB s = (decide (1 ≤ s.size) && decide (s.size ≤ 16)) := by
  unfold nameB
  rw [h, Bool.and_true]
theorem nameB_no (s : ByteArray) (h : s.data.toList.all okB = false) : nameB s = false := by
  unfold nameB
  rw [h, Bool.and_false]
theorem empty_of_size (s : ByteArray) (h : s.size = 0) : s = ⟨#[]⟩ := bytes_ext (by
  have : s.data.toList.length = 0 := by simpa using h
  rw [List.length_eq_zero_iff] at this
  rw [this])
end Go.Proofs.Ytddnjlnnkeiplaa
