/-
  A disk of the program, in memory: what it holds; and the contracts of New, Dead, Up, Name. Which texts may be names: the program's and the document's. What a change does to a map of files. growth, nextFall, refusal: why a change may not be. refusal: why a change may not be.
-/
import Derived.Test.YtbhmmcelndmijaaGreatKFs
import Derived.Deep.RegionHeld3
import Derived.BigQuiet
import Derived.Deep.QuietTactic
namespace Go.Proofs.YtbhmmcelndmijaaGreat
open Go.RowKit Go.Maps
structure Dk where
  now : FS
  sure : FS
  loose : List Chg
  unsure : Nat
  changes : Nat
  dead : Bool
def MapV (w : World) (base : Nat) (v : Value) (l : FS) : Prop := (v = .map none ∧ l = []) ∨ ∃ g, v = .map (some g) ∧ base ≤ g ∧ OwnsF w g l
def rowD (vn vs vl : Value) (u c : Nat) (dd : Bool) : Array Value := #[vn, vs, vl, .int .i64 u, .slice none 0 0, .int .i64 c, .bool false, .int .i64 0, .bool dd]
def looseL (l : List Chg) : List Value := l.flatMap Chg.cells
/-- Block b is a disk of this state, without a plan, with any room; its maps and its list lie from base on. -/
def IsDisk (w : World) (base b : Nat) (k : Dk) : Prop :=
  base ≤ b ∧ ∃ vn vs vl, Blk w b 96 (rowD vn vs vl k.unsure k.changes k.dead) ∧ MapV w base vn k.now ∧ MapV w base vs k.sure ∧ (∀ g, vn = .map (some g) → vs ≠ .map (some g)) ∧ w.ownsRow base 120 5 vl k.loose.length (looseL k.loose)
theorem MapV.kept {w w' : World} {base : Nat} {v : Value} {l : FS} {row : Option Nat} (h : MapV w base v l) (hg : w.grownBy w' row) (hn : ∀ g, v = .map (some g) → some g ≠ row) : MapV w' base v l := by
  rcases h with h | ⟨g, rfl, hb, ho⟩
  · exact Or.inl h
  · exact Or.inr ⟨g, rfl, hb, ho.kept hg (hn g rfl)⟩
theorem looseL_len (l : List Chg) : (looseL l).length = l.length * 5 := by
  induction l with
  | nil => rfl
  | cons c r ih =>
    unfold looseL at ih ⊢
    rw [List.flatMap_cons, List.length_append, ih, List.length_cons]
    show 5 + _ = _
    omega
theorem Blk.d0 {w : World} {b : Nat} {vn vs vl : Value} {u c : Nat} {dd : Bool} (h : Blk w b 96 (rowD vn vs vl u c dd)) : w.cell? ⟨b, 0, none⟩ = some vn := by rw [h.cell]; rfl
theorem Blk.d1 {w : World} {b : Nat} {vn vs vl : Value} {u c : Nat} {dd : Bool} (h : Blk w b 96 (rowD vn vs vl u c dd)) : w.cell? ⟨b, 1, none⟩ = some vs := by rw [h.cell]; rfl
theorem Blk.d2 {w : World} {b : Nat} {vn vs vl : Value} {u c : Nat} {dd : Bool} (h : Blk w b 96 (rowD vn vs vl u c dd)) : w.cell? ⟨b, 2, none⟩ = some vl := by rw [h.cell]; rfl
theorem Blk.d3 {w : World} {b : Nat} {vn vs vl : Value} {u c : Nat} {dd : Bool} (h : Blk w b 96 (rowD vn vs vl u c dd)) : w.cell? ⟨b, 3, none⟩ = some (.int .i64 u) := by rw [h.cell]; rfl
theorem Blk.d4 {w : World} {b : Nat} {vn vs vl : Value} {u c : Nat} {dd : Bool} (h : Blk w b 96 (rowD vn vs vl u c dd)) : w.cell? ⟨b, 4, none⟩ = some (.slice none 0 0) := by rw [h.cell]; rfl
theorem Blk.d5 {w : World} {b : Nat} {vn vs vl : Value} {u c : Nat} {dd : Bool} (h : Blk w b 96 (rowD vn vs vl u c dd)) : w.cell? ⟨b, 5, none⟩ = some (.int .i64 c) := by rw [h.cell]; rfl
theorem Blk.d6 {w : World} {b : Nat} {vn vs vl : Value} {u c : Nat} {dd : Bool} (h : Blk w b 96 (rowD vn vs vl u c dd)) : w.cell? ⟨b, 6, none⟩ = some (.bool false) := by rw [h.cell]; rfl
theorem Blk.d8 {w : World} {b : Nat} {vn vs vl : Value} {u c : Nat} {dd : Bool} (h : Blk w b 96 (rowD vn vs vl u c dd)) : w.cell? ⟨b, 8, none⟩ = some (.bool dd) := by rw [h.cell]; rfl
theorem IsDisk.lt {w : World} {base b : Nat} {k : Dk} (h : IsDisk w base b k) : b < w.heap.size := by
  obtain ⟨_, _, _, _, hb, _⟩ := h
  exact hb.lt
/-- Nothing of the disk has turned. -/
theorem IsDisk.kept {w w' : World} {base b : Nat} {k : Dk} (h : IsDisk w base b k) (hg : w.grownBy w' none) : IsDisk w' base b k := by
  obtain ⟨h0, vn, vs, vl, hb, hn, hs, hne, hl⟩ := h
  refine ⟨h0, vn, vs, vl, hb.kept hg (by simp), hn.kept hg (by simp), hs.kept hg (by simp), hne, hl.kept hg ?_⟩
  cases vl.ownBlock with
  | none => exact Or.inl rfl
  | some x => exact Or.inr (by simp)
set_option maxRecDepth 100000 in
theorem new_any (w : World) : Calls Tryz.prog 20 #[] w fun e w' => e = .returned (.pointer (some ⟨w.heap.size, 0, none⟩)) ∧ IsDisk w' w.heap.size w.heap.size ⟨[], [], [], 0, 0, false⟩ ∧ w.grownBy w' none := by
  go_enter Tryz.func20, Tryz.ntmps20
  go_wp2
  go_ret
  refine ⟨rfl, ⟨Nat.le_refl _, .map none, .map none, .slice none 0 0, Blk.new _ _ _, Or.inl ⟨rfl, rfl⟩, Or.inl ⟨rfl, rfl⟩, (fun g h => by cases h), ?_⟩, grown_alloc (grown_refl _ _) _⟩
  exact ⟨rfl, Or.inl ⟨rfl, rfl⟩⟩
set_option maxRecDepth 100000 in
theorem dead_any (b : Nat) (dd : Bool) (w : World) (h : w.cell? ⟨b, 8, none⟩ = some (.bool dd)) : Calls Tryz.prog 59 #[.pointer (some ⟨b, 0, none⟩)] w fun e w' => e = .returned (.bool dd) ∧ w' = w := by
  go_enter Tryz.func59, Tryz.ntmps59
  go_wp2
  go_ret
  exact ⟨rfl, rfl⟩
set_option maxRecDepth 100000 in
theorem dead_nil (w : World) : Calls Tryz.prog 59 #[.pointer none] w fun e w' => e = .returned (.bool true) ∧ w' = w := by
  go_enter Tryz.func59, Tryz.ntmps59
  go_wp2
  go_ret
  exact ⟨rfl, rfl⟩
/-- May a byte stand in a name? -/
def okB (c : UInt8) : Bool := c == 46 || (97 ≤ c && c ≤ 122)
def nameB (s : ByteArray) : Bool := (1 ≤ s.size && s.size ≤ 16) && s.data.toList.all okB
end Go.Proofs.YtbhmmcelndmijaaGreat
namespace Go.Proofs.YtbhmmcelndmijaaGreat
open Go.RowKit Go.Maps
theorem okB_iff (c : UInt8) : okB c = true ↔ ((c.toNat : Int) = 46 ∨ (97 ≤ (c.toNat : Int) ∧ (c.toNat : Int) ≤ 122)) := by
  unfold okB
  simp only [Bool.or_eq_true, Bool.and_eq_true, beq_iff_eq, decide_eq_true_eq, UInt8.le_iff_toNat_le, ← UInt8.toNat_inj]
  show _ ↔ _
  rw [show (46 : UInt8).toNat = 46 from rfl, show (97 : UInt8).toNat = 97 from rfl, show (122 : UInt8).toNat = 122 from rfl]
  omega
theorem take_snoc (s : ByteArray) (k : Nat) (h : k < s.size) : s.data.toList.take (k + 1) = s.data.toList.take k ++ [s[k]] := by
  rw [List.take_succ_eq_append_getElem (by simpa using h)]; rfl
theorem all_step (s : ByteArray) (k : Nat) (h : k < s.size) (ha : (s.data.toList.take k).all okB = true) : (s.data.toList.take (k + 1)).all okB = okB s[k] := by
  rw [take_snoc s k h, List.all_append, ha]
  simp
theorem all_no (s : ByteArray) (k : Nat) (h : k < s.size) (hn : okB s[k] = false) : s.data.toList.all okB = false := by
  rw [← Bool.not_eq_true, List.all_eq_true]
  intro hall
  have : s[k] ∈ s.data.toList := by
    have e : s[k] = s.data.toList[k]'(by simpa using h) := rfl
    rw [e]
    exact List.getElem_mem _
  rw [hall _ this] at hn
  cases hn
theorem all_end (s : ByteArray) (k : Nat) (h : ¬ k < s.size) (ha : (s.data.toList.take k).all okB = true) : s.data.toList.all okB = true := by
  rw [← ha, List.take_of_length_le (by simp; omega)]
set_option maxRecDepth 100000 in
set_option maxHeartbeats 1000000 in
theorem name_any (s : ByteArray) (w : World) (hs : s.size ≤ maxLen) : Calls Tryz.prog 60 #[.string s] w fun e w' => e = .returned (.bool (nameB s)) ∧ w' = w := by
  unfold maxLen at hs
  by_cases h1 : s.size < 1
  · have e : nameB s = false := by unfold nameB; simp; intro h; omega
    rw [e]
    have i1 : (s.size : Int) < 1 := by omega
    go_enter Tryz.func60, Tryz.ntmps60
    go_wp2
    go_ret
    exact ⟨rfl, rfl⟩
  by_cases h2 : 16 < s.size
  · have e : nameB s = false := by unfold nameB; simp; intro _ h; omega
    rw [e]
    have i1 : ¬ (s.size : Int) < 1 := by omega
    have i2 : (16 : Int) < s.size := by omega
    go_enter Tryz.func60, Tryz.ntmps60
    go_wp2
    go_ret
    exact ⟨rfl, rfl⟩
  have e : nameB s = s.data.toList.all okB := by
    unfold nameB
    rw [show decide (1 ≤ s.size) = true from decide_eq_true (by omega), show decide (s.size ≤ 16) = true from decide_eq_true (by omega)]
    rfl
  rw [e]
  have i1 : ¬ (s.size : Int) < 1 := by omega
  have i2 : ¬ (16 : Int) < s.size := by omega
  have i3 : (s.size : Int) ≤ 16 := by omega
  have b1 : decide ((s.size : Int) < 1) = false := by simp; omega
  have b2 : decide ((16 : Int) < s.size) = false := by simp; omega
  clear e
  obtain ⟨z, ez⟩ : ∃ z, s.data.toList.all okB = z := ⟨_, rfl⟩
  rw [ez]
  have EZ : Hid (s.data.toList.all okB = z) := ez
  clear ez
  go_enter Tryz.func60, Tryz.ntmps60
  go_wp2
  go_loop [14] (fun i => ∃ k : Nat, k ≤ s.size ∧ i = .int .i64 k ∧ (s.data.toList.take k).all okB = true) (fun i => s.size - (intOf i).toNat)
  case atStart => exact ⟨0, Nat.zero_le _, rfl, rfl⟩
  case round =>
    obtain ⟨k, hk, rfl, hall⟩ := hrel
    have HA : Hid ((s.data.toList.take k).all okB = true) := hall
    clear hall
    by_cases hlt : k < s.size
    · have k0 : (0 : Int) ≤ (k : Int) := by omega
      have k1 : (k : Int) < (s.size : Int) := by omega
      have k2 : (k : Int) ≤ 16 := by omega
      have HI := okB_iff s[k]
      have HS := all_step s k hlt HA.out
      have hbx : (s[k].toNat : Int) < 256 := by have := s[k].toNat_lt; omega
      have hb0 : (0 : Int) ≤ (s[k].toNat : Int) := by omega
      by_cases hok : okB s[k] = true
      · have HT : Hid ((s.data.toList.take (k + 1)).all okB = true) := by rw [HS]; exact hok
        rcases HI.1 hok with h46 | ⟨h97, h122⟩
        · have t1 : ((s[k].toNat : Int) != 46) = false := by simp; omega
          clear HI HS hok h46
          go_wp2
          go_round
          case rel => exact ⟨k + 1, by omega, by go_num, HT.out⟩
          case measure => simp [intOf]; omega
        · have t1 : ((s[k].toNat : Int) != 46) = true := by simp; omega
          have t2 : ¬ ((s[k].toNat : Int) < 97) := by omega
          have t3 : ¬ (122 < (s[k].toNat : Int)) := by omega
          clear HI HS hok
          go_wp2
          go_round
          case rel => exact ⟨k + 1, by omega, by go_num, HT.out⟩
          case measure => simp [intOf]; omega
      · have hno : okB s[k] = false := by simpa using hok
        have hz : z = false := EZ.out.symm.trans (all_no s k hlt hno)
        subst hz
        clear EZ
        have hne : ¬ ((s[k].toNat : Int) = 46) := fun h => hok (HI.2 (Or.inl h))
        have t1 : ((s[k].toNat : Int) != 46) = true := by simp; omega
        by_cases t2 : (s[k].toNat : Int) < 97
        · clear HI HS hok hno hne
          go_wp2
          go_ret
          exact ⟨rfl, rfl⟩
        · have t3 : 122 < (s[k].toNat : Int) := by
            by_cases t : 122 < (s[k].toNat : Int)
            · exact t
            · exact absurd (HI.2 (Or.inr ⟨by omega, by omega⟩)) hok
          clear HI HS hok hno hne
          go_wp2
          go_ret
          exact ⟨rfl, rfl⟩
    · have k1 : ¬ (k : Int) < (s.size : Int) := by omega
      have hz : z = true := EZ.out.symm.trans (all_end s k hlt HA.out)
      subst hz
      clear EZ
      go_wp2
      go_ret
      exact ⟨rfl, rfl⟩
theorem nameB_all (s : ByteArray) (h : s.data.toList.all okB = true) : nameB s = (decide (1 ≤ s.size) && decide (s.size ≤ 16)) := by
  unfold nameB
  rw [h, Bool.and_true]
theorem nameB_no (s : ByteArray) (h : s.data.toList.all okB = false) : nameB s = false := by
  unfold nameB
  rw [h, Bool.and_false]
theorem empty_of_size (s : ByteArray) (h : s.size = 0) : s = ⟨#[]⟩ := bytes_ext (by
  have : s.data.toList.length = 0 := by simpa using h
  rw [List.length_eq_zero_iff] at this
  rw [this])
end Go.Proofs.YtbhmmcelndmijaaGreat
namespace Go.Proofs.YtbhmmcelndmijaaGreat
open Go.RowKit Go.Maps
section
variable {ops : Array Oper} {rest : List Oper} {o : Oper} {a : Act} {Q : Exit → Act → World → Prop} {w : World}
theorem lookup_file (g : Nat) (l : FS) (n : ByteArray) (hown : OwnsF w g l) (hn : n.size ≤ maxLen) (m x : Operand) (hg : o.guard = none) (hop : o.op = Op.lookup 92 m x true) (hm : a.eval m = .map (some g)) (hx : a.eval x = .string n)
    (hK : wpList Tryz.prog ops Q rest (a.put o.dst (.tuple #[.agg #[.string ((getF l n).getD ⟨#[]⟩)], .bool (getF l n).isSome])) w) : wpList Tryz.prog ops Q (o :: rest) a w :=
  wpList_lookup_own_ok w hg m x 92 hop 9 123 law9 Tryz.underlying92 fileElem (zero84 w) (.lit (keyL ⟨#[]⟩)) [] (fileElem_mk (Nat.zero_le _)) g l.length (datum l) hm hown (.string n) (keyL n) hx (key_ok hn) (fun v ps hv => by
    obtain ⟨s, rfl, hs⟩ := fileElem_inv hv
    have h1 := congrArg Prod.fst hs
    rw [datum_at] at h1
    rw [datum_has, ← lit_inj h1]
    exact hK)
theorem lookup_none (n : ByteArray) (hn : n.size ≤ maxLen) (m x : Operand) (hg : o.guard = none) (hop : o.op = Op.lookup 92 m x true) (hm : a.eval m = .map none) (hx : a.eval x = .string n)
    (hK : wpList Tryz.prog ops Q rest (a.put o.dst (.tuple #[.agg #[.string ⟨#[]⟩], .bool false])) w) : wpList Tryz.prog ops Q (o :: rest) a w := by
  refine wpList_plain hg fun K' hK' => ?_
  have hrun := Maps.look_nil (w := w) true law9 Tryz.underlying92 (zero84 w) (key_ok hn)
  unfold Oper.wp
  simp [execOp, hop, hm, hx, hrun, Result.andThen]
  exact hK' _ _ hK
theorem store_file (g : Nat) (l : FS) (n s : ByteArray) (hown : OwnsF w g l) (hn : n.size ≤ maxLen) (hs : s.size ≤ maxLen) (hl : l.length < maxLen) (m x v : Operand) (hg : o.guard = none) (hop : o.op = Op.mapUpdate 92 m x v) (hm : a.eval m = .map (some g)) (hx : a.eval x = .string n) (hv : a.eval v = .agg #[.string s])
    (hK : ∀ w', OwnsF w' g (putF l n s) → w.grownBy w' (some g) → wpList Tryz.prog ops Q rest (a.put o.dst undef) w') : wpList Tryz.prog ops Q (o :: rest) a w :=
  wpList_mapUpdate_in w hg m x v 92 hop 9 123 law9 Tryz.underlying92 fileElem g l.length (datum l) hm hown hl (.string n) (.agg #[.string s]) (keyL n) hx hv (key_ok hn) (.lit (keyL s)) [] (fileElem_mk hs) (fun w' h1 h2 => by
    rw [datum_put] at h1
    exact hK w' (owns_tight h1) h2.grown)
theorem delete_file (g : Nat) (l : FS) (n : ByteArray) (hown : OwnsF w g l) (hn : n.size ≤ maxLen) (m x : Operand) (hg : o.guard = none) (hop : o.op = Op.call { callee := Callee.builtin Builtin.delete, args := #[m, x], argTypes := #[92, 9] }) (hm : a.eval m = .map (some g)) (hx : a.eval x = .string n)
    (hK : ∀ w', OwnsF w' g (delF l n) → w.grownBy w' (some g) → wpList Tryz.prog ops Q rest (a.put o.dst (.tuple #[])) w') : wpList Tryz.prog ops Q (o :: rest) a w :=
  wpList_delete_own w hg m x 92 9 hop 123 law9 Tryz.underlying92 fileElem g l.length (datum l) hm hown (.string n) (keyL n) hx (key_ok hn) (fun w' h1 h2 => by
    rw [datum_del] at h1
    exact hK w' (owns_tight h1) h2.grown)
end
theorem grown_map {w w1 w2 : World} {g : Nat} (h1 : w.grownBy w1 none) (h2 : w1.grownBy w2 (some g)) : w.grownBy w2 (some g) :=
  ⟨h2.os.trans h1.os, h2.tape.trans h1.tape, h2.output.trans h1.output, Nat.le_trans h1.size h2.size, fun i hi hn => (h2.block i (Nat.lt_of_lt_of_le hi h1.size) hn).trans (h1.block i hi (by simp))⟩
theorem delF_none (l : FS) (n : ByteArray) (h : getF l n = none) : delF l n = l := by
  unfold getF at h
  rw [Option.map_eq_none_iff, List.find?_eq_none] at h
  unfold delF
  rw [List.filter_eq_self]
  intro p hp
  simpa using h p hp
set_option maxRecDepth 100000 in
set_option maxHeartbeats 1000000 in
theorem do_append (g : Nat) (l : FS) (n s t : ByteArray) (z : Int) (w : World) (hown : OwnsF w g l) (hl : Fits l 1000000) (hn : n.size ≤ maxLen) (hs : s.size ≤ 1000000) :
    Calls Tryz.prog 86 #[.map (some g), .agg #[.int .i64 0, .string n, .string s, .string t, .int .i64 z]] w fun e w' => e = .returned (.tuple #[]) ∧ OwnsF w' g (putF l n ((getF l n).getD ⟨#[]⟩ ++ s)) ∧ w.grownBy w' (some g) := by
  have hz := get_size hl n
  have hlt := hown.lt
  have hlen := hl.1
  generalize ho : (getF l n).getD ⟨#[]⟩ = old at *
  have HO : Hid ((getF l n).getD ⟨#[]⟩ = old) := ho
  generalize hb : (getF l n).isSome = there at *
  have HB : Hid ((getF l n).isSome = there) := hb
  clear ho hb
  have H : Hid (OwnsF w g l) := hown
  clear hown
  have i1 : (old.size : Int) ≤ 1000000 := by omega
  have i2 : (s.size : Int) ≤ 1000000 := by omega
  have hos : (old ++ s).size ≤ maxLen := by rw [ByteArray.size_append]; unfold maxLen; omega
  have HS : Hid ((old ++ s).size ≤ maxLen) := hos
  have HN : Hid (n.size ≤ maxLen) := hn
  clear hos hn hz hl hs
  go_enter Tryz.func86, Tryz.ntmps86
  go_wp2_with (first | (at_lookup; refine lookup_file g l n (H.out.alloc _) HN.out _ _ rfl rfl rfl rfl ?_; rw [HO.out, HB.out]) | (at_mapUpdate; refine store_file g l n (old ++ s) ((H.out.alloc _).alloc _) HN.out HS.out (by unfold maxLen; omega) _ _ _ rfl rfl rfl rfl rfl ?_; intro w' ho' hg'; have R1 : Hid (OwnsF w' g (putF l n (old ++ s))) := ho'; have R2 : Hid (w.grownBy w' (some g)) := grown_map (grown_alloc (grown_alloc (grown_refl _ _) _) _) hg'; clear ho' hg'))
  exact bodyPost_end (results_none rfl _ _ _) rfl ⟨rfl, R1.out, R2.out⟩
set_option maxRecDepth 100000 in
set_option maxHeartbeats 1000000 in
theorem do_write (g : Nat) (l : FS) (n s t : ByteArray) (z : Int) (w : World) (hown : OwnsF w g l) (hl : Fits l 1000000) (hn : n.size ≤ maxLen) (hs : s.size ≤ 1000000) :
    Calls Tryz.prog 86 #[.map (some g), .agg #[.int .i64 1, .string n, .string s, .string t, .int .i64 z]] w fun e w' => e = .returned (.tuple #[]) ∧ OwnsF w' g (putF l n s) ∧ w.grownBy w' (some g) := by
  have hlt := hown.lt
  have hlen := hl.1
  have H : Hid (OwnsF w g l) := hown
  have HS : Hid (s.size ≤ maxLen) := (by show s.size ≤ maxLen; unfold maxLen; omega)
  have HN : Hid (n.size ≤ maxLen) := hn
  clear hn hl hs hown
  go_enter Tryz.func86, Tryz.ntmps86
  go_wp2_with (first | (at_lookup; refine lookup_file g l n (H.out.alloc _) HN.out _ _ rfl rfl rfl rfl ?_; generalize (getF l n).getD ⟨#[]⟩ = old; generalize (getF l n).isSome = there) | (at_mapUpdate; refine store_file g l n s ((H.out.alloc _).alloc _) HN.out HS.out (by unfold maxLen; omega) _ _ _ rfl rfl rfl rfl rfl ?_; intro w' ho' hg'; have R1 : Hid (OwnsF w' g (putF l n s)) := ho'; have R2 : Hid (w.grownBy w' (some g)) := grown_map (grown_alloc (grown_alloc (grown_refl _ _) _) _) hg'; clear ho' hg'))
  exact bodyPost_end (results_none rfl _ _ _) rfl ⟨rfl, R1.out, R2.out⟩
/-- A change of a kind above 1 of a file that is not there. -/
theorem do_none (g : Nat) (l : FS) (k : Nat) (n s t : ByteArray) (z : Int) (w : World) (hown : OwnsF w g l) (hn : n.size ≤ maxLen) (hk : k = 2 ∨ k = 4) (hf : getF l n = none) :
    Calls Tryz.prog 86 #[.map (some g), .agg #[.int .i64 k, .string n, .string s, .string t, .int .i64 z]] w fun e w' => e = .returned (.tuple #[]) ∧ OwnsF w' g l ∧ w.grownBy w' (some g) := by
  have H : Hid (OwnsF w g l) := hown
  have HN : Hid (n.size ≤ maxLen) := hn
  have HO : Hid ((getF l n).getD ⟨#[]⟩ = ⟨#[]⟩) := (by show (getF l n).getD ⟨#[]⟩ = ⟨#[]⟩; rw [hf]; rfl)
  have HB : Hid ((getF l n).isSome = false) := (by show (getF l n).isSome = false; rw [hf]; rfl)
  clear hn hown hf
  rcases hk with rfl | rfl
  all_goals (
    go_enter Tryz.func86, Tryz.ntmps86
    go_wp2_with (at_lookup; refine lookup_file g l n (H.out.alloc _) HN.out _ _ rfl rfl rfl rfl ?_; rw [HO.out, HB.out])
    exact bodyPost_end (results_none rfl _ _ _) rfl ⟨rfl, (H.out.alloc _).alloc _, grown_alloc (grown_alloc (grown_refl _ _) _) _⟩)
set_option maxRecDepth 100000 in
set_option maxHeartbeats 1000000 in
theorem do_remove (g : Nat) (l : FS) (n s t : ByteArray) (z : Int) (w : World) (hown : OwnsF w g l) (hn : n.size ≤ maxLen) :
    Calls Tryz.prog 86 #[.map (some g), .agg #[.int .i64 3, .string n, .string s, .string t, .int .i64 z]] w fun e w' => e = .returned (.tuple #[]) ∧ OwnsF w' g (delF l n) ∧ w.grownBy w' (some g) := by
  have H : Hid (OwnsF w g l) := hown
  have HN : Hid (n.size ≤ maxLen) := hn
  clear hn hown
  go_enter Tryz.func86, Tryz.ntmps86
  go_wp2_with (first | (at_lookup; refine lookup_file g l n (H.out.alloc _) HN.out _ _ rfl rfl rfl rfl ?_; generalize (getF l n).getD ⟨#[]⟩ = old; generalize (getF l n).isSome = there) | (at_delete; refine delete_file g l n ((H.out.alloc _).alloc _) HN.out _ _ rfl rfl rfl rfl ?_; intro w' ho' hg'; have R1 : Hid (OwnsF w' g (delF l n)) := ho'; have R2 : Hid (w.grownBy w' (some g)) := grown_map (grown_alloc (grown_alloc (grown_refl _ _) _) _) hg'; clear ho' hg'))
  exact bodyPost_end (results_none rfl _ _ _) rfl ⟨rfl, R1.out, R2.out⟩
set_option maxRecDepth 100000 in
set_option maxHeartbeats 1000000 in
theorem do_move (g : Nat) (l : FS) (n s t old : ByteArray) (z : Int) (w : World) (hown : OwnsF w g l) (hl : Fits l 1000000) (hn : n.size ≤ maxLen) (ht : t.size ≤ maxLen) (hf : getF l n = some old) :
    Calls Tryz.prog 86 #[.map (some g), .agg #[.int .i64 2, .string n, .string s, .string t, .int .i64 z]] w fun e w' => e = .returned (.tuple #[]) ∧ OwnsF w' g (putF (delF l n) t old) ∧ w.grownBy w' (some g) := by
  have hlt := hown.lt
  have hz := get_size hl n
  rw [hf] at hz
  have hz' : old.size ≤ 1000000 := hz
  have hlen := (fits_del hl n).1
  have H : Hid (OwnsF w g l) := hown
  have HN : Hid (n.size ≤ maxLen) := hn
  have HT : Hid (t.size ≤ maxLen) := ht
  have HS : Hid (old.size ≤ maxLen) := (by show old.size ≤ maxLen; unfold maxLen; omega)
  have HO : Hid ((getF l n).getD ⟨#[]⟩ = old) := (by show (getF l n).getD ⟨#[]⟩ = old; rw [hf]; rfl)
  have HB : Hid ((getF l n).isSome = true) := (by show (getF l n).isSome = true; rw [hf]; rfl)
  clear hn ht hown hf hz hz' hl
  have n1 : some w.heap.size ≠ some g := fun e => by have := Option.some.inj e; omega
  have n2 : some (w.heap.size + 1) ≠ some g := fun e => by have := Option.some.inj e; omega
  go_enter Tryz.func86, Tryz.ntmps86
  go_wp2_with (first | (at_lookup; refine lookup_file g l n (H.out.alloc _) HN.out _ _ rfl rfl rfl rfl ?_; rw [HO.out, HB.out]) | (at_delete; refine delete_file g l n ((H.out.alloc _).alloc _) HN.out _ _ rfl rfl rfl rfl ?_; intro w1 ho1 hg1; have R1 : Hid (OwnsF w1 g (delF l n)) := ho1; have R2 : Hid (w.grownBy w1 (some g)) := grown_map (grown_alloc (grown_alloc (grown_refl _ _) _) _) hg1; have b1 := ((Blk.new w 120 _).alloc (.cells #[.string old] 123)).kept hg1 n1; have b2 := (Blk.new (w.alloc (.cells #[.int .i64 2, .string n, .string s, .string t, .int .i64 z] 120)) 123 #[.string old]).kept hg1 (by simpa using n2); have c1 := b1.cell 3; have c2 := b2.cell 0; rw [World.size_alloc] at c2; simp at c1 c2; clear ho1 hg1 b1 b2) | (at_mapUpdate; refine store_file g (delF l n) t old R1.out HT.out HS.out (by unfold maxLen; omega) _ _ _ rfl rfl rfl rfl rfl ?_; intro w' ho' hg'; have R3 : Hid (OwnsF w' g (putF (delF l n) t old)) := ho'; have R4 : Hid (w.grownBy w' (some g)) := grown_trans R2.out hg'; clear ho' hg'))
  exact bodyPost_end (results_none rfl _ _ _) rfl ⟨rfl, R3.out, R4.out⟩
end Go.Proofs.YtbhmmcelndmijaaGreat
namespace Go.Proofs.YtbhmmcelndmijaaGreat
open Go.RowKit Go.Maps
set_option maxRecDepth 100000 in
theorem growth_any (b : Nat) (n : Int) (w : World) (h6 : w.cell? ⟨b, 6, none⟩ = some (.bool false)) : Calls Tryz.prog 106 #[.pointer (some ⟨b, 0, none⟩), .int .i64 n] w fun e w' => e = .returned (.int .i64 0) ∧ ∃ k, w' = w.drewN k := by
  by_cases hn : 0 < n
  · have hd : decide (0 < n) = true := by simpa using hn
    go_enter Tryz.func106, Tryz.ntmps106
    go_wp2_with fail
    go_quiet (fail)
    go_wp2_with fail
    go_ret
    exact ⟨rfl, _, rfl⟩
  · have hd : decide (0 < n) = false := by simpa using hn
    go_enter Tryz.func106, Tryz.ntmps106
    go_wp2_with fail
    go_quiet (fail)
    go_wp2_with fail
    go_ret
    exact ⟨rfl, _, rfl⟩
set_option maxRecDepth 100000 in
theorem index_none (f : Value) (w : World) : Calls Tryz.prog 107 #[.slice none 0 0, f] w fun e w' => e = .returned (.int .i64 (-1)) ∧ w' = w := by
  go_enter Tryz.func107, Tryz.ntmps107
  go_wp2
  refine wp_loop_rounds 1 ?_
  rw [rounds_succ]
  go_wp2
  go_ret
  exact ⟨rfl, rfl⟩
set_option maxRecDepth 100000 in
theorem nextFall_any (b : Nat) (w : World) (h4 : w.cell? ⟨b, 4, none⟩ = some (.slice none 0 0)) : Calls Tryz.prog 83 #[.pointer (some ⟨b, 0, none⟩)] w fun e w' => e = .returned (.int .i64 (-1)) ∧ w.grownBy w' none := by
  have hb : b < w.heap.size := World.block_lt_of_cell? _ _ h4
  go_enter Tryz.func83, Tryz.ntmps83
  go_wp2_with (go_at_call 107; refine (index_none _ _).mono ?_; rintro e w' ⟨rfl, hw⟩; have hw2 := hw.symm; clear hw; subst hw2)
  go_ret
  exact ⟨rfl, grown_alloc (grown_refl _ _) _⟩
end Go.Proofs.YtbhmmcelndmijaaGreat
namespace Go.Proofs.YtbhmmcelndmijaaGreat
open Go.RowKit Go.Maps
theorem grown_drewN {w w' : World} {row : Option Nat} (h : w.grownBy w' row) (n : Nat) : w.grownBy (w'.drewN n) row := ⟨h.os, h.tape, h.output, h.size, h.block⟩
theorem MapV.alloc {w : World} {base : Nat} {v : Value} {l : FS} (h : MapV w base v l) (o : Obj) : MapV (w.alloc o) base v l := h.kept (grown_alloc (grown_refl _ none) _) (fun _ _ => by simp)
theorem run_lookup {w : World} {base : Nat} {v : Value} {l : FS} (h : MapV w base v l) (n : ByteArray) (hn : n.size ≤ maxLen) :
    (Instr.lookup 92 v (.string n) true).run Tryz.prog w = .ok (.tuple #[.agg #[.string ((getF l n).getD ⟨#[]⟩)], .bool (getF l n).isSome]) w := by
  rcases h with ⟨rfl, rfl⟩ | ⟨g, rfl, _, ho⟩
  · exact Maps.look_nil (w := w) true law9 Tryz.underlying92 (zero84 w) (key_ok hn)
  · obtain ⟨v, ps, h1, h2⟩ := World.ownsMap.look_ok ho law9 Tryz.underlying92 (zero84 w) (fileElem_mk (Nat.zero_le _)) (key_ok hn)
    obtain ⟨s, rfl, hs⟩ := fileElem_inv h2
    have h3 := congrArg Prod.fst hs
    rw [show (⟨#[]⟩ : ByteArray) = ⟨#[]⟩ from rfl, datum_at] at h3
    rw [datum_has, ← lit_inj h3] at h1
    exact h1
set_option maxRecDepth 100000 in
set_option maxHeartbeats 1000000 in
/-- An Append or a Write whose name may be. -/
theorem refusal_put (base b : Nat) (k z : Int) (vn vs vl : Value) (u c : Nat) (l : FS) (a s t : ByteArray) (w : World) (hk : k = 0 ∨ k = 1) (hB : Blk w b 96 (rowD vn vs vl u c false))
    (hm : MapV w base vn l) (hl : Fits l 1000000) (ha : nameB a = true) (ham : a.size ≤ maxLen) (hs : s.size ≤ 1000000) :
    Calls Tryz.prog 82 #[.pointer (some ⟨b, 0, none⟩), .agg #[.int .i64 k, .string a, .string s, .string t, .int .i64 z]] w fun e w' => e = .returned (.int .i64 0) ∧ w.grownBy w' none := by
  have hb : b < w.heap.size := hB.lt
  have HB : Hid (Blk (w.alloc (.cells #[.int .i64 k, .string a, .string s, .string t, .int .i64 z] 120)) b 96 (rowD vn vs vl u c false)) := hB.alloc _
  have hlk := run_lookup (w := (w.alloc (.cells #[.int .i64 k, .string a, .string s, .string t, .int .i64 z] 120)).drew) (base := base) (v := vn) (l := l) (hm.alloc _) a ham
  have hlk2 := run_lookup (w := ((w.alloc (.cells #[.int .i64 k, .string a, .string s, .string t, .int .i64 z] 120)).alloc (.cells #[.string ⟨#[]⟩] 123)).drew) (base := base) (v := vn) (l := l) ((hm.alloc _).alloc _) a ham
  have HC : Hid (Blk (w.alloc (.cells #[.int .i64 k, .string a, .string s, .string t, .int .i64 z] 120)) w.heap.size 120 #[.int .i64 k, .string a, .string s, .string t, .int .i64 z]) := Blk.new _ _ _
  have HG : Hid (w.grownBy (w.alloc (.cells #[.int .i64 k, .string a, .string s, .string t, .int .i64 z] 120)) none) := grown_alloc (grown_refl _ _) _
  have hz := get_size hl a
  generalize (getF l a).getD ⟨#[]⟩ = old at *
  generalize (getF l a).isSome = there at *
  have CN : Hid (∀ w, Calls Tryz.prog 60 #[.string a] w fun e w' => e = .returned (.bool true) ∧ w' = w) := fun w => by rw [← ha]; exact name_any a w ham
  have i1 : (s.size : Int) ≤ 1000000 := by omega
  have i2 : (old.size : Int) ≤ 1000000 := by omega
  clear hm hl ha ham hs hz hB
  rcases hk with rfl | rfl
  · go_enter Tryz.func82, Tryz.ntmps82
    go_wp2_with (first | (go_at_call 59; refine (dead_any b false _ HB.out.d8).mono ?_; rintro e w' ⟨rfl, hw⟩; have hw2 := hw.symm; clear hw; subst hw2) | (go_at_call 60; refine (CN.out _).mono ?_; rintro e w' ⟨rfl, hw⟩; have hw2 := hw.symm; clear hw; subst hw2))
    have hbq : b < w.heap.size := hb
    have c0 := HB.out.d0
    have q1 : (w.alloc (.cells #[.int .i64 0, .string a, .string s, .string t, .int .i64 z] 120)).cell? ⟨w.heap.size, 1, none⟩ = some (.string a) := by rw [HC.out.cell]; rfl
    have q0 : (w.alloc (.cells #[.int .i64 0, .string a, .string s, .string t, .int .i64 z] 120)).cell? ⟨w.heap.size, 0, none⟩ = some (.int .i64 0) := by rw [HC.out.cell]; rfl
    have q2 : (w.alloc (.cells #[.int .i64 0, .string a, .string s, .string t, .int .i64 z] 120)).cell? ⟨w.heap.size, 2, none⟩ = some (.string s) := by rw [HC.out.cell]; rfl
    have hqs : w.heap.size < (w.alloc (.cells #[.int .i64 0, .string a, .string s, .string t, .int .i64 z] 120)).heap.size := by simp
    generalize w.alloc (.cells #[.int .i64 0, .string a, .string s, .string t, .int .i64 z] 120) = w1 at *
    generalize w.heap.size = q at *
    have hb1 : b < w1.heap.size := by omega
    go_region
    all_goals (
      go_wp2_with (go_at_call 106; refine (growth_any b _ _ (HB.out.drew.alloc _).d6).mono ?_; rintro e w' ⟨rfl, hw⟩)
      go_ret
      obtain ⟨kk, rfl⟩ := hw
      exact ⟨rfl, grown_drewN (grown_alloc (grown_drew HG.out) _) _⟩)
  · go_enter Tryz.func82, Tryz.ntmps82
    go_wp2_with (first | (go_at_call 59; refine (dead_any b false _ HB.out.d8).mono ?_; rintro e w' ⟨rfl, hw⟩; have hw2 := hw.symm; clear hw; subst hw2) | (go_at_call 60; refine (CN.out _).mono ?_; rintro e w' ⟨rfl, hw⟩; have hw2 := hw.symm; clear hw; subst hw2))
    have hbq : b < w.heap.size := hb
    have c0 := HB.out.d0
    have q1 : (w.alloc (.cells #[.int .i64 1, .string a, .string s, .string t, .int .i64 z] 120)).cell? ⟨w.heap.size, 1, none⟩ = some (.string a) := by rw [HC.out.cell]; rfl
    have q0 : (w.alloc (.cells #[.int .i64 1, .string a, .string s, .string t, .int .i64 z] 120)).cell? ⟨w.heap.size, 0, none⟩ = some (.int .i64 1) := by rw [HC.out.cell]; rfl
    have q2 : (w.alloc (.cells #[.int .i64 1, .string a, .string s, .string t, .int .i64 z] 120)).cell? ⟨w.heap.size, 2, none⟩ = some (.string s) := by rw [HC.out.cell]; rfl
    have hqs : w.heap.size < (w.alloc (.cells #[.int .i64 1, .string a, .string s, .string t, .int .i64 z] 120)).heap.size := by simp
    generalize w.alloc (.cells #[.int .i64 1, .string a, .string s, .string t, .int .i64 z] 120) = w1 at *
    generalize w.heap.size = q at *
    have hb1 : b < w1.heap.size := by omega
    go_region
    all_goals (
      go_wp2_with (go_at_call 106; refine (growth_any b _ _ (HB.out.drew.alloc _).d6).mono ?_; rintro e w' ⟨rfl, hw⟩)
      go_ret
      obtain ⟨kk, rfl⟩ := hw
      exact ⟨rfl, grown_drewN (grown_alloc (grown_drew HG.out) _) _⟩)
end Go.Proofs.YtbhmmcelndmijaaGreat
