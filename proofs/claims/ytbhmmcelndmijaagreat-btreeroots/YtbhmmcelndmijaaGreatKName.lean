/-
  Files as lists of a name and its bytes, and the map of package disk that holds them. Changes as the program keeps them. A disk of the program, in memory: what it holds; and the contracts of New, Dead, Up, Name. Which texts may be names: the program's and the document's.
-/
import Derived.Test.YtbhmmcelndmijaaGreatMem
import Derived.Test.YtbhmmcelndmijaaGreatProg
import Derived.Maps.OwnSet
import Derived.Maps.RangeWalk
import Derived.Maps.Ext
namespace Go.Proofs.YtbhmmcelndmijaaGreat
open Go.RowKit Go.Maps
/-- A change, as the program keeps it. -/
structure Chg where
  kind : Nat
  name : ByteArray
  bytes : ByteArray
  to : ByteArray
  n : Int
def Chg.cells (c : Chg) : List Value := [.int .i64 c.kind, .string c.name, .string c.bytes, .string c.to, .int .i64 c.n]
def Chg.val (c : Chg) : Value := .agg #[.int .i64 c.kind, .string c.name, .string c.bytes, .string c.to, .int .i64 c.n]
abbrev FS := List (ByteArray × ByteArray)
def keyL (s : ByteArray) : Lit := .string s.data.toList
def entryL (p : ByteArray × ByteArray) : Lit × DataW Unit := (keyL p.1, .lit (keyL p.2))
def datum (l : FS) : DataW Unit := .map (l.map entryL)
def sameB (a b : ByteArray) : Bool := a.data.toList == b.data.toList
def getF (l : FS) (n : ByteArray) : Option ByteArray := (l.find? fun p => sameB p.1 n).map (·.2)
def insF (x : ByteArray × ByteArray) : FS → FS
  | [] => [x]
  | y :: r => if (keyL x.1).before (keyL y.1) then x :: y :: r else y :: insF x r
def delF (l : FS) (n : ByteArray) : FS := l.filter fun p => !sameB p.1 n
def putF (l : FS) (n s : ByteArray) : FS := insF (n, s) (delF l n)
/-- What a change does to files. -/
def doF (l : FS) (c : Chg) : FS :=
  if c.kind = 0 then putF l c.name ((getF l c.name).getD ⟨#[]⟩ ++ c.bytes)
  else if c.kind = 1 then putF l c.name c.bytes
  else match getF l c.name with
    | none => l
    | some s => if c.kind = 2 then putF (delF l c.name) c.to s else if c.kind = 3 then delF l c.name else putF l c.name (s.extract 0 (min c.n.toNat s.size))
theorem sameKey_key (a b : ByteArray) : (keyL a).sameKey (keyL b) = sameB a b := rfl
theorem bytes_ext {a b : ByteArray} (h : a.data.toList = b.data.toList) : a = b := by
  cases a with | mk x => cases b with | mk y => exact congrArg ByteArray.mk (Array.toList_inj.1 h)
theorem sameB_iff (a b : ByteArray) : sameB a b = true ↔ a = b := by
  unfold sameB
  rw [beq_iff_eq]
  exact ⟨bytes_ext, fun h => by rw [h]⟩
theorem map_insF (x : ByteArray × ByteArray) : ∀ l : FS, (insF x l).map entryL = DataW.insert (entryL x) (l.map entryL)
  | [] => rfl
  | y :: r => by
    show List.map entryL (if (keyL x.1).before (keyL y.1) then x :: y :: r else y :: insF x r) = if (entryL x).1.before (entryL y).1 then entryL x :: entryL y :: r.map entryL else entryL y :: DataW.insert (entryL x) (r.map entryL)
    rw [show (entryL x).1.before (entryL y).1 = (keyL x.1).before (keyL y.1) from rfl]
    split
    · rfl
    · rw [List.map_cons, map_insF x r]
theorem map_delF (l : FS) (n : ByteArray) : (delF l n).map entryL = (l.map entryL).filter fun p => !p.1.sameKey (keyL n) := by
  unfold delF
  induction l with
  | nil => rfl
  | cons y r ih =>
    rw [List.map_cons, List.filter_cons, List.filter_cons, show (entryL y).1.sameKey (keyL n) = sameB y.1 n from rfl]
    split
    · rw [List.map_cons, ih]
    · exact ih
theorem datum_put (l : FS) (n s : ByteArray) : (datum l).put (keyL n) (.lit (keyL s)) = datum (putF l n s) := by
  unfold datum DataW.put putF
  rw [map_insF, map_delF]
  rfl
theorem datum_del (l : FS) (n : ByteArray) : (datum l).del (keyL n) = datum (delF l n) := by
  unfold datum DataW.del
  rw [map_delF]
theorem find_entry (l : FS) (n : ByteArray) : (l.map entryL).find? (fun p => p.1.sameKey (keyL n)) = (l.find? fun p => sameB p.1 n).map entryL := by
  induction l with
  | nil => rfl
  | cons y r ih =>
    rw [List.map_cons, List.find?_cons, List.find?_cons, show (entryL y).1.sameKey (keyL n) = sameB y.1 n from rfl]
    cases sameB y.1 n with
    | true => rfl
    | false => exact ih
theorem datum_has (l : FS) (n : ByteArray) : Maps.has (datum l) (keyL n) = (getF l n).isSome := by
  unfold datum getF
  rw [Maps.has_eq, Option.isSome_map]
  induction l with
  | nil => rfl
  | cons y r ih =>
    rw [List.map_cons, List.any_cons, List.find?_cons, show (entryL y).1.sameKey (keyL n) = sameB y.1 n from rfl]
    cases sameB y.1 n with
    | true => rfl
    | false => exact ih
theorem datum_at (l : FS) (n : ByteArray) : (datum l).atKey (keyL n) (.lit (keyL ⟨#[]⟩)) = .lit (keyL ((getF l n).getD ⟨#[]⟩)) := by
  unfold datum DataW.atKey getF
  simp only [find_entry]
  cases l.find? (fun p => sameB p.1 n) <;> rfl
theorem datum_size (l : FS) : Maps.size (datum l) = l.length := by
  unfold datum
  rw [Maps.size_eq, List.length_map]
/-- How an element of that map reads. -/
def fileElem : Value → Option (DataW Unit × List MemPlace)
  | .agg cs => match cs.toList with
    | [.string s] => if s.size ≤ maxLen then some (.lit (keyL s), []) else none
    | _ => none
  | _ => none
theorem fileElem_mk {s : ByteArray} (h : s.size ≤ maxLen) : fileElem (.agg #[.string s]) = some (.lit (keyL s), []) := by
  unfold fileElem
  simp [h]
theorem fileElem_inv {v : Value} {z : DataW Unit × List MemPlace} (h : fileElem v = some z) : ∃ s, v = .agg #[.string s] ∧ z = (.lit (keyL s), []) := by
  unfold fileElem at h
  split at h
  · rename_i cs
    split at h
    · rename_i s hs
      split at h
      · cases h
        exact ⟨s, by rw [show cs = #[.string s] from by rw [← Array.toList_inj, hs]], rfl⟩
      · cases h
    · cases h
  · cases h
theorem lit_inj {a b : ByteArray} (h : (DataW.lit (keyL a) : DataW Unit) = .lit (keyL b)) : a = b := by
  injection h with h1
  injection h1 with h2
  exact bytes_ext h2
theorem law9 : Keyed Tryz.prog 9 := string_keyed Tryz.underlying9
theorem zero84 (w : World) : (zeroValue 123).run Tryz.prog w = .ok (.agg #[.string ⟨#[]⟩]) w := by kernel_rfl
theorem key_ok {s : ByteArray} (h : s.size ≤ maxLen) : keyOf Tryz.prog 9 (.string s) = some (keyL s) := Go.WideMaps.keyOf_string_mk Tryz.underlying9 h
/-- Block g is a map that holds just these files. -/
def OwnsF (w : World) (g : Nat) (l : FS) : Prop := w.ownsMap Tryz.prog 9 fileElem g l.length (datum l)
theorem owns_tight {w : World} {g n : Nat} {l : FS} (h : w.ownsMap Tryz.prog 9 fileElem g n (datum l)) : OwnsF w g l := by
  obtain ⟨es, clock, hb, F, _, hD⟩ := h
  refine ⟨es, clock, hb, F, ?_, hD⟩
  have e : Maps.size (datum l) = es.size := by rw [hD]; simp [Maps.size, length_sorted]
  rw [← datum_size, e]
  exact Nat.le_refl _
theorem OwnsF.lt {w : World} {g : Nat} {l : FS} (h : OwnsF w g l) : g < w.heap.size := World.ownsMap.lt h
theorem OwnsF.kept {w w' : World} {g : Nat} {l : FS} {row : Option Nat} (h : OwnsF w g l) (hg : w.grownBy w' row) (hn : some g ≠ row) : OwnsF w' g l := World.ownsMap.kept h hg hn
theorem OwnsF.alloc {w : World} {g : Nat} {l : FS} (h : OwnsF w g l) (o : Obj) : OwnsF (w.alloc o) g l := World.ownsMap.alloc h o
theorem OwnsF.set {w : World} {g : Nat} {l : FS} (h : OwnsF w g l) {a : Addr} (ha : g ≠ a.block) (u : Value) : OwnsF (w.setCell a u) g l := World.ownsMap.setCell h ha u
theorem OwnsF.isMap {w : World} {g : Nat} {l : FS} (h : OwnsF w g l) : ∃ es clock, w.heap[g]? = some (.map es clock) := by
  obtain ⟨es, clock, hb, _⟩ := h
  exact ⟨es, clock, hb⟩
theorem Blk.ne_map {w : World} {b g : Nat} {t : TypeId} {cs : Array Value} {l : FS} (h : Blk w b t cs) (hg : OwnsF w g l) : b ≠ g := by
  obtain ⟨es, clock, hm⟩ := hg.isMap
  rintro rfl
  have h' : w.heap[b]? = some (.cells cs t (0, 0)) := h
  rw [hm] at h'
  cases h'
/-- Bounds on files: so many, each so long. -/
def Fits (l : FS) (B : Nat) : Prop := l.length ≤ B ∧ (∀ p ∈ l, p.2.size ≤ B) ∧ ∀ p ∈ l, p.1.size ≤ B
theorem Fits.mono {l : FS} {B C : Nat} (h : Fits l B) (hb : B ≤ C) : Fits l C := ⟨Nat.le_trans h.1 hb, fun p hp => Nat.le_trans (h.2.1 p hp) hb, fun p hp => Nat.le_trans (h.2.2 p hp) hb⟩
theorem fits_nil (B : Nat) : Fits [] B := ⟨Nat.zero_le _, (fun p hp => by cases hp), (fun p hp => by cases hp)⟩
theorem mem_insF {x p : ByteArray × ByteArray} : ∀ {l : FS}, p ∈ insF x l → p = x ∨ p ∈ l
  | [], h => by
    rw [show insF x [] = [x] from rfl, List.mem_singleton] at h
    exact Or.inl h
  | y :: r, h => by
    unfold insF at h
    split at h
    · rcases List.mem_cons.1 h with h | h
      · exact Or.inl h
      · exact Or.inr h
    · rcases List.mem_cons.1 h with h | h
      · exact Or.inr (by rw [h]; exact List.mem_cons_self)
      · rcases mem_insF h with h | h
        · exact Or.inl h
        · exact Or.inr (List.mem_cons_of_mem _ h)
theorem length_insF (x : ByteArray × ByteArray) : ∀ l : FS, (insF x l).length = l.length + 1
  | [] => rfl
  | y :: r => by
    unfold insF
    split
    · rfl
    · rw [List.length_cons, length_insF x r, List.length_cons]
theorem fits_del {l : FS} {B : Nat} (h : Fits l B) (n : ByteArray) : Fits (delF l n) B :=
  ⟨Nat.le_trans (List.length_filter_le _ _) h.1, fun p hp => h.2.1 p (List.mem_filter.1 hp).1, fun p hp => h.2.2 p (List.mem_filter.1 hp).1⟩
theorem fits_put {l : FS} {B C : Nat} (h : Fits l B) (n s : ByteArray) (hn : n.size ≤ C) (hs : s.size ≤ C) (hb : B + 1 ≤ C) : Fits (putF l n s) C := by
  have h' := fits_del h n
  refine ⟨?_, fun p hp => ?_, fun p hp => ?_⟩
  · unfold putF
    rw [length_insF]
    have := h'.1
    omega
  · rcases mem_insF hp with rfl | hp
    · exact hs
    · exact Nat.le_trans (h'.2.1 p hp) (by omega)
  · rcases mem_insF hp with rfl | hp
    · exact hn
    · exact Nat.le_trans (h'.2.2 p hp) (by omega)
theorem get_mem {l : FS} {n s : ByteArray} (h : getF l n = some s) : ∃ p ∈ l, p.2 = s ∧ p.1 = n := by
  unfold getF at h
  cases hf : l.find? (fun p => sameB p.1 n) with
  | none => rw [hf] at h; cases h
  | some p =>
    rw [hf] at h
    have hp := List.find?_some hf
    exact ⟨p, List.mem_of_find?_eq_some hf, Option.some.inj h, (sameB_iff _ _).1 hp⟩
theorem get_size {l : FS} {B : Nat} (h : Fits l B) (n : ByteArray) : ((getF l n).getD ⟨#[]⟩).size ≤ B := by
  cases hg : getF l n with
  | none => exact Nat.zero_le _
  | some s =>
    obtain ⟨p, hp, rfl, _⟩ := get_mem hg
    exact h.2.1 p hp
theorem fits_do {l : FS} {B C : Nat} (h : Fits l B) (c : Chg) (hC : c.bytes.size ≤ C) (hn : c.name.size ≤ B + C + 1) (ht : c.to.size ≤ B + C + 1) : Fits (doF l c) (B + C + 1) := by
  have hg := get_size h c.name
  unfold doF
  split
  · exact fits_put h _ _ hn (by rw [ByteArray.size_append]; omega) (by omega)
  · split
    · exact fits_put h _ _ hn (by omega) (by omega)
    · cases he : getF l c.name with
      | none => exact h.mono (by omega)
      | some s =>
        rw [he] at hg
        have hg' : s.size ≤ B := hg
        show Fits (if _ then _ else _) _
        split
        · exact fits_put (fits_del h _) _ _ ht (by omega) (by omega)
        · split
          · exact (fits_del h _).mono (by omega)
          · exact fits_put h _ _ hn (by rw [ByteArray.size_extract]; omega) (by omega)
end Go.Proofs.YtbhmmcelndmijaaGreat
namespace Go.Proofs.YtbhmmcelndmijaaGreat
open Go.RowKit Go.Maps
structure Dk where
  now : FS
  sure : FS
  loose : List Chg
  unsure : Nat
  changes : Nat
  dead : Bool
def MapV (w : World) (base : Nat) (v : Value) (l : FS) : Prop := (v = .map none ∧ l = []) ∨ ∃ g, v = .map (some g) ∧ base ≤ g ∧ OwnsF w g l
def rowD (vn vs vl : Value) (u c : Nat) (dd : Bool) : Array Value := #[vn, vs, vl, .int .i64 u, .slice none 0 0, .int .i64 c, .bool false, .int .i64 0, .bool dd]
def looseL (l : List Chg) : List Value := l.flatMap Chg.cells
/-- Block b is a disk of this state, without a plan, with any room; its maps and its list lie from base on. -/
def IsDisk (w : World) (base b : Nat) (k : Dk) : Prop :=
  base ≤ b ∧ ∃ vn vs vl, Blk w b 96 (rowD vn vs vl k.unsure k.changes k.dead) ∧ MapV w base vn k.now ∧ MapV w base vs k.sure ∧ (∀ g, vn = .map (some g) → vs ≠ .map (some g)) ∧ w.ownsRow base 120 5 vl k.loose.length (looseL k.loose)
theorem MapV.kept {w w' : World} {base : Nat} {v : Value} {l : FS} {row : Option Nat} (h : MapV w base v l) (hg : w.grownBy w' row) (hn : ∀ g, v = .map (some g) → some g ≠ row) : MapV w' base v l := by
  rcases h with h | ⟨g, rfl, hb, ho⟩
  · exact Or.inl h
  · exact Or.inr ⟨g, rfl, hb, ho.kept hg (hn g rfl)⟩
theorem looseL_len (l : List Chg) : (looseL l).length = l.length * 5 := by
  induction l with
  | nil => rfl
  | cons c r ih =>
    unfold looseL at ih ⊢
    rw [List.flatMap_cons, List.length_append, ih, List.length_cons]
    show 5 + _ = _
    omega
theorem Blk.d0 {w : World} {b : Nat} {vn vs vl : Value} {u c : Nat} {dd : Bool} (h : Blk w b 96 (rowD vn vs vl u c dd)) : w.cell? ⟨b, 0, none⟩ = some vn := by rw [h.cell]; rfl
theorem Blk.d1 {w : World} {b : Nat} {vn vs vl : Value} {u c : Nat} {dd : Bool} (h : Blk w b 96 (rowD vn vs vl u c dd)) : w.cell? ⟨b, 1, none⟩ = some vs := by rw [h.cell]; rfl
theorem Blk.d2 {w : World} {b : Nat} {vn vs vl : Value} {u c : Nat} {dd : Bool} (h : Blk w b 96 (rowD vn vs vl u c dd)) : w.cell? ⟨b, 2, none⟩ = some vl := by rw [h.cell]; rfl
theorem Blk.d3 {w : World} {b : Nat} {vn vs vl : Value} {u c : Nat} {dd : Bool} (h : Blk w b 96 (rowD vn vs vl u c dd)) : w.cell? ⟨b, 3, none⟩ = some (.int .i64 u) := by rw [h.cell]; rfl
theorem Blk.d4 {w : World} {b : Nat} {vn vs vl : Value} {u c : Nat} {dd : Bool} (h : Blk w b 96 (rowD vn vs vl u c dd)) : w.cell? ⟨b, 4, none⟩ = some (.slice none 0 0) := by rw [h.cell]; rfl
theorem Blk.d5 {w : World} {b : Nat} {vn vs vl : Value} {u c : Nat} {dd : Bool} (h : Blk w b 96 (rowD vn vs vl u c dd)) : w.cell? ⟨b, 5, none⟩ = some (.int .i64 c) := by rw [h.cell]; rfl
theorem Blk.d6 {w : World} {b : Nat} {vn vs vl : Value} {u c : Nat} {dd : Bool} (h : Blk w b 96 (rowD vn vs vl u c dd)) : w.cell? ⟨b, 6, none⟩ = some (.bool false) := by rw [h.cell]; rfl
theorem Blk.d8 {w : World} {b : Nat} {vn vs vl : Value} {u c : Nat} {dd : Bool} (h : Blk w b 96 (rowD vn vs vl u c dd)) : w.cell? ⟨b, 8, none⟩ = some (.bool dd) := by rw [h.cell]; rfl
theorem IsDisk.lt {w : World} {base b : Nat} {k : Dk} (h : IsDisk w base b k) : b < w.heap.size := by
  obtain ⟨_, _, _, _, hb, _⟩ := h
  exact hb.lt
/-- Nothing of the disk has turned. -/
theorem IsDisk.kept {w w' : World} {base b : Nat} {k : Dk} (h : IsDisk w base b k) (hg : w.grownBy w' none) : IsDisk w' base b k := by
  obtain ⟨h0, vn, vs, vl, hb, hn, hs, hne, hl⟩ := h
  refine ⟨h0, vn, vs, vl, hb.kept hg (by simp), hn.kept hg (by simp), hs.kept hg (by simp), hne, hl.kept hg ?_⟩
  cases vl.ownBlock with
  | none => exact Or.inl rfl
  | some x => exact Or.inr (by simp)
set_option maxRecDepth 100000 in
theorem new_any (w : World) : Calls Tryz.prog 20 #[] w fun e w' => e = .returned (.pointer (some ⟨w.heap.size, 0, none⟩)) ∧ IsDisk w' w.heap.size w.heap.size ⟨[], [], [], 0, 0, false⟩ ∧ w.grownBy w' none := by
  go_enter Tryz.func20, Tryz.ntmps20
  go_wp2
  go_ret
  refine ⟨rfl, ⟨Nat.le_refl _, .map none, .map none, .slice none 0 0, Blk.new _ _ _, Or.inl ⟨rfl, rfl⟩, Or.inl ⟨rfl, rfl⟩, (fun g h => by cases h), ?_⟩, grown_alloc (grown_refl _ _) _⟩
  exact ⟨rfl, Or.inl ⟨rfl, rfl⟩⟩
set_option maxRecDepth 100000 in
theorem dead_any (b : Nat) (dd : Bool) (w : World) (h : w.cell? ⟨b, 8, none⟩ = some (.bool dd)) : Calls Tryz.prog 59 #[.pointer (some ⟨b, 0, none⟩)] w fun e w' => e = .returned (.bool dd) ∧ w' = w := by
  go_enter Tryz.func59, Tryz.ntmps59
  go_wp2
  go_ret
  exact ⟨rfl, rfl⟩
set_option maxRecDepth 100000 in
theorem dead_nil (w : World) : Calls Tryz.prog 59 #[.pointer none] w fun e w' => e = .returned (.bool true) ∧ w' = w := by
  go_enter Tryz.func59, Tryz.ntmps59
  go_wp2
  go_ret
  exact ⟨rfl, rfl⟩
/-- May a byte stand in a name? -/
def okB (c : UInt8) : Bool := c == 46 || (97 ≤ c && c ≤ 122)
def nameB (s : ByteArray) : Bool := (1 ≤ s.size && s.size ≤ 16) && s.data.toList.all okB
end Go.Proofs.YtbhmmcelndmijaaGreat
namespace Go.Proofs.YtbhmmcelndmijaaGreat
open Go.RowKit Go.Maps
theorem okB_iff (c : UInt8) : okB c = true ↔ ((c.toNat : Int) = 46 ∨ (97 ≤ (c.toNat : Int) ∧ (c.toNat : Int) ≤ 122)) := by
  unfold okB
  simp only [Bool.or_eq_true, Bool.and_eq_true, beq_iff_eq, decide_eq_true_eq, UInt8.le_iff_toNat_le, ← UInt8.toNat_inj]
  show _ ↔ _
  rw [show (46 : UInt8).toNat = 46 from rfl, show (97 : UInt8).toNat = 97 from rfl, show (122 : UInt8).toNat = 122 from rfl]
  omega
theorem take_snoc (s : ByteArray) (k : Nat) (h : k < s.size) : s.data.toList.take (k + 1) = s.data.toList.take k ++ [s[k]] := by
  rw [List.take_succ_eq_append_getElem (by simpa using h)]; rfl
theorem all_step (s : ByteArray) (k : Nat) (h : k < s.size) (ha : (s.data.toList.take k).all okB = true) : (s.data.toList.take (k + 1)).all okB = okB s[k] := by
  rw [take_snoc s k h, List.all_append, ha]
  simp
theorem all_no (s : ByteArray) (k : Nat) (h : k < s.size) (hn : okB s[k] = false) : s.data.toList.all okB = false := by
  rw [← Bool.not_eq_true, List.all_eq_true]
  intro hall
  have : s[k] ∈ s.data.toList := by
    have e : s[k] = s.data.toList[k]'(by simpa using h) := rfl
    rw [e]
    exact List.getElem_mem _
  rw [hall _ this] at hn
  cases hn
theorem all_end (s : ByteArray) (k : Nat) (h : ¬ k < s.size) (ha : (s.data.toList.take k).all okB = true) : s.data.toList.all okB = true := by
  rw [← ha, List.take_of_length_le (by simp; omega)]
set_option maxRecDepth 100000 in
set_option maxHeartbeats 1000000 in
theorem name_any (s : ByteArray) (w : World) (hs : s.size ≤ maxLen) : Calls Tryz.prog 60 #[.string s] w fun e w' => e = .returned (.bool (nameB s)) ∧ w' = w := by
  unfold maxLen at hs
  by_cases h1 : s.size < 1
  · have e : nameB s = false := by unfold nameB; simp; intro h; omega
    rw [e]
    have i1 : (s.size : Int) < 1 := by omega
    go_enter Tryz.func60, Tryz.ntmps60
    go_wp2
    go_ret
    exact ⟨rfl, rfl⟩
  by_cases h2 : 16 < s.size
  · have e : nameB s = false := by unfold nameB; simp; intro _ h; omega
    rw [e]
    have i1 : ¬ (s.size : Int) < 1 := by omega
    have i2 : (16 : Int) < s.size := by omega
    go_enter Tryz.func60, Tryz.ntmps60
    go_wp2
    go_ret
    exact ⟨rfl, rfl⟩
  have e : nameB s = s.data.toList.all okB := by
    unfold nameB
    rw [show decide (1 ≤ s.size) = true from decide_eq_true (by omega), show decide (s.size ≤ 16) = true from decide_eq_true (by omega)]
    rfl
  rw [e]
  have i1 : ¬ (s.size : Int) < 1 := by omega
  have i2 : ¬ (16 : Int) < s.size := by omega
  have i3 : (s.size : Int) ≤ 16 := by omega
  have b1 : decide ((s.size : Int) < 1) = false := by simp; omega
  have b2 : decide ((16 : Int) < s.size) = false := by simp; omega
  clear e
  obtain ⟨z, ez⟩ : ∃ z, s.data.toList.all okB = z := ⟨_, rfl⟩
  rw [ez]
  have EZ : Hid (s.data.toList.all okB = z) := ez
  clear ez
  go_enter Tryz.func60, Tryz.ntmps60
  go_wp2
  go_loop [14] (fun i => ∃ k : Nat, k ≤ s.size ∧ i = .int .i64 k ∧ (s.data.toList.take k).all okB = true) (fun i => s.size - (intOf i).toNat)
  case atStart => exact ⟨0, Nat.zero_le _, rfl, rfl⟩
  case round =>
    obtain ⟨k, hk, rfl, hall⟩ := hrel
    have HA : Hid ((s.data.toList.take k).all okB = true) := hall
    clear hall
    by_cases hlt : k < s.size
    · have k0 : (0 : Int) ≤ (k : Int) := by omega
      have k1 : (k : Int) < (s.size : Int) := by omega
      have k2 : (k : Int) ≤ 16 := by omega
      have HI := okB_iff s[k]
      have HS := all_step s k hlt HA.out
      have hbx : (s[k].toNat : Int) < 256 := by have := s[k].toNat_lt; omega
      have hb0 : (0 : Int) ≤ (s[k].toNat : Int) := by omega
      by_cases hok : okB s[k] = true
      · have HT : Hid ((s.data.toList.take (k + 1)).all okB = true) := by rw [HS]; exact hok
        rcases HI.1 hok with h46 | ⟨h97, h122⟩
        · have t1 : ((s[k].toNat : Int) != 46) = false := by simp; omega
          clear HI HS hok h46
          go_wp2
          go_round
          case rel => exact ⟨k + 1, by omega, by go_num, HT.out⟩
          case measure => simp [intOf]; omega
        · have t1 : ((s[k].toNat : Int) != 46) = true := by simp; omega
          have t2 : ¬ ((s[k].toNat : Int) < 97) := by omega
          have t3 : ¬ (122 < (s[k].toNat : Int)) := by omega
          clear HI HS hok
          go_wp2
          go_round
          case rel => exact ⟨k + 1, by omega, by go_num, HT.out⟩
          case measure => simp [intOf]; omega
      · have hno : okB s[k] = false := by simpa using hok
        have hz : z = false := EZ.out.symm.trans (all_no s k hlt hno)
        subst hz
        clear EZ
        have hne : ¬ ((s[k].toNat : Int) = 46) := fun h => hok (HI.2 (Or.inl h))
        have t1 : ((s[k].toNat : Int) != 46) = true := by simp; omega
        by_cases t2 : (s[k].toNat : Int) < 97
        · clear HI HS hok hno hne
          go_wp2
          go_ret
          exact ⟨rfl, rfl⟩
        · have t3 : 122 < (s[k].toNat : Int) := by
            by_cases t : 122 < (s[k].toNat : Int)
            · exact t
            · exact absurd (HI.2 (Or.inr ⟨by omega, by omega⟩)) hok
          clear HI HS hok hno hne
          go_wp2
          go_ret
          exact ⟨rfl, rfl⟩
    · have k1 : ¬ (k : Int) < (s.size : Int) := by omega
      have hz : z = true := EZ.out.symm.trans (all_end s k hlt HA.out)
      subst hz
      clear EZ
      go_wp2
      go_ret
      exact ⟨rfl, rfl⟩
theorem nameB_all (s : ByteArray) (h : s.data.toList.all okB = true) : nameB s = (decide (1 ≤ s.size) && decide (s.size ≤ 16)) := by
  unfold nameB
  rw [h, Bool.and_true]
theorem nameB_no (s : ByteArray) (h : s.data.toList.all okB = false) : nameB s = false := by
  unfold nameB
  rw [h, Bool.and_false]
theorem empty_of_size (s : ByteArray) (h : s.size = 0) : s = ⟨#[]⟩ := bytes_ext (by
  have : s.data.toList.length = 0 := by simpa using h
  rw [List.length_eq_zero_iff] at this
  rw [this])
end Go.Proofs.YtbhmmcelndmijaaGreat
