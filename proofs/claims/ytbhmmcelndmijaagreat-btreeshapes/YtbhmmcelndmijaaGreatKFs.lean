/-
  Spans: which keys may stand at a place of a tree: below. Spans: a page whose keys may stand there is held. Files as lists of a name and its bytes, and the map of package disk that holds them. Changes as the program keeps them.
-/
import Derived.Test.YtbhmmcelndmijaaGreatKPWRefBool
import Derived.Test.YtbhmmcelndmijaaGreatPDecode
import Derived.Test.YtbhmmcelndmijaaGreatKPCon
import Derived.Test.YtbhmmcelndmijaaGreatProg
import Derived.Maps.OwnSet
import Derived.Maps.RangeWalk
import Derived.Maps.Ext
namespace Go.Proofs.YtbhmmcelndmijaaGreat
open Go.RowKit Pa
theorem size76 : (Tryz.prog.info? 76).map (·.size) = some 2 := by kernel_rfl
theorem results_sp {fn : Func} {p : Tmp} (h : fn.results = #[.cell p 76]) (tmps : Array Value) (w : World) (g : Nat) {x y : Value} (hp : tmps.getD p undef = .pointer (some ⟨g, 0, none⟩)) (hg : Blk w g 76 #[x, y]) : (results fn tmps).run Tryz.prog w = .ok (.agg #[x, y]) w :=
  results_cell_row h _ _ g 76 _ (0, 0) _ hp hg Tryz.underlying76 rfl size76
theorem third (w : World) (a b : Obj) (t : TypeId) (cs : Array Value) : Blk (((w.alloc a).alloc b).alloc (.cells cs t)) (w.heap.size + 1 + 1) t cs := by
  have := Blk.new ((w.alloc a).alloc b) t cs
  rw [World.size_alloc, World.size_alloc] at this
  exact this
def loK (lo : ByteArray) (l : List ByteArray) (k : Nat) : ByteArray := if 0 < k then l.getD (k - 1) ⟨#[]⟩ else lo
def hiK (hi : ByteArray) (l : List ByteArray) (k : Nat) : ByteArray := if k < l.length then l.getD k ⟨#[]⟩ else hi
set_option maxRecDepth 100000 in
set_option maxHeartbeats 1000000 in
theorem below_any (lo hi : ByteArray) (p : Pg) (v : Value) (k : Nat) (w : World) (hv : PgV w v p) (hk : k ≤ p.keys.length) (hl : p.keys.length ≤ 1000000) :
    Calls Tryz.prog 41 #[.agg #[.string lo, .string hi], v, .int .i64 k] w fun e w' => e = .returned (.agg #[.string (loK lo p.keys k), .string (hiK hi p.keys k)]) ∧ w.grownBy w' none := by
  obtain ⟨a, b, c, rfl, ha, hb, hc⟩ := hv
  obtain ⟨pa, ca, ga, oa, rfl, pA, cA⟩ := ha
  obtain ⟨pb, cb, gb, ob, rfl, -, -⟩ := hb
  obtain ⟨pc, cc, gc, oc, rfl, -, -⟩ := hc
  obtain ⟨leaf, l, vals, kids⟩ := p
  simp only at *
  generalize vals.length = n2 at *
  generalize kids.length = n3 at *
  have z1 : (l.length : Int) ≤ 1000000 := by omega
  have z2 : (k : Int) ≤ (l.length : Int) := by omega
  have z0 : (0 : Int) ≤ (k : Int) := by omega
  unfold loK hiK
  have CA : Hid (∀ (q : ByteArray) i, (h : i < l.length) → (((w.alloc (.cells #[.string q, .string hi] 76)).alloc (.cells #[.bool leaf, .slice (some ⟨ga, oa, none⟩) l.length ca, .slice pb n2 cb, .slice pc n3 cc] 70)).alloc (.cells #[.string ⟨#[]⟩, .string ⟨#[]⟩] 76)).cell? ⟨ga, oa + i, none⟩ = some (.string (l.getD i ⟨#[]⟩))) := fun q i h => by
    have := cA i h
    rw [List.getD_eq_getElem?_getD, List.getElem?_eq_getElem h]
    exact cell_kept (grown_alloc (grown_alloc (grown_alloc (grown_refl w none) _) _) _) this
  have PA : Hid (0 < l.length → pa = some ⟨ga, oa, none⟩) := pA
  clear pA cA
  by_cases h0 : 0 < k
  · have hp := PA.out (by omega)
    subst hp
    have c1 := CA.out lo (k - 1) (by omega)
    have h0' : (0 : Int) < (k : Int) := by omega
    by_cases h1 : k < l.length
    · have c2 := CA.out (l.getD (k - 1) ⟨#[]⟩) k h1
      have h1' : (k : Int) < (l.length : Int) := by omega
      rw [if_pos h0, if_pos h1]
      clear CA PA
      generalize l.getD (k - 1) ⟨#[]⟩ = x at *
      generalize l.getD k ⟨#[]⟩ = y at *
      go_enter Tryz.func41, Tryz.ntmps41
      go_wp2
      refine bodyPost_ret (results_sp Tryz.results41 _ _ (w.heap.size + 1 + 1) rfl (third w _ _ 76 _)) rfl ?_
      exact ⟨rfl, grown_alloc (grown_alloc (grown_alloc (grown_refl w none) _) _) _⟩
    · have h1' : ¬ (k : Int) < (l.length : Int) := by omega
      rw [if_pos h0, if_neg h1]
      clear CA PA
      generalize l.getD (k - 1) ⟨#[]⟩ = x at *
      go_enter Tryz.func41, Tryz.ntmps41
      go_wp2
      refine bodyPost_ret (results_sp Tryz.results41 _ _ (w.heap.size + 1 + 1) rfl (third w _ _ 76 _)) rfl ?_
      exact ⟨rfl, grown_alloc (grown_alloc (grown_alloc (grown_refl w none) _) _) _⟩
  · have h0' : ¬ (0 : Int) < (k : Int) := by omega
    by_cases h1 : k < l.length
    · have hp := PA.out (by omega)
      subst hp
      have c2 := CA.out lo k h1
      have h1' : (k : Int) < (l.length : Int) := by omega
      rw [if_neg h0, if_pos h1]
      clear CA PA
      generalize l.getD k ⟨#[]⟩ = y at *
      go_enter Tryz.func41, Tryz.ntmps41
      go_wp2
      refine bodyPost_ret (results_sp Tryz.results41 _ _ (w.heap.size + 1 + 1) rfl (third w _ _ 76 _)) rfl ?_
      exact ⟨rfl, grown_alloc (grown_alloc (grown_alloc (grown_refl w none) _) _) _⟩
    · have h1' : ¬ (k : Int) < (l.length : Int) := by omega
      rw [if_neg h0, if_neg h1]
      clear CA PA
      go_enter Tryz.func41, Tryz.ntmps41
      go_wp2
      refine bodyPost_ret (results_sp Tryz.results41 _ _ (w.heap.size + 1 + 1) rfl (third w _ _ 76 _)) rfl ?_
      exact ⟨rfl, grown_alloc (grown_alloc (grown_alloc (grown_refl w none) _) _) _⟩
end Go.Proofs.YtbhmmcelndmijaaGreat
namespace Go.Proofs.YtbhmmcelndmijaaGreat
open Go.RowKit Pa
/-- May a page's keys stand within the span? -/
structure Holds (lo hi : ByteArray) (p : Pg) : Prop where
  low : ∀ a, p.keys.head? = some a → Op.bytesLess a.toList lo.toList = false ∧ ((a.toList == lo.toList) = false ∨ p.leaf = true)
  high : ∀ a, p.keys.getLast? = some a → hi = ⟨#[]⟩ ∨ Op.bytesLess a.toList hi.toList = true
set_option maxRecDepth 100000 in
set_option maxHeartbeats 1000000 in
theorem holds_any (lo hi : ByteArray) (p : Pg) (v : Value) (w : World) (hv : PgV w v p) (hl : p.keys.length ≤ 1000000) (hH : Holds lo hi p) :
    Calls Tryz.prog 64 #[.agg #[.string lo, .string hi], v] w fun e w' => e = .returned (.bool true) ∧ w.grownBy w' none := by
  obtain ⟨a, b, c, rfl, ha, hb, hc⟩ := hv
  obtain ⟨pa, ca, ga, oa, rfl, pA, cA⟩ := ha
  obtain ⟨pb, cb, gb, ob, rfl, -, -⟩ := hb
  obtain ⟨pc, cc, gc, oc, rfl, -, -⟩ := hc
  obtain ⟨leaf, l, vals, kids⟩ := p
  obtain ⟨hlo, hhi⟩ := hH
  simp only at *
  generalize vals.length = n2 at *
  generalize kids.length = n3 at *
  by_cases h0 : l.length = 0
  · have e : l = [] := List.eq_nil_of_length_eq_zero h0
    subst e
    clear cA pA hlo hhi
    go_enter Tryz.func64, Tryz.ntmps64
    go_wp2
    go_ret
    exact ⟨rfl, grown_alloc (grown_alloc (grown_refl w none) _) _⟩
  · have z1 : (l.length : Int) ≤ 1000000 := by omega
    have z2 : (0 : Int) < (l.length : Int) := by omega
    have hp := pA (by omega)
    subst hp
    have c0 := cA 0 (by omega)
    have c1 := cA (l.length - 1) (by omega)
    obtain ⟨x, hx⟩ : ∃ x, l[0]'(by omega) = x := ⟨_, rfl⟩
    obtain ⟨y, hy⟩ : ∃ y, l[l.length - 1]'(by omega) = y := ⟨_, rfl⟩
    have q1 := hlo x (by rw [List.head?_eq_getElem?, List.getElem?_eq_getElem (by omega), hx])
    have q2 := hhi y (by rw [List.getLast?_eq_getElem?, List.getElem?_eq_getElem (by omega), hy])
    rw [hx] at c0
    rw [hy] at c1
    clear hx hy hlo hhi cA pA
    generalize hn : l.length = n at *
    have G2 := grown_alloc (grown_alloc (grown_refl w none) (.cells #[.string lo, .string hi] 76)) (.cells #[.bool leaf, .slice (some ⟨ga, oa, none⟩) n ca, .slice pb n2 cb, .slice pc n3 cc] 70)
    have d0 := cell_kept G2 c0
    have d1 := cell_kept G2 c1
    have GG : Hid (w.grownBy ((w.alloc (.cells #[.string lo, .string hi] 76)).alloc (.cells #[.bool leaf, .slice (some ⟨ga, oa, none⟩) n ca, .slice pb n2 cb, .slice pc n3 cc] 70)) none) := G2
    have iw : IntKind.i64.wrap ((n : Int) - 1) = (n : Int) - 1 := by rw [IntKind.wrap_i64]; omega
    have iv : ((n : Int) - 1).toNat = n - 1 := by omega
    have i1 : (0 : Int) ≤ (n : Int) - 1 := by omega
    have i2 : (n : Int) - 1 < (n : Int) := by omega
    simp only [Nat.add_zero] at d0
    clear c0 c1 G2 hl h0 hn
    obtain ⟨q1, q3⟩ := q1
    go_enter Tryz.func64, Tryz.ntmps64
    go_wp2_with fail
    go_quiet (fail)
    have hh : hi = ⟨#[]⟩ ∨ (hi ≠ ⟨#[]⟩ ∧ Op.bytesLess y.toList hi.toList = true) := by
      by_cases h : hi = ⟨#[]⟩
      · exact Or.inl h
      · exact Or.inr ⟨h, q2.resolve_left h⟩
    have hq : (x.toList == lo.toList) = false ∨ ((x.toList == lo.toList) = true ∧ leaf = true) := by
      cases hx : (x.toList == lo.toList) with
      | false => exact Or.inl rfl
      | true => exact Or.inr ⟨rfl, q3.resolve_left (by rw [hx]; simp)⟩
    clear q2 q3
    rcases hh with rfl | ⟨h1, h2⟩
    · rcases hq with q3 | ⟨q3, rfl⟩
      · go_wp2_with fail
        go_ret
        exact ⟨rfl, grown_drewN GG.out _⟩
      · go_wp2_with fail
        go_ret
        exact ⟨rfl, grown_drewN GG.out _⟩
    · have h3 : hi.toList ≠ [] := fun e => h1 (toList_inj (e.trans (by decide +kernel)))
      have h4 : (hi.toList == []) = false := by cases hz : hi.toList with | nil => exact absurd hz h3 | cons _ _ => rfl
      have h5 : hi.toList.isEmpty = false := by cases hz : hi.toList with | nil => exact absurd hz h3 | cons _ _ => rfl
      rcases hq with q3 | ⟨q3, rfl⟩
      · go_wp2_with fail
        go_ret
        exact ⟨rfl, grown_drewN GG.out _⟩
      · go_wp2_with fail
        go_ret
        exact ⟨rfl, grown_drewN GG.out _⟩
end Go.Proofs.YtbhmmcelndmijaaGreat
namespace Go.Proofs.YtbhmmcelndmijaaGreat
open Go.RowKit Go.Maps
/-- A change, as the program keeps it. -/
structure Chg where
  kind : Nat
  name : ByteArray
  bytes : ByteArray
  to : ByteArray
  n : Int
def Chg.cells (c : Chg) : List Value := [.int .i64 c.kind, .string c.name, .string c.bytes, .string c.to, .int .i64 c.n]
def Chg.val (c : Chg) : Value := .agg #[.int .i64 c.kind, .string c.name, .string c.bytes, .string c.to, .int .i64 c.n]
abbrev FS := List (ByteArray × ByteArray)
def keyL (s : ByteArray) : Lit := .string s.data.toList
def entryL (p : ByteArray × ByteArray) : Lit × DataW Unit := (keyL p.1, .lit (keyL p.2))
def datum (l : FS) : DataW Unit := .map (l.map entryL)
def sameB (a b : ByteArray) : Bool := a.data.toList == b.data.toList
def getF (l : FS) (n : ByteArray) : Option ByteArray := (l.find? fun p => sameB p.1 n).map (·.2)
def insF (x : ByteArray × ByteArray) : FS → FS
  | [] => [x]
  | y :: r => if (keyL x.1).before (keyL y.1) then x :: y :: r else y :: insF x r
def delF (l : FS) (n : ByteArray) : FS := l.filter fun p => !sameB p.1 n
def putF (l : FS) (n s : ByteArray) : FS := insF (n, s) (delF l n)
/-- What a change does to files. -/
def doF (l : FS) (c : Chg) : FS :=
  if c.kind = 0 then putF l c.name ((getF l c.name).getD ⟨#[]⟩ ++ c.bytes)
  else if c.kind = 1 then putF l c.name c.bytes
  else match getF l c.name with
    | none => l
    | some s => if c.kind = 2 then putF (delF l c.name) c.to s else if c.kind = 3 then delF l c.name else putF l c.name (s.extract 0 (min c.n.toNat s.size))
theorem sameKey_key (a b : ByteArray) : (keyL a).sameKey (keyL b) = sameB a b := rfl
theorem bytes_ext {a b : ByteArray} (h : a.data.toList = b.data.toList) : a = b := by
  cases a with | mk x => cases b with | mk y => exact congrArg ByteArray.mk (Array.toList_inj.1 h)
theorem sameB_iff (a b : ByteArray) : sameB a b = true ↔ a = b := by
  unfold sameB
  rw [beq_iff_eq]
  exact ⟨bytes_ext, fun h => by rw [h]⟩
theorem map_insF (x : ByteArray × ByteArray) : ∀ l : FS, (insF x l).map entryL = DataW.insert (entryL x) (l.map entryL)
  | [] => rfl
  | y :: r => by
    show List.map entryL (if (keyL x.1).before (keyL y.1) then x :: y :: r else y :: insF x r) = if (entryL x).1.before (entryL y).1 then entryL x :: entryL y :: r.map entryL else entryL y :: DataW.insert (entryL x) (r.map entryL)
    rw [show (entryL x).1.before (entryL y).1 = (keyL x.1).before (keyL y.1) from rfl]
    split
    · rfl
    · rw [List.map_cons, map_insF x r]
theorem map_delF (l : FS) (n : ByteArray) : (delF l n).map entryL = (l.map entryL).filter fun p => !p.1.sameKey (keyL n) := by
  unfold delF
  induction l with
  | nil => rfl
  | cons y r ih =>
    rw [List.map_cons, List.filter_cons, List.filter_cons, show (entryL y).1.sameKey (keyL n) = sameB y.1 n from rfl]
    split
    · rw [List.map_cons, ih]
    · exact ih
theorem datum_put (l : FS) (n s : ByteArray) : (datum l).put (keyL n) (.lit (keyL s)) = datum (putF l n s) := by
  unfold datum DataW.put putF
  rw [map_insF, map_delF]
  rfl
theorem datum_del (l : FS) (n : ByteArray) : (datum l).del (keyL n) = datum (delF l n) := by
  unfold datum DataW.del
  rw [map_delF]
theorem find_entry (l : FS) (n : ByteArray) : (l.map entryL).find? (fun p => p.1.sameKey (keyL n)) = (l.find? fun p => sameB p.1 n).map entryL := by
  induction l with
  | nil => rfl
  | cons y r ih =>
    rw [List.map_cons, List.find?_cons, List.find?_cons, show (entryL y).1.sameKey (keyL n) = sameB y.1 n from rfl]
    cases sameB y.1 n with
    | true => rfl
    | false => exact ih
theorem datum_has (l : FS) (n : ByteArray) : Maps.has (datum l) (keyL n) = (getF l n).isSome := by
  unfold datum getF
  rw [Maps.has_eq, Option.isSome_map]
  induction l with
  | nil => rfl
  | cons y r ih =>
    rw [List.map_cons, List.any_cons, List.find?_cons, show (entryL y).1.sameKey (keyL n) = sameB y.1 n from rfl]
    cases sameB y.1 n with
    | true => rfl
    | false => exact ih
theorem datum_at (l : FS) (n : ByteArray) : (datum l).atKey (keyL n) (.lit (keyL ⟨#[]⟩)) = .lit (keyL ((getF l n).getD ⟨#[]⟩)) := by
  unfold datum DataW.atKey getF
  simp only [find_entry]
  cases l.find? (fun p => sameB p.1 n) <;> rfl
theorem datum_size (l : FS) : Maps.size (datum l) = l.length := by
  unfold datum
  rw [Maps.size_eq, List.length_map]
/-- How an element of that map reads. -/
def fileElem : Value → Option (DataW Unit × List MemPlace)
  | .agg cs => match cs.toList with
    | [.string s] => if s.size ≤ maxLen then some (.lit (keyL s), []) else none
    | _ => none
  | _ => none
theorem fileElem_mk {s : ByteArray} (h : s.size ≤ maxLen) : fileElem (.agg #[.string s]) = some (.lit (keyL s), []) := by
  unfold fileElem
  simp [h]
theorem fileElem_inv {v : Value} {z : DataW Unit × List MemPlace} (h : fileElem v = some z) : ∃ s, v = .agg #[.string s] ∧ z = (.lit (keyL s), []) := by
  unfold fileElem at h
  split at h
  · rename_i cs
    split at h
    · rename_i s hs
      split at h
      · cases h
        exact ⟨s, by rw [show cs = #[.string s] from by rw [← Array.toList_inj, hs]], rfl⟩
      · cases h
    · cases h
  · cases h
theorem lit_inj {a b : ByteArray} (h : (DataW.lit (keyL a) : DataW Unit) = .lit (keyL b)) : a = b := by
  injection h with h1
  injection h1 with h2
  exact bytes_ext h2
theorem law9 : Keyed Tryz.prog 9 := string_keyed Tryz.underlying9
theorem zero84 (w : World) : (zeroValue 123).run Tryz.prog w = .ok (.agg #[.string ⟨#[]⟩]) w := by kernel_rfl
theorem key_ok {s : ByteArray} (h : s.size ≤ maxLen) : keyOf Tryz.prog 9 (.string s) = some (keyL s) := Go.WideMaps.keyOf_string_mk Tryz.underlying9 h
/-- Block g is a map that holds just these files. -/
def OwnsF (w : World) (g : Nat) (l : FS) : Prop := w.ownsMap Tryz.prog 9 fileElem g l.length (datum l)
theorem owns_tight {w : World} {g n : Nat} {l : FS} (h : w.ownsMap Tryz.prog 9 fileElem g n (datum l)) : OwnsF w g l := by
  obtain ⟨es, clock, hb, F, _, hD⟩ := h
  refine ⟨es, clock, hb, F, ?_, hD⟩
  have e : Maps.size (datum l) = es.size := by rw [hD]; simp [Maps.size, length_sorted]
  rw [← datum_size, e]
  exact Nat.le_refl _
theorem OwnsF.lt {w : World} {g : Nat} {l : FS} (h : OwnsF w g l) : g < w.heap.size := World.ownsMap.lt h
theorem OwnsF.kept {w w' : World} {g : Nat} {l : FS} {row : Option Nat} (h : OwnsF w g l) (hg : w.grownBy w' row) (hn : some g ≠ row) : OwnsF w' g l := World.ownsMap.kept h hg hn
theorem OwnsF.alloc {w : World} {g : Nat} {l : FS} (h : OwnsF w g l) (o : Obj) : OwnsF (w.alloc o) g l := World.ownsMap.alloc h o
theorem OwnsF.set {w : World} {g : Nat} {l : FS} (h : OwnsF w g l) {a : Addr} (ha : g ≠ a.block) (u : Value) : OwnsF (w.setCell a u) g l := World.ownsMap.setCell h ha u
theorem OwnsF.isMap {w : World} {g : Nat} {l : FS} (h : OwnsF w g l) : ∃ es clock, w.heap[g]? = some (.map es clock) := by
  obtain ⟨es, clock, hb, _⟩ := h
  exact ⟨es, clock, hb⟩
theorem Blk.ne_map {w : World} {b g : Nat} {t : TypeId} {cs : Array Value} {l : FS} (h : Blk w b t cs) (hg : OwnsF w g l) : b ≠ g := by
  obtain ⟨es, clock, hm⟩ := hg.isMap
  rintro rfl
  have h' : w.heap[b]? = some (.cells cs t (0, 0)) := h
  rw [hm] at h'
  cases h'
/-- Bounds on files: so many, each so long. -/
def Fits (l : FS) (B : Nat) : Prop := l.length ≤ B ∧ (∀ p ∈ l, p.2.size ≤ B) ∧ ∀ p ∈ l, p.1.size ≤ B
theorem Fits.mono {l : FS} {B C : Nat} (h : Fits l B) (hb : B ≤ C) : Fits l C := ⟨Nat.le_trans h.1 hb, fun p hp => Nat.le_trans (h.2.1 p hp) hb, fun p hp => Nat.le_trans (h.2.2 p hp) hb⟩
theorem fits_nil (B : Nat) : Fits [] B := ⟨Nat.zero_le _, (fun p hp => by cases hp), (fun p hp => by cases hp)⟩
theorem mem_insF {x p : ByteArray × ByteArray} : ∀ {l : FS}, p ∈ insF x l → p = x ∨ p ∈ l
  | [], h => by
    rw [show insF x [] = [x] from rfl, List.mem_singleton] at h
    exact Or.inl h
  | y :: r, h => by
    unfold insF at h
    split at h
    · rcases List.mem_cons.1 h with h | h
      · exact Or.inl h
      · exact Or.inr h
    · rcases List.mem_cons.1 h with h | h
      · exact Or.inr (by rw [h]; exact List.mem_cons_self)
      · rcases mem_insF h with h | h
        · exact Or.inl h
        · exact Or.inr (List.mem_cons_of_mem _ h)
theorem length_insF (x : ByteArray × ByteArray) : ∀ l : FS, (insF x l).length = l.length + 1
  | [] => rfl
  | y :: r => by
    unfold insF
    split
    · rfl
    · rw [List.length_cons, length_insF x r, List.length_cons]
theorem fits_del {l : FS} {B : Nat} (h : Fits l B) (n : ByteArray) : Fits (delF l n) B :=
  ⟨Nat.le_trans (List.length_filter_le _ _) h.1, fun p hp => h.2.1 p (List.mem_filter.1 hp).1, fun p hp => h.2.2 p (List.mem_filter.1 hp).1⟩
theorem fits_put {l : FS} {B C : Nat} (h : Fits l B) (n s : ByteArray) (hn : n.size ≤ C) (hs : s.size ≤ C) (hb : B + 1 ≤ C) : Fits (putF l n s) C := by
  have h' := fits_del h n
  refine ⟨?_, fun p hp => ?_, fun p hp => ?_⟩
  · unfold putF
    rw [length_insF]
    have := h'.1
    omega
  · rcases mem_insF hp with rfl | hp
    · exact hs
    · exact Nat.le_trans (h'.2.1 p hp) (by omega)
  · rcases mem_insF hp with rfl | hp
    · exact hn
    · exact Nat.le_trans (h'.2.2 p hp) (by omega)
theorem get_mem {l : FS} {n s : ByteArray} (h : getF l n = some s) : ∃ p ∈ l, p.2 = s ∧ p.1 = n := by
  unfold getF at h
  cases hf : l.find? (fun p => sameB p.1 n) with
  | none => rw [hf] at h; cases h
  | some p =>
    rw [hf] at h
    have hp := List.find?_some hf
    exact ⟨p, List.mem_of_find?_eq_some hf, Option.some.inj h, (sameB_iff _ _).1 hp⟩
theorem get_size {l : FS} {B : Nat} (h : Fits l B) (n : ByteArray) : ((getF l n).getD ⟨#[]⟩).size ≤ B := by
  cases hg : getF l n with
  | none => exact Nat.zero_le _
  | some s =>
    obtain ⟨p, hp, rfl, _⟩ := get_mem hg
    exact h.2.1 p hp
theorem fits_do {l : FS} {B C : Nat} (h : Fits l B) (c : Chg) (hC : c.bytes.size ≤ C) (hn : c.name.size ≤ B + C + 1) (ht : c.to.size ≤ B + C + 1) : Fits (doF l c) (B + C + 1) := by
  have hg := get_size h c.name
  unfold doF
  split
  · exact fits_put h _ _ hn (by rw [ByteArray.size_append]; omega) (by omega)
  · split
    · exact fits_put h _ _ hn (by omega) (by omega)
    · cases he : getF l c.name with
      | none => exact h.mono (by omega)
      | some s =>
        rw [he] at hg
        have hg' : s.size ≤ B := hg
        show Fits (if _ then _ else _) _
        split
        · exact fits_put (fits_del h _) _ _ ht (by omega) (by omega)
        · split
          · exact (fits_del h _).mono (by omega)
          · exact fits_put h _ _ hn (by rw [ByteArray.size_extract]; omega) (by omega)
end Go.Proofs.YtbhmmcelndmijaaGreat
