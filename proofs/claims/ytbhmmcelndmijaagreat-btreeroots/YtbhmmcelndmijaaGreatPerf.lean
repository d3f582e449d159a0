/-
  perform: a change that may be.
-/
import Derived.Test.YtbhmmcelndmijaaGreatKTend
import Derived.Deep.RegionLaw
namespace Go.Proofs.YtbhmmcelndmijaaGreat
open Go.RowKit Go.Maps
theorem eql_nil (w : World) : (binOp BinOp.eql 92 (.map none) (.map none)).run Tryz.prog w = .ok (.bool true) w := by kernel_rfl
theorem eql_map (g : Nat) (w : World) : (binOp BinOp.eql 92 (.map (some g)) (.map none)).run Tryz.prog w = .ok (.bool false) w := by kernel_rfl
theorem grown_of_drew {w w' : World} {row : Option Nat} (h : w.drew.grownBy w' row) : w.grownBy w' row := ⟨h.os, h.tape, h.output, h.size, h.block⟩
theorem OwnsF.drew {w : World} {g : Nat} {l : FS} (h : OwnsF w g l) : OwnsF w.drew g l := h
theorem new_cells (w : World) (c : Chg) (j : Nat) (v : Value) (hj : c.cells[j]? = some v) : (w.alloc (.cells #[.int .i64 c.kind, .string c.name, .string c.bytes, .string c.to, .int .i64 c.n] 120)).cell? ((⟨w.heap.size, 0, none⟩ : Addr).add j) = some v := by
  have e : (⟨w.heap.size, 0, none⟩ : Addr).add j = ⟨w.heap.size, j, none⟩ := by
    by_cases h : j = 0
    · subst h; simp [Addr.add]
    · simp [Addr.add, h]
  rw [e, (Blk.new w 120 _).cell, ← hj]
  unfold Chg.cells
  rw [List.getElem?_toArray]
theorem owns_drew {w : World} {base n : Nat} {v : Value} {xs : List Value} (h : w.ownsRow base 120 5 v n xs) : w.drew.ownsRow base 120 5 v n xs := h
theorem owns_slice {w : World} {base n : Nat} {v : Value} {xs : List Value} (h : w.ownsRow base 120 5 v n xs) : ∃ pa cp, v = .slice pa n cp := by
  rcases h.2 with ⟨rfl, rfl⟩ | ⟨g, cap, cur, rfl, _⟩
  · exact ⟨_, _, rfl⟩
  · exact ⟨_, _, rfl⟩
theorem ownBlock_ne {w : World} {base n b : Nat} {v : Value} {xs : List Value} {cs : Array Value} {t : TypeId} (h : w.ownsRow base 120 5 v n xs) (hb : Blk w b t cs) (ht : t ≠ 120) : some b ≠ v.ownBlock := by
  rcases h.2 with ⟨rfl, rfl⟩ | ⟨g, cap, cur, rfl, _, hh, _⟩
  · simp [Value.ownBlock]
  · intro e
    have e' : b = g := Option.some.inj e
    subst e'
    have hb' : w.heap[b]? = some (.cells cs t (0, 0)) := hb
    rw [hh] at hb'
    injection hb' with h1
    injection h1 with _ h2
    exact ht h2.symm
theorem owns_self {w w' : World} {base n b : Nat} {v : Value} {xs : List Value} {cs : Array Value} (h : w.ownsRow base 120 5 v n xs) (hb : Blk w b 96 cs) (hgr : w.grownBy w' (some b)) : w'.ownsRow base 120 5 v n xs := by
  refine h.kept hgr ?_
  cases hv : v.ownBlock with
  | none => exact Or.inl rfl
  | some x => exact Or.inr (fun e => by
      have hne := ownBlock_ne h hb (by decide)
      rw [hv] at hne
      exact hne e.symm)
theorem ownBlock_map {w : World} {base n g : Nat} {v : Value} {xs : List Value} {l : FS} (h : w.ownsRow base 120 5 v n xs) (hg : OwnsF w g l) : some g ≠ v.ownBlock := by
  rcases h.2 with ⟨rfl, rfl⟩ | ⟨gl, cap, cur, rfl, _, hh, _⟩
  · simp [Value.ownBlock]
  · intro e
    have e' : g = gl := Option.some.inj e
    subst e'
    obtain ⟨es, clock, hm⟩ := hg.isMap
    rw [hm] at hh
    cases hh
theorem owns_map {w w' : World} {base n g : Nat} {v : Value} {xs : List Value} {l : FS} (h : w.ownsRow base 120 5 v n xs) (hg : OwnsF w g l) (hgr : w.grownBy w' (some g)) : w'.ownsRow base 120 5 v n xs := by
  refine h.kept hgr ?_
  cases hv : v.ownBlock with
  | none => exact Or.inl rfl
  | some x => exact Or.inr (fun e => by
      have hne := ownBlock_map h hg
      rw [hv] at hne
      exact hne e.symm)
/-- The disk behind a change that was done. -/
def PerfPost (base b : Nat) (vn vs vl : Value) (u c : Nat) (now : FS) (loose : List Chg) (ch : Chg) (w w' : World) : Prop :=
  ∃ g vl', (vn = .map (some g) ∨ w.heap.size ≤ g) ∧ Blk w' b 96 (rowD (.map (some g)) vs vl' (u + 1) (c + 1) false) ∧ OwnsF w' g (doF now ch) ∧ w'.ownsRow base 120 5 vl' (if loose.length ≤ 62 then loose ++ [ch] else loose).length (looseL (if loose.length ≤ 62 then loose ++ [ch] else loose)) ∧ Tend base b w w' ∧ (∀ i, i < w.heap.size → i ≠ b → vn ≠ .map (some i) → some i ≠ vl.ownBlock → w'.heap[i]? = w.heap[i]?)
set_option maxRecDepth 100000 in
set_option maxHeartbeats 4000000 in
theorem perform_ok (base b k : Nat) (z : Int) (vn vs vl : Value) (u c : Nat) (now : FS) (loose : List Chg) (a s t : ByteArray) (w : World) (hb0 : base ≤ b) (hB : Blk w b 96 (rowD vn vs vl u c false))
    (hm : MapV w base vn now) (hlo : w.ownsRow base 120 5 vl loose.length (looseL loose)) (hl : Fits now 1000000) (hk : k ≤ 4) (han : a.size ≤ maxLen) (htn : t.size ≤ maxLen) (hs : s.size ≤ 1000000) (hz : k = 4 → 0 ≤ z) (hz1 : z ≤ 9223372036854775807) (hu : u ≤ 1000000) (hc : c ≤ 1000000) (hll : loose.length ≤ 63)
    (CR : ∀ w1, w.grownBy w1 none → Calls Tryz.prog 82 #[.pointer (some ⟨b, 0, none⟩), .agg #[.int .i64 k, .string a, .string s, .string t, .int .i64 z]] w1 fun e w' => e = .returned (.int .i64 0) ∧ w1.grownBy w' none) :
    Calls Tryz.prog 58 #[.pointer (some ⟨b, 0, none⟩), .agg #[.int .i64 k, .string a, .string s, .string t, .int .i64 z]] w fun e w' => e = .returned (.int .i64 0) ∧
      PerfPost base b vn vs vl u c now loose ⟨k, a, s, t, z⟩ w w' := by
  obtain ⟨pa, cp, rfl⟩ := owns_slice hlo
  have HR : Hid (∀ w1, w.grownBy w1 none → Calls Tryz.prog 82 #[.pointer (some ⟨b, 0, none⟩), .agg #[.int .i64 k, .string a, .string s, .string t, .int .i64 z]] w1 fun e w' => e = .returned (.int .i64 0) ∧ w1.grownBy w' none) := CR
  have HB : Hid (Blk w b 96 (rowD vn vs (.slice pa loose.length cp) u c false)) := hB
  have HM : Hid (MapV w base vn now) := hm
  have HL : Hid (w.ownsRow base 120 5 (.slice pa loose.length cp) loose.length (looseL loose)) := hlo
  have hbw : b < w.heap.size := hB.lt
  clear CR hB hm hlo
  have hmm := @run_makeMap Tryz.prog
  have heq1 := eql_nil
  have heq2 := eql_map
  rcases HM.out with ⟨hv, hn⟩ | ⟨g, hv, hg0, ho⟩
  · subst hv
    subst hn
    go_enter Tryz.func58, Tryz.ntmps58
    go_wp2_with (first | (go_at_call 82; refine (HR.out _ (grown_alloc (grown_refl _ _) _)).mono ?_; clear HR; rintro e w2 ⟨rfl, hg2⟩; have G2 : Hid (w.grownBy w2 none) := grown_none (grown_alloc (grown_refl _ _) _) hg2; have C2 : Hid (Blk w2 w.heap.size 120 #[.int .i64 k, .string a, .string s, .string t, .int .i64 z]) := (Blk.new w 120 _).kept hg2 (by simp); clear hg2) | (go_at_call 83; refine (nextFall_any b _ (HB.out.kept G2.out (by simp)).d4).mono ?_; rintro e w3 ⟨rfl, hg3⟩; have G3 : Hid (w.grownBy w3 none) := grown_none G2.out hg3; have C3 : Hid (Blk w3 w.heap.size 120 #[.int .i64 k, .string a, .string s, .string t, .int .i64 z]) := C2.out.kept hg3 (by simp); have B3 : Hid (Blk w3 b 96 (rowD (.map none) vs (.slice pa loose.length cp) u c false)) := HB.out.kept G3.out (by simp); have z0 := B3.out.d0; have f0 := B3.out.frozen 0; have hw3 : w.heap.size ≤ w3.heap.size := G3.out.size; have hb3 : b < w3.heap.size := B3.out.lt; clear hg3))
    obtain ⟨g, eg⟩ : ∃ g, w3.heap.size = g := ⟨_, rfl⟩
    rw [eg]
    have F5 : Hid (w.grownBy ((w3.setCell ⟨b, 0, none⟩ (.map (some g))).alloc (.map #[] 0)) (some b)) := grown_alloc (grown_set (World.grownBy.but G3.out (some b)) 0 _) _
    have B5 : Hid (Blk ((w3.setCell ⟨b, 0, none⟩ (.map (some g))).alloc (.map #[] 0)) b 96 (rowD (.map (some g)) vs (.slice pa loose.length cp) u c false)) := (B3.out.set 0 _).alloc _
    have O5 : Hid (OwnsF ((w3.setCell ⟨b, 0, none⟩ (.map (some g))).alloc (.map #[] 0)) g []) := by
      have hmd := World.ownsMap_made (w3.setCell ⟨b, 0, none⟩ (.map (some g))) Tryz.prog 9 fileElem
      rw [show (w3.setCell ⟨b, 0, none⟩ (.map (some g))).heap.size = g from by simpa [World.setCell] using eg] at hmd
      exact hmd
    have C5 : Hid (Blk ((w3.setCell ⟨b, 0, none⟩ (.map (some g))).alloc (.map #[] 0)) w.heap.size 120 #[.int .i64 k, .string a, .string s, .string t, .int .i64 z]) := (C3.out.other _ (by show w.heap.size ≠ b; omega)).alloc _
    have hg : Hid ((Value.map none = .map (some g) ∨ w.heap.size ≤ g) ∧ base ≤ g) := ⟨Or.inr (by omega), by omega⟩
    have F5' : Hid (∀ i, i < w.heap.size → i ≠ b → ((w3.setCell ⟨b, 0, none⟩ (.map (some g))).alloc (.map #[] 0)).heap[i]? = w.heap[i]?) := fun i hi hne => F5.out.block i hi (fun e => hne (Option.some.inj e))
    have L5 : Hid (((w3.setCell ⟨b, 0, none⟩ (.map (some g))).alloc (.map #[] 0)).ownsRow base 120 5 (.slice pa loose.length cp) loose.length (looseL loose)) := HL.out.kept F5.out (by
      cases hv : (Value.slice pa loose.length cp).ownBlock with
      | none => exact Or.inl rfl
      | some x => exact Or.inr (fun e => by
          have hne := ownBlock_ne HL.out HB.out (by decide)
          rw [hv] at hne
          exact hne e.symm))
    generalize (w3.setCell ⟨b, 0, none⟩ (.map (some g))).alloc (.map #[] 0) = w5 at *
    clear heq1 heq2 G2 G3 C2 C3 B3 z0 f0
    have CD : Hid (∀ W, OwnsF W g [] → Calls Tryz.prog 86 #[.map (some g), .agg #[.int .i64 k, .string a, .string s, .string t, .int .i64 z]] W fun e w' => e = .returned (.tuple #[]) ∧ OwnsF w' g (doF [] ⟨k, a, s, t, z⟩) ∧ W.grownBy w' (some g)) := fun W h => do_any g [] ⟨k, a, s, t, z⟩ W h hl hk han htn hs hz hz1
    have x0 := B5.out.d0
    have y0 : w5.cell? ⟨w.heap.size, 0, none⟩ = some (.int .i64 k) := by rw [C5.out.cell]; rfl
    have y1 : w5.cell? ⟨w.heap.size, 1, none⟩ = some (.string a) := by rw [C5.out.cell]; rfl
    have y2 : w5.cell? ⟨w.heap.size, 2, none⟩ = some (.string s) := by rw [C5.out.cell]; rfl
    have y3 : w5.cell? ⟨w.heap.size, 3, none⟩ = some (.string t) := by rw [C5.out.cell]; rfl
    have y4 : w5.cell? ⟨w.heap.size, 4, none⟩ = some (.int .i64 z) := by rw [C5.out.cell]; rfl
    clear hl hk han htn hs hz hz1 hmm HM HB HL
    have ng1 : b ≠ g := B5.out.ne_map O5.out
    have ng2 : w.heap.size ≠ g := C5.out.ne_map O5.out
    try go_wp2_with fail
    go_region_with (go_at_call 86; refine (CD.out _ O5.out.drew).mono ?_; rintro e w6 ⟨rfl, ho6, hg6⟩; have O6 : Hid (OwnsF w6 g (doF [] ⟨k, a, s, t, z⟩)) := ho6; have G6 : Hid (w5.grownBy w6 (some g)) := grown_of_drew hg6; have B6 : Hid (Blk w6 b 96 (rowD (.map (some g)) vs (.slice pa loose.length cp) u c false)) := B5.out.drew.kept hg6 (fun e => ng1 (Option.some.inj e)); have C6 : Hid (Blk w6 w.heap.size 120 #[.int .i64 k, .string a, .string s, .string t, .int .i64 z]) := C5.out.drew.kept hg6 (fun e => ng2 (Option.some.inj e)); clear ho6 hg6)
    all_goals (
      have O5' : Hid (OwnsF w5 g []) := O5.out
      have L6 : Hid (w6.ownsRow base 120 5 (.slice pa loose.length cp) loose.length (looseL loose)) := owns_map L5.out O5'.out G6.out
      have T6 : Hid (Tend base b w w6) := (Tend.of_self F5.out hb0).trans (Tend.of_map G6.out hg.out.2 O5'.out)
      have x5 := B6.out.d5
      have x3 := B6.out.d3
      have x2 := B6.out.d2
      have f5 := B6.out.frozen 5
      have f3 := B6.out.frozen 3
      have j1 : (c : Int) ≤ 1000000 := by omega
      have j2 : (u : Int) ≤ 1000000 := by omega
      have hF6 : ∀ i, i < w.heap.size → i ≠ b → i ≠ g → w6.heap[i]? = w.heap[i]? := fun i hi h1 h2 => (G6.out.block i (Nat.lt_of_lt_of_le hi F5.out.size) (fun e => h2 (Option.some.inj e))).trans (F5'.out i hi h1)
      have F6 : Hid (∀ i, i < w.heap.size → i ≠ b → i ≠ g → w6.heap[i]? = w.heap[i]?) := hF6
      clear hF6 CD x0 y0 y1 y2 y3 y4 B5 C5 L5
      have B7 : Hid (Blk ((w6.setCell ⟨b, 5, none⟩ (.int .i64 ((c : Int) + 1))).setCell ⟨b, 3, none⟩ (.int .i64 ((u : Int) + 1))) b 96 (rowD (.map (some g)) vs (.slice pa loose.length cp) (u + 1) (c + 1) false)) := (B6.out.set 5 _).set 3 _
      have G7 : Hid (w6.grownBy ((w6.setCell ⟨b, 5, none⟩ (.int .i64 ((c : Int) + 1))).setCell ⟨b, 3, none⟩ (.int .i64 ((u : Int) + 1))) (some b)) := grown_set (grown_set (grown_refl _ _) 5 _) 3 _
      have gnb : some g ≠ some b := fun e => ng1 (Option.some.inj e).symm
      have O7 : Hid (OwnsF ((w6.setCell ⟨b, 5, none⟩ (.int .i64 ((c : Int) + 1))).setCell ⟨b, 3, none⟩ (.int .i64 ((u : Int) + 1))) g (doF [] ⟨k, a, s, t, z⟩)) := O6.out.kept G7.out gnb
      have C7 : Hid (Blk ((w6.setCell ⟨b, 5, none⟩ (.int .i64 ((c : Int) + 1))).setCell ⟨b, 3, none⟩ (.int .i64 ((u : Int) + 1))) w.heap.size 120 #[.int .i64 k, .string a, .string s, .string t, .int .i64 z]) := C6.out.kept G7.out (fun e => by have := Option.some.inj e; omega)
      have L7 : Hid (((w6.setCell ⟨b, 5, none⟩ (.int .i64 ((c : Int) + 1))).setCell ⟨b, 3, none⟩ (.int .i64 ((u : Int) + 1))).ownsRow base 120 5 (.slice pa loose.length cp) loose.length (looseL loose)) := owns_self L6.out B6.out G7.out
      have T7 : Hid (Tend base b w ((w6.setCell ⟨b, 5, none⟩ (.int .i64 ((c : Int) + 1))).setCell ⟨b, 3, none⟩ (.int .i64 ((u : Int) + 1)))) := T6.out.trans (Tend.of_self G7.out hb0)
      have S6 : w.heap.size ≤ w6.heap.size := T6.out.size
      have F7 : Hid (∀ i, i < w.heap.size → i ≠ b → i ≠ g → ((w6.setCell ⟨b, 5, none⟩ (.int .i64 ((c : Int) + 1))).setCell ⟨b, 3, none⟩ (.int .i64 ((u : Int) + 1))).heap[i]? = w.heap[i]?) := fun i hi h1 h2 => (G7.out.block i (Nat.lt_of_lt_of_le hi S6) (fun e => h1 (Option.some.inj e))).trans (F6.out i hi h1 h2)
      by_cases h62 : loose.length ≤ 62
      · have m62 : (loose.length : Int) ≤ 62 := by omega
        have SH : Hid ((if loose.length ≤ 62 then loose ++ [⟨k, a, s, t, z⟩] else loose) = loose ++ [(⟨k, a, s, t, z⟩ : Chg)]) := if_pos h62
        go_wp2_with fail
        generalize (w6.setCell ⟨b, 5, none⟩ (.int .i64 ((c : Int) + 1))).setCell ⟨b, 3, none⟩ (.int .i64 ((u : Int) + 1)) = w7 at *
        clear x5 x3 x2 f5 f3 B6 O6 C6 L6 T6 F6 G7 G6
        have x2 := B7.out.d2
        have f2 := B7.out.frozen 2
        have y0 : w7.cell? ⟨w.heap.size, 0, none⟩ = some (.int .i64 k) := by rw [C7.out.cell]; rfl
        have y1 : w7.cell? ⟨w.heap.size, 1, none⟩ = some (.string a) := by rw [C7.out.cell]; rfl
        have y2 : w7.cell? ⟨w.heap.size, 2, none⟩ = some (.string s) := by rw [C7.out.cell]; rfl
        have y3 : w7.cell? ⟨w.heap.size, 3, none⟩ = some (.string t) := by rw [C7.out.cell]; rfl
        have y4 : w7.cell? ⟨w.heap.size, 4, none⟩ = some (.int .i64 z) := by rw [C7.out.cell]; rfl
        have hb7 : b < w7.heap.size := B7.out.lt
        have hq7 : w.heap.size < w7.heap.size := C7.out.lt
        have hbs : base ≤ w7.heap.size := by omega
        have CL : Hid (∀ j v, (Chg.cells ⟨k, a, s, t, z⟩)[j]? = some v → (w7.alloc (.cells #[.int .i64 k, .string a, .string s, .string t, .int .i64 z] 120)).drew.cell? ((⟨w7.heap.size, 0, none⟩ : Addr).add j) = some v) := fun j v hj => new_cells w7 ⟨k, a, s, t, z⟩ j v hj
        go_region_law (refine step_append base (.slice pa loose.length cp) loose ⟨k, a, s, t, z⟩ ⟨w7.heap.size, 0, none⟩ 1 _ _ (owns_drew (L7.out.alloc _)) CL.out (by omega) (by simp; omega) rfl rfl rfl rfl ?_; intro v8 w8 h8 hg8; obtain ⟨pb, cb, rfl⟩ := owns_slice h8; have L8 : Hid (w8.ownsRow base 120 5 (.slice pb (loose.length + 1) cb) (loose.length + 1) (looseL (loose ++ [⟨k, a, s, t, z⟩]))) := h8; have G8 : Hid ((w7.alloc (.cells #[.int .i64 k, .string a, .string s, .string t, .int .i64 z] 120)).grownBy w8 (Value.slice pa loose.length cp).ownBlock) := ⟨hg8.os, hg8.tape, hg8.output, hg8.size, hg8.block⟩; have B8 : Hid (Blk w8 b 96 (rowD (.map (some g)) vs (.slice pa loose.length cp) (u + 1) (c + 1) false)) := (B7.out.alloc _).kept G8.out (ownBlock_ne L7.out B7.out (by decide)); have v2 := B8.out.d2; have k2 := B8.out.frozen 2; clear h8 hg8)
        all_goals (
          go_wp2_with fail
          go_ret
          have G9 : w8.grownBy (w8.setCell ⟨b, 2, none⟩ (.slice pb (loose.length + 1) cb)) (some b) := grown_set (grown_refl _ _) 2 _
          have O8 : OwnsF w8 g (doF [] ⟨k, a, s, t, z⟩) := (O7.out.alloc _).kept G8.out (ownBlock_map L7.out O7.out)
          refine ⟨rfl, ?_⟩
          unfold PerfPost
          rw [SH.out]
          refine ⟨g, .slice pb (loose.length + 1) cb, hg.out.1, B8.out.set 2 _, O8.kept G9 gnb, ?_, ?_, fun i hi h1 h2 h3 => ?_⟩
          · rw [List.length_append]
            exact owns_self L8.out B8.out G9
          · exact ((T7.out.trans (Tend.of_none (grown_alloc (grown_refl _ _) _))).trans (Tend.of_row G8.out (L7.out.alloc _))).trans (Tend.of_self G9 hb0)
          · have hi7 : i < w7.heap.size := by omega
            have hi8 : i < (w7.alloc (.cells #[.int .i64 k, .string a, .string s, .string t, .int .i64 z] 120)).heap.size := by simp; omega
            exact (G9.block i (Nat.lt_of_lt_of_le hi8 G8.out.size) (fun e => h1 (Option.some.inj e))).trans ((G8.out.block i hi8 h3).trans ((Below.heap_alloc w7 _ i hi7).trans (F7.out i hi h1 (by rintro rfl; exact hg.out.1.elim (fun h => by cases h) (fun h => by omega))))))
      · have m62 : ¬ (loose.length : Int) ≤ 62 := by omega
        have SH : Hid ((if loose.length ≤ 62 then loose ++ [⟨k, a, s, t, z⟩] else loose) = loose) := if_neg h62
        go_wp2_with fail
        go_ret
        refine ⟨rfl, ?_⟩
        unfold PerfPost
        rw [SH.out]
        exact ⟨g, _, hg.out.1, B7.out, O7.out, L7.out, T7.out, fun i hi h1 h2 h3 => F7.out i hi h1 (by rintro rfl; exact hg.out.1.elim (fun h => by cases h) (fun h => by omega))⟩)
  · subst hv
    go_enter Tryz.func58, Tryz.ntmps58
    go_wp2_with (first | (go_at_call 82; refine (HR.out _ (grown_alloc (grown_refl _ _) _)).mono ?_; clear HR; rintro e w2 ⟨rfl, hg2⟩; have G2 : Hid (w.grownBy w2 none) := grown_none (grown_alloc (grown_refl _ _) _) hg2; have C2 : Hid (Blk w2 w.heap.size 120 #[.int .i64 k, .string a, .string s, .string t, .int .i64 z]) := (Blk.new w 120 _).kept hg2 (by simp); clear hg2) | (go_at_call 83; refine (nextFall_any b _ (HB.out.kept G2.out (by simp)).d4).mono ?_; rintro e w3 ⟨rfl, hg3⟩; have G3 : Hid (w.grownBy w3 none) := grown_none G2.out hg3; have C3 : Hid (Blk w3 w.heap.size 120 #[.int .i64 k, .string a, .string s, .string t, .int .i64 z]) := C2.out.kept hg3 (by simp); have B3 : Hid (Blk w3 b 96 (rowD (.map (some g)) vs (.slice pa loose.length cp) u c false)) := HB.out.kept G3.out (by simp); have z0 := B3.out.d0; have f0 := B3.out.frozen 0; have hw3 : w.heap.size ≤ w3.heap.size := G3.out.size; have hb3 : b < w3.heap.size := B3.out.lt; clear hg3))
    obtain ⟨w5, rfl⟩ : ∃ w5, w5 = w3 := ⟨_, rfl⟩
    have F5 : Hid (w.grownBy w5 (some b)) := World.grownBy.but G3.out _
    have B5 : Hid (Blk w5 b 96 (rowD (.map (some g)) vs (.slice pa loose.length cp) u c false)) := B3.out
    have O5 : Hid (OwnsF w5 g now) := ho.kept G3.out (by simp)
    have C5 : Hid (Blk w5 w.heap.size 120 #[.int .i64 k, .string a, .string s, .string t, .int .i64 z]) := C3.out
    have hg : Hid ((Value.map (some g) = .map (some g) ∨ w.heap.size ≤ g) ∧ base ≤ g) := ⟨Or.inl rfl, hg0⟩
    have F5' : Hid (∀ i, i < w.heap.size → i ≠ b → w5.heap[i]? = w.heap[i]?) := fun i hi hne => F5.out.block i hi (fun e => hne (Option.some.inj e))
    have L5 : Hid (w5.ownsRow base 120 5 (.slice pa loose.length cp) loose.length (looseL loose)) := HL.out.kept F5.out (by
      cases hv : (Value.slice pa loose.length cp).ownBlock with
      | none => exact Or.inl rfl
      | some x => exact Or.inr (fun e => by
          have hne := ownBlock_ne HL.out HB.out (by decide)
          rw [hv] at hne
          exact hne e.symm))
    clear heq1 heq2 G2 G3 C2 C3 B3 z0 f0 ho
    have CD : Hid (∀ W, OwnsF W g now → Calls Tryz.prog 86 #[.map (some g), .agg #[.int .i64 k, .string a, .string s, .string t, .int .i64 z]] W fun e w' => e = .returned (.tuple #[]) ∧ OwnsF w' g (doF now ⟨k, a, s, t, z⟩) ∧ W.grownBy w' (some g)) := fun W h => do_any g now ⟨k, a, s, t, z⟩ W h hl hk han htn hs hz hz1
    have x0 := B5.out.d0
    have y0 : w5.cell? ⟨w.heap.size, 0, none⟩ = some (.int .i64 k) := by rw [C5.out.cell]; rfl
    have y1 : w5.cell? ⟨w.heap.size, 1, none⟩ = some (.string a) := by rw [C5.out.cell]; rfl
    have y2 : w5.cell? ⟨w.heap.size, 2, none⟩ = some (.string s) := by rw [C5.out.cell]; rfl
    have y3 : w5.cell? ⟨w.heap.size, 3, none⟩ = some (.string t) := by rw [C5.out.cell]; rfl
    have y4 : w5.cell? ⟨w.heap.size, 4, none⟩ = some (.int .i64 z) := by rw [C5.out.cell]; rfl
    clear hl hk han htn hs hz hz1 hmm HM HB HL
    have ng1 : b ≠ g := B5.out.ne_map O5.out
    have ng2 : w.heap.size ≠ g := C5.out.ne_map O5.out
    try go_wp2_with fail
    go_region_with (go_at_call 86; refine (CD.out _ O5.out.drew).mono ?_; rintro e w6 ⟨rfl, ho6, hg6⟩; have O6 : Hid (OwnsF w6 g (doF now ⟨k, a, s, t, z⟩)) := ho6; have G6 : Hid (w5.grownBy w6 (some g)) := grown_of_drew hg6; have B6 : Hid (Blk w6 b 96 (rowD (.map (some g)) vs (.slice pa loose.length cp) u c false)) := B5.out.drew.kept hg6 (fun e => ng1 (Option.some.inj e)); have C6 : Hid (Blk w6 w.heap.size 120 #[.int .i64 k, .string a, .string s, .string t, .int .i64 z]) := C5.out.drew.kept hg6 (fun e => ng2 (Option.some.inj e)); clear ho6 hg6)
    all_goals (
      have O5' : Hid (OwnsF w5 g now) := O5.out
      have L6 : Hid (w6.ownsRow base 120 5 (.slice pa loose.length cp) loose.length (looseL loose)) := owns_map L5.out O5'.out G6.out
      have T6 : Hid (Tend base b w w6) := (Tend.of_self F5.out hb0).trans (Tend.of_map G6.out hg.out.2 O5'.out)
      have x5 := B6.out.d5
      have x3 := B6.out.d3
      have x2 := B6.out.d2
      have f5 := B6.out.frozen 5
      have f3 := B6.out.frozen 3
      have j1 : (c : Int) ≤ 1000000 := by omega
      have j2 : (u : Int) ≤ 1000000 := by omega
      have hF6 : ∀ i, i < w.heap.size → i ≠ b → i ≠ g → w6.heap[i]? = w.heap[i]? := fun i hi h1 h2 => (G6.out.block i (Nat.lt_of_lt_of_le hi F5.out.size) (fun e => h2 (Option.some.inj e))).trans (F5'.out i hi h1)
      have F6 : Hid (∀ i, i < w.heap.size → i ≠ b → i ≠ g → w6.heap[i]? = w.heap[i]?) := hF6
      clear hF6 CD x0 y0 y1 y2 y3 y4 B5 C5 L5
      have B7 : Hid (Blk ((w6.setCell ⟨b, 5, none⟩ (.int .i64 ((c : Int) + 1))).setCell ⟨b, 3, none⟩ (.int .i64 ((u : Int) + 1))) b 96 (rowD (.map (some g)) vs (.slice pa loose.length cp) (u + 1) (c + 1) false)) := (B6.out.set 5 _).set 3 _
      have G7 : Hid (w6.grownBy ((w6.setCell ⟨b, 5, none⟩ (.int .i64 ((c : Int) + 1))).setCell ⟨b, 3, none⟩ (.int .i64 ((u : Int) + 1))) (some b)) := grown_set (grown_set (grown_refl _ _) 5 _) 3 _
      have gnb : some g ≠ some b := fun e => ng1 (Option.some.inj e).symm
      have O7 : Hid (OwnsF ((w6.setCell ⟨b, 5, none⟩ (.int .i64 ((c : Int) + 1))).setCell ⟨b, 3, none⟩ (.int .i64 ((u : Int) + 1))) g (doF now ⟨k, a, s, t, z⟩)) := O6.out.kept G7.out gnb
      have C7 : Hid (Blk ((w6.setCell ⟨b, 5, none⟩ (.int .i64 ((c : Int) + 1))).setCell ⟨b, 3, none⟩ (.int .i64 ((u : Int) + 1))) w.heap.size 120 #[.int .i64 k, .string a, .string s, .string t, .int .i64 z]) := C6.out.kept G7.out (fun e => by have := Option.some.inj e; omega)
      have L7 : Hid (((w6.setCell ⟨b, 5, none⟩ (.int .i64 ((c : Int) + 1))).setCell ⟨b, 3, none⟩ (.int .i64 ((u : Int) + 1))).ownsRow base 120 5 (.slice pa loose.length cp) loose.length (looseL loose)) := owns_self L6.out B6.out G7.out
      have T7 : Hid (Tend base b w ((w6.setCell ⟨b, 5, none⟩ (.int .i64 ((c : Int) + 1))).setCell ⟨b, 3, none⟩ (.int .i64 ((u : Int) + 1)))) := T6.out.trans (Tend.of_self G7.out hb0)
      have S6 : w.heap.size ≤ w6.heap.size := T6.out.size
      have F7 : Hid (∀ i, i < w.heap.size → i ≠ b → i ≠ g → ((w6.setCell ⟨b, 5, none⟩ (.int .i64 ((c : Int) + 1))).setCell ⟨b, 3, none⟩ (.int .i64 ((u : Int) + 1))).heap[i]? = w.heap[i]?) := fun i hi h1 h2 => (G7.out.block i (Nat.lt_of_lt_of_le hi S6) (fun e => h1 (Option.some.inj e))).trans (F6.out i hi h1 h2)
      by_cases h62 : loose.length ≤ 62
      · have m62 : (loose.length : Int) ≤ 62 := by omega
        have SH : Hid ((if loose.length ≤ 62 then loose ++ [⟨k, a, s, t, z⟩] else loose) = loose ++ [(⟨k, a, s, t, z⟩ : Chg)]) := if_pos h62
        go_wp2_with fail
        generalize (w6.setCell ⟨b, 5, none⟩ (.int .i64 ((c : Int) + 1))).setCell ⟨b, 3, none⟩ (.int .i64 ((u : Int) + 1)) = w7 at *
        clear x5 x3 x2 f5 f3 B6 O6 C6 L6 T6 F6 G7 G6
        have x2 := B7.out.d2
        have f2 := B7.out.frozen 2
        have y0 : w7.cell? ⟨w.heap.size, 0, none⟩ = some (.int .i64 k) := by rw [C7.out.cell]; rfl
        have y1 : w7.cell? ⟨w.heap.size, 1, none⟩ = some (.string a) := by rw [C7.out.cell]; rfl
        have y2 : w7.cell? ⟨w.heap.size, 2, none⟩ = some (.string s) := by rw [C7.out.cell]; rfl
        have y3 : w7.cell? ⟨w.heap.size, 3, none⟩ = some (.string t) := by rw [C7.out.cell]; rfl
        have y4 : w7.cell? ⟨w.heap.size, 4, none⟩ = some (.int .i64 z) := by rw [C7.out.cell]; rfl
        have hb7 : b < w7.heap.size := B7.out.lt
        have hq7 : w.heap.size < w7.heap.size := C7.out.lt
        have hbs : base ≤ w7.heap.size := by omega
        have CL : Hid (∀ j v, (Chg.cells ⟨k, a, s, t, z⟩)[j]? = some v → (w7.alloc (.cells #[.int .i64 k, .string a, .string s, .string t, .int .i64 z] 120)).drew.cell? ((⟨w7.heap.size, 0, none⟩ : Addr).add j) = some v) := fun j v hj => new_cells w7 ⟨k, a, s, t, z⟩ j v hj
        go_region_law (refine step_append base (.slice pa loose.length cp) loose ⟨k, a, s, t, z⟩ ⟨w7.heap.size, 0, none⟩ 1 _ _ (owns_drew (L7.out.alloc _)) CL.out (by omega) (by simp; omega) rfl rfl rfl rfl ?_; intro v8 w8 h8 hg8; obtain ⟨pb, cb, rfl⟩ := owns_slice h8; have L8 : Hid (w8.ownsRow base 120 5 (.slice pb (loose.length + 1) cb) (loose.length + 1) (looseL (loose ++ [⟨k, a, s, t, z⟩]))) := h8; have G8 : Hid ((w7.alloc (.cells #[.int .i64 k, .string a, .string s, .string t, .int .i64 z] 120)).grownBy w8 (Value.slice pa loose.length cp).ownBlock) := ⟨hg8.os, hg8.tape, hg8.output, hg8.size, hg8.block⟩; have B8 : Hid (Blk w8 b 96 (rowD (.map (some g)) vs (.slice pa loose.length cp) (u + 1) (c + 1) false)) := (B7.out.alloc _).kept G8.out (ownBlock_ne L7.out B7.out (by decide)); have v2 := B8.out.d2; have k2 := B8.out.frozen 2; clear h8 hg8)
        all_goals (
          go_wp2_with fail
          go_ret
          have G9 : w8.grownBy (w8.setCell ⟨b, 2, none⟩ (.slice pb (loose.length + 1) cb)) (some b) := grown_set (grown_refl _ _) 2 _
          have O8 : OwnsF w8 g (doF now ⟨k, a, s, t, z⟩) := (O7.out.alloc _).kept G8.out (ownBlock_map L7.out O7.out)
          refine ⟨rfl, ?_⟩
          unfold PerfPost
          rw [SH.out]
          refine ⟨g, .slice pb (loose.length + 1) cb, Or.inl rfl, B8.out.set 2 _, O8.kept G9 gnb, ?_, ?_, fun i hi h1 h2 h3 => ?_⟩
          · rw [List.length_append]
            exact owns_self L8.out B8.out G9
          · exact ((T7.out.trans (Tend.of_none (grown_alloc (grown_refl _ _) _))).trans (Tend.of_row G8.out (L7.out.alloc _))).trans (Tend.of_self G9 hb0)
          · have hi7 : i < w7.heap.size := by omega
            have hi8 : i < (w7.alloc (.cells #[.int .i64 k, .string a, .string s, .string t, .int .i64 z] 120)).heap.size := by simp; omega
            exact (G9.block i (Nat.lt_of_lt_of_le hi8 G8.out.size) (fun e => h1 (Option.some.inj e))).trans ((G8.out.block i hi8 h3).trans ((Below.heap_alloc w7 _ i hi7).trans (F7.out i hi h1 (by rintro rfl; exact h2 rfl)))))
      · have m62 : ¬ (loose.length : Int) ≤ 62 := by omega
        have SH : Hid ((if loose.length ≤ 62 then loose ++ [⟨k, a, s, t, z⟩] else loose) = loose) := if_neg h62
        go_wp2_with fail
        go_ret
        refine ⟨rfl, ?_⟩
        unfold PerfPost
        rw [SH.out]
        exact ⟨g, _, Or.inl rfl, B7.out, O7.out, L7.out, T7.out, fun i hi h1 h2 h3 => F7.out i hi h1 (by rintro rfl; exact h2 rfl)⟩)
end Go.Proofs.YtbhmmcelndmijaaGreat
