/-
  growth, nextFall, refusal: why a change may not be. refusal: why a change may not be. What a disk's call may turn: its own block, its maps, its list of changes; nothing below base, and no other cells.
-/
import Derived.Test.YtbhmmcelndmijaaGreatKCopy
import Derived.Deep.RegionHeld3
import Derived.BigQuiet
import Derived.Deep.QuietTactic
namespace Go.Proofs.YtbhmmcelndmijaaGreat
open Go.RowKit Go.Maps
set_option maxRecDepth 100000 in
theorem growth_any (b : Nat) (n : Int) (w : World) (h6 : w.cell? ⟨b, 6, none⟩ = some (.bool false)) : Calls Tryz.prog 106 #[.pointer (some ⟨b, 0, none⟩), .int .i64 n] w fun e w' => e = .returned (.int .i64 0) ∧ ∃ k, w' = w.drewN k := by
  by_cases hn : 0 < n
  · have hd : decide (0 < n) = true := by simpa using hn
    go_enter Tryz.func106, Tryz.ntmps106
    go_wp2_with fail
    go_quiet (fail)
    go_wp2_with fail
    go_ret
    exact ⟨rfl, _, rfl⟩
  · have hd : decide (0 < n) = false := by simpa using hn
    go_enter Tryz.func106, Tryz.ntmps106
    go_wp2_with fail
    go_quiet (fail)
    go_wp2_with fail
    go_ret
    exact ⟨rfl, _, rfl⟩
set_option maxRecDepth 100000 in
theorem index_none (f : Value) (w : World) : Calls Tryz.prog 107 #[.slice none 0 0, f] w fun e w' => e = .returned (.int .i64 (-1)) ∧ w' = w := by
  go_enter Tryz.func107, Tryz.ntmps107
  go_wp2
  refine wp_loop_rounds 1 ?_
  rw [rounds_succ]
  go_wp2
  go_ret
  exact ⟨rfl, rfl⟩
set_option maxRecDepth 100000 in
theorem nextFall_any (b : Nat) (w : World) (h4 : w.cell? ⟨b, 4, none⟩ = some (.slice none 0 0)) : Calls Tryz.prog 83 #[.pointer (some ⟨b, 0, none⟩)] w fun e w' => e = .returned (.int .i64 (-1)) ∧ w.grownBy w' none := by
  have hb : b < w.heap.size := World.block_lt_of_cell? _ _ h4
  go_enter Tryz.func83, Tryz.ntmps83
  go_wp2_with (go_at_call 107; refine (index_none _ _).mono ?_; rintro e w' ⟨rfl, hw⟩; have hw2 := hw.symm; clear hw; subst hw2)
  go_ret
  exact ⟨rfl, grown_alloc (grown_refl _ _) _⟩
end Go.Proofs.YtbhmmcelndmijaaGreat
namespace Go.Proofs.YtbhmmcelndmijaaGreat
open Go.RowKit Go.Maps
theorem grown_drewN {w w' : World} {row : Option Nat} (h : w.grownBy w' row) (n : Nat) : w.grownBy (w'.drewN n) row := ⟨h.os, h.tape, h.output, h.size, h.block⟩
theorem MapV.alloc {w : World} {base : Nat} {v : Value} {l : FS} (h : MapV w base v l) (o : Obj) : MapV (w.alloc o) base v l := h.kept (grown_alloc (grown_refl _ none) _) (fun _ _ => by simp)
theorem run_lookup {w : World} {base : Nat} {v : Value} {l : FS} (h : MapV w base v l) (n : ByteArray) (hn : n.size ≤ maxLen) :
    (Instr.lookup 92 v (.string n) true).run Tryz.prog w = .ok (.tuple #[.agg #[.string ((getF l n).getD ⟨#[]⟩)], .bool (getF l n).isSome]) w := by
  rcases h with ⟨rfl, rfl⟩ | ⟨g, rfl, _, ho⟩
  · exact Maps.look_nil (w := w) true law9 Tryz.underlying92 (zero84 w) (key_ok hn)
  · obtain ⟨v, ps, h1, h2⟩ := World.ownsMap.look_ok ho law9 Tryz.underlying92 (zero84 w) (fileElem_mk (Nat.zero_le _)) (key_ok hn)
    obtain ⟨s, rfl, hs⟩ := fileElem_inv h2
    have h3 := congrArg Prod.fst hs
    rw [show (⟨#[]⟩ : ByteArray) = ⟨#[]⟩ from rfl, datum_at] at h3
    rw [datum_has, ← lit_inj h3] at h1
    exact h1
set_option maxRecDepth 100000 in
set_option maxHeartbeats 1000000 in
/-- An Append or a Write whose name may be. -/
theorem refusal_put (base b : Nat) (k z : Int) (vn vs vl : Value) (u c : Nat) (l : FS) (a s t : ByteArray) (w : World) (hk : k = 0 ∨ k = 1) (hB : Blk w b 96 (rowD vn vs vl u c false))
    (hm : MapV w base vn l) (hl : Fits l 1000000) (ha : nameB a = true) (ham : a.size ≤ maxLen) (hs : s.size ≤ 1000000) :
    Calls Tryz.prog 82 #[.pointer (some ⟨b, 0, none⟩), .agg #[.int .i64 k, .string a, .string s, .string t, .int .i64 z]] w fun e w' => e = .returned (.int .i64 0) ∧ w.grownBy w' none := by
  have hb : b < w.heap.size := hB.lt
  have HB : Hid (Blk (w.alloc (.cells #[.int .i64 k, .string a, .string s, .string t, .int .i64 z] 120)) b 96 (rowD vn vs vl u c false)) := hB.alloc _
  have hlk := run_lookup (w := (w.alloc (.cells #[.int .i64 k, .string a, .string s, .string t, .int .i64 z] 120)).drew) (base := base) (v := vn) (l := l) (hm.alloc _) a ham
  have hlk2 := run_lookup (w := ((w.alloc (.cells #[.int .i64 k, .string a, .string s, .string t, .int .i64 z] 120)).alloc (.cells #[.string ⟨#[]⟩] 123)).drew) (base := base) (v := vn) (l := l) ((hm.alloc _).alloc _) a ham
  have HC : Hid (Blk (w.alloc (.cells #[.int .i64 k, .string a, .string s, .string t, .int .i64 z] 120)) w.heap.size 120 #[.int .i64 k, .string a, .string s, .string t, .int .i64 z]) := Blk.new _ _ _
  have HG : Hid (w.grownBy (w.alloc (.cells #[.int .i64 k, .string a, .string s, .string t, .int .i64 z] 120)) none) := grown_alloc (grown_refl _ _) _
  have hz := get_size hl a
  generalize (getF l a).getD ⟨#[]⟩ = old at *
  generalize (getF l a).isSome = there at *
  have CN : Hid (∀ w, Calls Tryz.prog 60 #[.string a] w fun e w' => e = .returned (.bool true) ∧ w' = w) := fun w => by rw [← ha]; exact name_any a w ham
  have i1 : (s.size : Int) ≤ 1000000 := by omega
  have i2 : (old.size : Int) ≤ 1000000 := by omega
  clear hm hl ha ham hs hz hB
  rcases hk with rfl | rfl
  · go_enter Tryz.func82, Tryz.ntmps82
    go_wp2_with (first | (go_at_call 59; refine (dead_any b false _ HB.out.d8).mono ?_; rintro e w' ⟨rfl, hw⟩; have hw2 := hw.symm; clear hw; subst hw2) | (go_at_call 60; refine (CN.out _).mono ?_; rintro e w' ⟨rfl, hw⟩; have hw2 := hw.symm; clear hw; subst hw2))
    have hbq : b < w.heap.size := hb
    have c0 := HB.out.d0
    have q1 : (w.alloc (.cells #[.int .i64 0, .string a, .string s, .string t, .int .i64 z] 120)).cell? ⟨w.heap.size, 1, none⟩ = some (.string a) := by rw [HC.out.cell]; rfl
    have q0 : (w.alloc (.cells #[.int .i64 0, .string a, .string s, .string t, .int .i64 z] 120)).cell? ⟨w.heap.size, 0, none⟩ = some (.int .i64 0) := by rw [HC.out.cell]; rfl
    have q2 : (w.alloc (.cells #[.int .i64 0, .string a, .string s, .string t, .int .i64 z] 120)).cell? ⟨w.heap.size, 2, none⟩ = some (.string s) := by rw [HC.out.cell]; rfl
    have hqs : w.heap.size < (w.alloc (.cells #[.int .i64 0, .string a, .string s, .string t, .int .i64 z] 120)).heap.size := by simp
    generalize w.alloc (.cells #[.int .i64 0, .string a, .string s, .string t, .int .i64 z] 120) = w1 at *
    generalize w.heap.size = q at *
    have hb1 : b < w1.heap.size := by omega
    go_region
    all_goals (
      go_wp2_with (go_at_call 106; refine (growth_any b _ _ (HB.out.drew.alloc _).d6).mono ?_; rintro e w' ⟨rfl, hw⟩)
      go_ret
      obtain ⟨kk, rfl⟩ := hw
      exact ⟨rfl, grown_drewN (grown_alloc (grown_drew HG.out) _) _⟩)
  · go_enter Tryz.func82, Tryz.ntmps82
    go_wp2_with (first | (go_at_call 59; refine (dead_any b false _ HB.out.d8).mono ?_; rintro e w' ⟨rfl, hw⟩; have hw2 := hw.symm; clear hw; subst hw2) | (go_at_call 60; refine (CN.out _).mono ?_; rintro e w' ⟨rfl, hw⟩; have hw2 := hw.symm; clear hw; subst hw2))
    have hbq : b < w.heap.size := hb
    have c0 := HB.out.d0
    have q1 : (w.alloc (.cells #[.int .i64 1, .string a, .string s, .string t, .int .i64 z] 120)).cell? ⟨w.heap.size, 1, none⟩ = some (.string a) := by rw [HC.out.cell]; rfl
    have q0 : (w.alloc (.cells #[.int .i64 1, .string a, .string s, .string t, .int .i64 z] 120)).cell? ⟨w.heap.size, 0, none⟩ = some (.int .i64 1) := by rw [HC.out.cell]; rfl
    have q2 : (w.alloc (.cells #[.int .i64 1, .string a, .string s, .string t, .int .i64 z] 120)).cell? ⟨w.heap.size, 2, none⟩ = some (.string s) := by rw [HC.out.cell]; rfl
    have hqs : w.heap.size < (w.alloc (.cells #[.int .i64 1, .string a, .string s, .string t, .int .i64 z] 120)).heap.size := by simp
    generalize w.alloc (.cells #[.int .i64 1, .string a, .string s, .string t, .int .i64 z] 120) = w1 at *
    generalize w.heap.size = q at *
    have hb1 : b < w1.heap.size := by omega
    go_region
    all_goals (
      go_wp2_with (go_at_call 106; refine (growth_any b _ _ (HB.out.drew.alloc _).d6).mono ?_; rintro e w' ⟨rfl, hw⟩)
      go_ret
      obtain ⟨kk, rfl⟩ := hw
      exact ⟨rfl, grown_drewN (grown_alloc (grown_drew HG.out) _) _⟩)
end Go.Proofs.YtbhmmcelndmijaaGreat
namespace Go.Proofs.YtbhmmcelndmijaaGreat
open Go.RowKit Go.Maps
/-- A block that no call of the disk at b turns. -/
def Safe (base b : Nat) (w : World) (i : Nat) : Prop := i < base ∨ (i ≠ b ∧ ∃ cs t fz, w.heap[i]? = some (.cells cs t fz) ∧ t ≠ 120)
structure Tend (base b : Nat) (w w' : World) : Prop where
  os : w'.os = w.os
  tape : w'.tape = w.tape
  output : w'.output = w.output
  size : w.heap.size ≤ w'.heap.size
  keep : ∀ i, i < w.heap.size → Safe base b w i → w'.heap[i]? = w.heap[i]?
theorem Tend.of_grown {base b : Nat} {w w' : World} {row : Option Nat} (h : w.grownBy w' row) (hr : ∀ i, Safe base b w i → some i ≠ row) : Tend base b w w' :=
  ⟨h.os, h.tape, h.output, h.size, fun i hi hs => h.block i hi (hr i hs)⟩
theorem Tend.of_none {base b : Nat} {w w' : World} (h : w.grownBy w' none) : Tend base b w w' := Tend.of_grown h (fun _ _ => by simp)
theorem Tend.of_self {base b : Nat} {w w' : World} (h : w.grownBy w' (some b)) (hb : base ≤ b) : Tend base b w w' := Tend.of_grown h (fun i hs e => by
  have e' := Option.some.inj e
  rcases hs with hs | ⟨hn, _⟩
  · omega
  · exact hn e')
theorem Tend.of_map {base b g : Nat} {w w' : World} {l : FS} (h : w.grownBy w' (some g)) (hg : base ≤ g) (ho : OwnsF w g l) : Tend base b w w' := Tend.of_grown h (fun i hs e => by
  have e' := Option.some.inj e
  subst e'
  rcases hs with hs | ⟨_, cs, t, fz, hc, _⟩
  · omega
  · obtain ⟨es, clock, hm⟩ := ho.isMap
    rw [hm] at hc
    cases hc)
theorem Tend.of_row {base b : Nat} {w w' : World} {v : Value} {n : Nat} {xs : List Value} (h : w.grownBy w' v.ownBlock) (ho : w.ownsRow base 120 5 v n xs) : Tend base b w w' := Tend.of_grown h (fun i hs e => by
  rcases ho.2 with ⟨rfl, _⟩ | ⟨g, cap, cur, rfl, hg, hh, _⟩
  · cases e
  · have e' : i = g := Option.some.inj e
    subst e'
    rcases hs with hs | ⟨_, cs, t, fz, hc, ht⟩
    · omega
    · rw [hh] at hc
      injection hc with hc
      injection hc with _ h2
      exact ht h2.symm)
theorem Safe.after {base b : Nat} {w w' : World} {i : Nat} (h : Tend base b w w') (hi : i < w.heap.size) (hs : Safe base b w i) : Safe base b w' i := by
  have hk := h.keep i hi hs
  rcases hs with hs | ⟨hn, cs, t, fz, hc, ht⟩
  · exact Or.inl hs
  · exact Or.inr ⟨hn, cs, t, fz, hk.trans hc, ht⟩
theorem Tend.refl (base b : Nat) (w : World) : Tend base b w w := ⟨rfl, rfl, rfl, Nat.le_refl _, fun _ _ _ => rfl⟩
theorem Tend.trans {base b : Nat} {w w' w'' : World} (h : Tend base b w w') (k : Tend base b w' w'') : Tend base b w w'' :=
  ⟨k.os.trans h.os, k.tape.trans h.tape, k.output.trans h.output, Nat.le_trans h.size k.size, fun i hi hs => (k.keep i (Nat.lt_of_lt_of_le hi h.size) (Safe.after h hi hs)).trans (h.keep i hi hs)⟩
theorem Tend.grown {b : Nat} {w w' w'' : World} (h0 : w.grownBy w' none) (h : Tend w.heap.size b w' w'') : w.grownBy w'' none :=
  ⟨h.os.trans h0.os, h.tape.trans h0.tape, h.output.trans h0.output, Nat.le_trans h0.size h.size, fun i hi _ => (h.keep i (Nat.lt_of_lt_of_le hi h0.size) (Or.inl hi)).trans (h0.block i hi (by simp))⟩
/-- Blocks of cells that are none of the disk's stay. -/
theorem Blk.tend {base b i : Nat} {w w' : World} {t : TypeId} {cs : Array Value} (h : Blk w i t cs) (hT : Tend base b w w') (hi : i ≠ b) (ht : t ≠ 120) : Blk w' i t cs :=
  (hT.keep i h.lt (Or.inr ⟨hi, cs, t, (0, 0), h, ht⟩)).trans h
theorem info80 : (Tryz.prog.info? 120).map (fun i => (i.zero, i.size, i.bytes)) = some (some (.agg #[.int .i64 0, .string ⟨#[]⟩, .string ⟨#[]⟩, .string ⟨#[]⟩, .int .i64 0]), 5, 64) := by kernel_rfl
theorem looseL_snoc (l : List Chg) (c : Chg) : looseL l ++ c.cells = looseL (l ++ [c]) := by
  unfold looseL
  rw [List.flatMap_append, List.flatMap_cons, List.flatMap_nil, List.append_nil]
/-- append of a change, as a step of a region that draws. -/
theorem step_append {ops : Array Oper} {o : Oper} {a : Act} {w : World} {K : Act → World → Prop} {Q : Exit → Act → World → Prop} {E : Prop} (base : Nat) (v : Value) (l : List Chg) (c : Chg) (ad : Addr) (cc : Nat) (s x : Operand)
    (hrow : w.ownsRow base 120 5 v l.length (looseL l)) (hcell : ∀ j u, c.cells[j]? = some u → w.cell? (ad.add j) = some u) (hl : l.length ≤ 1000) (hbase : base ≤ w.heap.size)
    (hg : o.guard = none) (ho : o.op = Op.call { callee := Callee.builtin Builtin.append, args := #[s, x], argTypes := #[93, 93] }) (hs : a.eval s = v) (hx : a.eval x = .slice (some ad) 1 cc)
    (hK : ∀ v' w', w'.ownsRow base 120 5 v' (l.length + 1) (looseL (l ++ [c])) → w.grownBy w' v.ownBlock → K (a.put o.dst v') w') :
    if Region.wanted o (yielded ops a.tmps) = true then Oper.wp Tryz.prog o a w K Q else E := by
  have hw : Region.wanted o (yielded ops a.tmps) = true := by simp [Region.wanted, hg]
  rw [if_pos hw]
  obtain ⟨i80, hi, hz0, hz1, hz2⟩ := info_parts info80
  refine wp_append_own w s x 93 ho base 120 i80 _ 5 64 Tryz.underlying93 hi hz0 hz1 hz2 rfl (by decide) v l.length (looseL l) hs hrow ad 1 cc c.cells hx rfl hcell ?_ (by unfold maxLen; omega) (by omega) hbase ?_
  · intro u hu
    unfold Chg.cells at hu
    simp only [List.mem_cons, List.not_mem_nil, or_false] at hu
    rcases hu with rfl | rfl | rfl | rfl | rfl <;> rfl
  · intro v' w' h1 h2 _
    rw [looseL_snoc] at h1
    exact hK v' w' h1 h2
end Go.Proofs.YtbhmmcelndmijaaGreat
