/-
  growth, nextFall, refusal: why a change may not be. refusal: why a change may not be.
-/
import Derived.Test.YtddnjlnnkeiplaaDo
import Derived.Deep.RegionHeld3
import Derived.BigQuiet
import Derived.Deep.QuietTactic
namespace Go.Proofs.Ytddnjlnnkeiplaa
open Go.RowKit Go.Maps
set_option maxRecDepth 100000 in
theorem growth_any (b : Nat) (n : Int) (w : World) (h6 : w.cell? ⟨b, 6, none⟩ = some (.bool false)) : Calls Try.prog 79 #[.pointer (some ⟨b, 0, none⟩), .int .i64 n] w fun e w' => e = .returned (.int .i64 0) ∧ ∃ k, w' = w.drewN k := by
  by_cases hn : 0 < n
  · have hd : decide (0 < n) = true := by simpa using hn
    go_enter Try.func79, Try.ntmps79
    go_wp2_with fail
    go_quiet (fail)
    go_wp2_with fail
    go_ret
    exact ⟨rfl, _, rfl⟩
  · have hd : decide (0 < n) = false := by simpa using hn
    go_enter Try.func79, Try.ntmps79
    go_wp2_with fail
    go_quiet (fail)
    go_wp2_with fail
    go_ret
    exact ⟨rfl, _, rfl⟩
set_option maxRecDepth 100000 in
theorem index_none (f : Value) (w : World) : Calls Try.prog 80 #[.slice none 0 0, f] w fun e w' => e = .returned (.int .i64 (-1)) ∧ w' = w := by
  go_enter Try.func80, Try.ntmps80
  go_wp2
  refine wp_loop_rounds 1 ?_
  rw [rounds_succ]
  go_wp2
  go_ret
  exact ⟨rfl, rfl⟩
set_option maxRecDepth 100000 in
theorem nextFall_any (b : Nat) (w : World) (h4 : w.cell? ⟨b, 4, none⟩ = some (.slice none 0 0)) : Calls Try.prog 73 #[.pointer (some ⟨b, 0, none⟩)] w fun e w' => e = .returned (.int .i64 (-1)) ∧ w.grownBy w' none := by
  have hb : b < w.heap.size := World.block_lt_of_cell? _ _ h4
  go_enter Try.func73, Try.ntmps73
  go_wp2_with (go_at_call 80; refine (index_none _ _).mono ?_; rintro e w' ⟨rfl, hw⟩; have hw2 := hw.symm; clear hw; subst hw2)
  go_ret
  exact ⟨rfl, grown_alloc (grown_refl _ _) _⟩
end Go.Proofs.Ytddnjlnnkeiplaa
namespace Go.Proofs.Ytddnjlnnkeiplaa
open Go.RowKit Go.Maps
theorem grown_drewN {w w' : World} {row : Option Nat} (h : w.grownBy w' row) (n : Nat) : w.grownBy (w'.drewN n) row := ⟨h.os, h.tape, h.output, h.size, h.block⟩
theorem MapV.alloc {w : World} {base : Nat} {v : Value} {l : FS} (h : MapV w base v l) (o : Obj) : MapV (w.alloc o) base v l := h.kept (grown_alloc (grown_refl _ none) _) (fun _ _ => by simp)
theorem run_lookup {w : World} {base : Nat} {v : Value} {l : FS} (h : MapV w base v l) (n : ByteArray) (hn : n.size ≤ maxLen) :
    (Instr.lookup 70 v (.string n) true).run Try.prog w = .ok (.tuple #[.agg #[.string ((getF l n).getD ⟨#[]⟩)], .bool (getF l n).isSome]) w := by
  rcases h with ⟨rfl, rfl⟩ | ⟨g, rfl, _, ho⟩
  · exact Maps.look_nil (w := w) true law9 Try.underlying70 (zero84 w) (key_ok hn)
  · obtain ⟨v, ps, h1, h2⟩ := World.ownsMap.look_ok ho law9 Try.underlying70 (zero84 w) (fileElem_mk (Nat.zero_le _)) (key_ok hn)
    obtain ⟨s, rfl, hs⟩ := fileElem_inv h2
    have h3 := congrArg Prod.fst hs
    rw [show (⟨#[]⟩ : ByteArray) = ⟨#[]⟩ from rfl, datum_at] at h3
    rw [datum_has, ← lit_inj h3] at h1
    exact h1
set_option maxRecDepth 100000 in
set_option maxHeartbeats 1000000 in
/-- An Append or a Write whose name may be. -/
theorem refusal_put (base b : Nat) (k z : Int) (vn vs vl : Value) (u c : Nat) (l : FS) (a s t : ByteArray) (w : World) (hk : k = 0 ∨ k = 1) (hB : Blk w b 73 (rowD vn vs vl u c false))
    (hm : MapV w base vn l) (hl : Fits l 1000000) (ha : nameB a = true) (ham : a.size ≤ maxLen) (hs : s.size ≤ 1000000) :
    Calls Try.prog 72 #[.pointer (some ⟨b, 0, none⟩), .agg #[.int .i64 k, .string a, .string s, .string t, .int .i64 z]] w fun e w' => e = .returned (.int .i64 0) ∧ w.grownBy w' none := by
  have hb : b < w.heap.size := hB.lt
  have HB : Hid (Blk (w.alloc (.cells #[.int .i64 k, .string a, .string s, .string t, .int .i64 z] 101)) b 73 (rowD vn vs vl u c false)) := hB.alloc _
  have hlk := run_lookup (w := (w.alloc (.cells #[.int .i64 k, .string a, .string s, .string t, .int .i64 z] 101)).drew) (base := base) (v := vn) (l := l) (hm.alloc _) a ham
  have hlk2 := run_lookup (w := ((w.alloc (.cells #[.int .i64 k, .string a, .string s, .string t, .int .i64 z] 101)).alloc (.cells #[.string ⟨#[]⟩] 105)).drew) (base := base) (v := vn) (l := l) ((hm.alloc _).alloc _) a ham
  have HC : Hid (Blk (w.alloc (.cells #[.int .i64 k, .string a, .string s, .string t, .int .i64 z] 101)) w.heap.size 101 #[.int .i64 k, .string a, .string s, .string t, .int .i64 z]) := Blk.new _ _ _
  have HG : Hid (w.grownBy (w.alloc (.cells #[.int .i64 k, .string a, .string s, .string t, .int .i64 z] 101)) none) := grown_alloc (grown_refl _ _) _
  have hz := get_size hl a
  generalize (getF l a).getD ⟨#[]⟩ = old at *
  generalize (getF l a).isSome = there at *
  have CN : Hid (∀ w, Calls Try.prog 59 #[.string a] w fun e w' => e = .returned (.bool true) ∧ w' = w) := fun w => by rw [← ha]; exact name_any a w ham
  have i1 : (s.size : Int) ≤ 1000000 := by omega
  have i2 : (old.size : Int) ≤ 1000000 := by omega
  clear hm hl ha ham hs hz hB
  rcases hk with rfl | rfl
  · go_enter Try.func72, Try.ntmps72
    go_wp2_with (first | (go_at_call 27; refine (dead_any b false _ HB.out.d8).mono ?_; rintro e w' ⟨rfl, hw⟩; have hw2 := hw.symm; clear hw; subst hw2) | (go_at_call 59; refine (CN.out _).mono ?_; rintro e w' ⟨rfl, hw⟩; have hw2 := hw.symm; clear hw; subst hw2))
    have hbq : b < w.heap.size := hb
    have c0 := HB.out.d0
    have q1 : (w.alloc (.cells #[.int .i64 0, .string a, .string s, .string t, .int .i64 z] 101)).cell? ⟨w.heap.size, 1, none⟩ = some (.string a) := by rw [HC.out.cell]; rfl
    have q0 : (w.alloc (.cells #[.int .i64 0, .string a, .string s, .string t, .int .i64 z] 101)).cell? ⟨w.heap.size, 0, none⟩ = some (.int .i64 0) := by rw [HC.out.cell]; rfl
    have q2 : (w.alloc (.cells #[.int .i64 0, .string a, .string s, .string t, .int .i64 z] 101)).cell? ⟨w.heap.size, 2, none⟩ = some (.string s) := by rw [HC.out.cell]; rfl
    have hqs : w.heap.size < (w.alloc (.cells #[.int .i64 0, .string a, .string s, .string t, .int .i64 z] 101)).heap.size := by simp
    generalize w.alloc (.cells #[.int .i64 0, .string a, .string s, .string t, .int .i64 z] 101) = w1 at *
    generalize w.heap.size = q at *
    have hb1 : b < w1.heap.size := by omega
    go_region
    all_goals (
      go_wp2_with (go_at_call 79; refine (growth_any b _ _ (HB.out.drew.alloc _).d6).mono ?_; rintro e w' ⟨rfl, hw⟩)
      go_ret
      obtain ⟨kk, rfl⟩ := hw
      exact ⟨rfl, grown_drewN (grown_alloc (grown_drew HG.out) _) _⟩)
  · go_enter Try.func72, Try.ntmps72
    go_wp2_with (first | (go_at_call 27; refine (dead_any b false _ HB.out.d8).mono ?_; rintro e w' ⟨rfl, hw⟩; have hw2 := hw.symm; clear hw; subst hw2) | (go_at_call 59; refine (CN.out _).mono ?_; rintro e w' ⟨rfl, hw⟩; have hw2 := hw.symm; clear hw; subst hw2))
    have hbq : b < w.heap.size := hb
    have c0 := HB.out.d0
    have q1 : (w.alloc (.cells #[.int .i64 1, .string a, .string s, .string t, .int .i64 z] 101)).cell? ⟨w.heap.size, 1, none⟩ = some (.string a) := by rw [HC.out.cell]; rfl
    have q0 : (w.alloc (.cells #[.int .i64 1, .string a, .string s, .string t, .int .i64 z] 101)).cell? ⟨w.heap.size, 0, none⟩ = some (.int .i64 1) := by rw [HC.out.cell]; rfl
    have q2 : (w.alloc (.cells #[.int .i64 1, .string a, .string s, .string t, .int .i64 z] 101)).cell? ⟨w.heap.size, 2, none⟩ = some (.string s) := by rw [HC.out.cell]; rfl
    have hqs : w.heap.size < (w.alloc (.cells #[.int .i64 1, .string a, .string s, .string t, .int .i64 z] 101)).heap.size := by simp
    generalize w.alloc (.cells #[.int .i64 1, .string a, .string s, .string t, .int .i64 z] 101) = w1 at *
    generalize w.heap.size = q at *
    have hb1 : b < w1.heap.size := by omega
    go_region
    all_goals (
      go_wp2_with (go_at_call 79; refine (growth_any b _ _ (HB.out.drew.alloc _).d6).mono ?_; rintro e w' ⟨rfl, hw⟩)
      go_ret
      obtain ⟨kk, rfl⟩ := hw
      exact ⟨rfl, grown_drewN (grown_alloc (grown_drew HG.out) _) _⟩)
end Go.Proofs.Ytddnjlnnkeiplaa
