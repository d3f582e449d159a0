/-
  What a change does to a map of files. growth, nextFall, refusal: why a change may not be. refusal: why a change may not be.
-/
import Derived.Test.YtddnjlnnkeiplaaKName
import Derived.Deep.RegionHeld3
import Derived.BigQuiet
import Derived.Deep.QuietTactic
namespace Go.Proofs.Ytddnjlnnkeiplaa
open Go.RowKit Go.Maps
section
variable {ops : Array Oper} {rest : List Oper} {o : Oper} {a : Act} {Q : Exit → Act → World → Prop} {w : World}
theorem lookup_file (g : Nat) (l : FS) (n : ByteArray) (hown : OwnsF w g l) (hn : n.size ≤ maxLen) (m x : Operand) (hg : o.guard = none) (hop : o.op = Op.lookup 70 m x true) (hm : a.eval m = .map (some g)) (hx : a.eval x = .string n)
    (hK : wpList Try.prog ops Q rest (a.put o.dst (.tuple #[.agg #[.string ((getF l n).getD ⟨#[]⟩)], .bool (getF l n).isSome])) w) : wpList Try.prog ops Q (o :: rest) a w :=
  wpList_lookup_own_ok w hg m x 70 hop 9 105 law9 Try.underlying70 fileElem (zero84 w) (.lit (keyL ⟨#[]⟩)) [] (fileElem_mk (Nat.zero_le _)) g l.length (datum l) hm hown (.string n) (keyL n) hx (key_ok hn) (fun v ps hv => by
    obtain ⟨s, rfl, hs⟩ := fileElem_inv hv
    have h1 := congrArg Prod.fst hs
    rw [datum_at] at h1
    rw [datum_has, ← lit_inj h1]
    exact hK)
theorem lookup_none (n : ByteArray) (hn : n.size ≤ maxLen) (m x : Operand) (hg : o.guard = none) (hop : o.op = Op.lookup 70 m x true) (hm : a.eval m = .map none) (hx : a.eval x = .string n)
    (hK : wpList Try.prog ops Q rest (a.put o.dst (.tuple #[.agg #[.string ⟨#[]⟩], .bool false])) w) : wpList Try.prog ops Q (o :: rest) a w := by
  refine wpList_plain hg fun K' hK' => ?_
  have hrun := Maps.look_nil (w := w) true law9 Try.underlying70 (zero84 w) (key_ok hn)
  unfold Oper.wp
  simp [execOp, hop, hm, hx, hrun, Result.andThen]
  exact hK' _ _ hK
theorem store_file (g : Nat) (l : FS) (n s : ByteArray) (hown : OwnsF w g l) (hn : n.size ≤ maxLen) (hs : s.size ≤ maxLen) (hl : l.length < maxLen) (m x v : Operand) (hg : o.guard = none) (hop : o.op = Op.mapUpdate 70 m x v) (hm : a.eval m = .map (some g)) (hx : a.eval x = .string n) (hv : a.eval v = .agg #[.string s])
    (hK : ∀ w', OwnsF w' g (putF l n s) → w.grownBy w' (some g) → wpList Try.prog ops Q rest (a.put o.dst undef) w') : wpList Try.prog ops Q (o :: rest) a w :=
  wpList_mapUpdate_in w hg m x v 70 hop 9 105 law9 Try.underlying70 fileElem g l.length (datum l) hm hown hl (.string n) (.agg #[.string s]) (keyL n) hx hv (key_ok hn) (.lit (keyL s)) [] (fileElem_mk hs) (fun w' h1 h2 => by
    rw [datum_put] at h1
    exact hK w' (owns_tight h1) h2.grown)
theorem delete_file (g : Nat) (l : FS) (n : ByteArray) (hown : OwnsF w g l) (hn : n.size ≤ maxLen) (m x : Operand) (hg : o.guard = none) (hop : o.op = Op.call { callee := Callee.builtin Builtin.delete, args := #[m, x], argTypes := #[70, 9] }) (hm : a.eval m = .map (some g)) (hx : a.eval x = .string n)
    (hK : ∀ w', OwnsF w' g (delF l n) → w.grownBy w' (some g) → wpList Try.prog ops Q rest (a.put o.dst (.tuple #[])) w') : wpList Try.prog ops Q (o :: rest) a w :=
  wpList_delete_own w hg m x 70 9 hop 105 law9 Try.underlying70 fileElem g l.length (datum l) hm hown (.string n) (keyL n) hx (key_ok hn) (fun w' h1 h2 => by
    rw [datum_del] at h1
    exact hK w' (owns_tight h1) h2.grown)
end
theorem grown_map {w w1 w2 : World} {g : Nat} (h1 : w.grownBy w1 none) (h2 : w1.grownBy w2 (some g)) : w.grownBy w2 (some g) :=
  ⟨h2.os.trans h1.os, h2.tape.trans h1.tape, h2.output.trans h1.output, Nat.le_trans h1.size h2.size, fun i hi hn => (h2.block i (Nat.lt_of_lt_of_le hi h1.size) hn).trans (h1.block i hi (by simp))⟩
theorem delF_none (l : FS) (n : ByteArray) (h : getF l n = none) : delF l n = l := by
  unfold getF at h
  rw [Option.map_eq_none_iff, List.find?_eq_none] at h
  unfold delF
  rw [List.filter_eq_self]
  intro p hp
  simpa using h p hp
set_option maxRecDepth 100000 in
set_option maxHeartbeats 1000000 in
theorem do_append (g : Nat) (l : FS) (n s t : ByteArray) (z : Int) (w : World) (hown : OwnsF w g l) (hl : Fits l 1000000) (hn : n.size ≤ maxLen) (hs : s.size ≤ 1000000) :
    Calls Try.prog 64 #[.map (some g), .agg #[.int .i64 0, .string n, .string s, .string t, .int .i64 z]] w fun e w' => e = .returned (.tuple #[]) ∧ OwnsF w' g (putF l n ((getF l n).getD ⟨#[]⟩ ++ s)) ∧ w.grownBy w' (some g) := by
  have hz := get_size hl n
  have hlt := hown.lt
  have hlen := hl.1
  generalize ho : (getF l n).getD ⟨#[]⟩ = old at *
  have HO : Hid ((getF l n).getD ⟨#[]⟩ = old) := ho
  generalize hb : (getF l n).isSome = there at *
  have HB : Hid ((getF l n).isSome = there) := hb
  clear ho hb
  have H : Hid (OwnsF w g l) := hown
  clear hown
  have i1 : (old.size : Int) ≤ 1000000 := by omega
  have i2 : (s.size : Int) ≤ 1000000 := by omega
  have hos : (old ++ s).size ≤ maxLen := by rw [ByteArray.size_append]; unfold maxLen; omega
  have HS : Hid ((old ++ s).size ≤ maxLen) := hos
  have HN : Hid (n.size ≤ maxLen) := hn
  clear hos hn hz hl hs
  go_enter Try.func64, Try.ntmps64
  go_wp2_with (first | (at_lookup; refine lookup_file g l n (H.out.alloc _) HN.out _ _ rfl rfl rfl rfl ?_; rw [HO.out, HB.out]) | (at_mapUpdate; refine store_file g l n (old ++ s) ((H.out.alloc _).alloc _) HN.out HS.out (by unfold maxLen; omega) _ _ _ rfl rfl rfl rfl rfl ?_; intro w' ho' hg'; have R1 : Hid (OwnsF w' g (putF l n (old ++ s))) := ho'; have R2 : Hid (w.grownBy w' (some g)) := grown_map (grown_alloc (grown_alloc (grown_refl _ _) _) _) hg'; clear ho' hg'))
  exact bodyPost_end (results_none rfl _ _ _) rfl ⟨rfl, R1.out, R2.out⟩
set_option maxRecDepth 100000 in
set_option maxHeartbeats 1000000 in
theorem do_write (g : Nat) (l : FS) (n s t : ByteArray) (z : Int) (w : World) (hown : OwnsF w g l) (hl : Fits l 1000000) (hn : n.size ≤ maxLen) (hs : s.size ≤ 1000000) :
    Calls Try.prog 64 #[.map (some g), .agg #[.int .i64 1, .string n, .string s, .string t, .int .i64 z]] w fun e w' => e = .returned (.tuple #[]) ∧ OwnsF w' g (putF l n s) ∧ w.grownBy w' (some g) := by
  have hlt := hown.lt
  have hlen := hl.1
  have H : Hid (OwnsF w g l) := hown
  have HS : Hid (s.size ≤ maxLen) := (by show s.size ≤ maxLen; unfold maxLen; omega)
  have HN : Hid (n.size ≤ maxLen) := hn
  clear hn hl hs hown
  go_enter Try.func64, Try.ntmps64
  go_wp2_with (first | (at_lookup; refine lookup_file g l n (H.out.alloc _) HN.out _ _ rfl rfl rfl rfl ?_; generalize (getF l n).getD ⟨#[]⟩ = old; generalize (getF l n).isSome = there) | (at_mapUpdate; refine store_file g l n s ((H.out.alloc _).alloc _) HN.out HS.out (by unfold maxLen; omega) _ _ _ rfl rfl rfl rfl rfl ?_; intro w' ho' hg'; have R1 : Hid (OwnsF w' g (putF l n s)) := ho'; have R2 : Hid (w.grownBy w' (some g)) := grown_map (grown_alloc (grown_alloc (grown_refl _ _) _) _) hg'; clear ho' hg'))
  exact bodyPost_end (results_none rfl _ _ _) rfl ⟨rfl, R1.out, R2.out⟩
/-- A change of a kind above 1 of a file that is not there. -/
theorem do_none (g : Nat) (l : FS) (k : Nat) (n s t : ByteArray) (z : Int) (w : World) (hown : OwnsF w g l) (hn : n.size ≤ maxLen) (hk : k = 2 ∨ k = 4) (hf : getF l n = none) :
    Calls Try.prog 64 #[.map (some g), .agg #[.int .i64 k, .string n, .string s, .string t, .int .i64 z]] w fun e w' => e = .returned (.tuple #[]) ∧ OwnsF w' g l ∧ w.grownBy w' (some g) := by
  have H : Hid (OwnsF w g l) := hown
  have HN : Hid (n.size ≤ maxLen) := hn
  have HO : Hid ((getF l n).getD ⟨#[]⟩ = ⟨#[]⟩) := (by show (getF l n).getD ⟨#[]⟩ = ⟨#[]⟩; rw [hf]; rfl)
  have HB : Hid ((getF l n).isSome = false) := (by show (getF l n).isSome = false; rw [hf]; rfl)
  clear hn hown hf
  rcases hk with rfl | rfl
  all_goals (
    go_enter Try.func64, Try.ntmps64
    go_wp2_with (at_lookup; refine lookup_file g l n (H.out.alloc _) HN.out _ _ rfl rfl rfl rfl ?_; rw [HO.out, HB.out])
    exact bodyPost_end (results_none rfl _ _ _) rfl ⟨rfl, (H.out.alloc _).alloc _, grown_alloc (grown_alloc (grown_refl _ _) _) _⟩)
set_option maxRecDepth 100000 in
set_option maxHeartbeats 1000000 in
theorem do_remove (g : Nat) (l : FS) (n s t : ByteArray) (z : Int) (w : World) (hown : OwnsF w g l) (hn : n.size ≤ maxLen) :
    Calls Try.prog 64 #[.map (some g), .agg #[.int .i64 3, .string n, .string s, .string t, .int .i64 z]] w fun e w' => e = .returned (.tuple #[]) ∧ OwnsF w' g (delF l n) ∧ w.grownBy w' (some g) := by
  have H : Hid (OwnsF w g l) := hown
  have HN : Hid (n.size ≤ maxLen) := hn
  clear hn hown
  go_enter Try.func64, Try.ntmps64
  go_wp2_with (first | (at_lookup; refine lookup_file g l n (H.out.alloc _) HN.out _ _ rfl rfl rfl rfl ?_; generalize (getF l n).getD ⟨#[]⟩ = old; generalize (getF l n).isSome = there) | (at_delete; refine delete_file g l n ((H.out.alloc _).alloc _) HN.out _ _ rfl rfl rfl rfl ?_; intro w' ho' hg'; have R1 : Hid (OwnsF w' g (delF l n)) := ho'; have R2 : Hid (w.grownBy w' (some g)) := grown_map (grown_alloc (grown_alloc (grown_refl _ _) _) _) hg'; clear ho' hg'))
  exact bodyPost_end (results_none rfl _ _ _) rfl ⟨rfl, R1.out, R2.out⟩
set_option maxRecDepth 100000 in
set_option maxHeartbeats 1000000 in
theorem do_move (g : Nat) (l : FS) (n s t old : ByteArray) (z : Int) (w : World) (hown : OwnsF w g l) (hl : Fits l 1000000) (hn : n.size ≤ maxLen) (ht : t.size ≤ maxLen) (hf : getF l n = some old) :
    Calls Try.prog 64 #[.map (some g), .agg #[.int .i64 2, .string n, .string s, .string t, .int .i64 z]] w fun e w' => e = .returned (.tuple #[]) ∧ OwnsF w' g (putF (delF l n) t old) ∧ w.grownBy w' (some g) := by
  have hlt := hown.lt
  have hz := get_size hl n
  rw [hf] at hz
  have hz' : old.size ≤ 1000000 := hz
  have hlen := (fits_del hl n).1
  have H : Hid (OwnsF w g l) := hown
  have HN : Hid (n.size ≤ maxLen) := hn
  have HT : Hid (t.size ≤ maxLen) := ht
  have HS : Hid (old.size ≤ maxLen) := (by show old.size ≤ maxLen; unfold maxLen; omega)
  have HO : Hid ((getF l n).getD ⟨#[]⟩ = old) := (by show (getF l n).getD ⟨#[]⟩ = old; rw [hf]; rfl)
  have HB : Hid ((getF l n).isSome = true) := (by show (getF l n).isSome = true; rw [hf]; rfl)
  clear hn ht hown hf hz hz' hl
  have n1 : some w.heap.size ≠ some g := fun e => by have := Option.some.inj e; omega
  have n2 : some (w.heap.size + 1) ≠ some g := fun e => by have := Option.some.inj e; omega
  go_enter Try.func64, Try.ntmps64
  go_wp2_with (first | (at_lookup; refine lookup_file g l n (H.out.alloc _) HN.out _ _ rfl rfl rfl rfl ?_; rw [HO.out, HB.out]) | (at_delete; refine delete_file g l n ((H.out.alloc _).alloc _) HN.out _ _ rfl rfl rfl rfl ?_; intro w1 ho1 hg1; have R1 : Hid (OwnsF w1 g (delF l n)) := ho1; have R2 : Hid (w.grownBy w1 (some g)) := grown_map (grown_alloc (grown_alloc (grown_refl _ _) _) _) hg1; have b1 := ((Blk.new w 101 _).alloc (.cells #[.string old] 105)).kept hg1 n1; have b2 := (Blk.new (w.alloc (.cells #[.int .i64 2, .string n, .string s, .string t, .int .i64 z] 101)) 105 #[.string old]).kept hg1 (by simpa using n2); have c1 := b1.cell 3; have c2 := b2.cell 0; rw [World.size_alloc] at c2; simp at c1 c2; clear ho1 hg1 b1 b2) | (at_mapUpdate; refine store_file g (delF l n) t old R1.out HT.out HS.out (by unfold maxLen; omega) _ _ _ rfl rfl rfl rfl rfl ?_; intro w' ho' hg'; have R3 : Hid (OwnsF w' g (putF (delF l n) t old)) := ho'; have R4 : Hid (w.grownBy w' (some g)) := grown_trans R2.out hg'; clear ho' hg'))
  exact bodyPost_end (results_none rfl _ _ _) rfl ⟨rfl, R3.out, R4.out⟩
end Go.Proofs.Ytddnjlnnkeiplaa
namespace Go.Proofs.Ytddnjlnnkeiplaa
open Go.RowKit Go.Maps
set_option maxRecDepth 100000 in
theorem growth_any (b : Nat) (n : Int) (w : World) (h6 : w.cell? ⟨b, 6, none⟩ = some (.bool false)) : Calls Try.prog 79 #[.pointer (some ⟨b, 0, none⟩), .int .i64 n] w fun e w' => e = .returned (.int .i64 0) ∧ ∃ k, w' = w.drewN k := by
  by_cases hn : 0 < n
  · have hd : decide (0 < n) = true := by simpa using hn
    go_enter Try.func79, Try.ntmps79
    go_wp2_with fail
    go_quiet (fail)
    go_wp2_with fail
    go_ret
    exact ⟨rfl, _, rfl⟩
  · have hd : decide (0 < n) = false := by simpa using hn
    go_enter Try.func79, Try.ntmps79
    go_wp2_with fail
    go_quiet (fail)
    go_wp2_with fail
    go_ret
    exact ⟨rfl, _, rfl⟩
set_option maxRecDepth 100000 in
theorem index_none (f : Value) (w : World) : Calls Try.prog 80 #[.slice none 0 0, f] w fun e w' => e = .returned (.int .i64 (-1)) ∧ w' = w := by
  go_enter Try.func80, Try.ntmps80
  go_wp2
  refine wp_loop_rounds 1 ?_
  rw [rounds_succ]
  go_wp2
  go_ret
  exact ⟨rfl, rfl⟩
set_option maxRecDepth 100000 in
theorem nextFall_any (b : Nat) (w : World) (h4 : w.cell? ⟨b, 4, none⟩ = some (.slice none 0 0)) : Calls Try.prog 73 #[.pointer (some ⟨b, 0, none⟩)] w fun e w' => e = .returned (.int .i64 (-1)) ∧ w.grownBy w' none := by
  have hb : b < w.heap.size := World.block_lt_of_cell? _ _ h4
  go_enter Try.func73, Try.ntmps73
  go_wp2_with (go_at_call 80; refine (index_none _ _).mono ?_; rintro e w' ⟨rfl, hw⟩; have hw2 := hw.symm; clear hw; subst hw2)
  go_ret
  exact ⟨rfl, grown_alloc (grown_refl _ _) _⟩
end Go.Proofs.Ytddnjlnnkeiplaa
namespace Go.Proofs.Ytddnjlnnkeiplaa
open Go.RowKit Go.Maps
theorem grown_drewN {w w' : World} {row : Option Nat} (h : w.grownBy w' row) (n : Nat) : w.grownBy (w'.drewN n) row := ⟨h.os, h.tape, h.output, h.size, h.block⟩
theorem MapV.alloc {w : World} {base : Nat} {v : Value} {l : FS} (h : MapV w base v l) (o : Obj) : MapV (w.alloc o) base v l := h.kept (grown_alloc (grown_refl _ none) _) (fun _ _ => by simp)
theorem run_lookup {w : World} {base : Nat} {v : Value} {l : FS} (h : MapV w base v l) (n : ByteArray) (hn : n.size ≤ maxLen) :
    (Instr.lookup 70 v (.string n) true).run Try.prog w = .ok (.tuple #[.agg #[.string ((getF l n).getD ⟨#[]⟩)], .bool (getF l n).isSome]) w := by
  rcases h with ⟨rfl, rfl⟩ | ⟨g, rfl, _, ho⟩
  · exact Maps.look_nil (w := w) true law9 Try.underlying70 (zero84 w) (key_ok hn)
  · obtain ⟨v, ps, h1, h2⟩ := World.ownsMap.look_ok ho law9 Try.underlying70 (zero84 w) (fileElem_mk (Nat.zero_le _)) (key_ok hn)
    obtain ⟨s, rfl, hs⟩ := fileElem_inv h2
    have h3 := congrArg Prod.fst hs
    rw [show (⟨#[]⟩ : ByteArray) = ⟨#[]⟩ from rfl, datum_at] at h3
    rw [datum_has, ← lit_inj h3] at h1
    exact h1
set_option maxRecDepth 100000 in
set_option maxHeartbeats 1000000 in
/-- An Append or a Write whose name may be. -/
theorem refusal_put (base b : Nat) (k z : Int) (vn vs vl : Value) (u c : Nat) (l : FS) (a s t : ByteArray) (w : World) (hk : k = 0 ∨ k = 1) (hB : Blk w b 73 (rowD vn vs vl u c false))
    (hm : MapV w base vn l) (hl : Fits l 1000000) (ha : nameB a = true) (ham : a.size ≤ maxLen) (hs : s.size ≤ 1000000) :
    Calls Try.prog 72 #[.pointer (some ⟨b, 0, none⟩), .agg #[.int .i64 k, .string a, .string s, .string t, .int .i64 z]] w fun e w' => e = .returned (.int .i64 0) ∧ w.grownBy w' none := by
  have hb : b < w.heap.size := hB.lt
  have HB : Hid (Blk (w.alloc (.cells #[.int .i64 k, .string a, .string s, .string t, .int .i64 z] 101)) b 73 (rowD vn vs vl u c false)) := hB.alloc _
  have hlk := run_lookup (w := (w.alloc (.cells #[.int .i64 k, .string a, .string s, .string t, .int .i64 z] 101)).drew) (base := base) (v := vn) (l := l) (hm.alloc _) a ham
  have hlk2 := run_lookup (w := ((w.alloc (.cells #[.int .i64 k, .string a, .string s, .string t, .int .i64 z] 101)).alloc (.cells #[.string ⟨#[]⟩] 105)).drew) (base := base) (v := vn) (l := l) ((hm.alloc _).alloc _) a ham
  have HC : Hid (Blk (w.alloc (.cells #[.int .i64 k, .string a, .string s, .string t, .int .i64 z] 101)) w.heap.size 101 #[.int .i64 k, .string a, .string s, .string t, .int .i64 z]) := Blk.new _ _ _
  have HG : Hid (w.grownBy (w.alloc (.cells #[.int .i64 k, .string a, .string s, .string t, .int .i64 z] 101)) none) := grown_alloc (grown_refl _ _) _
  have hz := get_size hl a
  generalize (getF l a).getD ⟨#[]⟩ = old at *
  generalize (getF l a).isSome = there at *
  have CN : Hid (∀ w, Calls Try.prog 59 #[.string a] w fun e w' => e = .returned (.bool true) ∧ w' = w) := fun w => by rw [← ha]; exact name_any a w ham
  have i1 : (s.size : Int) ≤ 1000000 := by omega
  have i2 : (old.size : Int) ≤ 1000000 := by omega
  clear hm hl ha ham hs hz hB
  rcases hk with rfl | rfl
  · go_enter Try.func72, Try.ntmps72
    go_wp2_with (first | (go_at_call 27; refine (dead_any b false _ HB.out.d8).mono ?_; rintro e w' ⟨rfl, hw⟩; have hw2 := hw.symm; clear hw; subst hw2) | (go_at_call 59; refine (CN.out _).mono ?_; rintro e w' ⟨rfl, hw⟩; have hw2 := hw.symm; clear hw; subst hw2))
    have hbq : b < w.heap.size := hb
    have c0 := HB.out.d0
    have q1 : (w.alloc (.cells #[.int .i64 0, .string a, .string s, .string t, .int .i64 z] 101)).cell? ⟨w.heap.size, 1, none⟩ = some (.string a) := by rw [HC.out.cell]; rfl
    have q0 : (w.alloc (.cells #[.int .i64 0, .string a, .string s, .string t, .int .i64 z] 101)).cell? ⟨w.heap.size, 0, none⟩ = some (.int .i64 0) := by rw [HC.out.cell]; rfl
    have q2 : (w.alloc (.cells #[.int .i64 0, .string a, .string s, .string t, .int .i64 z] 101)).cell? ⟨w.heap.size, 2, none⟩ = some (.string s) := by rw [HC.out.cell]; rfl
    have hqs : w.heap.size < (w.alloc (.cells #[.int .i64 0, .string a, .string s, .string t, .int .i64 z] 101)).heap.size := by simp
    generalize w.alloc (.cells #[.int .i64 0, .string a, .string s, .string t, .int .i64 z] 101) = w1 at *
    generalize w.heap.size = q at *
    have hb1 : b < w1.heap.size := by omega
    go_region
    all_goals (
      go_wp2_with (go_at_call 79; refine (growth_any b _ _ (HB.out.drew.alloc _).d6).mono ?_; rintro e w' ⟨rfl, hw⟩)
      go_ret
      obtain ⟨kk, rfl⟩ := hw
      exact ⟨rfl, grown_drewN (grown_alloc (grown_drew HG.out) _) _⟩)
  · go_enter Try.func72, Try.ntmps72
    go_wp2_with (first | (go_at_call 27; refine (dead_any b false _ HB.out.d8).mono ?_; rintro e w' ⟨rfl, hw⟩; have hw2 := hw.symm; clear hw; subst hw2) | (go_at_call 59; refine (CN.out _).mono ?_; rintro e w' ⟨rfl, hw⟩; have hw2 := hw.symm; clear hw; subst hw2))
    have hbq : b < w.heap.size := hb
    have c0 := HB.out.d0
    have q1 : (w.alloc (.cells #[.int .i64 1, .string a, .string s, .string t, .int .i64 z] 101)).cell? ⟨w.heap.size, 1, none⟩ = some (.string a) := by rw [HC.out.cell]; rfl
    have q0 : (w.alloc (.cells #[.int .i64 1, .string a, .string s, .string t, .int .i64 z] 101)).cell? ⟨w.heap.size, 0, none⟩ = some (.int .i64 1) := by rw [HC.out.cell]; rfl
    have q2 : (w.alloc (.cells #[.int .i64 1, .string a, .string s, .string t, .int .i64 z] 101)).cell? ⟨w.heap.size, 2, none⟩ = some (.string s) := by rw [HC.out.cell]; rfl
    have hqs : w.heap.size < (w.alloc (.cells #[.int .i64 1, .string a, .string s, .string t, .int .i64 z] 101)).heap.size := by simp
    generalize w.alloc (.cells #[.int .i64 1, .string a, .string s, .string t, .int .i64 z] 101) = w1 at *
    generalize w.heap.size = q at *
    have hb1 : b < w1.heap.size := by omega
    go_region
    all_goals (
      go_wp2_with (go_at_call 79; refine (growth_any b _ _ (HB.out.drew.alloc _).d6).mono ?_; rintro e w' ⟨rfl, hw⟩)
      go_ret
      obtain ⟨kk, rfl⟩ := hw
      exact ⟨rfl, grown_drewN (grown_alloc (grown_drew HG.out) _) _⟩)
end Go.Proofs.Ytddnjlnnkeiplaa
