/-
  What a change does to a map of files. Truncate, done to a map of files. tear: a change of which so many bytes alone were put. A map of files, copied: maps.Copy, clone.
-/
import Derived.Test.YtbhmmcelndmijaaGreatKName
import Derived.Deep.RegionHeld3
namespace Go.Proofs.YtbhmmcelndmijaaGreat
open Go.RowKit Go.Maps
section
variable {ops : Array Oper} {rest : List Oper} {o : Oper} {a : Act} {Q : Exit → Act → World → Prop} {w : World}
theorem lookup_file (g : Nat) (l : FS) (n : ByteArray) (hown : OwnsF w g l) (hn : n.size ≤ maxLen) (m x : Operand) (hg : o.guard = none) (hop : o.op = Op.lookup 92 m x true) (hm : a.eval m = .map (some g)) (hx : a.eval x = .string n)
    (hK : wpList Tryz.prog ops Q rest (a.put o.dst (.tuple #[.agg #[.string ((getF l n).getD ⟨#[]⟩)], .bool (getF l n).isSome])) w) : wpList Tryz.prog ops Q (o :: rest) a w :=
  wpList_lookup_own_ok w hg m x 92 hop 9 123 law9 Tryz.underlying92 fileElem (zero84 w) (.lit (keyL ⟨#[]⟩)) [] (fileElem_mk (Nat.zero_le _)) g l.length (datum l) hm hown (.string n) (keyL n) hx (key_ok hn) (fun v ps hv => by
    obtain ⟨s, rfl, hs⟩ := fileElem_inv hv
    have h1 := congrArg Prod.fst hs
    rw [datum_at] at h1
    rw [datum_has, ← lit_inj h1]
    exact hK)
theorem lookup_none (n : ByteArray) (hn : n.size ≤ maxLen) (m x : Operand) (hg : o.guard = none) (hop : o.op = Op.lookup 92 m x true) (hm : a.eval m = .map none) (hx : a.eval x = .string n)
    (hK : wpList Tryz.prog ops Q rest (a.put o.dst (.tuple #[.agg #[.string ⟨#[]⟩], .bool false])) w) : wpList Tryz.prog ops Q (o :: rest) a w := by
  refine wpList_plain hg fun K' hK' => ?_
  have hrun := Maps.look_nil (w := w) true law9 Tryz.underlying92 (zero84 w) (key_ok hn)
  unfold Oper.wp
  simp [execOp, hop, hm, hx, hrun, Result.andThen]
  exact hK' _ _ hK
theorem store_file (g : Nat) (l : FS) (n s : ByteArray) (hown : OwnsF w g l) (hn : n.size ≤ maxLen) (hs : s.size ≤ maxLen) (hl : l.length < maxLen) (m x v : Operand) (hg : o.guard = none) (hop : o.op = Op.mapUpdate 92 m x v) (hm : a.eval m = .map (some g)) (hx : a.eval x = .string n) (hv : a.eval v = .agg #[.string s])
    (hK : ∀ w', OwnsF w' g (putF l n s) → w.grownBy w' (some g) → wpList Tryz.prog ops Q rest (a.put o.dst undef) w') : wpList Tryz.prog ops Q (o :: rest) a w :=
  wpList_mapUpdate_in w hg m x v 92 hop 9 123 law9 Tryz.underlying92 fileElem g l.length (datum l) hm hown hl (.string n) (.agg #[.string s]) (keyL n) hx hv (key_ok hn) (.lit (keyL s)) [] (fileElem_mk hs) (fun w' h1 h2 => by
    rw [datum_put] at h1
    exact hK w' (owns_tight h1) h2.grown)
theorem delete_file (g : Nat) (l : FS) (n : ByteArray) (hown : OwnsF w g l) (hn : n.size ≤ maxLen) (m x : Operand) (hg : o.guard = none) (hop : o.op = Op.call { callee := Callee.builtin Builtin.delete, args := #[m, x], argTypes := #[92, 9] }) (hm : a.eval m = .map (some g)) (hx : a.eval x = .string n)
    (hK : ∀ w', OwnsF w' g (delF l n) → w.grownBy w' (some g) → wpList Tryz.prog ops Q rest (a.put o.dst (.tuple #[])) w') : wpList Tryz.prog ops Q (o :: rest) a w :=
  wpList_delete_own w hg m x 92 9 hop 123 law9 Tryz.underlying92 fileElem g l.length (datum l) hm hown (.string n) (keyL n) hx (key_ok hn) (fun w' h1 h2 => by
    rw [datum_del] at h1
    exact hK w' (owns_tight h1) h2.grown)
end
theorem grown_map {w w1 w2 : World} {g : Nat} (h1 : w.grownBy w1 none) (h2 : w1.grownBy w2 (some g)) : w.grownBy w2 (some g) :=
  ⟨h2.os.trans h1.os, h2.tape.trans h1.tape, h2.output.trans h1.output, Nat.le_trans h1.size h2.size, fun i hi hn => (h2.block i (Nat.lt_of_lt_of_le hi h1.size) hn).trans (h1.block i hi (by simp))⟩
theorem delF_none (l : FS) (n : ByteArray) (h : getF l n = none) : delF l n = l := by
  unfold getF at h
  rw [Option.map_eq_none_iff, List.find?_eq_none] at h
  unfold delF
  rw [List.filter_eq_self]
  intro p hp
  simpa using h p hp
set_option maxRecDepth 100000 in
set_option maxHeartbeats 1000000 in
theorem do_append (g : Nat) (l : FS) (n s t : ByteArray) (z : Int) (w : World) (hown : OwnsF w g l) (hl : Fits l 1000000) (hn : n.size ≤ maxLen) (hs : s.size ≤ 1000000) :
    Calls Tryz.prog 86 #[.map (some g), .agg #[.int .i64 0, .string n, .string s, .string t, .int .i64 z]] w fun e w' => e = .returned (.tuple #[]) ∧ OwnsF w' g (putF l n ((getF l n).getD ⟨#[]⟩ ++ s)) ∧ w.grownBy w' (some g) := by
  have hz := get_size hl n
  have hlt := hown.lt
  have hlen := hl.1
  generalize ho : (getF l n).getD ⟨#[]⟩ = old at *
  have HO : Hid ((getF l n).getD ⟨#[]⟩ = old) := ho
  generalize hb : (getF l n).isSome = there at *
  have HB : Hid ((getF l n).isSome = there) := hb
  clear ho hb
  have H : Hid (OwnsF w g l) := hown
  clear hown
  have i1 : (old.size : Int) ≤ 1000000 := by omega
  have i2 : (s.size : Int) ≤ 1000000 := by omega
  have hos : (old ++ s).size ≤ maxLen := by rw [ByteArray.size_append]; unfold maxLen; omega
  have HS : Hid ((old ++ s).size ≤ maxLen) := hos
  have HN : Hid (n.size ≤ maxLen) := hn
  clear hos hn hz hl hs
  go_enter Tryz.func86, Tryz.ntmps86
  go_wp2_with (first | (at_lookup; refine lookup_file g l n (H.out.alloc _) HN.out _ _ rfl rfl rfl rfl ?_; rw [HO.out, HB.out]) | (at_mapUpdate; refine store_file g l n (old ++ s) ((H.out.alloc _).alloc _) HN.out HS.out (by unfold maxLen; omega) _ _ _ rfl rfl rfl rfl rfl ?_; intro w' ho' hg'; have R1 : Hid (OwnsF w' g (putF l n (old ++ s))) := ho'; have R2 : Hid (w.grownBy w' (some g)) := grown_map (grown_alloc (grown_alloc (grown_refl _ _) _) _) hg'; clear ho' hg'))
  exact bodyPost_end (results_none rfl _ _ _) rfl ⟨rfl, R1.out, R2.out⟩
set_option maxRecDepth 100000 in
set_option maxHeartbeats 1000000 in
theorem do_write (g : Nat) (l : FS) (n s t : ByteArray) (z : Int) (w : World) (hown : OwnsF w g l) (hl : Fits l 1000000) (hn : n.size ≤ maxLen) (hs : s.size ≤ 1000000) :
    Calls Tryz.prog 86 #[.map (some g), .agg #[.int .i64 1, .string n, .string s, .string t, .int .i64 z]] w fun e w' => e = .returned (.tuple #[]) ∧ OwnsF w' g (putF l n s) ∧ w.grownBy w' (some g) := by
  have hlt := hown.lt
  have hlen := hl.1
  have H : Hid (OwnsF w g l) := hown
  have HS : Hid (s.size ≤ maxLen) := (by show s.size ≤ maxLen; unfold maxLen; omega)
  have HN : Hid (n.size ≤ maxLen) := hn
  clear hn hl hs hown
  go_enter Tryz.func86, Tryz.ntmps86
  go_wp2_with (first | (at_lookup; refine lookup_file g l n (H.out.alloc _) HN.out _ _ rfl rfl rfl rfl ?_; generalize (getF l n).getD ⟨#[]⟩ = old; generalize (getF l n).isSome = there) | (at_mapUpdate; refine store_file g l n s ((H.out.alloc _).alloc _) HN.out HS.out (by unfold maxLen; omega) _ _ _ rfl rfl rfl rfl rfl ?_; intro w' ho' hg'; have R1 : Hid (OwnsF w' g (putF l n s)) := ho'; have R2 : Hid (w.grownBy w' (some g)) := grown_map (grown_alloc (grown_alloc (grown_refl _ _) _) _) hg'; clear ho' hg'))
  exact bodyPost_end (results_none rfl _ _ _) rfl ⟨rfl, R1.out, R2.out⟩
/-- A change of a kind above 1 of a file that is not there. -/
theorem do_none (g : Nat) (l : FS) (k : Nat) (n s t : ByteArray) (z : Int) (w : World) (hown : OwnsF w g l) (hn : n.size ≤ maxLen) (hk : k = 2 ∨ k = 4) (hf : getF l n = none) :
    Calls Tryz.prog 86 #[.map (some g), .agg #[.int .i64 k, .string n, .string s, .string t, .int .i64 z]] w fun e w' => e = .returned (.tuple #[]) ∧ OwnsF w' g l ∧ w.grownBy w' (some g) := by
  have H : Hid (OwnsF w g l) := hown
  have HN : Hid (n.size ≤ maxLen) := hn
  have HO : Hid ((getF l n).getD ⟨#[]⟩ = ⟨#[]⟩) := (by show (getF l n).getD ⟨#[]⟩ = ⟨#[]⟩; rw [hf]; rfl)
  have HB : Hid ((getF l n).isSome = false) := (by show (getF l n).isSome = false; rw [hf]; rfl)
  clear hn hown hf
  rcases hk with rfl | rfl
  all_goals (
    go_enter Tryz.func86, Tryz.ntmps86
    go_wp2_with (at_lookup; refine lookup_file g l n (H.out.alloc _) HN.out _ _ rfl rfl rfl rfl ?_; rw [HO.out, HB.out])
    exact bodyPost_end (results_none rfl _ _ _) rfl ⟨rfl, (H.out.alloc _).alloc _, grown_alloc (grown_alloc (grown_refl _ _) _) _⟩)
set_option maxRecDepth 100000 in
set_option maxHeartbeats 1000000 in
theorem do_remove (g : Nat) (l : FS) (n s t : ByteArray) (z : Int) (w : World) (hown : OwnsF w g l) (hn : n.size ≤ maxLen) :
    Calls Tryz.prog 86 #[.map (some g), .agg #[.int .i64 3, .string n, .string s, .string t, .int .i64 z]] w fun e w' => e = .returned (.tuple #[]) ∧ OwnsF w' g (delF l n) ∧ w.grownBy w' (some g) := by
  have H : Hid (OwnsF w g l) := hown
  have HN : Hid (n.size ≤ maxLen) := hn
  clear hn hown
  go_enter Tryz.func86, Tryz.ntmps86
  go_wp2_with (first | (at_lookup; refine lookup_file g l n (H.out.alloc _) HN.out _ _ rfl rfl rfl rfl ?_; generalize (getF l n).getD ⟨#[]⟩ = old; generalize (getF l n).isSome = there) | (at_delete; refine delete_file g l n ((H.out.alloc _).alloc _) HN.out _ _ rfl rfl rfl rfl ?_; intro w' ho' hg'; have R1 : Hid (OwnsF w' g (delF l n)) := ho'; have R2 : Hid (w.grownBy w' (some g)) := grown_map (grown_alloc (grown_alloc (grown_refl _ _) _) _) hg'; clear ho' hg'))
  exact bodyPost_end (results_none rfl _ _ _) rfl ⟨rfl, R1.out, R2.out⟩
set_option maxRecDepth 100000 in
set_option maxHeartbeats 1000000 in
theorem do_move (g : Nat) (l : FS) (n s t old : ByteArray) (z : Int) (w : World) (hown : OwnsF w g l) (hl : Fits l 1000000) (hn : n.size ≤ maxLen) (ht : t.size ≤ maxLen) (hf : getF l n = some old) :
    Calls Tryz.prog 86 #[.map (some g), .agg #[.int .i64 2, .string n, .string s, .string t, .int .i64 z]] w fun e w' => e = .returned (.tuple #[]) ∧ OwnsF w' g (putF (delF l n) t old) ∧ w.grownBy w' (some g) := by
  have hlt := hown.lt
  have hz := get_size hl n
  rw [hf] at hz
  have hz' : old.size ≤ 1000000 := hz
  have hlen := (fits_del hl n).1
  have H : Hid (OwnsF w g l) := hown
  have HN : Hid (n.size ≤ maxLen) := hn
  have HT : Hid (t.size ≤ maxLen) := ht
  have HS : Hid (old.size ≤ maxLen) := (by show old.size ≤ maxLen; unfold maxLen; omega)
  have HO : Hid ((getF l n).getD ⟨#[]⟩ = old) := (by show (getF l n).getD ⟨#[]⟩ = old; rw [hf]; rfl)
  have HB : Hid ((getF l n).isSome = true) := (by show (getF l n).isSome = true; rw [hf]; rfl)
  clear hn ht hown hf hz hz' hl
  have n1 : some w.heap.size ≠ some g := fun e => by have := Option.some.inj e; omega
  have n2 : some (w.heap.size + 1) ≠ some g := fun e => by have := Option.some.inj e; omega
  go_enter Tryz.func86, Tryz.ntmps86
  go_wp2_with (first | (at_lookup; refine lookup_file g l n (H.out.alloc _) HN.out _ _ rfl rfl rfl rfl ?_; rw [HO.out, HB.out]) | (at_delete; refine delete_file g l n ((H.out.alloc _).alloc _) HN.out _ _ rfl rfl rfl rfl ?_; intro w1 ho1 hg1; have R1 : Hid (OwnsF w1 g (delF l n)) := ho1; have R2 : Hid (w.grownBy w1 (some g)) := grown_map (grown_alloc (grown_alloc (grown_refl _ _) _) _) hg1; have b1 := ((Blk.new w 120 _).alloc (.cells #[.string old] 123)).kept hg1 n1; have b2 := (Blk.new (w.alloc (.cells #[.int .i64 2, .string n, .string s, .string t, .int .i64 z] 120)) 123 #[.string old]).kept hg1 (by simpa using n2); have c1 := b1.cell 3; have c2 := b2.cell 0; rw [World.size_alloc] at c2; simp at c1 c2; clear ho1 hg1 b1 b2) | (at_mapUpdate; refine store_file g (delF l n) t old R1.out HT.out HS.out (by unfold maxLen; omega) _ _ _ rfl rfl rfl rfl rfl ?_; intro w' ho' hg'; have R3 : Hid (OwnsF w' g (putF (delF l n) t old)) := ho'; have R4 : Hid (w.grownBy w' (some g)) := grown_trans R2.out hg'; clear ho' hg'))
  exact bodyPost_end (results_none rfl _ _ _) rfl ⟨rfl, R3.out, R4.out⟩
end Go.Proofs.YtbhmmcelndmijaaGreat
namespace Go.Proofs.YtbhmmcelndmijaaGreat
open Go.RowKit Go.Maps
theorem run_store_file {w : World} (g : Nat) (l : FS) (n s : ByteArray) (hown : OwnsF w g l) (hn : n.size ≤ maxLen) (hs : s.size ≤ maxLen) (hl : l.length < maxLen) :
    ∃ w', (Instr.mapUpdate 92 (.map (some g)) (.string n) (.agg #[.string s])).run Tryz.prog w = .ok () w' ∧ OwnsF w' g (putF l n s) ∧ w.grownBy w' (some g) := by
  obtain ⟨w', h1, h2, h3⟩ := World.ownsMap.store hown law9 Tryz.underlying92 hl (key_ok hn) (fileElem_mk hs)
  rw [datum_put] at h2
  exact ⟨w', h1, owns_tight h2, h3.grown⟩
set_option maxRecDepth 100000 in
set_option maxHeartbeats 1000000 in
theorem do_cut (g : Nat) (l : FS) (n s t old : ByteArray) (z : Nat) (w : World) (hown : OwnsF w g l) (hl : Fits l 1000000) (hn : n.size ≤ maxLen) (hf : getF l n = some old) (hz0 : z ≤ old.size) :
    Calls Tryz.prog 86 #[.map (some g), .agg #[.int .i64 4, .string n, .string s, .string t, .int .i64 z]] w fun e w' => e = .returned (.tuple #[]) ∧ OwnsF w' g (putF l n (old.extract 0 z)) ∧ w.grownBy w' (some g) := by
  have hlt := hown.lt
  have hz := get_size hl n
  rw [hf] at hz
  have hz' : old.size ≤ 1000000 := hz
  have hlen := hl.1
  have hx : (old.extract 0 z).size ≤ maxLen := by rw [ByteArray.size_extract]; unfold maxLen; omega
  obtain ⟨w', h1, h2, h3⟩ := run_store_file (w := ((w.alloc (.cells #[.int .i64 4, .string n, .string s, .string t, .int .i64 z] 120)).alloc (.cells #[.string old] 123)).drew) g l n (old.extract 0 z) (World.ownsMap.drew ((hown.alloc _).alloc _)) hn hx (by unfold maxLen; omega)
  have R1 : Hid (OwnsF w' g (putF l n (old.extract 0 z))) := h2
  have R2 : Hid (w.grownBy w' (some g)) := grown_map (grown_drew (grown_alloc (grown_alloc (grown_refl _ _) _) _)) h3
  clear h2 h3 hx
  have H : Hid (OwnsF w g l) := hown
  have HN : Hid (n.size ≤ maxLen) := hn
  have HO : Hid ((getF l n).getD ⟨#[]⟩ = old) := (by show (getF l n).getD ⟨#[]⟩ = old; rw [hf]; rfl)
  have HB : Hid ((getF l n).isSome = true) := (by show (getF l n).isSome = true; rw [hf]; rfl)
  clear hn hown hf hz hl
  have i0 : (0 : Int) ≤ (z : Int) := by omega
  have i1 : (z : Int) ≤ old.size := by omega
  have i2 : (old.size : Int) ≤ 1000000 := by omega
  go_enter Tryz.func86, Tryz.ntmps86
  go_wp2_with (at_lookup; refine lookup_file g l n (H.out.alloc _) HN.out _ _ rfl rfl rfl rfl ?_; rw [HO.out, HB.out])
  go_region
  all_goals go_wp2
  all_goals exact bodyPost_end (results_none rfl _ _ _) rfl ⟨rfl, R1.out, R2.out⟩
set_option maxRecDepth 100000 in
set_option maxHeartbeats 1000000 in
theorem do_cut2 (g : Nat) (l : FS) (n s t old : ByteArray) (z : Nat) (w : World) (hown : OwnsF w g l) (hl : Fits l 1000000) (hn : n.size ≤ maxLen) (hf : getF l n = some old) (hz0 : old.size < z) (hz1 : (z : Int) ≤ 9223372036854775807) :
    Calls Tryz.prog 86 #[.map (some g), .agg #[.int .i64 4, .string n, .string s, .string t, .int .i64 z]] w fun e w' => e = .returned (.tuple #[]) ∧ OwnsF w' g (putF l n old) ∧ w.grownBy w' (some g) := by
  have hlt := hown.lt
  have hz := get_size hl n
  rw [hf] at hz
  have hz' : old.size ≤ 1000000 := hz
  have hlen := hl.1
  have hx : old.size ≤ maxLen := by unfold maxLen; omega
  obtain ⟨w', h1, h2, h3⟩ := run_store_file (w := ((w.alloc (.cells #[.int .i64 4, .string n, .string s, .string t, .int .i64 z] 120)).alloc (.cells #[.string old] 123)).drew) g l n old (World.ownsMap.drew ((hown.alloc _).alloc _)) hn hx (by unfold maxLen; omega)
  have R1 : Hid (OwnsF w' g (putF l n old)) := h2
  have R2 : Hid (w.grownBy w' (some g)) := grown_map (grown_drew (grown_alloc (grown_alloc (grown_refl _ _) _) _)) h3
  clear h2 h3 hx
  have H : Hid (OwnsF w g l) := hown
  have HN : Hid (n.size ≤ maxLen) := hn
  have HO : Hid ((getF l n).getD ⟨#[]⟩ = old) := (by show (getF l n).getD ⟨#[]⟩ = old; rw [hf]; rfl)
  have HB : Hid ((getF l n).isSome = true) := (by show (getF l n).isSome = true; rw [hf]; rfl)
  clear hn hown hf hz hl
  have i0 : (0 : Int) ≤ (z : Int) := by omega
  have i1 : (old.size : Int) < z := by omega
  have i3 : ¬ ((z : Int) ≤ old.size) := by omega
  have i2 : (old.size : Int) ≤ 1000000 := by omega
  go_enter Tryz.func86, Tryz.ntmps86
  go_wp2_with (at_lookup; refine lookup_file g l n (H.out.alloc _) HN.out _ _ rfl rfl rfl rfl ?_; rw [HO.out, HB.out])
  go_region
  all_goals go_wp2
  all_goals exact bodyPost_end (results_none rfl _ _ _) rfl ⟨rfl, R1.out, R2.out⟩
theorem extract_self (s : ByteArray) : s.extract 0 s.size = s := by
  apply bytes_ext
  rw [ByteArray.data_extract, Array.toList_extract, List.extract_eq_take_drop, List.drop_zero, Nat.sub_zero, List.take_of_length_le (by simp)]
/-- Whatever a change is, it does to the map what it does to the files. -/
theorem do_any (g : Nat) (l : FS) (c : Chg) (w : World) (hown : OwnsF w g l) (hl : Fits l 1000000) (hk : c.kind ≤ 4) (hn : c.name.size ≤ maxLen) (ht : c.to.size ≤ maxLen) (hs : c.bytes.size ≤ 1000000) (hz : c.kind = 4 → 0 ≤ c.n) (hz1 : c.n ≤ 9223372036854775807) :
    Calls Tryz.prog 86 #[.map (some g), c.val] w fun e w' => e = .returned (.tuple #[]) ∧ OwnsF w' g (doF l c) ∧ w.grownBy w' (some g) := by
  obtain ⟨k, n, s, t, z⟩ := c
  match k, hk with
  | 0, _ => exact do_append g l n s t z w hown hl hn hs
  | 1, _ => exact do_write g l n s t z w hown hl hn hs
  | 2, _ =>
    cases hf : getF l n with
    | none =>
      have e : doF l ⟨2, n, s, t, z⟩ = l := by simp [doF, hf]
      rw [e]
      exact do_none g l 2 n s t z w hown hn (Or.inl rfl) hf
    | some old =>
      have e : doF l ⟨2, n, s, t, z⟩ = putF (delF l n) t old := by simp [doF, hf]
      rw [e]
      exact do_move g l n s t old z w hown hl hn ht hf
  | 3, _ =>
    have e : doF l ⟨3, n, s, t, z⟩ = delF l n := by
      cases hf : getF l n with
      | none => simp [doF, hf, delF_none]
      | some old => simp [doF, hf]
    rw [e]
    exact do_remove g l n s t z w hown hn
  | 4, _ =>
    obtain ⟨m, rfl⟩ : ∃ m : Nat, z = m := ⟨z.toNat, by have h0 : 0 ≤ z := hz rfl; omega⟩
    cases hf : getF l n with
    | none =>
      have e : doF l ⟨4, n, s, t, m⟩ = l := by simp [doF, hf]
      rw [e]
      exact do_none g l 4 n s t m w hown hn (Or.inr rfl) hf
    | some old =>
      have e : doF l ⟨4, n, s, t, m⟩ = putF l n (old.extract 0 (min m old.size)) := by
        simp [doF, hf]
      rw [e]
      by_cases hm : m ≤ old.size
      · rw [Nat.min_eq_left hm]
        exact do_cut g l n s t old m w hown hl hn hf hm
      · rw [Nat.min_eq_right (by omega), extract_self]
        exact do_cut2 g l n s t old m w hown hl hn hf (by omega) hz1
end Go.Proofs.YtbhmmcelndmijaaGreat
namespace Go.Proofs.YtbhmmcelndmijaaGreat
open Go.RowKit Go.Maps
set_option maxRecDepth 100000 in
set_option maxHeartbeats 1000000 in
theorem tear_no (k : Nat) (a s t : ByteArray) (z torn : Int) (w : World) (h : torn ≤ 0 ∨ 1 < k) : Calls Tryz.prog 126 #[.agg #[.int .i64 k, .string a, .string s, .string t, .int .i64 z], .int .i64 torn] w fun e w' =>
    e = .returned (.tuple #[.agg #[.int .i64 0, .string ⟨#[]⟩, .string ⟨#[]⟩, .string ⟨#[]⟩, .int .i64 0], .bool false]) ∧ w.grownBy w' none := by
  by_cases h0 : torn ≤ 0
  · clear h
    go_enter Tryz.func126, Tryz.ntmps126
    go_wp2
    refine bodyPost_ret (v := .tuple #[.agg #[.int .i64 0, .string ⟨#[]⟩, .string ⟨#[]⟩, .string ⟨#[]⟩, .int .i64 0], .bool false]) (by simp [results, Tryz.results126, go_sem]) rfl ⟨rfl, ?_⟩
    exact grown_alloc (grown_alloc (grown_refl _ _) _) _
  · have h1 : 1 < k := h.resolve_left h0
    have e0 : ((k : Int) == 0) = false := by simp; omega
    have e1 : ((k : Int) == 1) = false := by simp; omega
    have e2 : ((k : Int) != 0) = true := by simp; omega
    have e3 : ((k : Int) != 1) = true := by simp; omega
    clear h
    go_enter Tryz.func126, Tryz.ntmps126
    go_wp2
    refine bodyPost_ret (v := .tuple #[.agg #[.int .i64 0, .string ⟨#[]⟩, .string ⟨#[]⟩, .string ⟨#[]⟩, .int .i64 0], .bool false]) (by simp [results, Tryz.results126, go_sem]) rfl ⟨rfl, ?_⟩
    exact grown_alloc (grown_alloc (grown_refl _ _) _) _
set_option maxRecDepth 100000 in
set_option maxHeartbeats 1000000 in
theorem tear_yes (k : Nat) (a s t : ByteArray) (z : Int) (m : Nat) (w : World) (hk : k = 0 ∨ k = 1) (hm : 0 < m) (hm1 : (m : Int) ≤ 9223372036854775807) (hs : s.size ≤ 1000000) : Calls Tryz.prog 126 #[.agg #[.int .i64 k, .string a, .string s, .string t, .int .i64 z], .int .i64 m] w fun e w' =>
    e = .returned (.tuple #[.agg #[.int .i64 k, .string a, .string (s.extract 0 (min m s.size)), .string t, .int .i64 z], .bool true]) ∧ w.grownBy w' none := by
  have i0 : ¬ (m : Int) ≤ 0 := by omega
  have i1 : (s.size : Int) ≤ 1000000 := by omega
  have i2 : (0 : Int) ≤ m := by omega
  by_cases hle : m ≤ s.size
  · have i3 : (m : Int) ≤ s.size := by omega
    rw [Nat.min_eq_left hle]
    rcases hk with rfl | rfl
    · go_enter Tryz.func126, Tryz.ntmps126
      go_wp2
      refine bodyPost_ret (v := .tuple #[.agg #[.int .i64 0, .string a, .string (s.extract 0 m), .string t, .int .i64 z], .bool true]) (by simp [results, Tryz.results126, go_sem]) rfl ⟨rfl, ?_⟩
      exact grown_alloc (grown_alloc (grown_refl _ _) _) _
    · go_enter Tryz.func126, Tryz.ntmps126
      go_wp2
      refine bodyPost_ret (v := .tuple #[.agg #[.int .i64 1, .string a, .string (s.extract 0 m), .string t, .int .i64 z], .bool true]) (by simp [results, Tryz.results126, go_sem]) rfl ⟨rfl, ?_⟩
      exact grown_alloc (grown_alloc (grown_refl _ _) _) _
  · have i3 : (s.size : Int) < m := by omega
    have i4 : ¬ ((m : Int) ≤ s.size) := by omega
    rw [Nat.min_eq_right (by omega), extract_self]
    rcases hk with rfl | rfl
    · go_enter Tryz.func126, Tryz.ntmps126
      go_wp2
      refine bodyPost_ret (v := .tuple #[.agg #[.int .i64 0, .string a, .string s, .string t, .int .i64 z], .bool true]) (by simp [results, Tryz.results126, go_sem]) rfl ⟨rfl, ?_⟩
      exact grown_alloc (grown_alloc (grown_refl _ _) _) _
    · go_enter Tryz.func126, Tryz.ntmps126
      go_wp2
      refine bodyPost_ret (v := .tuple #[.agg #[.int .i64 1, .string a, .string s, .string t, .int .i64 z], .bool true]) (by simp [results, Tryz.results126, go_sem]) rfl ⟨rfl, ?_⟩
      exact grown_alloc (grown_alloc (grown_refl _ _) _) _
end Go.Proofs.YtbhmmcelndmijaaGreat
namespace Go.Proofs.YtbhmmcelndmijaaGreat
open Go.RowKit Go.Maps
theorem key_inv {key : Value} {kl : Lit} (h : keyOf Tryz.prog 9 key = some kl) : ∃ x : ByteArray, key = .string x ∧ kl = keyL x ∧ x.size ≤ maxLen := by
  cases key <;> simp [keyOf, Tryz.underlying9, mapKey] at h
  obtain ⟨h1, rfl⟩ := h
  exact ⟨_, rfl, rfl, h1⟩
theorem fileElem_le {c : ByteArray} {y : DataW Unit × List MemPlace} (h : fileElem (.agg #[.string c]) = some y) : c.size ≤ maxLen := by
  have e : fileElem (.agg #[.string c]) = if c.size ≤ maxLen then some (.lit (keyL c), []) else none := rfl
  rw [e] at h
  by_cases hc : c.size ≤ maxLen
  · exact hc
  · rw [if_neg hc] at h; cases h
theorem agg_inj {c d : ByteArray} (h : Value.agg #[.string c] = .agg #[.string d]) : c = d := by
  injection h with h1
  have h2 := congrArg (fun x : Array Value => x.toList) h1
  injection h2 with h3
  injection h3
section
variable {ops : Array Oper} {rest : List Oper} {o : Oper} {a : Act} {Q : Exit → Act → World → Prop} {w : World}
theorem next_files (b r n : Nat) (D : DataW Unit) (left : Lit → Bool) (cnt : Nat) (h : w.ranges Tryz.prog 9 fileElem b r n D left cnt) (it : Operand) (hg : o.guard = none) (hop : o.op = Op.next it false) (hit : a.eval it = .pointer (some ⟨r, 0, none⟩))
    (hDone : cnt = 0 → (∀ kl, left kl = false) → wpList Tryz.prog ops Q rest (a.put o.dst (.tuple #[.bool false])) w)
    (hMore : ∀ (x c : ByteArray) (w' : World) (cnt' : Nat), x.size ≤ maxLen → c.size ≤ maxLen → (∀ zd, D.atKey (keyL x) zd = .lit (keyL c)) → w'.ranges Tryz.prog 9 fileElem b r n D (fun z => left z && !z.sameKey (keyL x)) cnt' → cnt' < cnt →
      w.grownBy w' (some r) → w'.heap.size = w.heap.size → (Instr.entry (.pointer (some ⟨r, 0, none⟩))).run Tryz.prog w' = .ok (.tuple #[.string x, .agg #[.string c]]) w' → wpList Tryz.prog ops Q rest (a.put o.dst (.tuple #[.bool true, .string x, .agg #[.string c]])) w') :
    wpList Tryz.prog ops Q (o :: rest) a w :=
  wpList_next_ranges w hg it hop 9 law9 fileElem (fun x : ByteArray => Value.string x) (fun c : ByteArray => Value.agg #[.string c]) (fun key kl hkey => by obtain ⟨x, rfl, _⟩ := key_inv hkey; exact ⟨x, rfl⟩) (fun v y hv => by obtain ⟨c, rfl, _⟩ := fileElem_inv hv; exact ⟨c, rfl⟩)
    b r n D left cnt hit h hDone (fun x c kl y w' cnt' hkey hlk hv hat hrg hlt hgr hsz hen => by
      obtain ⟨x', ex, rfl, hwx⟩ := key_inv hkey
      cases ex
      have hc : c.size ≤ maxLen := fileElem_le hv
      obtain ⟨c', ec, rfl⟩ := fileElem_inv hv
      obtain rfl : c = c' := agg_inj ec
      exact hMore x c w' cnt' hwx hc hat hrg hlt hgr hsz hen)
end
theorem agree_fs {Dout : DataW Unit} {l : FS} {left : Lit → Bool} (hA : Agree Dout (datum l) left) (hl : ∀ k, left k = false) (c₁ : Canon Dout) (c₂ : Canon (datum l)) : Dout = datum l := agree_end hA hl c₁ c₂
set_option maxRecDepth 100000 in
set_option maxHeartbeats 1000000 in
theorem copy_any (gd gs : Nat) (l : FS) (w : World) (hs : OwnsF w gs l) (hd : OwnsF w gd []) (hl : Fits l 1000000) (hne : gd ≠ gs) :
    Calls Tryz.prog 89 #[.map (some gd), .map (some gs)] w fun e w' => e = .returned (.tuple #[]) ∧ OwnsF w' gd l ∧ w.grownBy w' (some gd) := by
  have hsl := hs.lt
  have hdl := hd.lt
  have hlen := hl.1
  have HS : Hid (OwnsF w gs l) := hs
  have HD : Hid (OwnsF w gd []) := hd
  clear hs hd hl
  go_enter Tryz.func89, Tryz.ntmps89
  go_wp2_with (first | (at_range; refine wpList_range_own _ rfl _ 92 rfl 9 123 law9 Tryz.underlying92 _ gs l.length _ rfl HS.out ?_; intro w0 hrg0 hg0 hs0) | go_in)
  go_frame
  have h0 : w0.heap.size = w.heap.size + 1 := hs0
  go_loopw [4] (fun _ wr => ∃ (left : Lit → Bool) (cnt : Nat) (Dout : DataW Unit), wr.ranges Tryz.prog 9 fileElem gs w.heap.size l.length (datum l) left cnt ∧ cnt ≤ l.length ∧
      wr.ownsMap Tryz.prog 9 fileElem gd (l.length - cnt) Dout ∧ Agree Dout (datum l) left ∧ w.grownBy wr (some gd))
    (fun _ wr => wr.rangeLeft gs w.heap.size)
  case atStart =>
    refine ⟨_, _, .map [], hrg0, by rw [datum_size]; exact Nat.le_refl _, (World.ownsMap.kept HD.out hg0 (by simp)).mono (Nat.zero_le _), agree_start _, World.grownBy.but hg0 _⟩
  case round =>
    obtain ⟨left, cnt, Dout, hrg, hcs, hout, hA, hgw⟩ := hrel
    clear hrg0 hg0 hs0 h0
    go_wp2_with (first | (at_next; refine next_files gs w.heap.size l.length _ _ _ hrg _ rfl rfl rfl ?_ ?_) | go_in)
    · intro hc0 hl0
      go_wp2
      subst hc0
      have e := agree_fs hA hl0 (hout.canon law9) (World.ownsMap.canon HS.out law9)
      subst e
      exact bodyPost_end (results_none rfl _ _ _) rfl ⟨rfl, owns_tight hout, hgw⟩
    · intro x c w1 cnt1 hwx hwc hat hrg1 hlt hg1 hs1 hen
      have O1 : Hid (w1.ownsMap Tryz.prog 9 fileElem gd (l.length - cnt) Dout) := hout.kept hg1 (fun e => by have := Option.some.inj e; omega)
      have G1 : Hid (w.grownBy w1 (some gd)) := World.grownBy.andThen hgw hg1 (fun j hj => by cases hj; exact Or.inl (Nat.le_refl _))
      have RG : Hid (w1.ranges Tryz.prog 9 fileElem gs w.heap.size l.length (datum l) (fun z => left z && !z.sameKey (keyL x)) cnt1) := hrg1
      have HA : Hid (Agree Dout (datum l) left) := hA
      have HT : Hid (∀ zd, (datum l).atKey (keyL x) zd = .lit (keyL c)) := hat
      have HM : Hid (IsMap Dout) := hout.isMap
      have HX : Hid (x.size ≤ maxLen) := hwx
      have HC : Hid (c.size ≤ maxLen) := hwc
      have HLq : Hid (wr.rangeLeft gs w.heap.size = cnt) := hrg.left_eq
      have hw1 : w.heap.size < w1.heap.size := by have := hrg1.lt; exact this
      clear hrg hrg1 hg1 hs1 hA hat hwx hwc hout hgw
      go_wp2_with (first
        | (at_mapUpdate; refine wpList_mapUpdate_own _ rfl _ _ _ 92 rfl 9 123 law9 Tryz.underlying92 _ gd _ _ rfl (O1.out.alloc _) (by unfold maxLen; omega) _ _ _ rfl rfl (key_ok HX.out) _ [] (fileElem_mk HC.out) ?_; intro w2 hout2 hg2; go_frame)
        | go_in)
      have hrg2 := (RG.out.alloc (.cells #[.string c] 123)).kept hg2 (fun e => by have := Option.some.inj e; omega) (fun e => by have := Option.some.inj e; omega)
      go_roundw
      case rel =>
        exact ⟨_, cnt1, _, hrg2, by omega, hout2.mono (by omega), agree_step HA.out HM.out trivial HT.out, grown_trans (grown_alloc G1.out _) hg2⟩
      case measure => rw [hrg2.left_eq, HLq.out]; exact hlt
set_option maxRecDepth 100000 in
theorem copy_nil (gd : Nat) (w : World) (hd : OwnsF w gd []) :
    Calls Tryz.prog 89 #[.map (some gd), .map none] w fun e w' => e = .returned (.tuple #[]) ∧ OwnsF w' gd [] ∧ w.grownBy w' (some gd) := by
  have hrg := run_range_nilMap (P := Tryz.prog) w 92 9 123 Tryz.underlying92
  have hnx : ∀ ty, (Instr.next (.pointer (some ⟨w.heap.size, 0, none⟩)) false ty).run Tryz.prog (w.alloc (.mapIter none 0 #[] 0)) = _ := fun ty => run_next_nilMap _ ty 0 0 #[]
  have HD : Hid (OwnsF w gd []) := hd
  clear hd
  go_enter Tryz.func89, Tryz.ntmps89
  go_wp2
  refine wp_loop_rounds 1 ?_
  rw [rounds_succ]
  go_wp2
  exact bodyPost_end (results_none rfl _ _ _) rfl ⟨rfl, HD.out.alloc _, grown_alloc (grown_refl _ _) _⟩
theorem run_makeMap_len (n : Nat) (w : World) : (Instr.makeMap 92 (some (.int .i64 n))).run Tryz.prog w = .ok (.map (some w.heap.size)) (w.alloc (.map #[] 0)) := by
  simp [Instr.makeMap]
  rfl
theorem made_empty (w : World) : OwnsF (w.alloc (.map #[] 0)) w.heap.size [] := World.ownsMap_made w Tryz.prog 9 fileElem
set_option maxRecDepth 100000 in
theorem fsclone_nil (w : World) : Calls Tryz.prog 63 #[.map none] w fun e w' => e = .returned (.map (some w.heap.size)) ∧ OwnsF w' w.heap.size [] ∧ w.grownBy w' none := by
  have hmm : (Instr.makeMap 92 (some (.int .i64 0))).run Tryz.prog w = .ok (.map (some w.heap.size)) (w.alloc (.map #[] 0)) := run_makeMap_len 0 w
  have hln := fun ty => Maps.len_nil (P := Tryz.prog) (w := w) Tryz.underlying92 ty
  go_enter Tryz.func63, Tryz.ntmps63
  go_wp2_with (go_at_call 89; refine (copy_nil w.heap.size _ (made_empty w)).mono ?_; rintro e w1 ⟨rfl, ho, hg⟩; have R1 : Hid (OwnsF w1 w.heap.size []) := ho; have R2 : Hid (w.grownBy w1 none) := grown_through (grown_alloc (grown_refl _ _) _) hg (Nat.le_refl _); clear ho hg)
  go_ret
  exact ⟨rfl, R1.out, R2.out⟩
set_option maxRecDepth 100000 in
theorem fsclone_some (g : Nat) (l : FS) (w : World) (ho : OwnsF w g l) (hl : Fits l 1000000) : Calls Tryz.prog 63 #[.map (some g)] w fun e w' => e = .returned (.map (some w.heap.size)) ∧ OwnsF w' w.heap.size l ∧ w.grownBy w' none := by
  have hmm := run_makeMap_len (Maps.size (datum l)) w
  have hlt := ho.lt
  have H : Hid (OwnsF w g l) := ho
  have CC : Hid (∀ w', w' = w.alloc (.map #[] 0) → Calls Tryz.prog 89 #[.map (some w.heap.size), .map (some g)] w' fun e w1 => e = .returned (.tuple #[]) ∧ OwnsF w1 w.heap.size l ∧ w'.grownBy w1 (some w.heap.size)) := by
    rintro w' rfl
    exact copy_any w.heap.size g l _ (ho.alloc _) (made_empty w) hl (by omega)
  clear ho hl
  go_enter Tryz.func63, Tryz.ntmps63
  go_wp2_with (first | (at_len; refine wpList_len_own _ rfl _ 92 rfl 9 123 Tryz.underlying92 _ g l.length _ rfl H.out ?_) | (go_at_call 89; refine (CC.out _ rfl).mono ?_; rintro e w1 ⟨rfl, ho, hg⟩; have R1 : Hid (OwnsF w1 w.heap.size l) := ho; have R2 : Hid (w.grownBy w1 none) := grown_through (grown_alloc (grown_refl _ _) _) hg (Nat.le_refl _); clear ho hg))
  go_ret
  exact ⟨rfl, R1.out, R2.out⟩
theorem fsclone_any (base : Nat) (v : Value) (l : FS) (w : World) (h : MapV w base v l) (hl : Fits l 1000000) : Calls Tryz.prog 63 #[v] w fun e w' => e = .returned (.map (some w.heap.size)) ∧ OwnsF w' w.heap.size l ∧ w.grownBy w' none := by
  rcases h with ⟨rfl, rfl⟩ | ⟨g, rfl, _, ho⟩
  · exact fsclone_nil w
  · exact fsclone_some g l w ho hl
end Go.Proofs.YtbhmmcelndmijaaGreat
