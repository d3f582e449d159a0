/-
  Truncate, done to a map of files. tear: a change of which so many bytes alone were put.
-/
import Derived.Test.YtbhmmcelndmijaaGreatKRef
namespace Go.Proofs.YtbhmmcelndmijaaGreat
open Go.RowKit Go.Maps
theorem run_store_file {w : World} (g : Nat) (l : FS) (n s : ByteArray) (hown : OwnsF w g l) (hn : n.size ≤ maxLen) (hs : s.size ≤ maxLen) (hl : l.length < maxLen) :
    ∃ w', (Instr.mapUpdate 92 (.map (some g)) (.string n) (.agg #[.string s])).run Tryz.prog w = .ok () w' ∧ OwnsF w' g (putF l n s) ∧ w.grownBy w' (some g) := by
  obtain ⟨w', h1, h2, h3⟩ := World.ownsMap.store hown law9 Tryz.underlying92 hl (key_ok hn) (fileElem_mk hs)
  rw [datum_put] at h2
  exact ⟨w', h1, owns_tight h2, h3.grown⟩
set_option maxRecDepth 100000 in
set_option maxHeartbeats 1000000 in
theorem do_cut (g : Nat) (l : FS) (n s t old : ByteArray) (z : Nat) (w : World) (hown : OwnsF w g l) (hl : Fits l 1000000) (hn : n.size ≤ maxLen) (hf : getF l n = some old) (hz0 : z ≤ old.size) :
    Calls Tryz.prog 86 #[.map (some g), .agg #[.int .i64 4, .string n, .string s, .string t, .int .i64 z]] w fun e w' => e = .returned (.tuple #[]) ∧ OwnsF w' g (putF l n (old.extract 0 z)) ∧ w.grownBy w' (some g) := by
  have hlt := hown.lt
  have hz := get_size hl n
  rw [hf] at hz
  have hz' : old.size ≤ 1000000 := hz
  have hlen := hl.1
  have hx : (old.extract 0 z).size ≤ maxLen := by rw [ByteArray.size_extract]; unfold maxLen; omega
  obtain ⟨w', h1, h2, h3⟩ := run_store_file (w := ((w.alloc (.cells #[.int .i64 4, .string n, .string s, .string t, .int .i64 z] 120)).alloc (.cells #[.string old] 123)).drew) g l n (old.extract 0 z) (World.ownsMap.drew ((hown.alloc _).alloc _)) hn hx (by unfold maxLen; omega)
  have R1 : Hid (OwnsF w' g (putF l n (old.extract 0 z))) := h2
  have R2 : Hid (w.grownBy w' (some g)) := grown_map (grown_drew (grown_alloc (grown_alloc (grown_refl _ _) _) _)) h3
  clear h2 h3 hx
  have H : Hid (OwnsF w g l) := hown
  have HN : Hid (n.size ≤ maxLen) := hn
  have HO : Hid ((getF l n).getD ⟨#[]⟩ = old) := (by show (getF l n).getD ⟨#[]⟩ = old; rw [hf]; rfl)
  have HB : Hid ((getF l n).isSome = true) := (by show (getF l n).isSome = true; rw [hf]; rfl)
  clear hn hown hf hz hl
  have i0 : (0 : Int) ≤ (z : Int) := by omega
  have i1 : (z : Int) ≤ old.size := by omega
  have i2 : (old.size : Int) ≤ 1000000 := by omega
  go_enter Tryz.func86, Tryz.ntmps86
  go_wp2_with (at_lookup; refine lookup_file g l n (H.out.alloc _) HN.out _ _ rfl rfl rfl rfl ?_; rw [HO.out, HB.out])
  go_region
  all_goals go_wp2
  all_goals exact bodyPost_end (results_none rfl _ _ _) rfl ⟨rfl, R1.out, R2.out⟩
set_option maxRecDepth 100000 in
set_option maxHeartbeats 1000000 in
theorem do_cut2 (g : Nat) (l : FS) (n s t old : ByteArray) (z : Nat) (w : World) (hown : OwnsF w g l) (hl : Fits l 1000000) (hn : n.size ≤ maxLen) (hf : getF l n = some old) (hz0 : old.size < z) (hz1 : (z : Int) ≤ 9223372036854775807) :
    Calls Tryz.prog 86 #[.map (some g), .agg #[.int .i64 4, .string n, .string s, .string t, .int .i64 z]] w fun e w' => e = .returned (.tuple #[]) ∧ OwnsF w' g (putF l n old) ∧ w.grownBy w' (some g) := by
  have hlt := hown.lt
  have hz := get_size hl n
  rw [hf] at hz
  have hz' : old.size ≤ 1000000 := hz
  have hlen := hl.1
  have hx : old.size ≤ maxLen := by unfold maxLen; omega
  obtain ⟨w', h1, h2, h3⟩ := run_store_file (w := ((w.alloc (.cells #[.int .i64 4, .string n, .string s, .string t, .int .i64 z] 120)).alloc (.cells #[.string old] 123)).drew) g l n old (World.ownsMap.drew ((hown.alloc _).alloc _)) hn hx (by unfold maxLen; omega)
  have R1 : Hid (OwnsF w' g (putF l n old)) := h2
  have R2 : Hid (w.grownBy w' (some g)) := grown_map (grown_drew (grown_alloc (grown_alloc (grown_refl _ _) _) _)) h3
  clear h2 h3 hx
  have H : Hid (OwnsF w g l) := hown
  have HN : Hid (n.size ≤ maxLen) := hn
  have HO : Hid ((getF l n).getD ⟨#[]⟩ = old) := (by show (getF l n).getD ⟨#[]⟩ = old; rw [hf]; rfl)
  have HB : Hid ((getF l n).isSome = true) := (by show (getF l n).isSome = true; rw [hf]; rfl)
  clear hn hown hf hz hl
  have i0 : (0 : Int) ≤ (z : Int) := by omega
  have i1 : (old.size : Int) < z := by omega
  have i3 : ¬ ((z : Int) ≤ old.size) := by omega
  have i2 : (old.size : Int) ≤ 1000000 := by omega
  go_enter Tryz.func86, Tryz.ntmps86
  go_wp2_with (at_lookup; refine lookup_file g l n (H.out.alloc _) HN.out _ _ rfl rfl rfl rfl ?_; rw [HO.out, HB.out])
  go_region
  all_goals go_wp2
  all_goals exact bodyPost_end (results_none rfl _ _ _) rfl ⟨rfl, R1.out, R2.out⟩
theorem extract_self (s : ByteArray) : s.extract 0 s.size = s := by
  apply bytes_ext
  rw [ByteArray.data_extract, Array.toList_extract, List.extract_eq_take_drop, List.drop_zero, Nat.sub_zero, List.take_of_length_le (by simp)]
/-- Whatever a change is, it does to the map what it does to the files. -/
theorem do_any (g : Nat) (l : FS) (c : Chg) (w : World) (hown : OwnsF w g l) (hl : Fits l 1000000) (hk : c.kind ≤ 4) (hn : c.name.size ≤ maxLen) (ht : c.to.size ≤ maxLen) (hs : c.bytes.size ≤ 1000000) (hz : c.kind = 4 → 0 ≤ c.n) (hz1 : c.n ≤ 9223372036854775807) :
    Calls Tryz.prog 86 #[.map (some g), c.val] w fun e w' => e = .returned (.tuple #[]) ∧ OwnsF w' g (doF l c) ∧ w.grownBy w' (some g) := by
  obtain ⟨k, n, s, t, z⟩ := c
  match k, hk with
  | 0, _ => exact do_append g l n s t z w hown hl hn hs
  | 1, _ => exact do_write g l n s t z w hown hl hn hs
  | 2, _ =>
    cases hf : getF l n with
    | none =>
      have e : doF l ⟨2, n, s, t, z⟩ = l := by simp [doF, hf]
      rw [e]
      exact do_none g l 2 n s t z w hown hn (Or.inl rfl) hf
    | some old =>
      have e : doF l ⟨2, n, s, t, z⟩ = putF (delF l n) t old := by simp [doF, hf]
      rw [e]
      exact do_move g l n s t old z w hown hl hn ht hf
  | 3, _ =>
    have e : doF l ⟨3, n, s, t, z⟩ = delF l n := by
      cases hf : getF l n with
      | none => simp [doF, hf, delF_none]
      | some old => simp [doF, hf]
    rw [e]
    exact do_remove g l n s t z w hown hn
  | 4, _ =>
    obtain ⟨m, rfl⟩ : ∃ m : Nat, z = m := ⟨z.toNat, by have h0 : 0 ≤ z := hz rfl; omega⟩
    cases hf : getF l n with
    | none =>
      have e : doF l ⟨4, n, s, t, m⟩ = l := by simp [doF, hf]
      rw [e]
      exact do_none g l 4 n s t m w hown hn (Or.inr rfl) hf
    | some old =>
      have e : doF l ⟨4, n, s, t, m⟩ = putF l n (old.extract 0 (min m old.size)) := by
        simp [doF, hf]
      rw [e]
      by_cases hm : m ≤ old.size
      · rw [Nat.min_eq_left hm]
        exact do_cut g l n s t old m w hown hl hn hf hm
      · rw [Nat.min_eq_right (by omega), extract_self]
        exact do_cut2 g l n s t old m w hown hl hn hf (by omega) hz1
end Go.Proofs.YtbhmmcelndmijaaGreat
namespace Go.Proofs.YtbhmmcelndmijaaGreat
open Go.RowKit Go.Maps
set_option maxRecDepth 100000 in
set_option maxHeartbeats 1000000 in
theorem tear_no (k : Nat) (a s t : ByteArray) (z torn : Int) (w : World) (h : torn ≤ 0 ∨ 1 < k) : Calls Tryz.prog 126 #[.agg #[.int .i64 k, .string a, .string s, .string t, .int .i64 z], .int .i64 torn] w fun e w' =>
    e = .returned (.tuple #[.agg #[.int .i64 0, .string ⟨#[]⟩, .string ⟨#[]⟩, .string ⟨#[]⟩, .int .i64 0], .bool false]) ∧ w.grownBy w' none := by
  by_cases h0 : torn ≤ 0
  · clear h
    go_enter Tryz.func126, Tryz.ntmps126
    go_wp2
    refine bodyPost_ret (v := .tuple #[.agg #[.int .i64 0, .string ⟨#[]⟩, .string ⟨#[]⟩, .string ⟨#[]⟩, .int .i64 0], .bool false]) (by simp [results, Tryz.results126, go_sem]) rfl ⟨rfl, ?_⟩
    exact grown_alloc (grown_alloc (grown_refl _ _) _) _
  · have h1 : 1 < k := h.resolve_left h0
    have e0 : ((k : Int) == 0) = false := by simp; omega
    have e1 : ((k : Int) == 1) = false := by simp; omega
    have e2 : ((k : Int) != 0) = true := by simp; omega
    have e3 : ((k : Int) != 1) = true := by simp; omega
    clear h
    go_enter Tryz.func126, Tryz.ntmps126
    go_wp2
    refine bodyPost_ret (v := .tuple #[.agg #[.int .i64 0, .string ⟨#[]⟩, .string ⟨#[]⟩, .string ⟨#[]⟩, .int .i64 0], .bool false]) (by simp [results, Tryz.results126, go_sem]) rfl ⟨rfl, ?_⟩
    exact grown_alloc (grown_alloc (grown_refl _ _) _) _
set_option maxRecDepth 100000 in
set_option maxHeartbeats 1000000 in
theorem tear_yes (k : Nat) (a s t : ByteArray) (z : Int) (m : Nat) (w : World) (hk : k = 0 ∨ k = 1) (hm : 0 < m) (hm1 : (m : Int) ≤ 9223372036854775807) (hs : s.size ≤ 1000000) : Calls Tryz.prog 126 #[.agg #[.int .i64 k, .string a, .string s, .string t, .int .i64 z], .int .i64 m] w fun e w' =>
    e = .returned (.tuple #[.agg #[.int .i64 k, .string a, .string (s.extract 0 (min m s.size)), .string t, .int .i64 z], .bool true]) ∧ w.grownBy w' none := by
  have i0 : ¬ (m : Int) ≤ 0 := by omega
  have i1 : (s.size : Int) ≤ 1000000 := by omega
  have i2 : (0 : Int) ≤ m := by omega
  by_cases hle : m ≤ s.size
  · have i3 : (m : Int) ≤ s.size := by omega
    rw [Nat.min_eq_left hle]
    rcases hk with rfl | rfl
    · go_enter Tryz.func126, Tryz.ntmps126
      go_wp2
      refine bodyPost_ret (v := .tuple #[.agg #[.int .i64 0, .string a, .string (s.extract 0 m), .string t, .int .i64 z], .bool true]) (by simp [results, Tryz.results126, go_sem]) rfl ⟨rfl, ?_⟩
      exact grown_alloc (grown_alloc (grown_refl _ _) _) _
    · go_enter Tryz.func126, Tryz.ntmps126
      go_wp2
      refine bodyPost_ret (v := .tuple #[.agg #[.int .i64 1, .string a, .string (s.extract 0 m), .string t, .int .i64 z], .bool true]) (by simp [results, Tryz.results126, go_sem]) rfl ⟨rfl, ?_⟩
      exact grown_alloc (grown_alloc (grown_refl _ _) _) _
  · have i3 : (s.size : Int) < m := by omega
    have i4 : ¬ ((m : Int) ≤ s.size) := by omega
    rw [Nat.min_eq_right (by omega), extract_self]
    rcases hk with rfl | rfl
    · go_enter Tryz.func126, Tryz.ntmps126
      go_wp2
      refine bodyPost_ret (v := .tuple #[.agg #[.int .i64 0, .string a, .string s, .string t, .int .i64 z], .bool true]) (by simp [results, Tryz.results126, go_sem]) rfl ⟨rfl, ?_⟩
      exact grown_alloc (grown_alloc (grown_refl _ _) _) _
    · go_enter Tryz.func126, Tryz.ntmps126
      go_wp2
      refine bodyPost_ret (v := .tuple #[.agg #[.int .i64 1, .string a, .string s, .string t, .int .i64 z], .bool true]) (by simp [results, Tryz.results126, go_sem]) rfl ⟨rfl, ?_⟩
      exact grown_alloc (grown_alloc (grown_refl _ _) _) _
end Go.Proofs.YtbhmmcelndmijaaGreat
