/-
  refusal: every change that may not be, and why; those of kinds above Write.
-/
import Derived.Test.YtbhmmcelndmijaaGreatKTend
namespace Go.Proofs.YtbhmmcelndmijaaGreat
open Go.RowKit Go.Maps
set_option maxRecDepth 100000 in
set_option maxHeartbeats 1000000 in
theorem refusal_dead (b : Nat) (k z : Int) (vn vs vl : Value) (u c : Nat) (a s t : ByteArray) (w : World) (hB : Blk w b 96 (rowD vn vs vl u c true)) :
    Calls Tryz.prog 82 #[.pointer (some ⟨b, 0, none⟩), .agg #[.int .i64 k, .string a, .string s, .string t, .int .i64 z]] w fun e w' => e = .returned (.int .i64 7) ∧ w.grownBy w' none := by
  have HB : Hid (Blk (w.alloc (.cells #[.int .i64 k, .string a, .string s, .string t, .int .i64 z] 120)) b 96 (rowD vn vs vl u c true)) := hB.alloc _
  clear hB
  go_enter Tryz.func82, Tryz.ntmps82
  go_wp2_with (go_at_call 59; refine (dead_any b true _ HB.out.d8).mono ?_; rintro e w' ⟨rfl, hw⟩; have hw2 := hw.symm; clear hw; subst hw2)
  go_ret
  exact ⟨rfl, grown_alloc (grown_refl _ _) _⟩
set_option maxRecDepth 100000 in
set_option maxHeartbeats 1000000 in
theorem refusal_name (b : Nat) (k z : Int) (vn vs vl : Value) (u c : Nat) (a s t : ByteArray) (w : World) (hB : Blk w b 96 (rowD vn vs vl u c false)) (ham : a.size ≤ maxLen) (htm : t.size ≤ maxLen) (h : nameB a = false ∨ (nameB a = true ∧ k = 2 ∧ nameB t = false)) :
    Calls Tryz.prog 82 #[.pointer (some ⟨b, 0, none⟩), .agg #[.int .i64 k, .string a, .string s, .string t, .int .i64 z]] w fun e w' => e = .returned (.int .i64 30) ∧ w.grownBy w' none := by
  have HB : Hid (Blk (w.alloc (.cells #[.int .i64 k, .string a, .string s, .string t, .int .i64 z] 120)) b 96 (rowD vn vs vl u c false)) := hB.alloc _
  have HN : Hid (∀ w, Calls Tryz.prog 60 #[.string a] w fun e w' => e = .returned (.bool (nameB a)) ∧ w' = w) := fun w => name_any a w ham
  have HT : Hid (∀ w, Calls Tryz.prog 60 #[.string t] w fun e w' => e = .returned (.bool (nameB t)) ∧ w' = w) := fun w => name_any t w htm
  clear hB ham htm
  rcases h with h1 | ⟨h1, rfl, h2⟩
  · rw [h1] at HN
    clear HT h1
    go_enter Tryz.func82, Tryz.ntmps82
    go_wp2_with (first | (go_at_call 59; refine (dead_any b false _ HB.out.d8).mono ?_; rintro e w' ⟨rfl, hw⟩; have hw2 := hw.symm; clear hw; subst hw2) | (go_at_call 60; refine (HN.out _).mono ?_; rintro e w' ⟨rfl, hw⟩; have hw2 := hw.symm; clear hw; subst hw2))
    go_ret
    exact ⟨rfl, grown_alloc (grown_refl _ _) _⟩
  · rw [h1] at HN
    rw [h2] at HT
    clear h1 h2
    go_enter Tryz.func82, Tryz.ntmps82
    go_wp2_with (first | (go_at_call 59; refine (dead_any b false _ HB.out.d8).mono ?_; rintro e w' ⟨rfl, hw⟩; have hw2 := hw.symm; clear hw; subst hw2) | (go_at_call 60; refine (HN.out _).mono ?_; clear HN; rintro e w' ⟨rfl, hw⟩; have hw2 := hw.symm; clear hw; subst hw2) | (go_at_call 60; refine (HT.out _).mono ?_; clear HT; rintro e w' ⟨rfl, hw⟩; have hw2 := hw.symm; clear hw; subst hw2))
    go_ret
    exact ⟨rfl, grown_alloc (grown_refl _ _) _⟩
set_option maxRecDepth 100000 in
set_option maxHeartbeats 1000000 in
/-- A Move of a file that is not there. -/
theorem refusal_none2 (base b : Nat) (z : Int) (vn vs vl : Value) (u c : Nat) (l : FS) (a s t : ByteArray) (w : World) (hB : Blk w b 96 (rowD vn vs vl u c false))
    (hm : MapV w base vn l) (hl : Fits l 1000000) (ha : nameB a = true) (ham : a.size ≤ maxLen) (htm : t.size ≤ maxLen) (hto : 2 = 2 → nameB t = true) (hf : getF l a = none) :
    Calls Tryz.prog 82 #[.pointer (some ⟨b, 0, none⟩), .agg #[.int .i64 2, .string a, .string s, .string t, .int .i64 z]] w fun e w' => e = .returned (.int .i64 2) ∧ w.grownBy w' none := by
  have hb : b < w.heap.size := hB.lt
  have HB : Hid (Blk (w.alloc (.cells #[.int .i64 2, .string a, .string s, .string t, .int .i64 z] 120)) b 96 (rowD vn vs vl u c false)) := hB.alloc _
  have hlk := run_lookup (w := (w.alloc (.cells #[.int .i64 2, .string a, .string s, .string t, .int .i64 z] 120)).drew) (base := base) (v := vn) (l := l) (hm.alloc _) a ham
  have hlk2 := run_lookup (w := ((w.alloc (.cells #[.int .i64 2, .string a, .string s, .string t, .int .i64 z] 120)).alloc (.cells #[.string ⟨#[]⟩] 123)).drew) (base := base) (v := vn) (l := l) ((hm.alloc _).alloc _) a ham
  have HC : Hid (Blk (w.alloc (.cells #[.int .i64 2, .string a, .string s, .string t, .int .i64 z] 120)) w.heap.size 120 #[.int .i64 2, .string a, .string s, .string t, .int .i64 z]) := Blk.new _ _ _
  have HG : Hid (w.grownBy (w.alloc (.cells #[.int .i64 2, .string a, .string s, .string t, .int .i64 z] 120)) none) := grown_alloc (grown_refl _ _) _
  have hzz := get_size hl a
  rw [hf] at hlk hlk2 hzz
  simp only [Option.getD_none, Option.isSome_none] at hlk hlk2
  clear hzz
  have CN : Hid (∀ w, Calls Tryz.prog 60 #[.string a] w fun e w' => e = .returned (.bool true) ∧ w' = w) := fun w => by rw [← ha]; exact name_any a w ham
  have CT : Hid (∀ w, Calls Tryz.prog 60 #[.string t] w fun e w' => e = .returned (.bool (nameB t)) ∧ w' = w) := fun w => name_any t w htm
  rw [hto rfl] at CT
  clear hto
  clear hm hl ha ham htm hB hf
  go_enter Tryz.func82, Tryz.ntmps82
  go_wp2_with (first | (go_at_call 59; refine (dead_any b false _ HB.out.d8).mono ?_; rintro e w' ⟨rfl, hw⟩; have hw2 := hw.symm; clear hw; subst hw2) | (go_at_call 60; refine (CN.out _).mono ?_; clear CN; rintro e w' ⟨rfl, hw⟩; have hw2 := hw.symm; clear hw; subst hw2) | (go_at_call 60; refine (CT.out _).mono ?_; clear CT; rintro e w' ⟨rfl, hw⟩; have hw2 := hw.symm; clear hw; subst hw2))
  have hbq : b < w.heap.size := hb
  have c0 := HB.out.d0
  have q1 : (w.alloc (.cells #[.int .i64 2, .string a, .string s, .string t, .int .i64 z] 120)).cell? ⟨w.heap.size, 1, none⟩ = some (.string a) := by rw [HC.out.cell]; rfl
  have q0 : (w.alloc (.cells #[.int .i64 2, .string a, .string s, .string t, .int .i64 z] 120)).cell? ⟨w.heap.size, 0, none⟩ = some (.int .i64 2) := by rw [HC.out.cell]; rfl
  have q3 : (w.alloc (.cells #[.int .i64 2, .string a, .string s, .string t, .int .i64 z] 120)).cell? ⟨w.heap.size, 3, none⟩ = some (.string t) := by rw [HC.out.cell]; rfl
  have q4 : (w.alloc (.cells #[.int .i64 2, .string a, .string s, .string t, .int .i64 z] 120)).cell? ⟨w.heap.size, 4, none⟩ = some (.int .i64 z) := by rw [HC.out.cell]; rfl
  have hqs : w.heap.size < (w.alloc (.cells #[.int .i64 2, .string a, .string s, .string t, .int .i64 z] 120)).heap.size := by simp
  generalize w.alloc (.cells #[.int .i64 2, .string a, .string s, .string t, .int .i64 z] 120) = w1 at *
  generalize w.heap.size = q at *
  have hb1 : b < w1.heap.size := by omega
  go_region
  all_goals (
    go_wp2
    go_ret
    exact ⟨rfl, grown_alloc (grown_drew HG.out) _⟩)
set_option maxRecDepth 100000 in
set_option maxHeartbeats 1000000 in
/-- A Remove of a file that is not there. -/
theorem refusal_none3 (base b : Nat) (z : Int) (vn vs vl : Value) (u c : Nat) (l : FS) (a s t : ByteArray) (w : World) (hB : Blk w b 96 (rowD vn vs vl u c false))
    (hm : MapV w base vn l) (hl : Fits l 1000000) (ha : nameB a = true) (ham : a.size ≤ maxLen) (hf : getF l a = none) :
    Calls Tryz.prog 82 #[.pointer (some ⟨b, 0, none⟩), .agg #[.int .i64 3, .string a, .string s, .string t, .int .i64 z]] w fun e w' => e = .returned (.int .i64 2) ∧ w.grownBy w' none := by
  have hb : b < w.heap.size := hB.lt
  have HB : Hid (Blk (w.alloc (.cells #[.int .i64 3, .string a, .string s, .string t, .int .i64 z] 120)) b 96 (rowD vn vs vl u c false)) := hB.alloc _
  have hlk := run_lookup (w := (w.alloc (.cells #[.int .i64 3, .string a, .string s, .string t, .int .i64 z] 120)).drew) (base := base) (v := vn) (l := l) (hm.alloc _) a ham
  have hlk2 := run_lookup (w := ((w.alloc (.cells #[.int .i64 3, .string a, .string s, .string t, .int .i64 z] 120)).alloc (.cells #[.string ⟨#[]⟩] 123)).drew) (base := base) (v := vn) (l := l) ((hm.alloc _).alloc _) a ham
  have HC : Hid (Blk (w.alloc (.cells #[.int .i64 3, .string a, .string s, .string t, .int .i64 z] 120)) w.heap.size 120 #[.int .i64 3, .string a, .string s, .string t, .int .i64 z]) := Blk.new _ _ _
  have HG : Hid (w.grownBy (w.alloc (.cells #[.int .i64 3, .string a, .string s, .string t, .int .i64 z] 120)) none) := grown_alloc (grown_refl _ _) _
  have hzz := get_size hl a
  rw [hf] at hlk hlk2 hzz
  simp only [Option.getD_none, Option.isSome_none] at hlk hlk2
  clear hzz
  have CN : Hid (∀ w, Calls Tryz.prog 60 #[.string a] w fun e w' => e = .returned (.bool true) ∧ w' = w) := fun w => by rw [← ha]; exact name_any a w ham
  clear hm hl ha ham hB hf
  go_enter Tryz.func82, Tryz.ntmps82
  go_wp2_with (first | (go_at_call 59; refine (dead_any b false _ HB.out.d8).mono ?_; rintro e w' ⟨rfl, hw⟩; have hw2 := hw.symm; clear hw; subst hw2) | (go_at_call 60; refine (CN.out _).mono ?_; clear CN; rintro e w' ⟨rfl, hw⟩; have hw2 := hw.symm; clear hw; subst hw2))
  have hbq : b < w.heap.size := hb
  have c0 := HB.out.d0
  have q1 : (w.alloc (.cells #[.int .i64 3, .string a, .string s, .string t, .int .i64 z] 120)).cell? ⟨w.heap.size, 1, none⟩ = some (.string a) := by rw [HC.out.cell]; rfl
  have q0 : (w.alloc (.cells #[.int .i64 3, .string a, .string s, .string t, .int .i64 z] 120)).cell? ⟨w.heap.size, 0, none⟩ = some (.int .i64 3) := by rw [HC.out.cell]; rfl
  have q3 : (w.alloc (.cells #[.int .i64 3, .string a, .string s, .string t, .int .i64 z] 120)).cell? ⟨w.heap.size, 3, none⟩ = some (.string t) := by rw [HC.out.cell]; rfl
  have q4 : (w.alloc (.cells #[.int .i64 3, .string a, .string s, .string t, .int .i64 z] 120)).cell? ⟨w.heap.size, 4, none⟩ = some (.int .i64 z) := by rw [HC.out.cell]; rfl
  have hqs : w.heap.size < (w.alloc (.cells #[.int .i64 3, .string a, .string s, .string t, .int .i64 z] 120)).heap.size := by simp
  generalize w.alloc (.cells #[.int .i64 3, .string a, .string s, .string t, .int .i64 z] 120) = w1 at *
  generalize w.heap.size = q at *
  have hb1 : b < w1.heap.size := by omega
  go_region
  all_goals (
    go_wp2
    go_ret
    exact ⟨rfl, grown_alloc (grown_drew HG.out) _⟩)
set_option maxRecDepth 100000 in
set_option maxHeartbeats 1000000 in
/-- A Truncate of a file that is not there. -/
theorem refusal_none4 (base b : Nat) (z : Int) (vn vs vl : Value) (u c : Nat) (l : FS) (a s t : ByteArray) (w : World) (hB : Blk w b 96 (rowD vn vs vl u c false))
    (hm : MapV w base vn l) (hl : Fits l 1000000) (ha : nameB a = true) (ham : a.size ≤ maxLen) (hf : getF l a = none) :
    Calls Tryz.prog 82 #[.pointer (some ⟨b, 0, none⟩), .agg #[.int .i64 4, .string a, .string s, .string t, .int .i64 z]] w fun e w' => e = .returned (.int .i64 2) ∧ w.grownBy w' none := by
  have hb : b < w.heap.size := hB.lt
  have HB : Hid (Blk (w.alloc (.cells #[.int .i64 4, .string a, .string s, .string t, .int .i64 z] 120)) b 96 (rowD vn vs vl u c false)) := hB.alloc _
  have hlk := run_lookup (w := (w.alloc (.cells #[.int .i64 4, .string a, .string s, .string t, .int .i64 z] 120)).drew) (base := base) (v := vn) (l := l) (hm.alloc _) a ham
  have hlk2 := run_lookup (w := ((w.alloc (.cells #[.int .i64 4, .string a, .string s, .string t, .int .i64 z] 120)).alloc (.cells #[.string ⟨#[]⟩] 123)).drew) (base := base) (v := vn) (l := l) ((hm.alloc _).alloc _) a ham
  have HC : Hid (Blk (w.alloc (.cells #[.int .i64 4, .string a, .string s, .string t, .int .i64 z] 120)) w.heap.size 120 #[.int .i64 4, .string a, .string s, .string t, .int .i64 z]) := Blk.new _ _ _
  have HG : Hid (w.grownBy (w.alloc (.cells #[.int .i64 4, .string a, .string s, .string t, .int .i64 z] 120)) none) := grown_alloc (grown_refl _ _) _
  have hzz := get_size hl a
  rw [hf] at hlk hlk2 hzz
  simp only [Option.getD_none, Option.isSome_none] at hlk hlk2
  clear hzz
  have CN : Hid (∀ w, Calls Tryz.prog 60 #[.string a] w fun e w' => e = .returned (.bool true) ∧ w' = w) := fun w => by rw [← ha]; exact name_any a w ham
  clear hm hl ha ham hB hf
  go_enter Tryz.func82, Tryz.ntmps82
  go_wp2_with (first | (go_at_call 59; refine (dead_any b false _ HB.out.d8).mono ?_; rintro e w' ⟨rfl, hw⟩; have hw2 := hw.symm; clear hw; subst hw2) | (go_at_call 60; refine (CN.out _).mono ?_; clear CN; rintro e w' ⟨rfl, hw⟩; have hw2 := hw.symm; clear hw; subst hw2))
  have hbq : b < w.heap.size := hb
  have c0 := HB.out.d0
  have q1 : (w.alloc (.cells #[.int .i64 4, .string a, .string s, .string t, .int .i64 z] 120)).cell? ⟨w.heap.size, 1, none⟩ = some (.string a) := by rw [HC.out.cell]; rfl
  have q0 : (w.alloc (.cells #[.int .i64 4, .string a, .string s, .string t, .int .i64 z] 120)).cell? ⟨w.heap.size, 0, none⟩ = some (.int .i64 4) := by rw [HC.out.cell]; rfl
  have q3 : (w.alloc (.cells #[.int .i64 4, .string a, .string s, .string t, .int .i64 z] 120)).cell? ⟨w.heap.size, 3, none⟩ = some (.string t) := by rw [HC.out.cell]; rfl
  have q4 : (w.alloc (.cells #[.int .i64 4, .string a, .string s, .string t, .int .i64 z] 120)).cell? ⟨w.heap.size, 4, none⟩ = some (.int .i64 z) := by rw [HC.out.cell]; rfl
  have hqs : w.heap.size < (w.alloc (.cells #[.int .i64 4, .string a, .string s, .string t, .int .i64 z] 120)).heap.size := by simp
  generalize w.alloc (.cells #[.int .i64 4, .string a, .string s, .string t, .int .i64 z] 120) = w1 at *
  generalize w.heap.size = q at *
  have hb1 : b < w1.heap.size := by omega
  go_region
  all_goals (
    go_wp2
    go_ret
    exact ⟨rfl, grown_alloc (grown_drew HG.out) _⟩)
set_option maxRecDepth 100000 in
set_option maxHeartbeats 1000000 in
/-- A Move to the same name. -/
theorem refusal_self (base b : Nat) (z : Int) (vn vs vl : Value) (u c : Nat) (l : FS) (a s t old : ByteArray) (w : World) (hB : Blk w b 96 (rowD vn vs vl u c false))
    (hm : MapV w base vn l) (hl : Fits l 1000000) (ha : nameB a = true) (ham : a.size ≤ maxLen) (htm : t.size ≤ maxLen) (hto : 2 = 2 → nameB t = true) (hf : getF l a = some old) (hta : t = a) :
    Calls Tryz.prog 82 #[.pointer (some ⟨b, 0, none⟩), .agg #[.int .i64 2, .string a, .string s, .string t, .int .i64 z]] w fun e w' => e = .returned (.int .i64 1) ∧ w.grownBy w' none := by
  have hb : b < w.heap.size := hB.lt
  have HB : Hid (Blk (w.alloc (.cells #[.int .i64 2, .string a, .string s, .string t, .int .i64 z] 120)) b 96 (rowD vn vs vl u c false)) := hB.alloc _
  have hlk := run_lookup (w := (w.alloc (.cells #[.int .i64 2, .string a, .string s, .string t, .int .i64 z] 120)).drew) (base := base) (v := vn) (l := l) (hm.alloc _) a ham
  have hlk2 := run_lookup (w := ((w.alloc (.cells #[.int .i64 2, .string a, .string s, .string t, .int .i64 z] 120)).alloc (.cells #[.string ⟨#[]⟩] 123)).drew) (base := base) (v := vn) (l := l) ((hm.alloc _).alloc _) a ham
  have HC : Hid (Blk (w.alloc (.cells #[.int .i64 2, .string a, .string s, .string t, .int .i64 z] 120)) w.heap.size 120 #[.int .i64 2, .string a, .string s, .string t, .int .i64 z]) := Blk.new _ _ _
  have HG : Hid (w.grownBy (w.alloc (.cells #[.int .i64 2, .string a, .string s, .string t, .int .i64 z] 120)) none) := grown_alloc (grown_refl _ _) _
  have hzz := get_size hl a
  rw [hf] at hlk hlk2 hzz
  simp only [Option.getD_some, Option.isSome_some] at hlk hlk2 hzz
  have CN : Hid (∀ w, Calls Tryz.prog 60 #[.string a] w fun e w' => e = .returned (.bool true) ∧ w' = w) := fun w => by rw [← ha]; exact name_any a w ham
  have CT : Hid (∀ w, Calls Tryz.prog 60 #[.string t] w fun e w' => e = .returned (.bool (nameB t)) ∧ w' = w) := fun w => name_any t w htm
  rw [hto rfl] at CT
  clear hto
  have t1 : (t.toList == a.toList) = true := by rw [hta]; exact beq_self_eq_true _
  clear hta
  clear hm hl ha ham htm hzz hB hf
  go_enter Tryz.func82, Tryz.ntmps82
  go_wp2_with (first | (go_at_call 59; refine (dead_any b false _ HB.out.d8).mono ?_; rintro e w' ⟨rfl, hw⟩; have hw2 := hw.symm; clear hw; subst hw2) | (go_at_call 60; refine (CN.out _).mono ?_; clear CN; rintro e w' ⟨rfl, hw⟩; have hw2 := hw.symm; clear hw; subst hw2) | (go_at_call 60; refine (CT.out _).mono ?_; clear CT; rintro e w' ⟨rfl, hw⟩; have hw2 := hw.symm; clear hw; subst hw2))
  have hbq : b < w.heap.size := hb
  have c0 := HB.out.d0
  have q1 : (w.alloc (.cells #[.int .i64 2, .string a, .string s, .string t, .int .i64 z] 120)).cell? ⟨w.heap.size, 1, none⟩ = some (.string a) := by rw [HC.out.cell]; rfl
  have q0 : (w.alloc (.cells #[.int .i64 2, .string a, .string s, .string t, .int .i64 z] 120)).cell? ⟨w.heap.size, 0, none⟩ = some (.int .i64 2) := by rw [HC.out.cell]; rfl
  have q3 : (w.alloc (.cells #[.int .i64 2, .string a, .string s, .string t, .int .i64 z] 120)).cell? ⟨w.heap.size, 3, none⟩ = some (.string t) := by rw [HC.out.cell]; rfl
  have q4 : (w.alloc (.cells #[.int .i64 2, .string a, .string s, .string t, .int .i64 z] 120)).cell? ⟨w.heap.size, 4, none⟩ = some (.int .i64 z) := by rw [HC.out.cell]; rfl
  have hqs : w.heap.size < (w.alloc (.cells #[.int .i64 2, .string a, .string s, .string t, .int .i64 z] 120)).heap.size := by simp
  generalize w.alloc (.cells #[.int .i64 2, .string a, .string s, .string t, .int .i64 z] 120) = w1 at *
  generalize w.heap.size = q at *
  have hb1 : b < w1.heap.size := by omega
  go_region
  all_goals (
    go_wp2
    go_ret
    exact ⟨rfl, grown_alloc (grown_drew HG.out) _⟩)
set_option maxRecDepth 100000 in
set_option maxHeartbeats 1000000 in
/-- A Move that may be. -/
theorem refusal_move (base b : Nat) (z : Int) (vn vs vl : Value) (u c : Nat) (l : FS) (a s t old : ByteArray) (w : World) (hB : Blk w b 96 (rowD vn vs vl u c false))
    (hm : MapV w base vn l) (hl : Fits l 1000000) (ha : nameB a = true) (ham : a.size ≤ maxLen) (htm : t.size ≤ maxLen) (hto : 2 = 2 → nameB t = true) (hf : getF l a = some old) (hta : t ≠ a) :
    Calls Tryz.prog 82 #[.pointer (some ⟨b, 0, none⟩), .agg #[.int .i64 2, .string a, .string s, .string t, .int .i64 z]] w fun e w' => e = .returned (.int .i64 0) ∧ w.grownBy w' none := by
  have hb : b < w.heap.size := hB.lt
  have HB : Hid (Blk (w.alloc (.cells #[.int .i64 2, .string a, .string s, .string t, .int .i64 z] 120)) b 96 (rowD vn vs vl u c false)) := hB.alloc _
  have hlk := run_lookup (w := (w.alloc (.cells #[.int .i64 2, .string a, .string s, .string t, .int .i64 z] 120)).drew) (base := base) (v := vn) (l := l) (hm.alloc _) a ham
  have hlk2 := run_lookup (w := ((w.alloc (.cells #[.int .i64 2, .string a, .string s, .string t, .int .i64 z] 120)).alloc (.cells #[.string ⟨#[]⟩] 123)).drew) (base := base) (v := vn) (l := l) ((hm.alloc _).alloc _) a ham
  have HC : Hid (Blk (w.alloc (.cells #[.int .i64 2, .string a, .string s, .string t, .int .i64 z] 120)) w.heap.size 120 #[.int .i64 2, .string a, .string s, .string t, .int .i64 z]) := Blk.new _ _ _
  have HG : Hid (w.grownBy (w.alloc (.cells #[.int .i64 2, .string a, .string s, .string t, .int .i64 z] 120)) none) := grown_alloc (grown_refl _ _) _
  have hzz := get_size hl a
  rw [hf] at hlk hlk2 hzz
  simp only [Option.getD_some, Option.isSome_some] at hlk hlk2 hzz
  have CN : Hid (∀ w, Calls Tryz.prog 60 #[.string a] w fun e w' => e = .returned (.bool true) ∧ w' = w) := fun w => by rw [← ha]; exact name_any a w ham
  have CT : Hid (∀ w, Calls Tryz.prog 60 #[.string t] w fun e w' => e = .returned (.bool (nameB t)) ∧ w' = w) := fun w => name_any t w htm
  rw [hto rfl] at CT
  clear hto
  have t1 : (t.toList == a.toList) = false := by rw [ByteArray.toList_eq, ByteArray.toList_eq, beq_eq_false_iff_ne]; exact fun h => hta (bytes_ext h)
  clear hta
  clear hm hl ha ham htm hzz hB hf
  go_enter Tryz.func82, Tryz.ntmps82
  go_wp2_with (first | (go_at_call 59; refine (dead_any b false _ HB.out.d8).mono ?_; rintro e w' ⟨rfl, hw⟩; have hw2 := hw.symm; clear hw; subst hw2) | (go_at_call 60; refine (CN.out _).mono ?_; clear CN; rintro e w' ⟨rfl, hw⟩; have hw2 := hw.symm; clear hw; subst hw2) | (go_at_call 60; refine (CT.out _).mono ?_; clear CT; rintro e w' ⟨rfl, hw⟩; have hw2 := hw.symm; clear hw; subst hw2))
  have hbq : b < w.heap.size := hb
  have c0 := HB.out.d0
  have q1 : (w.alloc (.cells #[.int .i64 2, .string a, .string s, .string t, .int .i64 z] 120)).cell? ⟨w.heap.size, 1, none⟩ = some (.string a) := by rw [HC.out.cell]; rfl
  have q0 : (w.alloc (.cells #[.int .i64 2, .string a, .string s, .string t, .int .i64 z] 120)).cell? ⟨w.heap.size, 0, none⟩ = some (.int .i64 2) := by rw [HC.out.cell]; rfl
  have q3 : (w.alloc (.cells #[.int .i64 2, .string a, .string s, .string t, .int .i64 z] 120)).cell? ⟨w.heap.size, 3, none⟩ = some (.string t) := by rw [HC.out.cell]; rfl
  have q4 : (w.alloc (.cells #[.int .i64 2, .string a, .string s, .string t, .int .i64 z] 120)).cell? ⟨w.heap.size, 4, none⟩ = some (.int .i64 z) := by rw [HC.out.cell]; rfl
  have hqs : w.heap.size < (w.alloc (.cells #[.int .i64 2, .string a, .string s, .string t, .int .i64 z] 120)).heap.size := by simp
  generalize w.alloc (.cells #[.int .i64 2, .string a, .string s, .string t, .int .i64 z] 120) = w1 at *
  generalize w.heap.size = q at *
  have hb1 : b < w1.heap.size := by omega
  go_region
  all_goals (
    go_wp2
    go_ret
    exact ⟨rfl, grown_alloc (grown_drew HG.out) _⟩)
set_option maxRecDepth 100000 in
set_option maxHeartbeats 1000000 in
/-- A Remove that may be. -/
theorem refusal_remove (base b : Nat) (z : Int) (vn vs vl : Value) (u c : Nat) (l : FS) (a s t old : ByteArray) (w : World) (hB : Blk w b 96 (rowD vn vs vl u c false))
    (hm : MapV w base vn l) (hl : Fits l 1000000) (ha : nameB a = true) (ham : a.size ≤ maxLen) (hf : getF l a = some old) :
    Calls Tryz.prog 82 #[.pointer (some ⟨b, 0, none⟩), .agg #[.int .i64 3, .string a, .string s, .string t, .int .i64 z]] w fun e w' => e = .returned (.int .i64 0) ∧ w.grownBy w' none := by
  have hb : b < w.heap.size := hB.lt
  have HB : Hid (Blk (w.alloc (.cells #[.int .i64 3, .string a, .string s, .string t, .int .i64 z] 120)) b 96 (rowD vn vs vl u c false)) := hB.alloc _
  have hlk := run_lookup (w := (w.alloc (.cells #[.int .i64 3, .string a, .string s, .string t, .int .i64 z] 120)).drew) (base := base) (v := vn) (l := l) (hm.alloc _) a ham
  have hlk2 := run_lookup (w := ((w.alloc (.cells #[.int .i64 3, .string a, .string s, .string t, .int .i64 z] 120)).alloc (.cells #[.string ⟨#[]⟩] 123)).drew) (base := base) (v := vn) (l := l) ((hm.alloc _).alloc _) a ham
  have HC : Hid (Blk (w.alloc (.cells #[.int .i64 3, .string a, .string s, .string t, .int .i64 z] 120)) w.heap.size 120 #[.int .i64 3, .string a, .string s, .string t, .int .i64 z]) := Blk.new _ _ _
  have HG : Hid (w.grownBy (w.alloc (.cells #[.int .i64 3, .string a, .string s, .string t, .int .i64 z] 120)) none) := grown_alloc (grown_refl _ _) _
  have hzz := get_size hl a
  rw [hf] at hlk hlk2 hzz
  simp only [Option.getD_some, Option.isSome_some] at hlk hlk2 hzz
  have CN : Hid (∀ w, Calls Tryz.prog 60 #[.string a] w fun e w' => e = .returned (.bool true) ∧ w' = w) := fun w => by rw [← ha]; exact name_any a w ham
  clear hm hl ha ham hzz hB hf
  go_enter Tryz.func82, Tryz.ntmps82
  go_wp2_with (first | (go_at_call 59; refine (dead_any b false _ HB.out.d8).mono ?_; rintro e w' ⟨rfl, hw⟩; have hw2 := hw.symm; clear hw; subst hw2) | (go_at_call 60; refine (CN.out _).mono ?_; clear CN; rintro e w' ⟨rfl, hw⟩; have hw2 := hw.symm; clear hw; subst hw2))
  have hbq : b < w.heap.size := hb
  have c0 := HB.out.d0
  have q1 : (w.alloc (.cells #[.int .i64 3, .string a, .string s, .string t, .int .i64 z] 120)).cell? ⟨w.heap.size, 1, none⟩ = some (.string a) := by rw [HC.out.cell]; rfl
  have q0 : (w.alloc (.cells #[.int .i64 3, .string a, .string s, .string t, .int .i64 z] 120)).cell? ⟨w.heap.size, 0, none⟩ = some (.int .i64 3) := by rw [HC.out.cell]; rfl
  have q3 : (w.alloc (.cells #[.int .i64 3, .string a, .string s, .string t, .int .i64 z] 120)).cell? ⟨w.heap.size, 3, none⟩ = some (.string t) := by rw [HC.out.cell]; rfl
  have q4 : (w.alloc (.cells #[.int .i64 3, .string a, .string s, .string t, .int .i64 z] 120)).cell? ⟨w.heap.size, 4, none⟩ = some (.int .i64 z) := by rw [HC.out.cell]; rfl
  have hqs : w.heap.size < (w.alloc (.cells #[.int .i64 3, .string a, .string s, .string t, .int .i64 z] 120)).heap.size := by simp
  generalize w.alloc (.cells #[.int .i64 3, .string a, .string s, .string t, .int .i64 z] 120) = w1 at *
  generalize w.heap.size = q at *
  have hb1 : b < w1.heap.size := by omega
  go_region
  all_goals (
    go_wp2
    go_ret
    exact ⟨rfl, grown_alloc (grown_drew HG.out) _⟩)
set_option maxRecDepth 100000 in
set_option maxHeartbeats 1000000 in
/-- A Truncate to less than nothing. -/
theorem refusal_low (base b : Nat) (z : Int) (vn vs vl : Value) (u c : Nat) (l : FS) (a s t old : ByteArray) (w : World) (hB : Blk w b 96 (rowD vn vs vl u c false))
    (hm : MapV w base vn l) (hl : Fits l 1000000) (ha : nameB a = true) (ham : a.size ≤ maxLen) (hf : getF l a = some old) (hz : z < 0) :
    Calls Tryz.prog 82 #[.pointer (some ⟨b, 0, none⟩), .agg #[.int .i64 4, .string a, .string s, .string t, .int .i64 z]] w fun e w' => e = .returned (.int .i64 1) ∧ w.grownBy w' none := by
  have hb : b < w.heap.size := hB.lt
  have HB : Hid (Blk (w.alloc (.cells #[.int .i64 4, .string a, .string s, .string t, .int .i64 z] 120)) b 96 (rowD vn vs vl u c false)) := hB.alloc _
  have hlk := run_lookup (w := (w.alloc (.cells #[.int .i64 4, .string a, .string s, .string t, .int .i64 z] 120)).drew) (base := base) (v := vn) (l := l) (hm.alloc _) a ham
  have hlk2 := run_lookup (w := ((w.alloc (.cells #[.int .i64 4, .string a, .string s, .string t, .int .i64 z] 120)).alloc (.cells #[.string ⟨#[]⟩] 123)).drew) (base := base) (v := vn) (l := l) ((hm.alloc _).alloc _) a ham
  have HC : Hid (Blk (w.alloc (.cells #[.int .i64 4, .string a, .string s, .string t, .int .i64 z] 120)) w.heap.size 120 #[.int .i64 4, .string a, .string s, .string t, .int .i64 z]) := Blk.new _ _ _
  have HG : Hid (w.grownBy (w.alloc (.cells #[.int .i64 4, .string a, .string s, .string t, .int .i64 z] 120)) none) := grown_alloc (grown_refl _ _) _
  have hzz := get_size hl a
  rw [hf] at hlk hlk2 hzz
  simp only [Option.getD_some, Option.isSome_some] at hlk hlk2 hzz
  have CN : Hid (∀ w, Calls Tryz.prog 60 #[.string a] w fun e w' => e = .returned (.bool true) ∧ w' = w) := fun w => by rw [← ha]; exact name_any a w ham
  clear hm hl ha ham hzz hB hf
  go_enter Tryz.func82, Tryz.ntmps82
  go_wp2_with (first | (go_at_call 59; refine (dead_any b false _ HB.out.d8).mono ?_; rintro e w' ⟨rfl, hw⟩; have hw2 := hw.symm; clear hw; subst hw2) | (go_at_call 60; refine (CN.out _).mono ?_; clear CN; rintro e w' ⟨rfl, hw⟩; have hw2 := hw.symm; clear hw; subst hw2))
  have hbq : b < w.heap.size := hb
  have c0 := HB.out.d0
  have q1 : (w.alloc (.cells #[.int .i64 4, .string a, .string s, .string t, .int .i64 z] 120)).cell? ⟨w.heap.size, 1, none⟩ = some (.string a) := by rw [HC.out.cell]; rfl
  have q0 : (w.alloc (.cells #[.int .i64 4, .string a, .string s, .string t, .int .i64 z] 120)).cell? ⟨w.heap.size, 0, none⟩ = some (.int .i64 4) := by rw [HC.out.cell]; rfl
  have q3 : (w.alloc (.cells #[.int .i64 4, .string a, .string s, .string t, .int .i64 z] 120)).cell? ⟨w.heap.size, 3, none⟩ = some (.string t) := by rw [HC.out.cell]; rfl
  have q4 : (w.alloc (.cells #[.int .i64 4, .string a, .string s, .string t, .int .i64 z] 120)).cell? ⟨w.heap.size, 4, none⟩ = some (.int .i64 z) := by rw [HC.out.cell]; rfl
  have hqs : w.heap.size < (w.alloc (.cells #[.int .i64 4, .string a, .string s, .string t, .int .i64 z] 120)).heap.size := by simp
  generalize w.alloc (.cells #[.int .i64 4, .string a, .string s, .string t, .int .i64 z] 120) = w1 at *
  generalize w.heap.size = q at *
  have hb1 : b < w1.heap.size := by omega
  go_region
  all_goals (
    go_wp2
    go_ret
    exact ⟨rfl, grown_alloc (grown_drew HG.out) _⟩)
set_option maxRecDepth 100000 in
set_option maxHeartbeats 1000000 in
/-- A Truncate to more than there is. -/
theorem refusal_high (base b : Nat) (z : Int) (vn vs vl : Value) (u c : Nat) (l : FS) (a s t old : ByteArray) (w : World) (hB : Blk w b 96 (rowD vn vs vl u c false))
    (hm : MapV w base vn l) (hl : Fits l 1000000) (ha : nameB a = true) (ham : a.size ≤ maxLen) (hf : getF l a = some old) (hz : (old.size : Int) < z) :
    Calls Tryz.prog 82 #[.pointer (some ⟨b, 0, none⟩), .agg #[.int .i64 4, .string a, .string s, .string t, .int .i64 z]] w fun e w' => e = .returned (.int .i64 1) ∧ w.grownBy w' none := by
  have hb : b < w.heap.size := hB.lt
  have HB : Hid (Blk (w.alloc (.cells #[.int .i64 4, .string a, .string s, .string t, .int .i64 z] 120)) b 96 (rowD vn vs vl u c false)) := hB.alloc _
  have hlk := run_lookup (w := (w.alloc (.cells #[.int .i64 4, .string a, .string s, .string t, .int .i64 z] 120)).drew) (base := base) (v := vn) (l := l) (hm.alloc _) a ham
  have hlk2 := run_lookup (w := ((w.alloc (.cells #[.int .i64 4, .string a, .string s, .string t, .int .i64 z] 120)).alloc (.cells #[.string ⟨#[]⟩] 123)).drew) (base := base) (v := vn) (l := l) ((hm.alloc _).alloc _) a ham
  have HC : Hid (Blk (w.alloc (.cells #[.int .i64 4, .string a, .string s, .string t, .int .i64 z] 120)) w.heap.size 120 #[.int .i64 4, .string a, .string s, .string t, .int .i64 z]) := Blk.new _ _ _
  have HG : Hid (w.grownBy (w.alloc (.cells #[.int .i64 4, .string a, .string s, .string t, .int .i64 z] 120)) none) := grown_alloc (grown_refl _ _) _
  have hzz := get_size hl a
  rw [hf] at hlk hlk2 hzz
  simp only [Option.getD_some, Option.isSome_some] at hlk hlk2 hzz
  have CN : Hid (∀ w, Calls Tryz.prog 60 #[.string a] w fun e w' => e = .returned (.bool true) ∧ w' = w) := fun w => by rw [← ha]; exact name_any a w ham
  have z1 : ¬ z < 0 := by omega
  clear hm hl ha ham hzz hB hf
  go_enter Tryz.func82, Tryz.ntmps82
  go_wp2_with (first | (go_at_call 59; refine (dead_any b false _ HB.out.d8).mono ?_; rintro e w' ⟨rfl, hw⟩; have hw2 := hw.symm; clear hw; subst hw2) | (go_at_call 60; refine (CN.out _).mono ?_; clear CN; rintro e w' ⟨rfl, hw⟩; have hw2 := hw.symm; clear hw; subst hw2))
  have hbq : b < w.heap.size := hb
  have c0 := HB.out.d0
  have q1 : (w.alloc (.cells #[.int .i64 4, .string a, .string s, .string t, .int .i64 z] 120)).cell? ⟨w.heap.size, 1, none⟩ = some (.string a) := by rw [HC.out.cell]; rfl
  have q0 : (w.alloc (.cells #[.int .i64 4, .string a, .string s, .string t, .int .i64 z] 120)).cell? ⟨w.heap.size, 0, none⟩ = some (.int .i64 4) := by rw [HC.out.cell]; rfl
  have q3 : (w.alloc (.cells #[.int .i64 4, .string a, .string s, .string t, .int .i64 z] 120)).cell? ⟨w.heap.size, 3, none⟩ = some (.string t) := by rw [HC.out.cell]; rfl
  have q4 : (w.alloc (.cells #[.int .i64 4, .string a, .string s, .string t, .int .i64 z] 120)).cell? ⟨w.heap.size, 4, none⟩ = some (.int .i64 z) := by rw [HC.out.cell]; rfl
  have hqs : w.heap.size < (w.alloc (.cells #[.int .i64 4, .string a, .string s, .string t, .int .i64 z] 120)).heap.size := by simp
  generalize w.alloc (.cells #[.int .i64 4, .string a, .string s, .string t, .int .i64 z] 120) = w1 at *
  generalize w.heap.size = q at *
  have hb1 : b < w1.heap.size := by omega
  go_region
  all_goals (
    go_wp2
    go_ret
    exact ⟨rfl, grown_alloc (grown_drew HG.out) _⟩)
set_option maxRecDepth 100000 in
set_option maxHeartbeats 1000000 in
/-- A Truncate that may be. -/
theorem refusal_cut (base b : Nat) (z : Int) (vn vs vl : Value) (u c : Nat) (l : FS) (a s t old : ByteArray) (w : World) (hB : Blk w b 96 (rowD vn vs vl u c false))
    (hm : MapV w base vn l) (hl : Fits l 1000000) (ha : nameB a = true) (ham : a.size ≤ maxLen) (hf : getF l a = some old) (hz : 0 ≤ z ∧ z ≤ old.size) :
    Calls Tryz.prog 82 #[.pointer (some ⟨b, 0, none⟩), .agg #[.int .i64 4, .string a, .string s, .string t, .int .i64 z]] w fun e w' => e = .returned (.int .i64 0) ∧ w.grownBy w' none := by
  have hb : b < w.heap.size := hB.lt
  have HB : Hid (Blk (w.alloc (.cells #[.int .i64 4, .string a, .string s, .string t, .int .i64 z] 120)) b 96 (rowD vn vs vl u c false)) := hB.alloc _
  have hlk := run_lookup (w := (w.alloc (.cells #[.int .i64 4, .string a, .string s, .string t, .int .i64 z] 120)).drew) (base := base) (v := vn) (l := l) (hm.alloc _) a ham
  have hlk2 := run_lookup (w := ((w.alloc (.cells #[.int .i64 4, .string a, .string s, .string t, .int .i64 z] 120)).alloc (.cells #[.string ⟨#[]⟩] 123)).drew) (base := base) (v := vn) (l := l) ((hm.alloc _).alloc _) a ham
  have HC : Hid (Blk (w.alloc (.cells #[.int .i64 4, .string a, .string s, .string t, .int .i64 z] 120)) w.heap.size 120 #[.int .i64 4, .string a, .string s, .string t, .int .i64 z]) := Blk.new _ _ _
  have HG : Hid (w.grownBy (w.alloc (.cells #[.int .i64 4, .string a, .string s, .string t, .int .i64 z] 120)) none) := grown_alloc (grown_refl _ _) _
  have hzz := get_size hl a
  rw [hf] at hlk hlk2 hzz
  simp only [Option.getD_some, Option.isSome_some] at hlk hlk2 hzz
  have CN : Hid (∀ w, Calls Tryz.prog 60 #[.string a] w fun e w' => e = .returned (.bool true) ∧ w' = w) := fun w => by rw [← ha]; exact name_any a w ham
  have z1 : ¬ z < 0 := by omega
  have z2 : ¬ (old.size : Int) < z := by omega
  clear hz
  clear hm hl ha ham hzz hB hf
  go_enter Tryz.func82, Tryz.ntmps82
  go_wp2_with (first | (go_at_call 59; refine (dead_any b false _ HB.out.d8).mono ?_; rintro e w' ⟨rfl, hw⟩; have hw2 := hw.symm; clear hw; subst hw2) | (go_at_call 60; refine (CN.out _).mono ?_; clear CN; rintro e w' ⟨rfl, hw⟩; have hw2 := hw.symm; clear hw; subst hw2))
  have hbq : b < w.heap.size := hb
  have c0 := HB.out.d0
  have q1 : (w.alloc (.cells #[.int .i64 4, .string a, .string s, .string t, .int .i64 z] 120)).cell? ⟨w.heap.size, 1, none⟩ = some (.string a) := by rw [HC.out.cell]; rfl
  have q0 : (w.alloc (.cells #[.int .i64 4, .string a, .string s, .string t, .int .i64 z] 120)).cell? ⟨w.heap.size, 0, none⟩ = some (.int .i64 4) := by rw [HC.out.cell]; rfl
  have q3 : (w.alloc (.cells #[.int .i64 4, .string a, .string s, .string t, .int .i64 z] 120)).cell? ⟨w.heap.size, 3, none⟩ = some (.string t) := by rw [HC.out.cell]; rfl
  have q4 : (w.alloc (.cells #[.int .i64 4, .string a, .string s, .string t, .int .i64 z] 120)).cell? ⟨w.heap.size, 4, none⟩ = some (.int .i64 z) := by rw [HC.out.cell]; rfl
  have hqs : w.heap.size < (w.alloc (.cells #[.int .i64 4, .string a, .string s, .string t, .int .i64 z] 120)).heap.size := by simp
  generalize w.alloc (.cells #[.int .i64 4, .string a, .string s, .string t, .int .i64 z] 120) = w1 at *
  generalize w.heap.size = q at *
  have hb1 : b < w1.heap.size := by omega
  go_region
  all_goals (
    go_wp2
    go_ret
    exact ⟨rfl, grown_alloc (grown_drew HG.out) _⟩)
end Go.Proofs.YtbhmmcelndmijaaGreat
