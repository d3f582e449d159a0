/-
  growth: why a file may not have so many bytes more, whatever the room. refusal: why a change may not be.
-/
import Derived.Test.YtddnjlnnkeiplaaKUsed
import Derived.Deep.RegionLaw
namespace Go.Proofs.Ytddnjlnnkeiplaa.X
open Go.RowKit Go.Maps
variable {x : Xt}
/-- Why a file may not have so many bytes more. -/
def growF (x : Xt) (now : FS) (n : Int) : Nat := if 0 < n ∧ x.bd = true ∧ x.rm < (sizeF now : Int) + n then 31 else 0
theorem used_x (base b : Nat) (vn vs vl : Value) (u c : Nat) (dd : Bool) (l : FS) (w : World) (hB : Blk w b 73 (rowD x vn vs vl u c dd)) (hm : MapV w base vn l) (hs : sizeF l ≤ 1000000000) :
    Calls Try.prog 34 #[.pointer (some ⟨b, 0, none⟩)] w fun e w' => e = .returned (.int .i64 (sizeF l)) ∧ w.grownBy w' none := by
  rcases hm with ⟨rfl, e⟩ | ⟨g, rfl, _, ho⟩
  · rw [e]
    exact used_none b w hB.e0
  · exact used_cell hB.e0 ho hs
set_option maxRecDepth 100000 in
set_option maxHeartbeats 1000000 in
theorem growth_x (base b : Nat) (n : Int) (vn vs vl : Value) (u c : Nat) (dd : Bool) (l : FS) (w : World) (hB : Blk w b 73 (rowD x vn vs vl u c dd)) (hm : MapV w base vn l) (hs : sizeF l ≤ 1000000000) (hn2 : n ≤ 1000000000) :
    Calls Try.prog 79 #[.pointer (some ⟨b, 0, none⟩), .int .i64 n] w fun e w' => e = .returned (.int .i64 (growF x l n : Nat)) ∧ w.grownBy w' none := by
  have h6 := hB.e6
  have h7 := hB.e7
  have HB : Hid (Blk w b 73 (rowD x vn vs vl u c dd)) := hB
  have CU : Hid (∀ W, w.grownBy W none → Calls Try.prog 34 #[.pointer (some ⟨b, 0, none⟩)] W fun e w' => e = .returned (.int .i64 (sizeF l)) ∧ W.grownBy w' none) := fun W hW => used_x base b vn vs vl u c dd l W (hB.kept hW (by simp)) (hm.kept hW (fun _ _ => by simp)) hs
  unfold growF
  obtain ⟨pp, pn, pc, bd, rm⟩ := x
  simp only at h6 h7 ⊢
  by_cases hn : 0 < n
  · have hd : decide (0 < n) = true := by simpa using hn
    cases bd with
    | false =>
      rw [if_neg (fun h => by cases h.2.1)]
      clear CU hm hs HB
      go_enter Try.func79, Try.ntmps79
      go_wp2_with fail
      go_quiet (fail)
      go_wp2_with fail
      go_ret
      exact ⟨rfl, grown_drewN (grown_refl _ _) _⟩
    | true =>
      have i1 : (sizeF l : Int) ≤ 1000000000 := by omega
      have i0 : (0 : Int) ≤ (sizeF l : Int) := by omega
      have iw : IntKind.i64.wrap ((sizeF l : Int) + n) = (sizeF l : Int) + n := by rw [IntKind.wrap_i64]; omega
      generalize (sizeF l : Int) = z at *
      clear hm hs hB
      by_cases hf : rm < z + n
      · rw [if_pos ⟨hn, rfl, hf⟩]
        have hfd : decide (rm < z + n) = true := by simpa using hf
        go_enter Try.func79, Try.ntmps79
        go_wp2_with fail
        go_region_law (go_simp; go_at_call 34; refine (CU.out _ (grown_drew (grown_refl _ _))).mono ?_; rintro e w1 ⟨rfl, g1⟩; have G1 : Hid (w.grownBy w1 none) := (grown_trans (grown_drew (grown_refl _ _)) g1); have k7 := (HB.out.kept G1.out (by simp)).e7; simp only at k7; clear g1 CU)
        all_goals (
          go_wp2_with fail
          go_ret
          exact ⟨rfl, G1.out⟩)
      · rw [if_neg (fun h => hf h.2.2)]
        have hfd : decide (rm < z + n) = false := by simpa using hf
        go_enter Try.func79, Try.ntmps79
        go_wp2_with fail
        go_region_law (go_simp; go_at_call 34; refine (CU.out _ (grown_drew (grown_refl _ _))).mono ?_; rintro e w1 ⟨rfl, g1⟩; have G1 : Hid (w.grownBy w1 none) := (grown_trans (grown_drew (grown_refl _ _)) g1); have k7 := (HB.out.kept G1.out (by simp)).e7; simp only at k7; clear g1 CU)
        all_goals (
          go_wp2_with fail
          go_ret
          exact ⟨rfl, G1.out⟩)
  · have hd : decide (0 < n) = false := by simpa using hn
    rw [if_neg (fun h => hn h.1)]
    clear CU hm hs HB
    go_enter Try.func79, Try.ntmps79
    go_wp2_with fail
    go_quiet (fail)
    go_wp2_with fail
    go_ret
    exact ⟨rfl, grown_drewN (grown_refl _ _) _⟩
end Go.Proofs.Ytddnjlnnkeiplaa.X
namespace Go.Proofs.Ytddnjlnnkeiplaa.X
open Go.RowKit Go.Maps
variable {xt : Xt}
set_option maxRecDepth 100000 in
set_option maxHeartbeats 1000000 in
/-- An Append or a Write whose name may be. -/
theorem refusal_put (base b q : Nat) (k z : Int) (vn vs vl : Value) (u c : Nat) (l : FS) (a s t : ByteArray) (w : World) (hk : k = 0 ∨ k = 1) (hB : Blk w b 73 (rowD xt vn vs vl u c false))
    (hm : MapV w base vn l) (hl : Fits l 1000000) (ha : nameB a = true) (ham : a.size ≤ maxLen) (hs : s.size ≤ 1000000)
    (CG : ∀ W, w.grownBy W none → Calls Try.prog 79 #[.pointer (some ⟨b, 0, none⟩), .int .i64 (if k = 0 then (s.size : Int) else (s.size : Int) - (((getF l a).getD ⟨#[]⟩).size : Int))] W fun e w' => e = .returned (.int .i64 (q : Nat)) ∧ W.grownBy w' none) :
    Calls Try.prog 72 #[.pointer (some ⟨b, 0, none⟩), .agg #[.int .i64 k, .string a, .string s, .string t, .int .i64 z]] w fun e w' => e = .returned (.int .i64 (q : Nat)) ∧ w.grownBy w' none := by
  have hb : b < w.heap.size := hB.lt
  have HB : Hid (Blk (w.alloc (.cells #[.int .i64 k, .string a, .string s, .string t, .int .i64 z] 101)) b 73 (rowD xt vn vs vl u c false)) := hB.alloc _
  have hlk := run_lookup (w := (w.alloc (.cells #[.int .i64 k, .string a, .string s, .string t, .int .i64 z] 101)).drew) (base := base) (v := vn) (l := l) (hm.alloc _) a ham
  have hlk2 := run_lookup (w := ((w.alloc (.cells #[.int .i64 k, .string a, .string s, .string t, .int .i64 z] 101)).alloc (.cells #[.string ⟨#[]⟩] 105)).drew) (base := base) (v := vn) (l := l) ((hm.alloc _).alloc _) a ham
  have HC : Hid (Blk (w.alloc (.cells #[.int .i64 k, .string a, .string s, .string t, .int .i64 z] 101)) w.heap.size 101 #[.int .i64 k, .string a, .string s, .string t, .int .i64 z]) := Blk.new _ _ _
  have HG : Hid (w.grownBy (w.alloc (.cells #[.int .i64 k, .string a, .string s, .string t, .int .i64 z] 101)) none) := grown_alloc (grown_refl _ _) _
  have hz := get_size hl a
  have HCG : Hid _ := CG
  clear CG
  generalize (getF l a).getD ⟨#[]⟩ = old at *
  generalize (getF l a).isSome = there at *
  have CN : Hid (∀ w, Calls Try.prog 59 #[.string a] w fun e w' => e = .returned (.bool true) ∧ w' = w) := fun w => by rw [← ha]; exact name_any a w ham
  have i1 : (s.size : Int) ≤ 1000000 := by omega
  have i2 : (old.size : Int) ≤ 1000000 := by omega
  clear hm hl ha ham hs hz hB
  rcases hk with rfl | rfl
  · go_enter Try.func72, Try.ntmps72
    go_wp2_with (first | (go_at_call 27; refine (dead_any b false _ HB.out.e8).mono ?_; rintro e w' ⟨rfl, hw⟩; have hw2 := hw.symm; clear hw; subst hw2) | (go_at_call 59; refine (CN.out _).mono ?_; rintro e w' ⟨rfl, hw⟩; have hw2 := hw.symm; clear hw; subst hw2))
    have hbq : b < w.heap.size := hb
    have c0 := HB.out.e0
    have q1 : (w.alloc (.cells #[.int .i64 0, .string a, .string s, .string t, .int .i64 z] 101)).cell? ⟨w.heap.size, 1, none⟩ = some (.string a) := by rw [HC.out.cell]; rfl
    have q0 : (w.alloc (.cells #[.int .i64 0, .string a, .string s, .string t, .int .i64 z] 101)).cell? ⟨w.heap.size, 0, none⟩ = some (.int .i64 0) := by rw [HC.out.cell]; rfl
    have q2 : (w.alloc (.cells #[.int .i64 0, .string a, .string s, .string t, .int .i64 z] 101)).cell? ⟨w.heap.size, 2, none⟩ = some (.string s) := by rw [HC.out.cell]; rfl
    have hqs : w.heap.size < (w.alloc (.cells #[.int .i64 0, .string a, .string s, .string t, .int .i64 z] 101)).heap.size := by simp
    generalize w.alloc (.cells #[.int .i64 0, .string a, .string s, .string t, .int .i64 z] 101) = w1 at *
    generalize w.heap.size = q at *
    have hb1 : b < w1.heap.size := by omega
    go_region
    all_goals (
      go_wp2_with (go_at_call 79; refine (HCG.out _ (grown_alloc (grown_drew HG.out) _)).mono ?_; rintro e w' ⟨rfl, hw⟩; have HW : Hid _ := hw; clear hw HCG)
      go_ret
      exact ⟨rfl, grown_none (grown_alloc (grown_drew HG.out) _) HW.out⟩)
  · go_enter Try.func72, Try.ntmps72
    go_wp2_with (first | (go_at_call 27; refine (dead_any b false _ HB.out.e8).mono ?_; rintro e w' ⟨rfl, hw⟩; have hw2 := hw.symm; clear hw; subst hw2) | (go_at_call 59; refine (CN.out _).mono ?_; rintro e w' ⟨rfl, hw⟩; have hw2 := hw.symm; clear hw; subst hw2))
    have hbq : b < w.heap.size := hb
    have c0 := HB.out.e0
    have q1 : (w.alloc (.cells #[.int .i64 1, .string a, .string s, .string t, .int .i64 z] 101)).cell? ⟨w.heap.size, 1, none⟩ = some (.string a) := by rw [HC.out.cell]; rfl
    have q0 : (w.alloc (.cells #[.int .i64 1, .string a, .string s, .string t, .int .i64 z] 101)).cell? ⟨w.heap.size, 0, none⟩ = some (.int .i64 1) := by rw [HC.out.cell]; rfl
    have q2 : (w.alloc (.cells #[.int .i64 1, .string a, .string s, .string t, .int .i64 z] 101)).cell? ⟨w.heap.size, 2, none⟩ = some (.string s) := by rw [HC.out.cell]; rfl
    have hqs : w.heap.size < (w.alloc (.cells #[.int .i64 1, .string a, .string s, .string t, .int .i64 z] 101)).heap.size := by simp
    generalize w.alloc (.cells #[.int .i64 1, .string a, .string s, .string t, .int .i64 z] 101) = w1 at *
    generalize w.heap.size = q at *
    have hb1 : b < w1.heap.size := by omega
    go_region
    all_goals (
      go_wp2_with (go_at_call 79; refine (HCG.out _ (grown_alloc (grown_drew HG.out) _)).mono ?_; rintro e w' ⟨rfl, hw⟩; have HW : Hid _ := hw; clear hw HCG)
      go_ret
      exact ⟨rfl, grown_none (grown_alloc (grown_drew HG.out) _) HW.out⟩)
end Go.Proofs.Ytddnjlnnkeiplaa.X
