/-
  The contracts of Frame: the program's and the document's.
-/
import Derived.Test.YtddnjlnnkeiplaaKWAdler
namespace Go.Proofs.Ytddnjlnnkeiplaa.Wi
open Go.RowKit
/-- A text, framed. -/
def frmS (s : ByteArray) : ByteArray := numS s.size 4 ++ s ++ numS (adl (numS s.size 4 ++ s)) 4
theorem adl_lt (s : ByteArray) : adl s < 4294967296 := by
  unfold adl
  have h1 : ad2 s s.size % 65521 < 65521 := Nat.mod_lt _ (by decide)
  have h2 : ad1 s s.size % 65521 < 65521 := Nat.mod_lt _ (by decide)
  omega
theorem frmS_size (s : ByteArray) : (frmS s).size = s.size + 8 := by
  unfold frmS
  rw [ByteArray.size_append, ByteArray.size_append, numS_size, numS_size]
  omega
set_option maxRecDepth 100000 in
set_option maxHeartbeats 400000 in
theorem frame_any (s : ByteArray) (w : World) (hs : s.size ≤ 4000) : Calls Try.prog 50 #[.string s] w fun e w' => e = .returned (.string (frmS s)) ∧ w.grownBy w' none := by
  have CN : Hid (∀ w, Calls Try.prog 67 #[.int .u64 s.size, .int .i64 4] w fun e w' => e = .returned (.string (numS s.size 4)) ∧ w.grownBy w' none) := fun w => number_any s.size 4 w (by omega)
  have hz := numS_size s.size 4
  have hM : (numS s.size 4 ++ s).size ≤ 5000 := by rw [ByteArray.size_append, hz]; omega
  have CA : Hid (∀ w, Calls Try.prog 68 #[.string (numS s.size 4 ++ s)] w fun e w' => e = .returned (.int .u32 (adl (numS s.size 4 ++ s) : Nat)) ∧ w' = w) := fun w => adler_any _ w hM
  have hlt := adl_lt (numS s.size 4 ++ s)
  have CM : Hid (∀ w, Calls Try.prog 67 #[.int .u64 (adl (numS s.size 4 ++ s) : Nat), .int .i64 4] w fun e w' => e = .returned (.string (numS (adl (numS s.size 4 ++ s)) 4)) ∧ w.grownBy w' none) := fun w => number_any _ 4 w (by omega)
  have hz2 := numS_size (adl (numS s.size 4 ++ s)) 4
  unfold frmS
  generalize numS (adl (numS s.size 4 ++ s)) 4 = R at *
  generalize adl (numS s.size 4 ++ s) = c at *
  generalize numS s.size 4 = S at *
  have i0 : (s.size : Int) ≤ 4000 := by omega
  have i1 : (S.size : Int) = 4 := by omega
  have i2 : (R.size : Int) = 4 := by omega
  have i3 : IntKind.u64.wrap (c : Int) = (c : Int) := by rw [IntKind.wrap_u64]; omega
  clear hs hM hlt
  go_enter Try.func50, Try.ntmps50
  go_wp2_with (first | (go_at_call 67; refine (CN.out _).mono ?_; clear CN; rintro e w1 ⟨rfl, hg1⟩; have G1 : Hid (w.grownBy w1 none) := hg1; clear hg1) | (go_at_call 68; refine (CA.out _).mono ?_; rintro e w' ⟨rfl, hw⟩; have hw2 := hw.symm; clear hw; subst hw2) | (go_at_call 67; refine (CM.out _).mono ?_; clear CM; rintro e w2 ⟨rfl, hg2⟩; have G2 : Hid (w.grownBy w2 none) := grown_none G1.out hg2; clear hg2))
  go_ret
  exact ⟨rfl, G2.out⟩
set_option maxRecDepth 100000 in
set_option maxHeartbeats 400000 in
theorem refFrame_any (s : ByteArray) (w : World) (hs : s.size ≤ 4000) : Calls Try.prog 28 #[.string s] w fun e w' => e = .returned (.string (frmS s)) ∧ w.grownBy w' none := by
  have hz := numS_size s.size 4
  have CT : Hid (∀ w, Calls Try.prog 52 #[.string s] w fun e w' => e = .returned (.string (numS s.size 4 ++ s)) ∧ w.grownBy w' none) := fun w => refText_any s w (by omega)
  have hM : (numS s.size 4 ++ s).size ≤ 5000 := by rw [ByteArray.size_append, hz]; omega
  have CA : Hid (∀ w, Calls Try.prog 54 #[.string (numS s.size 4 ++ s)] w fun e w' => e = .returned (.int .u32 (adl (numS s.size 4 ++ s) : Nat)) ∧ w' = w) := fun w => refAdler_any _ w hM
  have hlt := adl_lt (numS s.size 4 ++ s)
  have CM : Hid (∀ w, Calls Try.prog 53 #[.int .u64 (adl (numS s.size 4 ++ s) : Nat), .int .i64 4] w fun e w' => e = .returned (.string (numS (adl (numS s.size 4 ++ s)) 4)) ∧ w.grownBy w' none) := fun w => refNumber_any _ 4 w (by omega)
  have hz2 := numS_size (adl (numS s.size 4 ++ s)) 4
  unfold frmS
  generalize numS (adl (numS s.size 4 ++ s)) 4 = R at *
  generalize adl (numS s.size 4 ++ s) = c at *
  have i1 : ((numS s.size 4 ++ s).size : Int) ≤ 5000 := by omega
  generalize numS s.size 4 ++ s = S at *
  have i2 : (R.size : Int) = 4 := by omega
  have i3 : IntKind.u64.wrap (c : Int) = (c : Int) := by rw [IntKind.wrap_u64]; omega
  have CU : Hid (∀ w, Calls Try.prog 52 #[.string s] w fun e w' => e = .returned (.string S) ∧ w.grownBy w' none) := fun w => CT.out w
  clear hs hM hlt hz
  go_enter Try.func28, Try.ntmps28
  go_wp2_with (first | (go_at_call 52; refine (CT.out _).mono ?_; clear CT; rintro e w1 ⟨rfl, hg1⟩; have G1 : Hid (w.grownBy w1 none) := hg1; clear hg1) | (go_at_call 52; refine (CU.out _).mono ?_; clear CU; rintro e w2 ⟨rfl, hg2⟩; have G2 : Hid (w.grownBy w2 none) := grown_none G1.out hg2; clear hg2) | (go_at_call 54; refine (CA.out _).mono ?_; rintro e w' ⟨rfl, hw⟩; have hw2 := hw.symm; clear hw; subst hw2) | (go_at_call 53; refine (CM.out _).mono ?_; clear CM; rintro e w3 ⟨rfl, hg3⟩; have G3 : Hid (w.grownBy w3 none) := grown_none G2.out hg3; clear hg3))
  go_ret
  exact ⟨rfl, G3.out⟩
end Go.Proofs.Ytddnjlnnkeiplaa.Wi
