/-
  The law WirePuts walked: of whatever list of things that are put it answers true, and nothing that was there turns.
-/
import Derived.Test.YtiokjdjlopeliaaPutC
import Derived.Deep.RegionHeld3
namespace Go.Proofs.Ytiokjdjlopeliaa
open Go.RowKit
theorem and1 (n : Int) : bits .and .i64 n 1 = n % 2 := by
  have h1 : (BitVec.ofInt 64 1).toNat = 2 ^ 1 - 1 := by decide
  have key : (BitVec.ofInt 64 n &&& BitVec.ofInt 64 1).toNat = (n % ((2 ^ 64 : Nat) : Int)).toNat % 2 ^ 1 := by
    rw [BitVec.toNat_and, BitVec.toNat_ofInt, h1, Nat.and_two_pow_sub_one_eq_mod]
  show IntKind.i64.wrap ((BitVec.ofInt 64 n &&& BitVec.ofInt 64 1).toNat : Nat) = n % 2
  rw [key, IntKind.wrap_i64]
  omega
theorem calls_at {P : Program} {f : FuncId} {args args' : Array Value} {w : World} {Q : Ending → World → Prop} (e : args' = args) (h : Calls P f args w Q) : Calls P f args' w Q := by
  rw [e]
  exact h
set_option maxRecDepth 100000 in
set_option maxHeartbeats 4000000 in
theorem law7_any (pa : Option Addr) (n cap xb xo : Nat) (K N : Nat → Int) (S : Nat → ByteArray) (w : World) (hpa : 0 < n → pa = some ⟨xb, xo, none⟩)
    (h0 : ∀ j, j < n → w.cell? ⟨xb, xo + j * 3, none⟩ = some (.int .i64 (K j))) (h1 : ∀ j, j < n → w.cell? ⟨xb, xo + j * 3 + 1, none⟩ = some (.int .i64 (N j))) (h2 : ∀ j, j < n → w.cell? ⟨xb, xo + j * 3 + 2, none⟩ = some (.string (S j)))
    (hN : ∀ j, -9223372036854775808 ≤ N j ∧ N j ≤ 9223372036854775807) (hn : (n : Int) ≤ 9223372036854775807) :
    Calls Try.prog 7 #[.slice pa n cap] w fun e w' => e = .returned (.bool true) ∧ w.grownBy w' none := by
  have HPA : Hid (0 < n → pa = some ⟨xb, xo, none⟩) := hpa
  have H0 : Hid (∀ j, j < n → w.cell? ⟨xb, xo + j * 3, none⟩ = some (.int .i64 (K j))) := h0
  have H1 : Hid (∀ j, j < n → w.cell? ⟨xb, xo + j * 3 + 1, none⟩ = some (.int .i64 (N j))) := h1
  have H2 : Hid (∀ j, j < n → w.cell? ⟨xb, xo + j * 3 + 2, none⟩ = some (.string (S j))) := h2
  have HN : Hid (∀ j, -9223372036854775808 ≤ N j ∧ N j ≤ 9223372036854775807) := hN
  clear hpa h0 h1 h2 hN
  go_enter Try.func7, Try.ntmps7
  go_wp2_with (go_at_call 37; refine (newWriter_any _).mono ?_; rintro e w1 ⟨rfl, hb1, hg1⟩; have B1 : Hid (Wr w1 w.heap.size []) := hb1; have G1 : Hid (w.grownBy w1 none) := hg1; clear hb1 hg1)
  go_loopw [4, 5] (fun v i wr => ∃ (A : ByteArray) (k : Nat), k ≤ n ∧ k ≤ 20 ∧ i = .int .i64 k ∧ v = .string A ∧ Wr wr w.heap.size A.data.toList ∧ A.size ≤ 700 * k ∧ w.grownBy wr none) (fun _ i _ => 20 - (intOf i).toNat)
  case atStart => exact ⟨_, 0, Nat.zero_le _, Nat.zero_le _, rfl, rfl, B1.out, Nat.le_refl _, G1.out⟩
  case round =>
    clear B1 G1
    obtain ⟨A, k, hk, hk20, rfl, rfl, hw0, hA, h3⟩ := hrel
    have HW : Hid (Wr wr w.heap.size A.data.toList) := hw0
    have H3 : Hid (w.grownBy wr none) := h3
    have hAl : A.data.toList.length = A.size := bytes_len A
    have a0 : (A.size : Int) ≤ 14000 := by omega
    clear hw0 h3
    have k0 : (0 : Int) ≤ (k : Int) := by omega
    by_cases hgo : k < n ∧ k < 20
    · obtain ⟨hkn, hk20'⟩ := hgo
      have hpp := HPA.out (by omega)
      subst hpp
      have q0 := H0.out k hkn
      have hxb : xb < w.heap.size := World.block_lt_of_cell? _ _ q0
      have C0 : Hid (∀ wx, w.grownBy wx none → wx.cell? ⟨xb, xo + k * 3, none⟩ = some (.int .i64 (K k))) := fun wx g => ((grown_below g).cell (by exact hxb)).trans (H0.out k hkn)
      have c1 : wr.cell? ⟨xb, xo + k * 3 + 1, none⟩ = some (.int .i64 (N k)) := ((grown_below H3.out).cell (by exact hxb)).trans (H1.out k hkn)
      have c2 : wr.cell? ⟨xb, xo + k * 3 + 2, none⟩ = some (.string (S k)) := ((grown_below H3.out).cell (by exact hxb)).trans (H2.out k hkn)
      have d1 : (k : Int) < (n : Int) := by omega
      have d2 : (k : Int) < 20 := by omega
      obtain ⟨f, ef⟩ : ∃ f, fewS (S k) = f := ⟨_, rfl⟩
      have hf : f.size ≤ 600 := by rw [← ef]; exact fewS_size _
      have CF : Hid (∀ w, Calls Try.prog 15 #[.string (S k)] w fun e w' => e = .returned (.string f) ∧ w' = w) := fun w => by rw [← ef]; exact few_any _ w
      have hNk := HN.out k
      clear q0 ef
      generalize N k = x at *
      go_wp2
      go_region_held3 (fun w' => w'.cell? ⟨xb, xo + k * 3 + 1, none⟩ = some (.int .i64 x) ∧ w'.cell? ⟨xb, xo + k * 3 + 2, none⟩ = some (.string (S k))) (first | assumption | go_keep) (first | (go_at_call 15; refine (CF.out _).mono ?_; rintro e w' ⟨rfl, hw⟩; have hw2 := hw.symm; clear hw; subst hw2))
      have W2 : Hid (Wr wr.drew w.heap.size A.data.toList) := HW.out.kept (grown_drew (grown_refl _ _))
      have G2 : Hid (w.grownBy wr.drew none) := grown_drew H3.out
      have c0 := C0.out _ G2.out
      clear c1 c2 HW H3 CF
      generalize K k = y at *
      generalize wr.drew = w2 at *
      by_cases hy1 : y = 1
      · subst hy1
        obtain ⟨m, hm0, hm1⟩ : ∃ m : Nat, IntKind.u64.wrap x = (m : Int) ∧ m < 18446744073709551616 := ⟨(x % 18446744073709551616).toNat, by rw [IntKind.wrap_u64]; omega, by omega⟩
        obtain ⟨R, eR⟩ : ∃ R, numS m 8 = R := ⟨_, rfl⟩
        have hz : R.size = 8 := by rw [← eR]; exact numS_size m 8
        have HR : Hid (R.data.toList = numL m (asked 8)) := by
          have e : R.data.toList = numL m (asked 8) := by rw [← eR]; rfl
          exact e
        have CR : Hid (∀ w, Calls Try.prog 13 #[.int .u64 m, .int .i64 8] w fun e w' => e = .returned (.string R) ∧ w.grownBy w' none) := fun w => by rw [← eR]; exact refNumber_any m 8 w hm1
        clear eR
        have hRs : (R.size : Int) ≤ 604 := by omega
        have CL : Hid (∀ wx, Wr wx w.heap.size (A.data.toList ++ R.data.toList) → Calls Try.prog 46 #[.pointer (some ⟨w.heap.size, 0, none⟩)] wx fun e w' => e = .returned (.int .i64 ((A.size : Int) + (R.size : Int))) ∧ w' = wx) := fun wx h => by
          have := wlen_any w.heap.size _ wx h
          rwa [List.length_append, bytes_len, bytes_len, Int.natCast_add] at this
        go_wp2_with (first | (go_at_call 38; refine (wnumber_any w.heap.size _ m 8 _ W2.out (by omega) hm1).mono ?_; rintro e w3 ⟨rfl, hb3, hg3⟩; have W3 : Hid (Wr w3 w.heap.size (A.data.toList ++ R.data.toList)) := (by rw [HR.out]; exact hb3); have G3 : Hid (w.grownBy w3 none) := below_grown G2.out hg3 (Nat.le_refl _); clear hb3 hg3) | (go_at_call 13; refine (CR.out _).mono ?_; rintro e w4 ⟨rfl, hg4⟩; have W4 : Hid (Wr w4 w.heap.size (A.data.toList ++ R.data.toList)) := W3.out.kept hg4; have G4 : Hid (w.grownBy w4 none) := grown_none G3.out hg4; clear hg4 W3 G3) | (go_at_call 46; refine (CL.out _ W4.out).mono ?_; rintro e w' ⟨rfl, hw⟩; have hw2 := hw.symm; clear hw; subst hw2))
        go_roundw
        case rel =>
          refine ⟨A ++ R, k + 1, by omega, by omega, by go_num, rfl, ?_, ?_, G4.out⟩
          · rw [append_list]; exact W4.out
          · rw [ByteArray.size_append]; omega
        case measure => simp [intOf]; omega
      have hy1' : (y == 1) = false := by rw [beq_eq_false_iff_ne]; exact hy1
      by_cases hy2 : y = 2
      · subst hy2
        obtain ⟨m, hm⟩ : ∃ m : Nat, x.toNat = m := ⟨_, rfl⟩
        have hmx : max x 0 = (m : Int) := by omega
        have m0 : (m : Int) < 18446744073709551616 := by omega
        have m1 : (0 : Int) ≤ (m : Int) := by omega
        obtain ⟨R, eR⟩ : ∃ R, numS m 4 = R := ⟨_, rfl⟩
        have hz : R.size = 4 := by rw [← eR]; exact numS_size m 4
        have HR : Hid (R.data.toList = numL x.toNat 4) := by
          have e : R.data.toList = numL x.toNat 4 := by rw [← eR, hm]; rfl
          exact e
        have CR : Hid (∀ w, Calls Try.prog 13 #[.int .u64 m, .int .i64 4] w fun e w' => e = .returned (.string R) ∧ w.grownBy w' none) := fun w => by rw [← eR]; exact refNumber_any m 4 w (by omega)
        clear eR hm
        have hRs : (R.size : Int) ≤ 604 := by omega
        have CL : Hid (∀ wx, Wr wx w.heap.size (A.data.toList ++ R.data.toList) → Calls Try.prog 46 #[.pointer (some ⟨w.heap.size, 0, none⟩)] wx fun e w' => e = .returned (.int .i64 ((A.size : Int) + (R.size : Int))) ∧ w' = wx) := fun wx h => by
          have := wlen_any w.heap.size _ wx h
          rwa [List.length_append, bytes_len, bytes_len, Int.natCast_add] at this
        go_wp2_with (first | (go_at_call 39; refine (wcount_any w.heap.size _ x _ W2.out (by omega) (by omega)).mono ?_; rintro e w3 ⟨rfl, hb3, hg3⟩; have W3 : Hid (Wr w3 w.heap.size (A.data.toList ++ R.data.toList)) := (by rw [HR.out]; exact hb3); have G3 : Hid (w.grownBy w3 none) := below_grown G2.out hg3 (Nat.le_refl _); clear hb3 hg3) | (go_at_call 13; refine (CR.out _).mono ?_; rintro e w4 ⟨rfl, hg4⟩; have W4 : Hid (Wr w4 w.heap.size (A.data.toList ++ R.data.toList)) := W3.out.kept hg4; have G4 : Hid (w.grownBy w4 none) := grown_none G3.out hg4; clear hg4 W3 G3) | (go_at_call 46; refine (CL.out _ W4.out).mono ?_; rintro e w' ⟨rfl, hw⟩; have hw2 := hw.symm; clear hw; subst hw2))
        go_roundw
        case rel =>
          refine ⟨A ++ R, k + 1, by omega, by omega, by go_num, rfl, ?_, ?_, G4.out⟩
          · rw [append_list]; exact W4.out
          · rw [ByteArray.size_append]; omega
        case measure => simp [intOf]; omega
      have hy2' : (y == 2) = false := by rw [beq_eq_false_iff_ne]; exact hy2
      by_cases hy3 : y = 3
      · subst hy3
        obtain ⟨R, eR⟩ : ∃ R, numS f.size 4 ++ f = R := ⟨_, rfl⟩
        have hz : R.size ≤ 604 := by rw [← eR, ByteArray.size_append, numS_size]; omega
        have HR : Hid (A.data.toList ++ R.data.toList = A.data.toList ++ numL f.size 4 ++ f.data.toList) := by
          have e : A.data.toList ++ R.data.toList = A.data.toList ++ numL f.size 4 ++ f.data.toList := by rw [← eR, append_list, ← List.append_assoc]; rfl
          exact e
        have CR : Hid (∀ w, Calls Try.prog 41 #[.string f] w fun e w' => e = .returned (.string R) ∧ w.grownBy w' none) := fun w => by rw [← eR]; exact refText_any f w (by omega)
        clear eR
        have hRs : (R.size : Int) ≤ 604 := by omega
        have CL : Hid (∀ wx, Wr wx w.heap.size (A.data.toList ++ R.data.toList) → Calls Try.prog 46 #[.pointer (some ⟨w.heap.size, 0, none⟩)] wx fun e w' => e = .returned (.int .i64 ((A.size : Int) + (R.size : Int))) ∧ w' = wx) := fun wx h => by
          have := wlen_any w.heap.size _ wx h
          rwa [List.length_append, bytes_len, bytes_len, Int.natCast_add] at this
        go_wp2_with (first | (go_at_call 40; refine (wtext_any w.heap.size _ f _ W2.out (by omega)).mono ?_; rintro e w3 ⟨rfl, hb3, hg3⟩; have W3 : Hid (Wr w3 w.heap.size (A.data.toList ++ R.data.toList)) := (by rw [HR.out]; exact hb3); have G3 : Hid (w.grownBy w3 none) := below_grown G2.out hg3 (Nat.le_refl _); clear hb3 hg3) | (go_at_call 41; refine (CR.out _).mono ?_; rintro e w4 ⟨rfl, hg4⟩; have W4 : Hid (Wr w4 w.heap.size (A.data.toList ++ R.data.toList)) := W3.out.kept hg4; have G4 : Hid (w.grownBy w4 none) := grown_none G3.out hg4; clear hg4 W3 G3) | (go_at_call 46; refine (CL.out _ W4.out).mono ?_; rintro e w' ⟨rfl, hw⟩; have hw2 := hw.symm; clear hw; subst hw2))
        go_roundw
        case rel =>
          refine ⟨A ++ R, k + 1, by omega, by omega, by go_num, rfl, ?_, ?_, G4.out⟩
          · rw [append_list]; exact W4.out
          · rw [ByteArray.size_append]; omega
        case measure => simp [intOf]; omega
      have hy3' : (y == 3) = false := by rw [beq_eq_false_iff_ne]; exact hy3
      by_cases hy4 : y = 4
      · subst hy4
        obtain ⟨R, eR⟩ : ∃ R, hashS f = R := ⟨_, rfl⟩
        have hz : R.size = 32 := by rw [← eR, ← bytes_len]; exact hashL_len f
        have HR : Hid (R.data.toList = hashL f) := by
          have e : R.data.toList = hashL f := by rw [← eR]; rfl
          exact e
        have CR : Hid (∀ w, Calls Try.prog 43 #[.string f] w fun e w' => e = .returned (.string R) ∧ w' = w) := fun w => by rw [← eR]; exact refHash_any f w (by omega)
        clear eR
        have hRs : (R.size : Int) ≤ 604 := by omega
        have CL : Hid (∀ wx, Wr wx w.heap.size (A.data.toList ++ R.data.toList) → Calls Try.prog 46 #[.pointer (some ⟨w.heap.size, 0, none⟩)] wx fun e w' => e = .returned (.int .i64 ((A.size : Int) + (R.size : Int))) ∧ w' = wx) := fun wx h => by
          have := wlen_any w.heap.size _ wx h
          rwa [List.length_append, bytes_len, bytes_len, Int.natCast_add] at this
        go_wp2_with (first | (go_at_call 42; refine (whash_any w.heap.size _ f _ W2.out (by omega)).mono ?_; rintro e w3 ⟨rfl, hb3, hg3⟩; have W3 : Hid (Wr w3 w.heap.size (A.data.toList ++ R.data.toList)) := (by rw [HR.out]; exact hb3); have G3 : Hid (w.grownBy w3 none) := below_grown G2.out hg3 (Nat.le_refl _); clear hb3 hg3) | (go_at_call 43; refine (CR.out _).mono ?_; rintro e w' ⟨rfl, hw⟩; have hw2 := hw.symm; clear hw; subst hw2) | (go_at_call 46; refine (CL.out _ W3.out).mono ?_; rintro e w' ⟨rfl, hw⟩; have hw2 := hw.symm; clear hw; subst hw2))
        go_roundw
        case rel =>
          refine ⟨A ++ R, k + 1, by omega, by omega, by go_num, rfl, ?_, ?_, G3.out⟩
          · rw [append_list]; exact W3.out
          · rw [ByteArray.size_append]; omega
        case measure => simp [intOf]; omega
      have hy4' : (y == 4) = false := by rw [beq_eq_false_iff_ne]; exact hy4
      by_cases hy5 : y = 5
      · subst hy5
        have hb1 := and1 x
        obtain ⟨r, hr, hr2⟩ : ∃ r : Bool, (x % 2 == 1) = r ∧ x % 2 = ((if r then 1 else 0 : Nat) : Int) := by
          by_cases h : x % 2 = 1
          · exact ⟨true, by rw [h]; rfl, by rw [h]; rfl⟩
          · exact ⟨false, by rw [beq_eq_false_iff_ne]; exact h, by show x % 2 = 0; omega⟩
        obtain ⟨m, hm⟩ : ∃ m : Nat, (if r then 1 else 0 : Nat) = m := ⟨_, rfl⟩
        have hm1 : m ≤ 1 := by rw [← hm]; cases r <;> decide
        rw [hm] at hr2
        have hx2 : bits .and .i64 x 1 = (m : Int) := by rw [hb1]; exact hr2
        have hr3 : ((m : Int) == 1) = r := by rw [← hr2]; exact hr
        have m0 : (m : Int) ≤ 1 := by omega
        have m2 : (0 : Int) ≤ (m : Int) := by omega
        have CW : Hid (∀ wx, Wr wx w.heap.size A.data.toList → Calls Try.prog 44 #[.pointer (some ⟨w.heap.size, 0, none⟩), .bool r] wx fun e w' => e = .returned (.tuple #[]) ∧ Wr w' w.heap.size (A.data.toList ++ numL m 1) ∧ Below w.heap.size wx w') := fun wx h => by
          have := wbool_any w.heap.size A.data.toList r wx h (by omega)
          rwa [hm] at this
        obtain ⟨R, eR⟩ : ∃ R, numS m 1 = R := ⟨_, rfl⟩
        have hz : R.size = 1 := by rw [← eR]; exact numS_size m 1
        have HR : Hid (R.data.toList = numL m 1) := by
          have e : R.data.toList = numL m 1 := by rw [← eR]; rfl
          exact e
        have CR : Hid (∀ w, Calls Try.prog 13 #[.int .u64 m, .int .i64 1] w fun e w' => e = .returned (.string R) ∧ w.grownBy w' none) := fun w => by rw [← eR]; exact refNumber_any m 1 w (by omega)
        clear eR hb1 hr hr2 hm
        have hRs : (R.size : Int) ≤ 604 := by omega
        have CL : Hid (∀ wx, Wr wx w.heap.size (A.data.toList ++ R.data.toList) → Calls Try.prog 46 #[.pointer (some ⟨w.heap.size, 0, none⟩)] wx fun e w' => e = .returned (.int .i64 ((A.size : Int) + (R.size : Int))) ∧ w' = wx) := fun wx h => by
          have := wlen_any w.heap.size _ wx h
          rwa [List.length_append, bytes_len, bytes_len, Int.natCast_add] at this
        go_wp2_with (first | (go_at_call 44; refine (CW.out _ W2.out).mono ?_; rintro e w3 ⟨rfl, hb3, hg3⟩; have W3 : Hid (Wr w3 w.heap.size (A.data.toList ++ R.data.toList)) := (by rw [HR.out]; exact hb3); have G3 : Hid (w.grownBy w3 none) := below_grown G2.out hg3 (Nat.le_refl _); clear hb3 hg3) | (go_at_call 13; refine (CR.out _).mono ?_; rintro e w4 ⟨rfl, hg4⟩; have W4 : Hid (Wr w4 w.heap.size (A.data.toList ++ R.data.toList)) := W3.out.kept hg4; have G4 : Hid (w.grownBy w4 none) := grown_none G3.out hg4; clear hg4 W3 G3) | (go_at_call 46; refine (CL.out _ W4.out).mono ?_; rintro e w' ⟨rfl, hw⟩; have hw2 := hw.symm; clear hw; subst hw2))
        go_roundw
        case rel =>
          refine ⟨A ++ R, k + 1, by omega, by omega, by go_num, rfl, ?_, ?_, G4.out⟩
          · rw [append_list]; exact W4.out
          · rw [ByteArray.size_append]; omega
        case measure => simp [intOf]; omega
      have hy5' : (y == 5) = false := by rw [beq_eq_false_iff_ne]; exact hy5
      clear hy1 hy2 hy3 hy4 hy5
      obtain ⟨R, eR⟩ : ∃ R, f = R := ⟨_, rfl⟩
      rw [eR] at hf
      have HR : Hid (f.data.toList = f.data.toList) := by
        have e : f.data.toList = f.data.toList := rfl
        exact e
      subst eR
      have hRs : (f.size : Int) ≤ 604 := by omega
      have CL : Hid (∀ wx, Wr wx w.heap.size (A.data.toList ++ f.data.toList) → Calls Try.prog 46 #[.pointer (some ⟨w.heap.size, 0, none⟩)] wx fun e w' => e = .returned (.int .i64 ((A.size : Int) + (f.size : Int))) ∧ w' = wx) := fun wx h => by
        have := wlen_any w.heap.size _ wx h
        rwa [List.length_append, bytes_len, bytes_len, Int.natCast_add] at this
      go_wp2_with (first | (go_at_call 45; refine (wbytes_any w.heap.size _ f _ W2.out (by omega)).mono ?_; rintro e w3 ⟨rfl, hb3, hg3⟩; have W3 : Hid (Wr w3 w.heap.size (A.data.toList ++ f.data.toList)) := (by rw [HR.out]; exact hb3); have G3 : Hid (w.grownBy w3 none) := below_grown G2.out hg3 (Nat.le_refl _); clear hb3 hg3) | (go_at_call 46; refine (CL.out _ W3.out).mono ?_; rintro e w' ⟨rfl, hw⟩; have hw2 := hw.symm; clear hw; subst hw2))
      go_roundw
      case rel =>
        refine ⟨A ++ f, k + 1, by omega, by omega, by go_num, rfl, ?_, ?_, G3.out⟩
        · rw [append_list]; exact W3.out
        · rw [ByteArray.size_append]; omega
      case measure => simp [intOf]; omega
    · have CA : Hid (∀ wx, Wr wx w.heap.size A.data.toList → Calls Try.prog 47 #[.pointer (some ⟨w.heap.size, 0, none⟩)] wx fun e w' => e = .returned (.string A) ∧ w' = wx) := fun wx h => wall_any w.heap.size _ wx h
      by_cases hkn : k < n
      · have d1 : (k : Int) < (n : Int) := by omega
        have d2 : ¬ ((k : Int) < 20) := by omega
        clear hgo
        go_wp2_with (first | (go_at_call 12; refine (awake_any _).mono ?_; rintro e w2 ⟨rfl, hg2⟩; have W2 : Hid (Wr w2 w.heap.size A.data.toList) := HW.out.kept hg2; have G2 : Hid (w.grownBy w2 none) := grown_none H3.out hg2; clear hg2) | (go_at_call 47; refine (CA.out _ W2.out).mono ?_; rintro e w' ⟨rfl, hw⟩; have hw2 := hw.symm; clear hw; subst hw2))
        go_ret
        exact ⟨rfl, G2.out⟩
      · have d1 : ¬ ((k : Int) < (n : Int)) := by omega
        clear hgo
        go_wp2_with (first | (go_at_call 12; refine (awake_any _).mono ?_; rintro e w2 ⟨rfl, hg2⟩; have W2 : Hid (Wr w2 w.heap.size A.data.toList) := HW.out.kept hg2; have G2 : Hid (w.grownBy w2 none) := grown_none H3.out hg2; clear hg2) | (go_at_call 47; refine (CA.out _ W2.out).mono ?_; rintro e w' ⟨rfl, hw⟩; have hw2 := hw.symm; clear hw; subst hw2))
        go_ret
        exact ⟨rfl, G2.out⟩
end Go.Proofs.Ytiokjdjlopeliaa
