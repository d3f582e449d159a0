/-
  The law WireAdlers walked: of whatever text, place and byte it answers true, and nothing that was there turns.
-/
import Derived.Test.YtiokjdjlopeliaaAdler
namespace Go.Proofs.Ytiokjdjlopeliaa
open Go.RowKit
theorem calls_at {P : Program} {f : FuncId} {args args' : Array Value} {w : World} {Q : Ending → World → Prop} (e : args' = args) (h : Calls P f args w Q) : Calls P f args' w Q := by
  rw [e]
  exact h
theorem put_other (F : ByteArray) (n : Nat) (h : n < F.size) (v : Nat) (hv : v < 256) (hn : v ≠ (F[n]'h).toNat) : adl (F.extract 0 n ++ ⟨#[UInt8.ofNat v]⟩ ++ F.extract (n + 1) F.size) ≠ adl F ∧ (F.extract 0 n ++ ⟨#[UInt8.ofNat v]⟩ ++ F.extract (n + 1) F.size).size = F.size := by
  have hz : (F.extract 0 n ++ ⟨#[UInt8.ofNat v]⟩ ++ F.extract (n + 1) F.size).size = F.size := by
    rw [ByteArray.size_append, ByteArray.size_append, ByteArray.size_extract, ByteArray.size_extract]
    show min n F.size - 0 + 1 + (min F.size F.size - (n + 1)) = _
    omega
  have hl : (F.extract 0 n ++ ⟨#[UInt8.ofNat v]⟩ ++ F.extract (n + 1) F.size).data.toList = F.data.toList.set n (UInt8.ofNat v) := by
    rw [append_list, append_list, ByteArray.data_extract, ByteArray.data_extract, Array.toList_extract, Array.toList_extract]
    simp only [List.extract_eq_take_drop, List.drop_zero, Nat.sub_zero]
    rw [List.set_eq_take_append_cons_drop, if_pos (by rw [bytes_len]; exact h), List.take_of_length_le (l := F.data.toList.drop (n + 1)) (by rw [List.length_drop, bytes_len]; omega)]
    simp
  generalize F.extract 0 n ++ ⟨#[UInt8.ofNat v]⟩ ++ F.extract (n + 1) F.size = T at *
  have hd : ∀ j, T.data.getD j 0 = if j = n then UInt8.ofNat v else F.data.getD j 0 := by
    intro j
    rw [Array.getD_eq_getD_getElem?, Array.getD_eq_getD_getElem?, ← Array.getElem?_toList, ← Array.getElem?_toList, hl, List.getElem?_set]
    by_cases e : n = j
    · rw [if_pos e, if_pos (by rw [bytes_len]; exact h), if_pos e.symm]
      rfl
    · rw [if_neg e, if_neg (fun q => e q.symm)]
  refine ⟨adl_other F T n h hz (fun j hj => by rw [hd, if_neg hj]) ?_, hz⟩
  rw [hd, if_pos rfl, getD_byte F n h, UInt8.toNat_ofNat', Nat.mod_eq_of_lt hv]
  exact hn
set_option maxRecDepth 100000 in
set_option maxHeartbeats 400000 in
theorem law4_any (s : ByteArray) (i : Int) (x : Nat) (w : World) (hx : x < 256) : Calls Try.prog 4 #[.string s, .int .i64 i, .int .u8 x] w fun e w' => e = .returned (.bool true) ∧ w.grownBy w' none := by
  have hF := fewS_size s
  have C0 : Hid (∀ w, Calls Try.prog 15 #[.string s] w fun e w' => e = .returned (.string (fewS s)) ∧ w' = w) := fun w => few_any s w
  generalize fewS s = F at *
  have CA : Hid (∀ w, Calls Try.prog 16 #[.string F] w fun e w' => e = .returned (.int .u32 (adl F : Nat)) ∧ w' = w) := fun w => adler_any F w (by omega)
  have CR : Hid (∀ w, Calls Try.prog 17 #[.string F] w fun e w' => e = .returned (.int .u32 (adl F : Nat)) ∧ w' = w) := fun w => refAdler_any F w (by omega)
  obtain ⟨m, em⟩ : ∃ m, adl F = m := ⟨_, rfl⟩
  rw [em] at CA CR
  have EM : Hid (adl F = m) := em
  clear em
  have f0 : (F.size : Int) ≤ 600 := by omega
  go_enter Try.func4, Try.ntmps4
  by_cases hi0 : i < 0
  · go_wp2_with (first | (go_at_call 15; refine (C0.out _).mono ?_; rintro e w' ⟨rfl, hw⟩; have hw2 := hw.symm; clear hw; subst hw2) | (go_at_call 12; refine (awake_any _).mono ?_; rintro e w1 ⟨rfl, hg1⟩; have G1 : Hid (w.grownBy w1 none) := hg1; clear hg1) | (go_at_call 16; refine (CA.out _).mono ?_; rintro e w' ⟨rfl, hw⟩; have hw2 := hw.symm; clear hw; subst hw2) | (go_at_call 17; refine (CR.out _).mono ?_; rintro e w' ⟨rfl, hw⟩; have hw2 := hw.symm; clear hw; subst hw2))
    go_ret
    exact ⟨rfl, G1.out⟩
  obtain ⟨n, rfl⟩ : ∃ n : Nat, i = n := ⟨i.toNat, by omega⟩
  by_cases hi1 : F.size ≤ n
  · have d1 : (F.size : Int) ≤ (n : Int) := by omega
    go_wp2_with (first | (go_at_call 15; refine (C0.out _).mono ?_; rintro e w' ⟨rfl, hw⟩; have hw2 := hw.symm; clear hw; subst hw2) | (go_at_call 12; refine (awake_any _).mono ?_; rintro e w1 ⟨rfl, hg1⟩; have G1 : Hid (w.grownBy w1 none) := hg1; clear hg1) | (go_at_call 16; refine (CA.out _).mono ?_; rintro e w' ⟨rfl, hw⟩; have hw2 := hw.symm; clear hw; subst hw2) | (go_at_call 17; refine (CR.out _).mono ?_; rintro e w' ⟨rfl, hw⟩; have hw2 := hw.symm; clear hw; subst hw2))
    go_ret
    exact ⟨rfl, G1.out⟩
  by_cases hx0 : x = 0
  · subst hx0
    have d1 : (n : Int) < (F.size : Int) := by omega
    go_wp2_with (first | (go_at_call 15; refine (C0.out _).mono ?_; rintro e w' ⟨rfl, hw⟩; have hw2 := hw.symm; clear hw; subst hw2) | (go_at_call 12; refine (awake_any _).mono ?_; rintro e w1 ⟨rfl, hg1⟩; have G1 : Hid (w.grownBy w1 none) := hg1; clear hg1) | (go_at_call 16; refine (CA.out _).mono ?_; rintro e w' ⟨rfl, hw⟩; have hw2 := hw.symm; clear hw; subst hw2) | (go_at_call 17; refine (CR.out _).mono ?_; rintro e w' ⟨rfl, hw⟩; have hw2 := hw.symm; clear hw; subst hw2))
    go_ret
    exact ⟨rfl, G1.out⟩
  have d1 : (n : Int) < (F.size : Int) := by omega
  have d0 : (0 : Int) ≤ (n : Int) := by omega
  have d3 : (n : Int) ≤ (F.size : Int) := by omega
  have d2 : ((x : Int) == 0) = false := by simp; omega
  have x1 : (x : Int) < 256 := by omega
  have hlt : n < F.size := by omega
  go_wp2_with (first | (go_at_call 15; refine (C0.out _).mono ?_; rintro e w' ⟨rfl, hw⟩; have hw2 := hw.symm; clear hw; subst hw2) | (go_at_call 12; refine (awake_any _).mono ?_; rintro e w1 ⟨rfl, hg1⟩; have G1 : Hid (w.grownBy w1 none) := hg1; clear hg1) | (go_at_call 16; refine (CA.out _).mono ?_; rintro e w' ⟨rfl, hw⟩; have hw2 := hw.symm; clear hw; subst hw2) | (go_at_call 17; refine (CR.out _).mono ?_; rintro e w' ⟨rfl, hw⟩; have hw2 := hw.symm; clear hw; subst hw2))
  obtain ⟨c, ec⟩ : ∃ c : Nat, (F[n]'hlt).toNat = c := ⟨_, rfl⟩
  have c256 : c < 256 := by rw [← ec]; exact UInt8.toNat_lt _
  obtain ⟨v, ev⟩ : ∃ v, c ^^^ x = v := ⟨_, rfl⟩
  have hv : v < 256 := by rw [← ev]; exact Nat.xor_lt_two_pow (n := 8) c256 hx
  have hxr : bits .xor .u8 (c : Int) (x : Int) = (v : Int) := by rw [u8_xor_nat c x c256 hx, ev]
  have hvc : Hid (v ≠ c) := by
    show v ≠ c
    intro e
    rw [e] at ev
    exact hx0 (by have := congrArg (fun z => c ^^^ z) ev; simpa [← Nat.xor_assoc] using this)
  have EC : Hid ((F[n]'hlt).toNat = c) := ec
  clear ev
  have hcv := one_byte (w1.alloc (.cells #[.int .u8 (v : Int)] 5)).drew w1.heap.size 1 (v : Int) v hv rfl (by rw [(Blk.new w1 5 #[.int .u8 (v : Int)]).drew.cell]; rfl)
  obtain ⟨V, hV⟩ : ∃ V : ByteArray, V = ⟨#[UInt8.ofNat v]⟩ := ⟨_, rfl⟩
  have hVs : V.size = 1 := by rw [hV]; rfl
  rw [← hV] at hcv
  have HV : Hid (V = ⟨#[UInt8.ofNat v]⟩) := hV
  clear hV
  have d5 : (n : Int) + 1 ≤ (F.size : Int) := by omega
  have G2 : Hid (w.grownBy (w1.alloc (.cells #[.int .u8 (v : Int)] 5)).drew none) := grown_drew (grown_alloc G1.out _)
  go_region
  have HN : Hid (adl (F.extract 0 n ++ V ++ F.extract (n + 1) F.size) ≠ m ∧ (F.extract 0 n ++ V ++ F.extract (n + 1) F.size).size = F.size) := by
    rw [← EM.out, HV.out]
    exact put_other F n hlt v hv (by rw [EC.out]; exact hvc.out)
  generalize F.extract 0 n ++ V ++ F.extract (n + 1) F.size = T at *
  generalize (w1.alloc (.cells #[.int .u8 (v : Int)] 5)).drew = w2 at *
  obtain ⟨q, eq⟩ : ∃ q, adl T = q := ⟨_, rfl⟩
  have CT : Hid (∀ w, Calls Try.prog 16 #[.string T] w fun e w' => e = .returned (.int .u32 (q : Nat)) ∧ w' = w) := fun w => by rw [← eq]; exact adler_any T w (by have := HN.out.2; omega)
  have hq : ((q : Int) == (m : Int)) = false := by
    have := HN.out.1
    rw [eq] at this
    simp
    omega
  clear eq HN hcv hVs HV hxr EC hvc ec d5
  go_wp2_with (first | (go_at_call 16; refine (CT.out _).mono ?_; clear CT; rintro e w' ⟨rfl, hw⟩; have hw2 := hw.symm; clear hw; subst hw2) | (go_at_call 16; refine (CA.out _).mono ?_; clear CA; rintro e w' ⟨rfl, hw⟩; have hw2 := hw.symm; clear hw; subst hw2))
  go_ret
  refine ⟨?_, G2.out⟩
  show Ending.returned (.bool ((q : Int) != (m : Int))) = _
  rw [bne, hq]
  rfl
end Go.Proofs.Ytiokjdjlopeliaa
