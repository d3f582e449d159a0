/-
  The contracts that the law WirePuts leans on: few, the document's Text and Hash, the writer's Bool.
-/
import Derived.Test.YtiokjdjlopeliaaHash
namespace Go.Proofs.Ytiokjdjlopeliaa
open Go.RowKit
/-- The first 600 bytes at most. -/
def fewS (s : ByteArray) : ByteArray := if 600 < s.size then s.extract 0 600 else s
theorem fewS_size (s : ByteArray) : (fewS s).size ≤ 600 := by
  unfold fewS
  split
  · rw [ByteArray.size_extract]; omega
  · omega
set_option maxRecDepth 100000 in
set_option maxHeartbeats 400000 in
theorem few_any (s : ByteArray) (w : World) : Calls Try.prog 15 #[.string s] w fun e w' => e = .returned (.string (fewS s)) ∧ w' = w := by
  by_cases h : 600 < s.size
  · have e : fewS s = s.extract 0 600 := by unfold fewS; rw [if_pos h]
    rw [e]
    have h1 : (600 : Int) < (s.size : Int) := by omega
    go_enter Try.func15, Try.ntmps15
    go_wp2
    go_ret
    exact ⟨rfl, rfl⟩
  · have e : fewS s = s := by unfold fewS; rw [if_neg h]
    rw [e]
    have h1 : ¬ ((600 : Int) < (s.size : Int)) := by omega
    go_enter Try.func15, Try.ntmps15
    go_wp2
    go_ret
    exact ⟨rfl, rfl⟩
set_option maxRecDepth 100000 in
set_option maxHeartbeats 400000 in
theorem refText_any (s : ByteArray) (w : World) (hs : s.size ≤ 1000000000) : Calls Try.prog 41 #[.string s] w fun e w' => e = .returned (.string (numS s.size 4 ++ s)) ∧ w.grownBy w' none := by
  have C : Hid (∀ w, Calls Try.prog 13 #[.int .u64 s.size, .int .i64 4] w fun e w' => e = .returned (.string (numS s.size 4)) ∧ w.grownBy w' none) := fun w => refNumber_any s.size 4 w (by omega)
  have hz := numS_size s.size 4
  generalize numS s.size 4 = S at *
  have i0 : (s.size : Int) ≤ 1000000000 := by omega
  have i1 : (S.size : Int) = 4 := by omega
  clear hs
  go_enter Try.func41, Try.ntmps41
  go_wp2_with (go_at_call 13; refine (C.out _).mono ?_; rintro e w1 ⟨rfl, hg1⟩; have G1 : Hid (w.grownBy w1 none) := hg1; clear hg1)
  go_ret
  exact ⟨rfl, G1.out⟩
theorem fill_step (s : List UInt8) (j : Nat) : s ++ List.replicate j 0 ++ [0] = s ++ List.replicate (j + 1) 0 := by
  rw [List.replicate_succ', List.append_assoc]
set_option maxRecDepth 100000 in
set_option maxHeartbeats 400000 in
theorem refHash_any (s : ByteArray) (w : World) (hs : s.size ≤ 1000000000) : Calls Try.prog 43 #[.string s] w fun e w' => e = .returned (.string (hashS s)) ∧ w' = w := by
  have i0 : (s.size : Int) ≤ 1000000000 := by omega
  obtain ⟨D, eD⟩ : ∃ D, hashS s = D := ⟨_, rfl⟩
  rw [eD]
  have ED : Hid (hashS s = D) := eD
  clear eD
  go_enter Try.func43, Try.ntmps43
  go_wp2
  go_loop [0] (fun v => ∃ (T : ByteArray) (j : Nat), v = .string T ∧ T.data.toList = s.data.toList ++ List.replicate j 0 ∧ j ≤ 32 ∧ (0 < j → T.size ≤ 32)) (fun v => 1000000100 - (match v with | .string T => T.size | _ => 0))
  case atStart => exact ⟨s, 0, rfl, by rw [List.replicate_zero, List.append_nil], by omega, fun h => by omega⟩
  case round =>
    obtain ⟨T, j, rfl, hT, hj, hj2⟩ := hrel
    have hsz : T.size = s.size + j := by
      rw [← bytes_len, hT, List.length_append, List.length_replicate, bytes_len]
    have HTl : Hid (T.data.toList = s.data.toList ++ List.replicate j 0) := hT
    have HSz : Hid (T.size = s.size + j) := hsz
    have t0 : (T.size : Int) ≤ 1000000032 := by omega
    clear hT hsz
    by_cases h32 : T.size < 32
    · have d1 : (T.size : Int) < 32 := by omega
      go_wp2
      go_round
      case rel =>
        refine ⟨_, j + 1, rfl, ?_, by have := HSz.out; omega, fun _ => ?_⟩
        · rw [append_list, HTl.out]
          exact fill_step _ _
        · rw [ByteArray.size_append]
          show T.size + 1 ≤ 32
          omega
      case measure =>
        show 1000000100 - (T ++ ⟨#[0]⟩ : ByteArray).size < 1000000100 - T.size
        rw [ByteArray.size_append]
        show 1000000100 - (T.size + 1) < 1000000100 - T.size
        omega
    · have d1 : ¬ ((T.size : Int) < 32) := by omega
      have d2 : (32 : Int) ≤ (T.size : Int) := by omega
      have eT : T.extract 0 32 = D := by
        rw [← ED.out]
        apply bytes_ext
        rw [ByteArray.data_extract, Array.toList_extract]
        show T.data.toList.extract 0 32 = hashL s
        rw [List.extract_eq_take_drop, List.drop_zero, HTl.out]
        unfold hashL
        rw [List.take_append, List.take_append, List.take_replicate, List.take_replicate, bytes_len]
        congr 2
        have := HSz.out
        omega
      go_wp2
      go_ret
      exact ⟨by rw [← eT]; rfl, rfl⟩
set_option maxRecDepth 100000 in
set_option maxHeartbeats 400000 in
theorem wbool_any (b : Nat) (l : List UInt8) (r : Bool) (w : World) (h : Wr w b l) (hl : l.length ≤ 1000000000) : Calls Try.prog 44 #[.pointer (some ⟨b, 0, none⟩), .bool r] w fun e w' => e = .returned (.tuple #[]) ∧ Wr w' b (l ++ numL (if r then 1 else 0) 1) ∧ Below b w w' := by
  have H : Hid (Wr w b l) := h
  clear h
  cases r
  · have C : Hid (Calls Try.prog 38 #[.pointer (some ⟨b, 0, none⟩), .int .u64 0, .int .i64 1] w fun e w' => e = .returned (.tuple #[]) ∧ Wr w' b (l ++ numL 0 1) ∧ Below b w w') := wnumber_any b l 0 1 w H.out hl (by decide)
    go_enter Try.func44, Try.ntmps44
    go_wp2_with (go_at_call 38; refine C.out.mono ?_; rintro e w1 ⟨rfl, hb1, hg1⟩)
    go_end0
    exact ⟨rfl, hb1, hg1⟩
  · have C : Hid (Calls Try.prog 38 #[.pointer (some ⟨b, 0, none⟩), .int .u64 1, .int .i64 1] w fun e w' => e = .returned (.tuple #[]) ∧ Wr w' b (l ++ numL 1 1) ∧ Below b w w') := wnumber_any b l 1 1 w H.out hl (by decide)
    go_enter Try.func44, Try.ntmps44
    go_wp2_with (go_at_call 38; refine C.out.mono ?_; rintro e w1 ⟨rfl, hb1, hg1⟩)
    refine bodyPost_ret (results_none rfl _ _ _) rfl ?_
    exact ⟨rfl, hb1, hg1⟩
end Go.Proofs.Ytiokjdjlopeliaa
