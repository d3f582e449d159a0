/-
  The place behind all that stands between words: the program's and the document's.
-/
import Derived.Test.YthpeckoleiecbaaDoorBe
namespace Go.Proofs.YthpeckoleiecbaaDoor
open Go.RowKit
def gapE (s : ByteArray) (k : Nat) : Nat := s.size - (skip (s.toList.drop k)).length
theorem gap_here (s : ByteArray) (k : Nat) (hk : k ≤ s.size) (h : skip (s.toList.drop k) = s.toList.drop k) : gapE s k = k := by
  unfold gapE
  rw [h, List.length_drop, size_toList]
  omega
theorem drop_run (s : ByteArray) (p : UInt8 → Bool) (j : Nat) : s.toList.drop (j + runN p (s.toList.drop j)) = (s.toList.drop j).dropWhile p := by
  rw [dropWhile_drop, List.drop_drop]
theorem run_le (s : ByteArray) (p : UInt8 → Bool) (j : Nat) (h : j ≤ s.size) : j + runN p (s.toList.drop j) ≤ s.size := by
  have := takeWhile_len_le p (s.toList.drop j)
  rw [List.length_drop, size_toList] at this
  omega
theorem gapE_congr (s : ByteArray) (j k : Nat) (h : skip (s.toList.drop j) = skip (s.toList.drop k)) : gapE s j = gapE s k := by unfold gapE; rw [h]
theorem gap_gaps (s : ByteArray) (j : Nat) : gapE s (j + runN isG (s.toList.drop j)) = gapE s j := by
  unfold gapE
  rw [drop_run, skip_gaps]
theorem head_gap (l : List UInt8) (c : UInt8) (r : List UInt8) (h : l.dropWhile isG = c :: r) : isG c = false := by
  induction l with
  | nil => cases h
  | cons a t ih =>
    by_cases ha : isG a = true
    · rw [List.dropWhile_cons_of_pos ha] at h; exact ih h
    · rw [List.dropWhile_cons_of_neg ha] at h
      injection h with h1 _
      rw [← h1]
      simpa using ha
/-- Behind gaps, and no note: a word. -/
theorem gap_word (s : ByteArray) (j : Nat) (hj : j ≤ s.size) (h : ((s.toList.drop (j + runN isG (s.toList.drop j))).take 2 == [47, 47]) = false) : gapE s j = j + runN isG (s.toList.drop j) := by
  rw [← gap_gaps]
  refine gap_here s _ (run_le s isG j hj) ?_
  have e := drop_run s isG j
  cases hl : s.toList.drop (j + runN isG (s.toList.drop j)) with
  | nil => rfl
  | cons c r =>
    rw [hl] at e h
    refine skip_word c r (head_gap _ _ _ e.symm) ?_
    rintro ⟨rfl, hr⟩
    cases r with
    | nil => cases hr
    | cons d t =>
      simp at hr
      subst hr
      simp at h
theorem note_cons (l : List UInt8) (h : (l.take 2 == [47, 47]) = true) : ∃ r, l = 47 :: 47 :: r := by
  match l, h with
  | [], h => simp at h
  | [a], h => simp at h
  | a :: b :: r, h =>
    simp at h
    exact ⟨r, by rw [h.1, h.2]⟩
theorem gap_note (s : ByteArray) (j : Nat) (h : ((s.toList.drop j).take 2 == [47, 47]) = true) : gapE s (j + runN noLf (s.toList.drop j)) = gapE s j ∧ 2 ≤ runN noLf (s.toList.drop j) := by
  obtain ⟨r, e⟩ := note_cons _ h
  constructor
  · unfold gapE
    rw [drop_run, e, ← skip_note]
  · rw [e, run_pos _ _ _ (by decide), run_pos _ _ _ (by decide)]
    omega
theorem extract_toList (s : ByteArray) (j : Nat) : (s.extract j s.size).toList = s.toList.drop j := by
  rw [ByteArray.toList_eq, ByteArray.toList_eq]
  simp
  rw [List.take_of_length_le]
  simp
set_option maxRecDepth 100000 in
set_option maxHeartbeats 1000000 in
theorem behindGap_any (s : ByteArray) (k : Nat) (w : World) (hk : k ≤ s.size) (hs : (s.size : Int) ≤ 9223372036854775807) : Calls Tryd.prog 8 #[.string s, .int .i64 k] w fun e w' => e = .returned (.int .i64 (gapE s k)) ∧ w' = w := by
  obtain ⟨R, hR⟩ : ∃ R, gapE s k = R := ⟨_, rfl⟩
  have HR : Hid (gapE s k = R) := hR
  rw [hR]
  clear hR
  have CG : Hid (∀ W (j : Nat), j ≤ s.size → Calls Tryd.prog 15 #[.string s, .int .i64 j, .func (.func 16) #[] #[]] W fun e w' => e = .returned (.int .i64 (j + runN isG (s.toList.drop j) : Nat)) ∧ w' = W) := fun W j h => behindG_any s j W h hs
  have CN : Hid (∀ W (j : Nat), j ≤ s.size → Calls Tryd.prog 15 #[.string s, .int .i64 j, .func (.func 18) #[] #[]] W fun e w' => e = .returned (.int .i64 (j + runN noLf (s.toList.drop j) : Nat)) ∧ w' = W) := fun W j h => behindN_any s j W h hs
  go_enter Tryd.func8, Tryd.ntmps8
  go_wp2
  go_loop [1] (fun i => ∃ j : Nat, j ≤ s.size ∧ i = .int .i64 j ∧ Hid (gapE s j = R)) (fun i => s.size - (intOf i).toNat)
  case atStart => exact ⟨k, hk, rfl, HR⟩
  case round =>
    obtain ⟨j, hj, rfl, HJ⟩ := hrel
    have GW := hid (gap_word s j hj)
    have RL := run_le s isG j hj
    have GG := hid (gap_gaps s j)
    obtain ⟨m, em⟩ : ∃ m, j + runN isG (s.toList.drop j) = m := ⟨_, rfl⟩
    have C1 := hid (CG.out w j hj)
    have jm : j ≤ m := by omega
    rw [em] at RL
    have GW2 : Hid (((s.toList.drop m).take 2 == [47, 47]) = false → gapE s j = m) := by have := GW.out; rw [em] at this; exact this
    have GG2 : Hid (gapE s m = gapE s j) := by have := GG.out; rw [em] at this; exact this
    have C1' : Hid (Calls Tryd.prog 15 #[.string s, .int .i64 j, .func (.func 16) #[] #[]] w fun e w' => e = .returned (.int .i64 (m : Nat)) ∧ w' = w) := by have := C1.out; rw [em] at this; exact this
    clear em GW GG C1 HR
    have CS : Hid (Calls Tryd.prog 17 #[.string (s.extract m s.size), .string ⟨#[47, 47]⟩] w fun e w' => e = .returned (.bool ((s.toList.drop m).take 2 == [47, 47])) ∧ w' = w) := by
      have := slash_any (s.extract m s.size) w
      rw [extract_toList] at this
      exact this
    have m0 : (0 : Int) ≤ m := by omega
    have m1 : (m : Int) ≤ s.size := by omega
    cases hb : ((s.toList.drop m).take 2 == [47, 47]) with
    | false =>
      rw [hb] at CS
      have e : R = m := HJ.out.symm.trans (GW2.out hb)
      subst e
      clear GW2 GG2 HJ CG CN hb
      go_wp2_with (first
        | (go_at_call 15; refine C1'.out.mono ?_; rintro e w1 ⟨rfl, rfl⟩; clear C1')
        | (go_at_call 17; refine CS.out.mono ?_; rintro e w1 ⟨rfl, rfl⟩; clear CS))
      go_ret
      exact ⟨rfl, rfl⟩
    | true =>
      rw [hb] at CS
      obtain ⟨n1, n2⟩ := gap_note s m hb
      have RL2 := run_le s noLf m RL
      have C2 := hid (CN.out w m RL)
      obtain ⟨z, ez⟩ : ∃ z, m + runN noLf (s.toList.drop m) = z := ⟨_, rfl⟩
      have zm : m + 2 ≤ z := by omega
      rw [ez] at n1 RL2
      have NX : Hid (gapE s z = R) := n1.trans (GG2.out.trans HJ.out)
      have C2' : Hid (Calls Tryd.prog 15 #[.string s, .int .i64 m, .func (.func 18) #[] #[]] w fun e w' => e = .returned (.int .i64 (z : Nat)) ∧ w' = w) := by have := C2.out; rw [ez] at this; exact this
      clear ez n1 n2 C2 GW2 GG2 HJ CG CN hb
      go_wp2_with (first
        | (go_at_call 17; refine CS.out.mono ?_; rintro e w1 ⟨rfl, rfl⟩; clear CS)
        | (go_at_call 15; refine calls_at (args := #[.string s, .int .i64 j, .func (.func 16) #[] #[]]) rfl ?_; refine C1'.out.mono ?_; rintro e w1 ⟨rfl, rfl⟩; clear C1')
        | (go_at_call 15; refine C2'.out.mono ?_; rintro e w1 ⟨rfl, rfl⟩; clear C2'))
      go_round
      case rel => exact ⟨z, RL2, rfl, NX⟩
      case measure => simp [intOf]; omega
end Go.Proofs.YthpeckoleiecbaaDoor
