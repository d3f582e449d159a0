/-
  What a byte is, and which words are kept: the program's and the document's. Which words are kept: the program's and the document's. The place behind bytes that are passed over: names, gaps, notes. The place behind all that stands between words: the program's and the document's. The document's own passing over of spaces and notes. Which texts may be names: the program's and the document's; a word of letters' kind.
-/
import Derived.Test.YtajoncmmdeahnaaGreatDoorKNd
import Derived.Test.YtajoncmmdeahnaaGreatDoorProg
import Derived.Test.YtajoncmmdeahnaaGreatDoorLx
import Derived.KernelRfl
namespace Go.Proofs.YtajoncmmdeahnaaGreatDoor.Lw
open Go.RowKit
theorem hid {p : Prop} (h : p) : Hid p := h
theorem bytes_ext {a b : ByteArray} (h : a.data.toList = b.data.toList) : a = b := ByteArray.ext (Array.toList_inj.1 h)
theorem calls_at {P : Program} {f : Nat} {args args' : Array Value} {w : World} {Q : Ending → World → Prop} (h : args' = args) (c : Calls P f args w Q) : Calls P f args' w Q := h ▸ c
theorem grown_drewN {w w' : World} {row : Option Nat} (h : w.grownBy w' row) (n : Nat) : w.grownBy (w'.drewN n) row := ⟨h.os, h.tape, h.output, h.size, h.block⟩
theorem isL_iff (c : UInt8) : isL c = ((decide (97 ≤ (c.toNat : Int)) && decide ((c.toNat : Int) ≤ 122)) || (decide (65 ≤ (c.toNat : Int)) && decide ((c.toNat : Int) ≤ 90)) || ((c.toNat : Int) == 95)) := by
  unfold isL
  have e1 : ∀ n : UInt8, decide (n ≤ c) = decide ((n.toNat : Int) ≤ c.toNat) := fun n => by
    rw [decide_eq_decide, UInt8.le_iff_toNat_le]; omega
  have e2 : ∀ n : UInt8, decide (c ≤ n) = decide ((c.toNat : Int) ≤ n.toNat) := fun n => by
    rw [decide_eq_decide, UInt8.le_iff_toNat_le]; omega
  have e3 : (c == 95) = ((c.toNat : Int) == 95) := by
    rw [Bool.eq_iff_iff, beq_iff_eq, beq_iff_eq, ← UInt8.toNat_inj]
    show _ = 95 ↔ _
    omega
  rw [e1, e2, e1, e2, e3]
  rfl
theorem isD_iff (c : UInt8) : isD c = (decide (48 ≤ (c.toNat : Int)) && decide ((c.toNat : Int) ≤ 57)) := by
  unfold isD
  have e1 : ∀ n : UInt8, decide (n ≤ c) = decide ((n.toNat : Int) ≤ c.toNat) := fun n => by
    rw [decide_eq_decide, UInt8.le_iff_toNat_le]; omega
  have e2 : ∀ n : UInt8, decide (c ≤ n) = decide ((c.toNat : Int) ≤ n.toNat) := fun n => by
    rw [decide_eq_decide, UInt8.le_iff_toNat_le]; omega
  rw [e1, e2]
  rfl
theorem byte_eq (c n : UInt8) : (c == n) = ((c.toNat : Int) == (n.toNat : Int)) := by
  rw [Bool.eq_iff_iff, beq_iff_eq, beq_iff_eq, ← UInt8.toNat_inj]
  omega
theorem ret_bool {a b : Bool} {w : World} (h : a = b) : Ending.returned (Value.bool a) = Ending.returned (Value.bool b) ∧ w = w := ⟨by rw [h], rfl⟩
set_option maxRecDepth 100000 in
theorem isLetter_any (c : UInt8) (w : World) : Calls Tryz.prog 71 #[.int .u8 c.toNat] w fun e w' => e = .returned (.bool (isL c)) ∧ w' = w := by
  have h := isL_iff c
  generalize isL c = b at *
  have c0 : (0 : Int) ≤ (c.toNat : Int) := by omega
  generalize (c.toNat : Int) = x at *
  have H := hid h
  clear h
  go_enter Tryz.func71, Tryz.ntmps71
  go_wp2
  all_goals (
    go_ret
    refine ret_bool ?_
    refine Eq.trans ?_ H.out.symm
    first
      | rfl
      | (simp [*]; done)
      | (simp [*]; omega)
      | (rw [Bool.eq_iff_iff]; simp; omega))
set_option maxRecDepth 100000 in
theorem isDigit_any (c : UInt8) (w : World) : Calls Tryz.prog 74 #[.int .u8 c.toNat] w fun e w' => e = .returned (.bool (isD c)) ∧ w' = w := by
  have h := isD_iff c
  generalize isD c = b at *
  have c0 : (0 : Int) ≤ (c.toNat : Int) := by omega
  generalize (c.toNat : Int) = x at *
  have H := hid h
  clear h
  go_enter Tryz.func74, Tryz.ntmps74
  go_wp2
  all_goals (
    go_ret
    refine ret_bool ?_
    refine Eq.trans ?_ H.out.symm
    first
      | rfl
      | (simp [*]; done)
      | (simp [*]; omega)
      | (rw [Bool.eq_iff_iff]; simp; omega))
theorem isG_iff (c : UInt8) : isG c = (((c.toNat : Int) == 32) || ((c.toNat : Int) == 9) || ((c.toNat : Int) == 10)) := by
  unfold isG
  rw [byte_eq, byte_eq, byte_eq]
  rfl
theorem noLf_iff (c : UInt8) : noLf c = ((c.toNat : Int) != 10) := by
  show (!(c == 10)) = !_
  rw [byte_eq]
  rfl
set_option maxRecDepth 100000 in
theorem gap_any (c : UInt8) (w : World) : Calls Tryz.prog 68 #[.int .u8 c.toNat] w fun e w' => e = .returned (.bool (isG c)) ∧ w' = w := by
  have h := isG_iff c
  generalize isG c = b at *
  have c0 : (0 : Int) ≤ (c.toNat : Int) := by omega
  generalize (c.toNat : Int) = x at *
  have H := hid h
  clear h
  go_enter Tryz.func68, Tryz.ntmps68
  go_wp2
  all_goals (
    go_ret
    refine ret_bool ?_
    refine Eq.trans ?_ H.out.symm
    first
      | rfl
      | (simp [*]; done)
      | (simp [*]; omega)
      | (rw [Bool.eq_iff_iff]; simp; omega))
set_option maxRecDepth 100000 in
theorem note_any (c : UInt8) (w : World) : Calls Tryz.prog 70 #[.int .u8 c.toNat] w fun e w' => e = .returned (.bool (noLf c)) ∧ w' = w := by
  have h := noLf_iff c
  generalize noLf c = b at *
  have c0 : (0 : Int) ≤ (c.toNat : Int) := by omega
  generalize (c.toNat : Int) = x at *
  have H := hid h
  clear h
  go_enter Tryz.func70, Tryz.ntmps70
  go_wp2
  all_goals (
    go_ret
    refine ret_bool ?_
    refine Eq.trans ?_ H.out.symm
    first
      | rfl
      | (simp [*]; done)
      | (simp [*]; omega)
      | (rw [Bool.eq_iff_iff]; simp; omega))
set_option maxRecDepth 100000 in
theorem nameByte_any (c : UInt8) (w : World) : Calls Tryz.prog 114 #[.int .u8 c.toNat] w fun e w' => e = .returned (.bool (isLD c)) ∧ w' = w := by
  have C1 : Hid (∀ W, Calls Tryz.prog 71 #[.int .u8 c.toNat] W fun e w' => e = .returned (.bool (isL c)) ∧ w' = W) := isLetter_any c
  have C2 : Hid (∀ W, Calls Tryz.prog 74 #[.int .u8 c.toNat] W fun e w' => e = .returned (.bool (isD c)) ∧ w' = W) := isDigit_any c
  unfold isLD
  generalize isL c = a at *
  generalize isD c = b at *
  generalize (c.toNat : Int) = x at *
  cases a
  all_goals
    go_enter Tryz.func114, Tryz.ntmps114
    go_wp2_with (first
      | (go_at_call 71; refine (C1.out _).mono ?_; rintro e w1 ⟨rfl, rfl⟩; clear C1)
      | (go_at_call 74; refine (C2.out _).mono ?_; rintro e w1 ⟨rfl, rfl⟩; clear C2))
    go_ret
    exact ⟨rfl, rfl⟩
end Go.Proofs.YtajoncmmdeahnaaGreatDoor.Lw
namespace Go.Proofs.YtajoncmmdeahnaaGreatDoor.Lw
open Go.RowKit
set_option maxRecDepth 100000 in
set_option maxHeartbeats 1000000 in
theorem word_any (s : ByteArray) (w : World) : Calls Tryz.prog 115 #[.string s] w fun e w' => e = .returned (.bool (wordL s.toList)) ∧ w' = w := by
  obtain ⟨b, hb⟩ : ∃ b, wordL s.toList = b := ⟨_, rfl⟩
  rw [hb]
  have H := hid hb
  clear hb
  go_enter Tryz.func115, Tryz.ntmps115
  go_wp2
  all_goals (
    first
      | (exfalso; simp_all; done)
      | (go_ret
         refine ret_bool (Eq.trans ?_ H.out)
         simp only [wordL, keptL, List.contains_cons, Bool.true_or, Bool.or_true, Bool.false_or, List.contains_nil, *]))
end Go.Proofs.YtajoncmmdeahnaaGreatDoor.Lw
namespace Go.Proofs.YtajoncmmdeahnaaGreatDoor.Lw
open Go.RowKit
theorem size_toList (s : ByteArray) : s.toList.length = s.size := by
  rw [ByteArray.toList_eq]
  rfl
theorem drop_at (s : ByteArray) (j : Nat) (h : j < s.size) : s.toList.drop j = s[j] :: s.toList.drop (j + 1) := by
  rw [ByteArray.toList_eq, List.drop_eq_getElem_cons (by simpa using h)]
  rfl
theorem drop_end (s : ByteArray) (j : Nat) (h : ¬ j < s.size) : s.toList.drop j = [] := by
  rw [List.drop_eq_nil_iff, size_toList]
  omega
set_option maxRecDepth 100000 in
set_option maxHeartbeats 1000000 in
theorem behindG_any (s : ByteArray) (k : Nat) (w : World) (hk : k ≤ s.size) (hs : (s.size : Int) ≤ 9223372036854775807) : Calls Tryz.prog 67 #[.string s, .int .i64 k, .func (.func 68) #[] #[]] w fun e w' => e = .returned (.int .i64 (k + runN isG (s.toList.drop k) : Nat)) ∧ w' = w := by
  obtain ⟨R, hR⟩ : ∃ R, k + runN isG (s.toList.drop k) = R := ⟨_, rfl⟩
  have HR : Hid (k + runN isG (s.toList.drop k) = R) := hR
  rw [hR]
  clear hR
  go_enter Tryz.func67, Tryz.ntmps67
  go_wp2
  go_loop [1] (fun i => ∃ j : Nat, j ≤ s.size ∧ i = .int .i64 j ∧ Hid (j + runN isG (s.toList.drop j) = R)) (fun i => s.size - (intOf i).toNat)
  case atStart => exact ⟨k, hk, rfl, HR⟩
  case round =>
    obtain ⟨j, hj, rfl, HJ⟩ := hrel
    have j0 : (0 : Int) ≤ j := by omega
    by_cases hlt : j < s.size
    · have j1 : (j : Int) < s.size := by omega
      have C : Hid (∀ W, Calls Tryz.prog 68 #[Value.int .u8 s[j].toNat] W fun e w' => e = .returned (.bool (isG s[j])) ∧ w' = W) := fun W => gap_any s[j] W
      have ed := drop_at s j hlt
      have HJ2 := HJ.out
      rw [ed] at HJ2
      clear ed HJ HR
      cases hp : isG s[j] with
      | true =>
        rw [run_pos _ _ _ hp] at HJ2
        have NX : Hid (j + 1 + runN isG (s.toList.drop (j + 1)) = R) := by show _ = _; omega
        rw [hp] at C
        clear HJ2 hp
        go_wp2_with (go_at_call 68; refine (C.out _).mono ?_; rintro e w1 ⟨rfl, rfl⟩; clear C)
        go_round
        case rel => exact ⟨j + 1, by omega, by go_num, NX⟩
        case measure => simp [intOf]; omega
      | false =>
        rw [run_neg _ _ _ hp] at HJ2
        have e : R = j := by omega
        subst e
        rw [hp] at C
        clear HJ2 hp
        go_wp2_with (go_at_call 68; refine (C.out _).mono ?_; rintro e w1 ⟨rfl, rfl⟩; clear C)
        go_ret
        exact ⟨rfl, rfl⟩
    · have j1 : ¬ (j : Int) < s.size := by omega
      have HJ2 := HJ.out
      rw [drop_end s j hlt] at HJ2
      have e : R = j := HJ2.symm
      subst e
      clear HJ2 HJ HR
      go_wp2
      go_ret
      exact ⟨rfl, rfl⟩
set_option maxRecDepth 100000 in
set_option maxHeartbeats 1000000 in
theorem behindN_any (s : ByteArray) (k : Nat) (w : World) (hk : k ≤ s.size) (hs : (s.size : Int) ≤ 9223372036854775807) : Calls Tryz.prog 67 #[.string s, .int .i64 k, .func (.func 70) #[] #[]] w fun e w' => e = .returned (.int .i64 (k + runN noLf (s.toList.drop k) : Nat)) ∧ w' = w := by
  obtain ⟨R, hR⟩ : ∃ R, k + runN noLf (s.toList.drop k) = R := ⟨_, rfl⟩
  have HR : Hid (k + runN noLf (s.toList.drop k) = R) := hR
  rw [hR]
  clear hR
  go_enter Tryz.func67, Tryz.ntmps67
  go_wp2
  go_loop [1] (fun i => ∃ j : Nat, j ≤ s.size ∧ i = .int .i64 j ∧ Hid (j + runN noLf (s.toList.drop j) = R)) (fun i => s.size - (intOf i).toNat)
  case atStart => exact ⟨k, hk, rfl, HR⟩
  case round =>
    obtain ⟨j, hj, rfl, HJ⟩ := hrel
    have j0 : (0 : Int) ≤ j := by omega
    by_cases hlt : j < s.size
    · have j1 : (j : Int) < s.size := by omega
      have C : Hid (∀ W, Calls Tryz.prog 70 #[Value.int .u8 s[j].toNat] W fun e w' => e = .returned (.bool (noLf s[j])) ∧ w' = W) := fun W => note_any s[j] W
      have ed := drop_at s j hlt
      have HJ2 := HJ.out
      rw [ed] at HJ2
      clear ed HJ HR
      cases hp : noLf s[j] with
      | true =>
        rw [run_pos _ _ _ hp] at HJ2
        have NX : Hid (j + 1 + runN noLf (s.toList.drop (j + 1)) = R) := by show _ = _; omega
        rw [hp] at C
        clear HJ2 hp
        go_wp2_with (go_at_call 70; refine (C.out _).mono ?_; rintro e w1 ⟨rfl, rfl⟩; clear C)
        go_round
        case rel => exact ⟨j + 1, by omega, by go_num, NX⟩
        case measure => simp [intOf]; omega
      | false =>
        rw [run_neg _ _ _ hp] at HJ2
        have e : R = j := by omega
        subst e
        rw [hp] at C
        clear HJ2 hp
        go_wp2_with (go_at_call 70; refine (C.out _).mono ?_; rintro e w1 ⟨rfl, rfl⟩; clear C)
        go_ret
        exact ⟨rfl, rfl⟩
    · have j1 : ¬ (j : Int) < s.size := by omega
      have HJ2 := HJ.out
      rw [drop_end s j hlt] at HJ2
      have e : R = j := HJ2.symm
      subst e
      clear HJ2 HJ HR
      go_wp2
      go_ret
      exact ⟨rfl, rfl⟩
set_option maxRecDepth 100000 in
set_option maxHeartbeats 1000000 in
theorem behindL_any (s : ByteArray) (k : Nat) (w : World) (hk : k ≤ s.size) (hs : (s.size : Int) ≤ 9223372036854775807) : Calls Tryz.prog 67 #[.string s, .int .i64 k, .func (.func 114) #[] #[]] w fun e w' => e = .returned (.int .i64 (k + runN isLD (s.toList.drop k) : Nat)) ∧ w' = w := by
  obtain ⟨R, hR⟩ : ∃ R, k + runN isLD (s.toList.drop k) = R := ⟨_, rfl⟩
  have HR : Hid (k + runN isLD (s.toList.drop k) = R) := hR
  rw [hR]
  clear hR
  go_enter Tryz.func67, Tryz.ntmps67
  go_wp2
  go_loop [1] (fun i => ∃ j : Nat, j ≤ s.size ∧ i = .int .i64 j ∧ Hid (j + runN isLD (s.toList.drop j) = R)) (fun i => s.size - (intOf i).toNat)
  case atStart => exact ⟨k, hk, rfl, HR⟩
  case round =>
    obtain ⟨j, hj, rfl, HJ⟩ := hrel
    have j0 : (0 : Int) ≤ j := by omega
    by_cases hlt : j < s.size
    · have j1 : (j : Int) < s.size := by omega
      have C : Hid (∀ W, Calls Tryz.prog 114 #[Value.int .u8 s[j].toNat] W fun e w' => e = .returned (.bool (isLD s[j])) ∧ w' = W) := fun W => nameByte_any s[j] W
      have ed := drop_at s j hlt
      have HJ2 := HJ.out
      rw [ed] at HJ2
      clear ed HJ HR
      cases hp : isLD s[j] with
      | true =>
        rw [run_pos _ _ _ hp] at HJ2
        have NX : Hid (j + 1 + runN isLD (s.toList.drop (j + 1)) = R) := by show _ = _; omega
        rw [hp] at C
        clear HJ2 hp
        go_wp2_with (go_at_call 114; refine (C.out _).mono ?_; rintro e w1 ⟨rfl, rfl⟩; clear C)
        go_round
        case rel => exact ⟨j + 1, by omega, by go_num, NX⟩
        case measure => simp [intOf]; omega
      | false =>
        rw [run_neg _ _ _ hp] at HJ2
        have e : R = j := by omega
        subst e
        rw [hp] at C
        clear HJ2 hp
        go_wp2_with (go_at_call 114; refine (C.out _).mono ?_; rintro e w1 ⟨rfl, rfl⟩; clear C)
        go_ret
        exact ⟨rfl, rfl⟩
    · have j1 : ¬ (j : Int) < s.size := by omega
      have HJ2 := HJ.out
      rw [drop_end s j hlt] at HJ2
      have e : R = j := HJ2.symm
      subst e
      clear HJ2 HJ HR
      go_wp2
      go_ret
      exact ⟨rfl, rfl⟩
set_option maxRecDepth 100000 in
theorem behindName_any (s : ByteArray) (k : Nat) (w : World) (hk : k ≤ s.size) (hs : (s.size : Int) ≤ 9223372036854775807) : Calls Tryz.prog 72 #[.string s, .int .i64 k] w fun e w' => e = .returned (.int .i64 (k + runN isLD (s.toList.drop k) : Nat)) ∧ w' = w := by
  have C : Hid (∀ W, Calls Tryz.prog 67 #[.string s, .int .i64 k, .func (.func 114) #[] #[]] W fun e w' => e = .returned (.int .i64 (k + runN isLD (s.toList.drop k) : Nat)) ∧ w' = W) := fun W => behindL_any s k W hk hs
  generalize k + runN isLD (s.toList.drop k) = R at *
  go_enter Tryz.func72, Tryz.ntmps72
  go_wp2_with (go_at_call 67; refine (C.out _).mono ?_; rintro e w1 ⟨rfl, rfl⟩; clear C)
  go_ret
  exact ⟨rfl, rfl⟩
theorem two_pre (s : ByteArray) : (s.extract 0 2).toList = s.toList.take 2 := by
  rw [ByteArray.toList_eq, ByteArray.toList_eq]
  simp
set_option maxRecDepth 100000 in
theorem slash_any (s : ByteArray) (w : World) : Calls Tryz.prog 69 #[.string s, .string ⟨#[47, 47]⟩] w fun e w' => e = .returned (.bool (s.toList.take 2 == [47, 47])) ∧ w' = w := by
  have C : Hid (∀ W, Calls Tryz.prog 113 #[.string s, .string ⟨#[47, 47]⟩] W fun e w' => e = .returned (.bool (s.toList.take 2 == [47, 47])) ∧ w' = W) := fun W => by
    by_cases h : 2 ≤ s.size
    · have h1 : (2 : Int) ≤ s.size := by omega
      have h2 := two_pre s
      rw [← h2]
      clear h h2
      go_enter Tryz.func113, Tryz.ntmps113
      go_wp2
      go_ret
      exact ⟨rfl, rfl⟩
    · have h1 : ¬ (2 : Int) ≤ s.size := by omega
      have h2 : (s.toList.take 2 == [47, 47]) = false := by
        rw [beq_eq_false_iff_ne]
        intro e
        have := congrArg List.length e
        rw [List.length_take, size_toList] at this
        simp at this
        omega
      rw [h2]
      clear h h2
      go_enter Tryz.func113, Tryz.ntmps113
      go_wp2
      go_ret
      exact ⟨rfl, rfl⟩
  go_enter Tryz.func69, Tryz.ntmps69
  go_wp2_with (go_at_call 113; refine (C.out _).mono ?_; rintro e w1 ⟨rfl, rfl⟩; clear C)
  go_ret
  exact ⟨rfl, rfl⟩
end Go.Proofs.YtajoncmmdeahnaaGreatDoor.Lw
namespace Go.Proofs.YtajoncmmdeahnaaGreatDoor.Lw
open Go.RowKit
def gapE (s : ByteArray) (k : Nat) : Nat := s.size - (skip (s.toList.drop k)).length
theorem gap_here (s : ByteArray) (k : Nat) (hk : k ≤ s.size) (h : skip (s.toList.drop k) = s.toList.drop k) : gapE s k = k := by
  unfold gapE
  rw [h, List.length_drop, size_toList]
  omega
theorem drop_run (s : ByteArray) (p : UInt8 → Bool) (j : Nat) : s.toList.drop (j + runN p (s.toList.drop j)) = (s.toList.drop j).dropWhile p := by
  rw [dropWhile_drop, List.drop_drop]
theorem run_le (s : ByteArray) (p : UInt8 → Bool) (j : Nat) (h : j ≤ s.size) : j + runN p (s.toList.drop j) ≤ s.size := by
  have := takeWhile_len_le p (s.toList.drop j)
  rw [List.length_drop, size_toList] at this
  omega
theorem gap_gaps (s : ByteArray) (j : Nat) : gapE s (j + runN isG (s.toList.drop j)) = gapE s j := by
  unfold gapE
  rw [drop_run, skip_gaps]
theorem head_gap (l : List UInt8) (c : UInt8) (r : List UInt8) (h : l.dropWhile isG = c :: r) : isG c = false := by
  induction l with
  | nil => cases h
  | cons a t ih =>
    by_cases ha : isG a = true
    · rw [List.dropWhile_cons_of_pos ha] at h; exact ih h
    · rw [List.dropWhile_cons_of_neg ha] at h
      injection h with h1 _
      rw [← h1]
      simpa using ha
theorem gap_word (s : ByteArray) (j : Nat) (hj : j ≤ s.size) (h : ((s.toList.drop (j + runN isG (s.toList.drop j))).take 2 == [47, 47]) = false) : gapE s j = j + runN isG (s.toList.drop j) := by
  rw [← gap_gaps]
  refine gap_here s _ (run_le s isG j hj) ?_
  have e := drop_run s isG j
  cases hl : s.toList.drop (j + runN isG (s.toList.drop j)) with
  | nil => rfl
  | cons c r =>
    rw [hl] at e h
    refine skip_word c r (head_gap _ _ _ e.symm) ?_
    rintro ⟨rfl, hr⟩
    cases r with
    | nil => cases hr
    | cons d t =>
      simp at hr
      subst hr
      simp at h
theorem note_cons (l : List UInt8) (h : (l.take 2 == [47, 47]) = true) : ∃ r, l = 47 :: 47 :: r := by
  match l, h with
  | [], h => simp at h
  | [a], h => simp at h
  | a :: b :: r, h =>
    simp at h
    exact ⟨r, by rw [h.1, h.2]⟩
theorem gap_note (s : ByteArray) (j : Nat) (h : ((s.toList.drop j).take 2 == [47, 47]) = true) : gapE s (j + runN noLf (s.toList.drop j)) = gapE s j ∧ 2 ≤ runN noLf (s.toList.drop j) := by
  obtain ⟨r, e⟩ := note_cons _ h
  constructor
  · unfold gapE
    rw [drop_run, e, ← skip_note]
  · rw [e, run_pos _ _ _ (by decide), run_pos _ _ _ (by decide)]
    omega
theorem extract_toList (s : ByteArray) (j : Nat) : (s.extract j s.size).toList = s.toList.drop j := by
  rw [ByteArray.toList_eq, ByteArray.toList_eq]
  simp
  rw [List.take_of_length_le]
  simp
set_option maxRecDepth 100000 in
set_option maxHeartbeats 1000000 in
theorem behindGap_any (s : ByteArray) (k : Nat) (w : World) (hk : k ≤ s.size) (hs : (s.size : Int) ≤ 9223372036854775807) : Calls Tryz.prog 35 #[.string s, .int .i64 k] w fun e w' => e = .returned (.int .i64 (gapE s k)) ∧ w' = w := by
  obtain ⟨R, hR⟩ : ∃ R, gapE s k = R := ⟨_, rfl⟩
  have HR : Hid (gapE s k = R) := hR
  rw [hR]
  clear hR
  have CG : Hid (∀ W (j : Nat), j ≤ s.size → Calls Tryz.prog 67 #[.string s, .int .i64 j, .func (.func 68) #[] #[]] W fun e w' => e = .returned (.int .i64 (j + runN isG (s.toList.drop j) : Nat)) ∧ w' = W) := fun W j h => behindG_any s j W h hs
  have CN : Hid (∀ W (j : Nat), j ≤ s.size → Calls Tryz.prog 67 #[.string s, .int .i64 j, .func (.func 70) #[] #[]] W fun e w' => e = .returned (.int .i64 (j + runN noLf (s.toList.drop j) : Nat)) ∧ w' = W) := fun W j h => behindN_any s j W h hs
  go_enter Tryz.func35, Tryz.ntmps35
  go_wp2
  go_loop [1] (fun i => ∃ j : Nat, j ≤ s.size ∧ i = .int .i64 j ∧ Hid (gapE s j = R)) (fun i => s.size - (intOf i).toNat)
  case atStart => exact ⟨k, hk, rfl, HR⟩
  case round =>
    obtain ⟨j, hj, rfl, HJ⟩ := hrel
    have GW := hid (gap_word s j hj)
    have RL := run_le s isG j hj
    have GG := hid (gap_gaps s j)
    obtain ⟨m, em⟩ : ∃ m, j + runN isG (s.toList.drop j) = m := ⟨_, rfl⟩
    have C1 := hid (CG.out w j hj)
    have jm : j ≤ m := by omega
    rw [em] at RL
    have GW2 : Hid (((s.toList.drop m).take 2 == [47, 47]) = false → gapE s j = m) := by have := GW.out; rw [em] at this; exact this
    have GG2 : Hid (gapE s m = gapE s j) := by have := GG.out; rw [em] at this; exact this
    have C1' : Hid (Calls Tryz.prog 67 #[.string s, .int .i64 j, .func (.func 68) #[] #[]] w fun e w' => e = .returned (.int .i64 (m : Nat)) ∧ w' = w) := by have := C1.out; rw [em] at this; exact this
    clear em GW GG C1 HR
    have CS : Hid (Calls Tryz.prog 69 #[.string (s.extract m s.size), .string ⟨#[47, 47]⟩] w fun e w' => e = .returned (.bool ((s.toList.drop m).take 2 == [47, 47])) ∧ w' = w) := by
      have := slash_any (s.extract m s.size) w
      rw [extract_toList] at this
      exact this
    have m0 : (0 : Int) ≤ m := by omega
    have m1 : (m : Int) ≤ s.size := by omega
    cases hb : ((s.toList.drop m).take 2 == [47, 47]) with
    | false =>
      rw [hb] at CS
      have e : R = m := HJ.out.symm.trans (GW2.out hb)
      subst e
      clear GW2 GG2 HJ CG CN hb
      go_wp2_with (first
        | (go_at_call 67; refine C1'.out.mono ?_; rintro e w1 ⟨rfl, rfl⟩; clear C1')
        | (go_at_call 69; refine CS.out.mono ?_; rintro e w1 ⟨rfl, rfl⟩; clear CS))
      go_ret
      exact ⟨rfl, rfl⟩
    | true =>
      rw [hb] at CS
      obtain ⟨n1, n2⟩ := gap_note s m hb
      have RL2 := run_le s noLf m RL
      have C2 := hid (CN.out w m RL)
      obtain ⟨z, ez⟩ : ∃ z, m + runN noLf (s.toList.drop m) = z := ⟨_, rfl⟩
      have zm : m + 2 ≤ z := by omega
      rw [ez] at n1 RL2
      have NX : Hid (gapE s z = R) := n1.trans (GG2.out.trans HJ.out)
      have C2' : Hid (Calls Tryz.prog 67 #[.string s, .int .i64 m, .func (.func 70) #[] #[]] w fun e w' => e = .returned (.int .i64 (z : Nat)) ∧ w' = w) := by have := C2.out; rw [ez] at this; exact this
      clear ez n1 n2 C2 GW2 GG2 HJ CG CN hb
      go_wp2_with (first
        | (go_at_call 69; refine CS.out.mono ?_; rintro e w1 ⟨rfl, rfl⟩; clear CS)
        | (go_at_call 67; refine calls_at (args := #[.string s, .int .i64 j, .func (.func 68) #[] #[]]) rfl ?_; refine C1'.out.mono ?_; rintro e w1 ⟨rfl, rfl⟩; clear C1')
        | (go_at_call 67; refine C2'.out.mono ?_; rintro e w1 ⟨rfl, rfl⟩; clear C2'))
      go_round
      case rel => exact ⟨z, RL2, rfl, NX⟩
      case measure => simp [intOf]; omega
end Go.Proofs.YtajoncmmdeahnaaGreatDoor.Lw
namespace Go.Proofs.YtajoncmmdeahnaaGreatDoor.Lw
open Go.RowKit
end Go.Proofs.YtajoncmmdeahnaaGreatDoor.Lw
namespace Go.Proofs.YtajoncmmdeahnaaGreatDoor.Lw
open Go.RowKit
theorem run_all (p : UInt8 → Bool) : ∀ l : List UInt8, (runN p l == l.length) = l.all p
  | [] => rfl
  | c :: r => by
    cases h : p c with
    | true =>
      rw [run_pos p c r h, List.all_cons, h, Bool.true_and, ← run_all p r, List.length_cons, Bool.eq_iff_iff, beq_iff_eq, beq_iff_eq]
      omega
    | false =>
      rw [run_neg p c r h, List.all_cons, h, Bool.false_and]
      rfl
theorem nameL_cons (c : UInt8) (r : List UInt8) : nameL (c :: r) = (decide ((c :: r).length ≤ 16) && isL c && (c :: r).all isLD && !wordL (c :: r)) := rfl
theorem nameL_eq (s : ByteArray) (h : 0 < s.size) : nameL s.toList = (decide (s.size ≤ 16) && isL s[0] && (runN isLD s.toList == s.size) && !wordL s.toList) := by
  have e := drop_at s 0 h
  rw [List.drop_zero] at e
  conv => lhs; rw [e]
  rw [nameL_cons, ← e, ← run_all, size_toList]
theorem toList_ne (s : ByteArray) (h : 0 < s.size) : ¬ s.toList = [] := by
  intro e
  have : s.size = 0 := by rw [← size_toList, e]; rfl
  omega
theorem toList_nil (s : ByteArray) (h : s.size = 0) : s.toList = [] := by
  have := size_toList s
  rw [h] at this
  exact List.eq_nil_of_length_eq_zero this
set_option maxRecDepth 100000 in
set_option maxHeartbeats 1000000 in
theorem name_any (s : ByteArray) (w : World) (hs : (s.size : Int) ≤ 9223372036854775807) : Calls Tryz.prog 116 #[.string s] w fun e w' => e = .returned (.bool (nameL s.toList)) ∧ w' = w := by
  by_cases h0 : 0 < s.size
  · rw [nameL_eq s h0]
    have n1 := toList_ne s h0
    have n2 : s.toList.isEmpty = false := by simpa using n1
    have i0 : (0 : Int) < s.size := by omega
    have CL : Hid (∀ W, Calls Tryz.prog 71 #[.int .u8 s[0].toNat] W fun e w' => e = .returned (.bool (isL s[0])) ∧ w' = W) := fun W => isLetter_any s[0] W
    have CR : Hid (∀ W, Calls Tryz.prog 72 #[.string s, .int .i64 0] W fun e w' => e = .returned (.int .i64 (runN isLD s.toList : Nat)) ∧ w' = W) := fun W => by
      have := behindName_any s 0 W (Nat.zero_le _) hs
      rw [List.drop_zero, Nat.zero_add] at this
      exact this
    have CW : Hid (∀ W, Calls Tryz.prog 115 #[.string s] W fun e w' => e = .returned (.bool (wordL s.toList)) ∧ w' = W) := fun W => word_any s W
    have er : ((runN isLD s.toList : Int) == (s.size : Int)) = (runN isLD s.toList == s.size) := by
      rw [Bool.eq_iff_iff, beq_iff_eq, beq_iff_eq]; omega
    generalize runN isLD s.toList = R at *
    generalize (R == s.size) = b at *
    generalize wordL s.toList = x at *
    generalize isL s[0] = a at *
    by_cases h16 : s.size ≤ 16
    · have i16 : (s.size : Int) ≤ 16 := by omega
      rw [decide_eq_true h16]
      clear h16
      cases a <;> cases b <;> cases x
      all_goals
        go_enter Tryz.func116, Tryz.ntmps116
        go_wp2_with (first
          | (go_at_call 71; refine (CL.out _).mono ?_; rintro e w1 ⟨rfl, rfl⟩; clear CL)
          | (go_at_call 72; refine (CR.out _).mono ?_; rintro e w1 ⟨rfl, rfl⟩; clear CR)
          | (go_at_call 115; refine (CW.out _).mono ?_; rintro e w1 ⟨rfl, rfl⟩; clear CW))
        go_ret
        exact ⟨rfl, rfl⟩
    · have i16 : ¬ (s.size : Int) ≤ 16 := by omega
      rw [decide_eq_false h16]
      clear h16
      go_enter Tryz.func116, Tryz.ntmps116
      go_wp2
      go_ret
      exact ⟨rfl, rfl⟩
  · have n1 := toList_nil s (by omega)
    rw [show nameL s.toList = false by rw [n1]; rfl]
    go_enter Tryz.func116, Tryz.ntmps116
    go_wp2
    go_ret
    exact ⟨rfl, rfl⟩
set_option maxRecDepth 100000 in
set_option maxHeartbeats 1000000 in
theorem nameKind_any (s : ByteArray) (w : World) (hs : (s.size : Int) ≤ 9223372036854775807) : Calls Tryz.prog 73 #[.string s] w fun e w' => e = .returned (.int .i64 (nameK s.toList)) ∧ w' = w := by
  have CN : Hid (∀ W, Calls Tryz.prog 116 #[.string s] W fun e w' => e = .returned (.bool (nameL s.toList)) ∧ w' = W) := fun W => name_any s W hs
  have CW : Hid (∀ W, Calls Tryz.prog 115 #[.string s] W fun e w' => e = .returned (.bool (wordL s.toList)) ∧ w' = W) := fun W => word_any s W
  unfold nameK
  generalize wordL s.toList = a at *
  generalize nameL s.toList = b at *
  cases a <;> cases b
  all_goals
    go_enter Tryz.func73, Tryz.ntmps73
    go_wp2_with (first
      | (go_at_call 116; refine (CN.out _).mono ?_; rintro e w1 ⟨rfl, rfl⟩; clear CN)
      | (go_at_call 115; refine (CW.out _).mono ?_; rintro e w1 ⟨rfl, rfl⟩; clear CW))
    go_ret
    exact ⟨rfl, rfl⟩
end Go.Proofs.YtajoncmmdeahnaaGreatDoor.Lw
