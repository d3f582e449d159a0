/-
  A text's words, as a function of its bytes: what both sides are held against. Nothing of the program is named here.
-/
import Derived.WalkKit
namespace Go.Proofs.YtajoncmmdeahnaaGreatDoor
def isL (c : UInt8) : Bool := (97 ≤ c && c ≤ 122) || (65 ≤ c && c ≤ 90) || c == 95
def isD (c : UInt8) : Bool := 48 ≤ c && c ≤ 57
def isG (c : UInt8) : Bool := c == 32 || c == 9 || c == 10
def isLD (c : UInt8) : Bool := isL c || isD c
def noLf (c : UInt8) : Bool := c != 10
def keptL : List (List UInt8) := [[102, 117, 110, 99], [116, 101, 115, 116], [118, 97, 114], [105, 102], [101, 108, 115, 101], [102, 111, 114], [114, 101, 116, 117, 114, 110], [97, 115, 115, 101, 114, 116], [115, 107, 105, 112], [116, 114, 117, 101], [102, 97, 108, 115, 101], [105, 110, 116], [102, 108, 111, 97, 116], [98, 111, 111, 108]]
def wordL (l : List UInt8) : Bool := keptL.contains l
def nameL : List UInt8 → Bool
  | [] => false
  | c :: r => decide ((c :: r).length ≤ 16) && isL c && (c :: r).all isLD && !wordL (c :: r)
def skipS : Bool → List UInt8 → List UInt8
  | _, [] => []
  | true, c :: r => if c = 10 then skipS false r else skipS true r
  | false, c :: r => if isG c then skipS false r else if c = 47 ∧ r.head? = some 47 then skipS true r else c :: r
def skip (l : List UInt8) : List UInt8 := skipS false l
def runN (p : UInt8 → Bool) (l : List UInt8) : Nat := (l.takeWhile p).length
def maxW : List UInt8 := [57, 50, 50, 51, 51, 55, 50, 48, 51, 54, 56, 53, 52, 55, 55, 53, 56, 48, 55]
def wholeL : List UInt8 → Bool
  | [] => true
  | c :: r => if c = 48 then r.length == 0 else decide ((c :: r).length < 19) || ((c :: r).length == 19 && !Op.bytesLess maxW (c :: r))
def numN (l : List UInt8) : Nat := match l.dropWhile isD with
  | 46 :: r => runN isD l + 1 + runN isD r
  | _ => runN isD l
def numK (l : List UInt8) : Nat := match l.dropWhile isD with
  | 46 :: r => if runN isD r ≠ 0 ∧ runN isD l + runN isD r ≤ 15 then 3 else 0
  | _ => if wholeL (l.takeWhile isD) then 2 else 0
def twoL : List (List UInt8) := [[58, 61], [60, 61], [62, 61], [61, 61], [33, 61], [38, 38], [124, 124]]
def oneL : List UInt8 := [40, 41, 123, 125, 44, 59, 61, 43, 45, 42, 47, 37, 60, 62, 33]
def signN : List UInt8 → Nat
  | [] => 0
  | c :: r => if twoL.contains ((c :: r).take 2) then 2 else if oneL.contains c then 1 else 0
def nameK (l : List UInt8) : Nat := if wordL l then 4 else if nameL l then 1 else 0
def wordK : List UInt8 → Nat
  | [] => 0
  | c :: r => if isL c then nameK ((c :: r).takeWhile isLD) else if isD c then numK (c :: r) else if signN (c :: r) = 0 then 0 else 5
def wordN : List UInt8 → Nat
  | [] => 0
  | c :: r => if isL c then runN isLD (c :: r) else if isD c then numN (c :: r) else signN (c :: r)
structure Tk where
  kind : Nat
  s : List UInt8
  pl : Nat
def toksF (n : Nat) : Nat → List UInt8 → Except Nat (List Tk)
  | 0, _ => .ok []
  | _ + 1, [] => .ok [⟨0, [], n⟩]
  | f + 1, c :: r => if wordK (c :: r) = 0 then .error (n - (r.length + 1)) else
    match toksF n f (skip ((c :: r).drop (wordN (c :: r)))) with
    | .ok l => .ok (⟨wordK (c :: r), (c :: r).take (wordN (c :: r)), n - (r.length + 1)⟩ :: l)
    | .error e => .error e
def toks (l : List UInt8) : Except Nat (List Tk) := toksF l.length (l.length + 1) (skip l)
def ahead (a : List Tk) : Except Nat (List Tk) → Except Nat (List Tk)
  | .ok l => .ok (a ++ l)
  | .error e => .error e
theorem ahead_nil (x : Except Nat (List Tk)) : ahead [] x = x := by cases x <;> rfl
theorem ahead_snoc (a : List Tk) (t : Tk) (x : Except Nat (List Tk)) : ahead (a ++ [t]) x = ahead a (match x with | .ok l => .ok (t :: l) | .error e => .error e) := by
  cases x <;> simp [ahead]
theorem skipS_le : ∀ (b : Bool) (l : List UInt8), (skipS b l).length ≤ l.length
  | _, [] => Nat.le_refl _
  | true, c :: r => by
    unfold skipS
    have h1 := skipS_le false r
    have h2 := skipS_le true r
    split <;> simp only [List.length_cons] <;> omega
  | false, c :: r => by
    unfold skipS
    have h1 := skipS_le false r
    have h2 := skipS_le true r
    split
    · simp only [List.length_cons]; omega
    · split
      · simp only [List.length_cons]; omega
      · exact Nat.le_refl _
theorem skipS_drop : ∀ (b : Bool) (l : List UInt8), skipS b l = l.drop (l.length - (skipS b l).length)
  | _, [] => rfl
  | true, c :: r => by
    have h1 := skipS_drop false r
    have h2 := skipS_drop true r
    have l1 := skipS_le false r
    have l2 := skipS_le true r
    unfold skipS
    split
    · rw [List.length_cons, show r.length + 1 - (skipS false r).length = (r.length - (skipS false r).length) + 1 by omega, List.drop_succ_cons]; exact h1
    · rw [List.length_cons, show r.length + 1 - (skipS true r).length = (r.length - (skipS true r).length) + 1 by omega, List.drop_succ_cons]; exact h2
  | false, c :: r => by
    have h1 := skipS_drop false r
    have h2 := skipS_drop true r
    have l1 := skipS_le false r
    have l2 := skipS_le true r
    unfold skipS
    split
    · rw [List.length_cons, show r.length + 1 - (skipS false r).length = (r.length - (skipS false r).length) + 1 by omega, List.drop_succ_cons]; exact h1
    · split
      · rw [List.length_cons, show r.length + 1 - (skipS true r).length = (r.length - (skipS true r).length) + 1 by omega, List.drop_succ_cons]; exact h2
      · simp
theorem skip_drop (l : List UInt8) : skip l = l.drop (l.length - (skip l).length) := skipS_drop false l
theorem skip_le (l : List UInt8) : (skip l).length ≤ l.length := skipS_le false l
theorem skip_gap (c : UInt8) (r : List UInt8) (h : isG c = true) : skip (c :: r) = skip r := by
  show skipS false (c :: r) = _
  unfold skipS
  rw [if_pos h]
  rfl
theorem skip_gaps : ∀ l : List UInt8, skip (l.dropWhile isG) = skip l
  | [] => rfl
  | c :: r => by
    by_cases h : isG c = true
    · rw [List.dropWhile_cons_of_pos h, skip_gaps r, skip_gap c r h]
    · rw [List.dropWhile_cons_of_neg h]
theorem skip_note' : ∀ l : List UInt8, skipS true l = skip (l.dropWhile noLf)
  | [] => rfl
  | c :: r => by
    unfold skipS
    by_cases h : c = 10
    · subst h
      rw [if_pos rfl, List.dropWhile_cons_of_neg (by decide), skip_gap 10 r (by decide)]
      rfl
    · rw [if_neg h, List.dropWhile_cons_of_pos (by simp [noLf, h]), skip_note' r]
theorem skip_note (r : List UInt8) : skip (47 :: 47 :: r) = skip ((47 :: 47 :: r).dropWhile noLf) := by
  show skipS false (47 :: 47 :: r) = _
  unfold skipS
  rw [if_neg (by decide), if_pos ⟨rfl, rfl⟩, skip_note']
  rfl
theorem skip_word (c : UInt8) (r : List UInt8) (h1 : isG c = false) (h2 : ¬ (c = 47 ∧ r.head? = some 47)) : skip (c :: r) = c :: r := by
  show skipS false (c :: r) = _
  unfold skipS
  rw [if_neg (by simp [h1]), if_neg h2]
theorem takeWhile_len_le (p : UInt8 → Bool) (l : List UInt8) : runN p l ≤ l.length := by
  unfold runN
  exact (List.takeWhile_prefix p).length_le
theorem dropWhile_drop (p : UInt8 → Bool) : ∀ l : List UInt8, l.dropWhile p = l.drop (runN p l)
  | [] => rfl
  | c :: r => by
    unfold runN
    by_cases h : p c = true
    · rw [List.dropWhile_cons_of_pos h, List.takeWhile_cons_of_pos h, List.length_cons, List.drop_succ_cons]; exact dropWhile_drop p r
    · rw [List.dropWhile_cons_of_neg h, List.takeWhile_cons_of_neg h]; rfl
theorem takeWhile_take (p : UInt8 → Bool) (l : List UInt8) : l.takeWhile p = l.take (runN p l) := by
  unfold runN
  exact List.prefix_iff_eq_take.1 (List.takeWhile_prefix p)
theorem run_pos (p : UInt8 → Bool) (c : UInt8) (r : List UInt8) (h : p c = true) : runN p (c :: r) = runN p r + 1 := by
  unfold runN
  rw [List.takeWhile_cons_of_pos h, List.length_cons]
theorem run_neg (p : UInt8 → Bool) (c : UInt8) (r : List UInt8) (h : p c = false) : runN p (c :: r) = 0 := by
  unfold runN
  rw [List.takeWhile_cons_of_neg (by simp [h])]
  rfl
theorem isLD_of_isL {c : UInt8} (h : isL c = true) : isLD c = true := by unfold isLD; rw [h]; rfl
theorem wordK_cons (c : UInt8) (r : List UInt8) : wordK (c :: r) = if isL c then nameK ((c :: r).takeWhile isLD) else if isD c then numK (c :: r) else if signN (c :: r) = 0 then 0 else 5 := rfl
theorem wordN_cons (c : UInt8) (r : List UInt8) : wordN (c :: r) = if isL c then runN isLD (c :: r) else if isD c then numN (c :: r) else signN (c :: r) := rfl
theorem signN_cons (c : UInt8) (r : List UInt8) : signN (c :: r) = if twoL.contains ((c :: r).take 2) then 2 else if oneL.contains c then 1 else 0 := rfl
theorem wordN_pos (c : UInt8) (r : List UInt8) (h : wordK (c :: r) ≠ 0) : 1 ≤ wordN (c :: r) := by
  rw [wordK_cons] at h
  rw [wordN_cons]
  by_cases h1 : isL c = true
  · rw [if_pos h1, run_pos _ _ _ (isLD_of_isL h1)]; omega
  · rw [if_neg h1] at h ⊢
    by_cases h2 : isD c = true
    · rw [if_pos h2]
      unfold numN
      split <;> rw [run_pos _ _ _ h2] <;> omega
    · rw [if_neg h2] at h ⊢
      by_cases h3 : signN (c :: r) = 0
      · rw [if_pos h3] at h; exact absurd rfl h
      · omega
theorem signN_le : ∀ l : List UInt8, signN l ≤ l.length
  | [] => Nat.le_refl _
  | c :: r => by
    rw [signN_cons]
    split
    · rename_i h
      have : ((c :: r).take 2) ∈ twoL := List.contains_iff_mem.1 h
      have hl : ((c :: r).take 2).length = 2 := by
        unfold twoL at this
        simp only [List.mem_cons, List.not_mem_nil, or_false] at this
        rcases this with h | h | h | h | h | h | h <;> rw [h] <;> rfl
      rw [List.length_take] at hl
      omega
    · split
      · rw [List.length_cons]; omega
      · exact Nat.zero_le _
theorem numN_le (l : List UInt8) : numN l ≤ l.length := by
  unfold numN
  have h := takeWhile_len_le isD l
  split
  · rename_i r e
    rw [dropWhile_drop] at e
    have e2 := congrArg List.length e
    have := takeWhile_len_le isD r
    rw [List.length_drop, List.length_cons] at e2
    omega
  · exact h
theorem wordN_le : ∀ l : List UInt8, wordN l ≤ l.length
  | [] => Nat.le_refl _
  | c :: r => by
    rw [wordN_cons]
    split
    · exact takeWhile_len_le _ _
    · split
      · exact numN_le _
      · exact signN_le _
theorem toksF_fuel (n : Nat) : ∀ (f g : Nat) (l : List UInt8), l.length < f → l.length < g → toksF n f l = toksF n g l
  | 0, _, _, h, _ => absurd h (Nat.not_lt_zero _)
  | _, 0, _, _, h => absurd h (Nat.not_lt_zero _)
  | f + 1, g + 1, [], _, _ => rfl
  | f + 1, g + 1, c :: r, hf, hg => by
    unfold toksF
    by_cases h : wordK (c :: r) = 0
    · rw [if_pos h, if_pos h]
    · rw [if_neg h, if_neg h]
      have h1 := wordN_pos c r h
      have h2 := skip_le ((c :: r).drop (wordN (c :: r)))
      rw [List.length_drop] at h2
      rw [List.length_cons] at hf hg h2
      rw [toksF_fuel n f g _ (by omega) (by omega)]
def toksA (n : Nat) (l : List UInt8) : Except Nat (List Tk) := toksF n (l.length + 1) l
theorem toks_eq (l : List UInt8) : toks l = toksA l.length (skip l) := by
  have := skip_le l
  exact toksF_fuel _ _ _ _ (by omega) (by omega)
theorem toksA_nil (n : Nat) : toksA n [] = .ok [⟨0, [], n⟩] := rfl
theorem toksA_bad (n : Nat) (c : UInt8) (r : List UInt8) (h : wordK (c :: r) = 0) : toksA n (c :: r) = .error (n - (c :: r).length) := by
  show toksF n ((c :: r).length + 1) (c :: r) = _
  unfold toksF
  rw [if_pos h]
  rfl
theorem toksA_ok (n : Nat) (c : UInt8) (r : List UInt8) (h : wordK (c :: r) ≠ 0) (a : List Tk) :
    ahead a (toksA n (c :: r)) = ahead (a ++ [⟨wordK (c :: r), (c :: r).take (wordN (c :: r)), n - (c :: r).length⟩]) (toksA n (skip ((c :: r).drop (wordN (c :: r))))) := by
  have h1 := wordN_pos c r h
  have h2 := skip_le ((c :: r).drop (wordN (c :: r)))
  rw [List.length_drop, List.length_cons] at h2
  rw [ahead_snoc]
  congr 1
  show toksF n ((c :: r).length + 1) (c :: r) = _
  rw [show (c :: r).length + 1 = (r.length + 1) + 1 from rfl]
  rw [toksF, if_neg h]
  rw [toksF_fuel n (r.length + 1) ((skip ((c :: r).drop (wordN (c :: r)))).length + 1) _ (by omega) (by omega)]
  rfl
end Go.Proofs.YtajoncmmdeahnaaGreatDoor
