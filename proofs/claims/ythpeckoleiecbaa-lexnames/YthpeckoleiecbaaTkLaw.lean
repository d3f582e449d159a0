/-
  LexTokens and LexNames: the laws' own walks.
-/
import Derived.Test.YthpeckoleiecbaaAw
import Derived.Test.YthpeckoleiecbaaRt
namespace Go.Proofs.Ythpeckoleiecbaa
open Go.RowKit
set_option maxRecDepth 100000 in
set_option maxHeartbeats 1000000 in
theorem names_law (s : ByteArray) (w : World) (hs : (s.size : Int) ≤ 9223372036854775807) : Calls Try.prog 4 #[.string s] w fun e w' => e = .returned (.bool true) ∧ w.grownBy w' none := by
  have CA : Hid (∀ W, Calls Try.prog 9 #[] W fun e w' => e = .returned (.bool true) ∧ W.grownBy w' none) := awake_any
  have CN : Hid (∀ W, Calls Try.prog 10 #[.string s] W fun e w' => e = .returned (.bool (nameL s.toList)) ∧ w' = W) := fun W => name_any s W hs
  have CR : Hid (∀ W, Calls Try.prog 11 #[.string s] W fun e w' => e = .returned (.bool (nameL s.toList)) ∧ W.grownBy w' none) := fun W => refName_any s W hs
  have CW : Hid (∀ W, Calls Try.prog 12 #[.string s] W fun e w' => e = .returned (.bool (wordL s.toList)) ∧ w' = W) := fun W => word_any s W
  have CV : Hid (∀ W, Calls Try.prog 13 #[.string s] W fun e w' => e = .returned (.bool (wordL s.toList)) ∧ W.grownBy w' none) := fun W => refWord_any s W
  generalize nameL s.toList = a at *
  generalize wordL s.toList = b at *
  have ea : (a == a) = true := by simp
  have eb : (b == b) = true := by simp
  go_enter Try.func4, Try.ntmps4
  go_wp2_with (first
    | (go_at_call 9; refine (CA.out _).mono ?_; rintro e w1 ⟨rfl, hg⟩; have G1 := hid hg; clear CA hg)
    | (go_at_call 10; refine (CN.out _).mono ?_; rintro e w2 ⟨rfl, hw2⟩; replace hw2 := hw2.symm; subst hw2; clear CN)
    | (go_at_call 11; refine (CR.out _).mono ?_; rintro e w3 ⟨rfl, hg⟩; have G3 := hid (grown_none G1.out hg); clear CR hg)
    | (go_at_call 12; refine (CW.out _).mono ?_; rintro e w4 ⟨rfl, hw4⟩; replace hw4 := hw4.symm; subst hw4; clear CW)
    | (go_at_call 13; refine (CV.out _).mono ?_; rintro e w5 ⟨rfl, hg⟩; have G5 := hid (grown_none G3.out hg); clear CV hg))
  go_ret
  exact ⟨rfl, G5.out⟩
set_option maxRecDepth 100000 in
set_option maxHeartbeats 1000000 in
theorem tokens_law_long (s : ByteArray) (w : World) (hs : 4096 < s.size) : Calls Try.prog 3 #[.string s] w fun e w' => e = .returned (.bool true) ∧ w.grownBy w' none := by
  have CA : Hid (∀ W, Calls Try.prog 9 #[] W fun e w' => e = .returned (.bool true) ∧ W.grownBy w' none) := awake_any
  have C1 : Hid (∀ W, Calls Try.prog 7 #[.string s] W fun e w' => e = .returned (.tuple #[.slice none 0 0, .int .i64 4096, .int .i64 3]) ∧ w' = W) := fun W => tokens_long s W hs
  have C2 : Hid (∀ W, Calls Try.prog 8 #[.string s] W fun e w' => e = .returned (.tuple #[.slice none 0 0, .int .i64 4096, .int .i64 3]) ∧ w' = W) := fun W => refTokens_long s W hs
  go_enter Try.func3, Try.ntmps3
  go_wp2_with (first
    | (go_at_call 7; refine (C1.out _).mono ?_; rintro e w1 ⟨rfl, hw1⟩; replace hw1 := hw1.symm; subst hw1; clear C1)
    | (go_at_call 8; refine (C2.out _).mono ?_; rintro e w1 ⟨rfl, hw1⟩; replace hw1 := hw1.symm; subst hw1; clear C2)
    | (go_at_call 9; refine (CA.out _).mono ?_; rintro e w2 ⟨rfl, hg⟩; have G2 := hid hg; clear CA hg))
  go_loop [9] (fun i => i = .int .i64 0) (fun _ => 0)
  case atStart => rfl
  case round =>
    subst hrel
    go_wp2
    go_ret
    exact ⟨rfl, G2.out⟩
set_option maxRecDepth 100000 in
set_option maxHeartbeats 1000000 in
theorem tokens_law_bad (s : ByteArray) (w : World) (hs : s.size ≤ 4096) (p : Nat) (hp : toks s.toList = .error p) : Calls Try.prog 3 #[.string s] w fun e w' => e = .returned (.bool true) ∧ w.grownBy w' none := by
  have CA : Hid (∀ W, Calls Try.prog 9 #[] W fun e w' => e = .returned (.bool true) ∧ W.grownBy w' none) := awake_any
  have C1 : Hid (∀ W, Calls Try.prog 7 #[.string s] W (TokPost 31 W (.error p))) := fun W => by have := tokens_any s W hs; rwa [hp] at this
  have C2 : Hid (∀ W, Calls Try.prog 8 #[.string s] W (TokPost 32 W (.error p))) := fun W => by have := refTokens_any s W hs; rwa [hp] at this
  have ep : ((p : Int) != (p : Int)) = false := by simp
  go_enter Try.func3, Try.ntmps3
  go_wp2_with (first
    | (go_at_call 7; refine (C1.out _).mono ?_; rintro e w1 ⟨rfl, hg⟩; have G1 := hid hg; clear C1 hg)
    | (go_at_call 8; refine (C2.out _).mono ?_; rintro e w2 ⟨rfl, hg⟩; have G2 := hid (grown_none G1.out hg); clear C2 hg)
    | (go_at_call 9; refine (CA.out _).mono ?_; rintro e w3 ⟨rfl, hg⟩; have G3 := hid (grown_none G2.out hg); clear CA hg))
  go_loop [9] (fun i => i = .int .i64 0) (fun _ => 0)
  case atStart => rfl
  case round =>
    subst hrel
    go_wp2
    go_ret
    exact ⟨rfl, G3.out⟩
set_option maxRecDepth 100000 in
set_option maxHeartbeats 2000000 in
theorem tokens_law_ok (s : ByteArray) (w : World) (hs : s.size ≤ 4096) (l : List Tk) (hl : toks s.toList = .ok l) : Calls Try.prog 3 #[.string s] w fun e w' => e = .returned (.bool true) ∧ w.grownBy w' none := by
  have CA : Hid (∀ W, Calls Try.prog 9 #[] W fun e w' => e = .returned (.bool true) ∧ W.grownBy w' none) := awake_any
  have C1 : Hid (∀ W, Calls Try.prog 7 #[.string s] W (TokPost 31 W (.ok l))) := fun W => by have := tokens_any s W hs; rwa [hl] at this
  have C2 : Hid (∀ W, Calls Try.prog 8 #[.string s] W (TokPost 32 W (.ok l))) := fun W => by have := refTokens_any s W hs; rwa [hl] at this
  clear hl
  go_enter Try.func3, Try.ntmps3
  go_wp2_with (first
    | (go_at_call 7; refine (C1.out _).mono ?_; rintro e w1 ⟨v, rfl, ht, hg⟩; have G1 := hid hg; have T1 := hid ht; obtain ⟨pa, ca, rfl, x1, x2, _⟩ := row_form ht; clear C1 hg ht)
    | (go_at_call 8; refine (C2.out _).mono ?_; rintro e w2 ⟨v, rfl, ht, hg⟩; have G2 := hid (grown_none G1.out hg); have T2 := hid ht; have T1' := hid (T1.out.kept hg); obtain ⟨pb, cb, rfl, y1, y2, _⟩ := row_form ht; clear C2 hg ht T1)
    | (go_at_call 9; refine (CA.out _).mono ?_; rintro e w3 ⟨rfl, hg⟩; have G3 := hid (grown_none G2.out hg); have U1 := hid (T1'.out.kept hg); have U2 := hid (T2.out.kept hg); clear CA hg T1' T2))
  have ll : (l.length : Int) ≤ 9223372036854775807 := by unfold maxLen at x2; omega
  clear x1 x2 y1 y2
  go_loopw [9] (fun i wr => ∃ k : Nat, k ≤ l.length ∧ i = .int .i64 k ∧ w3.grownBy wr none) (fun i _ => l.length - (intOf i).toNat)
  case atStart => exact ⟨0, Nat.zero_le _, rfl, grown_refl _ _⟩
  case round =>
    obtain ⟨k, hk, rfl, hg⟩ := hrel
    have GG := hid hg
    have k0 : (0 : Int) ≤ k := by omega
    clear hg
    by_cases hlt : k < l.length
    · have k1 : (k : Int) < l.length := by omega
      obtain ⟨ga, rfl, a1, a2, a3⟩ := (U1.out.kept GG.out).cell k hlt
      obtain ⟨gb, rfl, b1, b2, b3⟩ := (U2.out.kept GG.out).cell k hlt
      generalize tkS l[k] = T at *
      generalize l[k].kind = kd at *
      generalize l[k].pl = pl at *
      have e1 : ((kd : Int) != (kd : Int)) = false := by simp
      have e2 : (T.toList == T.toList) = true := by simp
      have e3 : ((pl : Int) != (pl : Int)) = false := by simp
      go_wp2_with fail
      go_quiet (fail)
      go_wp2
      go_round
      case rel => exact ⟨k + 1, by omega, by go_num, grown_drewN GG.out _⟩
      case measure => simp [intOf]; omega
    · have k1 : ¬ (k : Int) < l.length := by omega
      go_wp2
      go_ret
      exact ⟨rfl, grown_none G3.out GG.out⟩
end Go.Proofs.Ythpeckoleiecbaa
