/-
  LexSpaces: texts that have no words, or are long.
-/
import Derived.Test.YthpeckoleiecbaaAw
namespace Go.Proofs.Ythpeckoleiecbaa
open Go.RowKit
set_option maxRecDepth 100000 in
set_option maxHeartbeats 1000000 in
theorem spaces_long (s : ByteArray) (v : Value) (w : World) (hs : 4096 < s.size) : Calls Try.prog 5 #[.string s, v] w fun e w' => e = .returned (.bool true) ∧ w.grownBy w' none := by
  have CA : Hid (∀ W, Calls Try.prog 9 #[] W fun e w' => e = .returned (.bool true) ∧ W.grownBy w' none) := awake_any
  have C1 : Hid (∀ W, Calls Try.prog 7 #[.string s] W fun e w' => e = .returned (.tuple #[.slice none 0 0, .int .i64 4096, .int .i64 3]) ∧ w' = W) := fun W => tokens_long s W hs
  go_enter Try.func5, Try.ntmps5
  go_wp2_with (first
    | (go_at_call 7; refine (C1.out _).mono ?_; rintro e w1 ⟨rfl, hw1⟩; replace hw1 := hw1.symm; subst hw1; clear C1)
    | (go_at_call 9; refine (CA.out _).mono ?_; rintro e w2 ⟨rfl, hg⟩; have G2 := hid hg; clear CA hg))
  go_ret
  exact ⟨rfl, G2.out⟩
set_option maxRecDepth 100000 in
set_option maxHeartbeats 1000000 in
theorem spaces_bad (s : ByteArray) (v : Value) (w : World) (hs : s.size ≤ 4096) (p : Nat) (hp : toks s.toList = .error p) : Calls Try.prog 5 #[.string s, v] w fun e w' => e = .returned (.bool true) ∧ w.grownBy w' none := by
  have CA : Hid (∀ W, Calls Try.prog 9 #[] W fun e w' => e = .returned (.bool true) ∧ W.grownBy w' none) := awake_any
  have C1 : Hid (∀ W, Calls Try.prog 7 #[.string s] W (TokPost 31 W (.error p))) := fun W => by have := tokens_any s W hs; rwa [hp] at this
  go_enter Try.func5, Try.ntmps5
  go_wp2_with (first
    | (go_at_call 7; refine (C1.out _).mono ?_; rintro e w1 ⟨rfl, hg⟩; have G1 := hid hg; clear C1 hg)
    | (go_at_call 9; refine (CA.out _).mono ?_; rintro e w2 ⟨rfl, hg⟩; have G2 := hid (grown_none G1.out hg); clear CA hg))
  go_ret
  exact ⟨rfl, G2.out⟩
set_option maxRecDepth 100000 in
set_option maxHeartbeats 1000000 in
theorem spaces_mid (s : ByteArray) (v : Value) (w : World) (hs : s.size ≤ 4096) (h2 : 1000 < s.size) (l : List Tk) (hl : toks s.toList = .ok l) : Calls Try.prog 5 #[.string s, v] w fun e w' => e = .returned (.bool true) ∧ w.grownBy w' none := by
  have CA : Hid (∀ W, Calls Try.prog 9 #[] W fun e w' => e = .returned (.bool true) ∧ W.grownBy w' none) := awake_any
  have C1 : Hid (∀ W, Calls Try.prog 7 #[.string s] W (TokPost 31 W (.ok l))) := fun W => by have := tokens_any s W hs; rwa [hl] at this
  have h3 : (1000 : Int) < s.size := by omega
  clear hl
  go_enter Try.func5, Try.ntmps5
  go_wp2_with (first
    | (go_at_call 7; refine (C1.out _).mono ?_; rintro e w1 ⟨v, rfl, ht, hg⟩; have G1 := hid hg; obtain ⟨pl, cl, rfl, _⟩ := row_form ht; clear C1 hg ht)
    | (go_at_call 9; refine (CA.out _).mono ?_; rintro e w2 ⟨rfl, hg⟩; have G2 := hid (grown_none G1.out hg); clear CA hg))
  go_ret
  exact ⟨rfl, G2.out⟩
end Go.Proofs.Ythpeckoleiecbaa
