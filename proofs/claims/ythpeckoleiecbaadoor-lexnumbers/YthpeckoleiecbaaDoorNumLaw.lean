/-
  LexNumbers: the law's own walk.
-/
import Derived.Test.YthpeckoleiecbaaDoorDm
import Derived.Test.YthpeckoleiecbaaDoorFu
namespace Go.Proofs.YthpeckoleiecbaaDoor
open Go.RowKit
theorem app_toList (s : ByteArray) (c : UInt8) : (s ++ ⟨#[c]⟩).toList = s.toList ++ [c] := by
  rw [ByteArray.toList_eq, ByteArray.toList_eq, ByteArray.data_append, Array.toList_append]
theorem pre_toList (s : ByteArray) (c : UInt8) : ((⟨#[c]⟩ : ByteArray) ++ s).toList = c :: s.toList := by
  rw [ByteArray.toList_eq, ByteArray.toList_eq, ByteArray.data_append, Array.toList_append]
  rfl
theorem decS_list (u : Nat) : (decS u).toList = Lib.decDigits u := by unfold decS; rw [ByteArray.toList_eq]
theorem decS_size (u : Nat) (h1 : u < 18446744073709551616) : (decS u).size ≤ 20 := by
  rw [← size_toList, decS_list, Lib.decDigits_length]
  by_cases h : 1 ≤ u
  · have := Lib.numDigits_eq u h h1
    split at this <;> omega
  · rw [Lib.nDigits_small (by omega)]
    decide
set_option maxRecDepth 100000 in
set_option maxHeartbeats 2000000 in
theorem numbers_law (u : Nat) (hu : u < 18446744073709551616) (w : World) (htab : Lib.TabIs Tryd.prog w "internal/strconv.uint64pow10" .u64 Lib.pow10Tab) : Calls Tryd.prog 3 #[.int .u64 u] w fun e w' => e = .returned (.bool true) ∧ w.grownBy w' none := by
  have CA : Hid (∀ W, Calls Tryd.prog 6 #[] W fun e w' => e = .returned (.bool true) ∧ W.grownBy w' none) := awake_any
  have CF := hid (formatUint_any u hu w htab)
  have hz := decS_size u hu
  obtain ⟨_, hv, _⟩ := dig_of u
  have e1 : (decS u ++ ⟨#[59]⟩ : ByteArray).toList = Lib.decDigits u ++ [59] := by rw [app_toList, decS_list]
  have e2 : ((⟨#[48]⟩ : ByteArray) ++ decS u).toList = 48 :: Lib.decDigits u := by rw [pre_toList, decS_list]
  have z1 : (decS u ++ ⟨#[59]⟩ : ByteArray).size ≤ 4096 := by rw [ByteArray.size_append]; show _ + 1 ≤ _; omega
  have z2 : ((⟨#[48]⟩ : ByteArray) ++ decS u).size ≤ 4096 := by rw [ByteArray.size_append]; show 1 + _ ≤ _; omega
  have C1 : Hid (∀ W, Calls Tryd.prog 5 #[.string (decS u ++ ⟨#[59]⟩)] W (TokPost 30 W (if u ≤ 9223372036854775807 then .ok [⟨2, Lib.decDigits u, 0⟩, ⟨5, [59], (Lib.decDigits u).length⟩, ⟨0, [], (Lib.decDigits u).length + 1⟩] else .error 0))) := fun W => by
    have := tokens_any (decS u ++ ⟨#[59]⟩) W z1
    rw [e1, toks_num _ (digs u), hv] at this
    exact this
  have C2 : Hid (∀ W, Calls Tryd.prog 5 #[.string ((⟨#[48]⟩ : ByteArray) ++ decS u)] W (TokPost 30 W (.error 0))) := fun W => by
    have := tokens_any ((⟨#[48]⟩ : ByteArray) ++ decS u) W z2
    rw [e2, toks_nought _ (digs u)] at this
    exact this
  have z3 : ¬ 9223372036854775807 < (decS u).size + 1 := by omega
  have z4 : ¬ 9223372036854775807 < 1 + (decS u).size := by omega
  have eS : ((decS u).toList == (decS u).toList) = true := by simp
  clear e1 e2 z1 z2 hv htab hz
  by_cases hok : u ≤ 9223372036854775807
  · rw [if_pos hok] at C1
    have i1 : (u : Int) ≤ 9223372036854775807 := by omega
    have CC : Hid (∀ W (B : Nat) v, Toks W 30 B v [⟨2, Lib.decDigits u, 0⟩, ⟨5, [59], (Lib.decDigits u).length⟩, ⟨0, [], (Lib.decDigits u).length + 1⟩] → ∃ g c, v = .slice (some ⟨g, 0, none⟩) 3 c ∧ W.cell? ⟨g, 0, none⟩ = some (.int .i64 2) ∧ W.cell? ⟨g, 1, none⟩ = some (.string (decS u)) ∧ W.cell? ⟨g, 4, none⟩ = some (.string ⟨#[59]⟩)) := fun W B v h => by
      obtain ⟨pa, c, rfl, _⟩ := row_form h
      obtain ⟨g, rfl, q1, q2, _⟩ := h.cell 0 (by show 0 < 3; decide)
      obtain ⟨g', eg, _, r2, _⟩ := h.cell 1 (by show 1 < 3; decide)
      injection eg with eg
      injection eg with eg
      subst eg
      exact ⟨g, c, rfl, q1, q2, r2⟩
    generalize decS u = S at *
    clear hok
    go_enter Tryd.func3, Tryd.ntmps3
    go_wp2_with (first
      | (go_at_call 4; refine CF.out.mono ?_; rintro e w0 ⟨rfl, hg⟩; have G0 := hid hg; clear CF hg)
      | (go_at_call 5; refine calls_at (args := #[.string (S ++ ⟨#[59]⟩)]) rfl ?_; refine (C1.out _).mono ?_; rintro e w1 ⟨v, rfl, ht, hg⟩; have G1 := hid (grown_none G0.out hg); have T1 := hid ht; obtain ⟨g, c, rfl, q1, q2, q3⟩ := CC.out _ _ _ ht; clear C1 hg ht q1 q2 q3)
      | (go_at_call 5; refine (C2.out _).mono ?_; rintro e w2 ⟨rfl, hg⟩; have G2 := hid (grown_none G1.out hg); have T2 := hid (T1.out.kept hg); clear C2 hg T1)
      | (go_at_call 6; refine (CA.out _).mono ?_; rintro e w3 ⟨rfl, hg⟩; have G3 := hid (grown_none G2.out hg); obtain ⟨g', c', eg, r1, r2, r3⟩ := CC.out _ _ _ (T2.out.kept hg); injection eg with eg eg1 eg2; injection eg with eg; injection eg with eg; subst eg; clear CA hg T2 CC))
    go_ret
    exact ⟨rfl, G3.out⟩
  · rw [if_neg hok] at C1
    have i1 : ¬ (u : Int) ≤ 9223372036854775807 := by omega
    have i2 : decide ((u : Int) ≤ 9223372036854775807) = false := decide_eq_false i1
    clear i1
    generalize decS u = S at *
    clear hok
    go_enter Tryd.func3, Tryd.ntmps3
    go_wp2_with (first
      | (go_at_call 4; refine CF.out.mono ?_; rintro e w0 ⟨rfl, hg⟩; have G0 := hid hg; clear CF hg)
      | (go_at_call 5; refine calls_at (args := #[.string (S ++ ⟨#[59]⟩)]) rfl ?_; refine (C1.out _).mono ?_; rintro e w1 ⟨rfl, hg⟩; have G1 := hid (grown_none G0.out hg); clear C1 hg)
      | (go_at_call 5; refine (C2.out _).mono ?_; rintro e w2 ⟨rfl, hg⟩; have G2 := hid (grown_none G1.out hg); clear C2 hg)
      | (go_at_call 6; refine (CA.out _).mono ?_; rintro e w3 ⟨rfl, hg⟩; have G3 := hid (grown_none G2.out hg); clear CA hg))
    go_ret
    exact ⟨rfl, G3.out⟩
end Go.Proofs.YthpeckoleiecbaaDoor
