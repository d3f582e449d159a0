/-
  The document's own numbers and signs.
-/
import Derived.Test.YthpeckoleiecbaaWt
namespace Go.Proofs.Ythpeckoleiecbaa
open Go.RowKit
theorem numN_split (l : List UInt8) : (∃ r, l.dropWhile isD = 46 :: r ∧ numN l = runN isD l + 1 + runN isD r ∧ numK l = if runN isD r ≠ 0 ∧ runN isD l + runN isD r ≤ 15 then 3 else 0) ∨ ((∀ r, l.dropWhile isD ≠ 46 :: r) ∧ numN l = runN isD l ∧ numK l = if wholeL (l.takeWhile isD) then 2 else 0) := by
  cases hd : l.dropWhile isD with
  | nil =>
    refine Or.inr ⟨(fun r h => by cases h), ?_, ?_⟩
    · unfold numN; rw [hd]
    · unfold numK; rw [hd]
  | cons c r =>
    by_cases hc : c = 46
    · subst hc
      refine Or.inl ⟨r, rfl, ?_, ?_⟩
      · unfold numN; rw [hd]; rfl
      · unfold numK; rw [hd]; rfl
    · refine Or.inr ⟨fun r h => ?_, ?_, ?_⟩
      · injection h with h _
        exact hc h
      · unfold numN
        rw [hd]
        split
        · rename_i e
          injection e with e _
          exact absurd e hc
        · rfl
      · unfold numK
        rw [hd]
        split
        · rename_i e
          injection e with e _
          exact absurd e hc
        · rfl
/-- What holds of the text's digits from a place on. -/
def NumAt (s : ByteArray) (k d K z : Nat) : Prop := k ≤ d ∧ d ≤ s.size ∧ z ≤ s.size ∧ d ≤ z ∧
  ((∃ h : d < s.size, s[d] = 46 ∧ z = d + 1 + runN isD (s.toList.drop (d + 1)) ∧ K = if z = d + 1 ∨ 15 < z - 1 - k then 0 else 3) ∨
   ((∀ h : d < s.size, s[d] ≠ 46) ∧ z = d ∧ K = if wholeL (s.extract k d).toList then 2 else 0))
theorem numAt (s : ByteArray) (k : Nat) (hk : k ≤ s.size) : NumAt s k (k + runN isD (s.toList.drop k)) (numK (s.toList.drop k)) (k + numN (s.toList.drop k)) := by
  have hr := run_le s isD k hk
  have hn := numN_le (s.toList.drop k)
  rw [List.length_drop, size_toList] at hn
  have hd := drop_run s isD k
  rcases numN_split (s.toList.drop k) with ⟨r, e1, e2, e3⟩ | ⟨e1, e2, e3⟩
  · rw [e1] at hd
    have hlt : k + runN isD (s.toList.drop k) < s.size := by
      refine Classical.byContradiction fun h => ?_
      rw [drop_end s _ h] at hd
      cases hd
    rw [drop_at s _ hlt] at hd
    injection hd with hd1 hd2
    refine ⟨by omega, hr, by omega, by rw [e2]; omega, Or.inl ⟨hlt, hd1, ?_, ?_⟩⟩
    · rw [e2, ← hd2]; omega
    · rw [e3, e2]
      by_cases h : runN isD r ≠ 0 ∧ runN isD (s.toList.drop k) + runN isD r ≤ 15
      · rw [if_pos h, if_neg (by omega)]
      · rw [if_neg h, if_pos (by omega)]
  · refine ⟨by omega, hr, by omega, by rw [e2]; omega, Or.inr ⟨fun h e => ?_, by rw [e2], ?_⟩⟩
    · rw [drop_at s _ h, e] at hd
      exact e1 _ hd.symm
    · rw [e3, takeWhile_take, ← extract_take]
theorem wholeL_nz (c : UInt8) (r : List UInt8) : wholeL (c :: r) = !((decide (1 < (c :: r).length) && (c == 48)) || decide (19 < (c :: r).length) || ((c :: r).length == 19 && Op.bytesLess maxW (c :: r))) := by
  show (if c = 48 then r.length == 0 else decide ((c :: r).length < 19) || ((c :: r).length == 19 && !Op.bytesLess maxW (c :: r))) = _
  generalize Op.bytesLess maxW (c :: r) = x
  rw [List.length_cons]
  generalize r.length = n
  by_cases h : c = 48
  · subst h
    rw [if_pos rfl, Bool.eq_iff_iff]
    cases x <;> simp <;> omega
  · have : (c == 48) = false := by simpa using h
    rw [if_neg h, this, Bool.and_false, Bool.false_or, Bool.eq_iff_iff]
    cases x <;> simp <;> omega
theorem wholeT (s : ByteArray) (k d : Nat) (h1 : k < d) (h2 : d ≤ s.size) : wholeL (s.extract k d).toList = !((decide (1 < d - k) && (s[k] == 48)) || decide (19 < d - k) || ((d - k == 19) && Op.bytesLess maxW (s.extract k d).toList)) := by
  have e : (s.extract k d).toList = s[k] :: (s.toList.drop (k + 1)).take (d - k - 1) := by
    have := extract_take s k (d - k)
    rw [show k + (d - k) = d by omega, drop_at s k (by omega)] at this
    rw [this, show d - k = (d - k - 1) + 1 by omega, List.take_succ_cons]
    rfl
  have hl : (s[k] :: (s.toList.drop (k + 1)).take (d - k - 1)).length = d - k := by
    rw [← e, size_toList, ByteArray.size_extract]
    omega
  rw [e, wholeL_nz, hl]
set_option maxRecDepth 100000 in
set_option maxHeartbeats 2000000 in
theorem refNumber_any (s : ByteArray) (k : Nat) (w : World) (hk : k < s.size) (hs : (s.size : Int) ≤ 4096) (hD : isD s[k] = true) :
    Calls Try.prog 19 #[.string s, .int .i64 k] w fun e w' => e = .returned (.tuple #[.int .i64 (numK (s.toList.drop k)), .int .i64 (k + numN (s.toList.drop k) : Nat)]) ∧ w.grownBy w' none := by
  have HN := hid (numAt s k (by omega))
  have hpos : k + 1 ≤ k + runN isD (s.toList.drop k) := by
    rw [drop_at s k hk, run_pos _ _ _ hD]; omega
  obtain ⟨d, hd⟩ : ∃ d, k + runN isD (s.toList.drop k) = d := ⟨_, rfl⟩
  have H0 : Hid (k + runN isD (s.toList.drop k) = d) := hd
  rw [hd] at HN hpos
  generalize numK (s.toList.drop k) = K at *
  generalize k + numN (s.toList.drop k) = z at *
  clear hd hD
  have k0 : (0 : Int) ≤ k := by omega
  have k1 : (k : Int) < s.size := by omega
  go_enter Try.func19, Try.ntmps19
  go_wp2
  go_loop [6] (fun i => ∃ j : Nat, k ≤ j ∧ j ≤ s.size ∧ i = .int .i64 j ∧ Hid (j + runN isD (s.toList.drop j) = d)) (fun i => s.size - (intOf i).toNat)
  case atStart => exact ⟨k, Nat.le_refl _, by omega, rfl, H0⟩
  case round =>
    obtain ⟨j, hkj, hj, rfl, HJ⟩ := hrel
    have j0 : (0 : Int) ≤ j := by omega
    clear H0
    by_cases hlt : j < s.size
    · have j1 : (j : Int) < s.size := by omega
      have C : Hid (∀ W, Calls Try.prog 18 #[Value.int .u8 s[j].toNat] W fun e w' => e = .returned (.bool (isD s[j])) ∧ w' = W) := fun W => refDigit_any s[j] W
      have HJ2 := HJ.out
      rw [drop_at s j hlt] at HJ2
      cases hp : isD s[j] with
      | true =>
        rw [run_pos _ _ _ hp] at HJ2
        have NX : Hid (j + 1 + runN isD (s.toList.drop (j + 1)) = d) := by show _ = _; omega
        rw [hp] at C
        clear HJ2 hp HJ
        go_wp2_with (go_at_call 18; refine (C.out _).mono ?_; rintro e w1 ⟨rfl, rfl⟩; clear C)
        go_round
        case rel => exact ⟨j + 1, by omega, by omega, by go_num, NX⟩
        case measure => simp [intOf]; omega
      | false =>
        rw [run_neg _ _ _ hp] at HJ2
        have e : d = j := by omega
        subst e
        rw [hp] at C
        clear HJ2 hp
        obtain ⟨n1, n2, n3, n4, n5⟩ := HN.out
        rcases n5 with ⟨h46, e46, ez, eK⟩ | ⟨hno, ez, eK⟩
        · have t46 : ((s[d].toNat : Int) == 46) = true := by rw [e46]; rfl
          have HZ : Hid (d + 1 + runN isD (s.toList.drop (d + 1)) = z) := ez.symm
          have EK := hid eK
          clear HN HJ ez eK e46
          go_wp2_with (go_at_call 18; refine (C.out _).mono ?_; rintro e w1 ⟨rfl, hw1⟩; replace hw1 := hw1.symm; subst hw1; clear C)
          go_loop [7] (fun i => ∃ y : Nat, d + 1 ≤ y ∧ y ≤ s.size ∧ i = .int .i64 y ∧ Hid (y + runN isD (s.toList.drop y) = z)) (fun i => s.size - (intOf i).toNat)
          case atStart => exact ⟨d + 1, Nat.le_refl _, by omega, by go_num, HZ⟩
          case round =>
            obtain ⟨y, hdy, hy, rfl, HY⟩ := hrel
            have y0 : (0 : Int) ≤ y := by omega
            clear HZ
            by_cases hly : y < s.size
            · have y1 : (y : Int) < s.size := by omega
              have C : Hid (∀ W, Calls Try.prog 18 #[Value.int .u8 s[y].toNat] W fun e w' => e = .returned (.bool (isD s[y])) ∧ w' = W) := fun W => refDigit_any s[y] W
              have HY2 := HY.out
              rw [drop_at s y hly] at HY2
              cases hp : isD s[y] with
              | true =>
                rw [run_pos _ _ _ hp] at HY2
                have NX : Hid (y + 1 + runN isD (s.toList.drop (y + 1)) = z) := by show _ = _; omega
                rw [hp] at C
                clear HY2 hp HY
                go_wp2_with (go_at_call 18; refine (C.out _).mono ?_; rintro e w1 ⟨rfl, rfl⟩; clear C)
                go_round
                case rel => exact ⟨y + 1, by omega, by omega, by go_num, NX⟩
                case measure => simp [intOf]; omega
              | false =>
                rw [run_neg _ _ _ hp] at HY2
                have e : z = y := by omega
                subst e
                rw [hp] at C
                clear HY2 hp HY
                have y2 : IntKind.i64.wrap ((z : Int) - 1) = (z : Int) - 1 := by rw [IntKind.wrap_i64]; omega
                have y3 : IntKind.i64.wrap ((z : Int) - 1 - k) = (z : Int) - 1 - k := by rw [IntKind.wrap_i64]; omega
                have y4 : IntKind.i64.wrap ((d : Int) + 1) = (d : Int) + 1 := by rw [IntKind.wrap_i64]; omega
                by_cases hE : z = d + 1
                · have t1 : ((z : Int) == (d : Int) + 1) = true := by rw [beq_iff_eq]; omega
                  have i3 : K = 0 := by rw [EK.out, if_pos (Or.inl hE)]
                  subst i3
                  clear EK hE
                  go_wp2_with (go_at_call 18; refine (C.out _).mono ?_; rintro e w1 ⟨rfl, rfl⟩; clear C)
                  go_ret2
                  exact ⟨rfl, grown_refl _ _⟩
                · have t1 : ((z : Int) == (d : Int) + 1) = false := by rw [beq_eq_false_iff_ne]; omega
                  by_cases hF : 15 < z - 1 - k
                  · have t2 : (15 : Int) < (z : Int) - 1 - k := by omega
                    have i3 : K = 0 := by rw [EK.out, if_pos (Or.inr hF)]
                    subst i3
                    clear EK hE hF
                    go_wp2_with (go_at_call 18; refine (C.out _).mono ?_; rintro e w1 ⟨rfl, rfl⟩; clear C)
                    go_ret2
                    exact ⟨rfl, grown_refl _ _⟩
                  · have t2 : ¬ (15 : Int) < (z : Int) - 1 - k := by omega
                    have i3 : K = 3 := by rw [EK.out, if_neg (by omega)]
                    subst i3
                    clear EK hE hF
                    go_wp2_with (go_at_call 18; refine (C.out _).mono ?_; rintro e w1 ⟨rfl, rfl⟩; clear C)
                    go_ret2
                    exact ⟨rfl, grown_refl _ _⟩
            · have y1 : ¬ (y : Int) < s.size := by omega
              have HY2 := HY.out
              rw [drop_end s y hly] at HY2
              have e : z = y := HY2.symm
              subst e
              clear HY2 HY
              have y2 : IntKind.i64.wrap ((z : Int) - 1) = (z : Int) - 1 := by rw [IntKind.wrap_i64]; omega
              have y3 : IntKind.i64.wrap ((z : Int) - 1 - k) = (z : Int) - 1 - k := by rw [IntKind.wrap_i64]; omega
              have y4 : IntKind.i64.wrap ((d : Int) + 1) = (d : Int) + 1 := by rw [IntKind.wrap_i64]; omega
              by_cases hE : z = d + 1
              · have t1 : ((z : Int) == (d : Int) + 1) = true := by rw [beq_iff_eq]; omega
                have i3 : K = 0 := by rw [EK.out, if_pos (Or.inl hE)]
                subst i3
                clear EK hE
                go_wp2
                go_ret2
                exact ⟨rfl, grown_refl _ _⟩
              · have t1 : ((z : Int) == (d : Int) + 1) = false := by rw [beq_eq_false_iff_ne]; omega
                by_cases hF : 15 < z - 1 - k
                · have t2 : (15 : Int) < (z : Int) - 1 - k := by omega
                  have i3 : K = 0 := by rw [EK.out, if_pos (Or.inr hF)]
                  subst i3
                  clear EK hE hF
                  go_wp2
                  go_ret2
                  exact ⟨rfl, grown_refl _ _⟩
                · have t2 : ¬ (15 : Int) < (z : Int) - 1 - k := by omega
                  have i3 : K = 3 := by rw [EK.out, if_neg (by omega)]
                  subst i3
                  clear EK hE hF
                  go_wp2
                  go_ret2
                  exact ⟨rfl, grown_refl _ _⟩
        · have t46 : ((s[d].toNat : Int) == 46) = false := by
            have h46 := hno hlt
            have := byte_eq s[d] 46
            rw [show ((46 : UInt8).toNat : Int) = 46 from rfl] at this
            rw [← this, beq_eq_false_iff_ne]
            exact h46
          have ez' := ez
          subst ez'
          clear hno ez
          rw [wholeT s k z (by omega) hj] at eK
          obtain ⟨j, ej⟩ : ∃ j, j = z := ⟨_, rfl⟩
          subst ej
          have EK := hid eK
          clear HN HJ eK
          have w1 : IntKind.i64.wrap ((j : Int) - k) = (j : Int) - k := by rw [IntKind.wrap_i64]; omega
          have b48 : (s[k] == 48) = ((s[k].toNat : Int) == 48) := byte_eq _ _
          rw [b48] at EK
          clear b48
          have kj : (k : Int) ≤ j := by omega
          have js : (j : Int) ≤ s.size := by omega
          by_cases hC : 19 < j - k
          · have i1 : (19 : Int) < (j : Int) - k := by omega
            have i2 : (1 : Int) < (j : Int) - k := by omega
            have i3 : K = 0 := by rw [EK.out, decide_eq_true hC]; simp
            subst i3
            clear EK hC
            cases h48 : ((s[k].toNat : Int) == 48)
            all_goals (
              go_wp2_with (go_at_call 18; refine (C.out _).mono ?_; rintro e w1 ⟨rfl, rfl⟩; clear C)
              go_ret2
              exact ⟨rfl, grown_refl _ _⟩)
          · have i1 : ¬ (19 : Int) < (j : Int) - k := by omega
            by_cases hA : 1 < j - k
            · have i2 : (1 : Int) < (j : Int) - k := by omega
              cases h48 : ((s[k].toNat : Int) == 48) with
              | true =>
                have i3 : K = 0 := by rw [EK.out, decide_eq_true hA, h48]; rfl
                subst i3
                clear EK hC hA
                go_wp2_with (go_at_call 18; refine (C.out _).mono ?_; rintro e w1 ⟨rfl, rfl⟩; clear C)
                go_ret2
                exact ⟨rfl, grown_refl _ _⟩
              | false =>
                by_cases hE : j - k = 19
                · have i4 : (((j : Int) - k) == 19) = true := by rw [beq_iff_eq]; omega
                  cases hX : Op.bytesLess maxW (s.extract k j).toList with
                  | true =>
                    have i3 : K = 0 := by rw [EK.out, hX, hE]; simp
                    subst i3
                    have hq := less_eq (s.extract k j).toList maxW
                    rw [hX, Bool.not_true, Bool.or_eq_false_iff] at hq
                    obtain ⟨q1, q2⟩ := hq
                    unfold maxW at q1 q2
                    clear EK hC hA hE hX
                    go_wp2_with (go_at_call 18; refine (C.out _).mono ?_; rintro e w1 ⟨rfl, rfl⟩; clear C)
                    go_ret2
                    exact ⟨rfl, grown_refl _ _⟩
                  | false =>
                    have i3 : K = 2 := by rw [EK.out, hX, hE, h48]; simp
                    subst i3
                    have hq := less_eq (s.extract k j).toList maxW
                    rw [hX, Bool.not_false, Bool.or_eq_true] at hq
                    clear EK hC hA hE hX
                    cases q1 : Op.bytesLess (s.extract k j).toList maxW with
                    | true =>
                      unfold maxW at q1
                      clear hq
                      go_wp2_with (go_at_call 18; refine (C.out _).mono ?_; rintro e w1 ⟨rfl, rfl⟩; clear C)
                      go_ret2
                      exact ⟨rfl, grown_refl _ _⟩
                    | false =>
                      have q2 : ((s.extract k j).toList == maxW) = true := by rw [q1] at hq; simpa using hq
                      unfold maxW at q1 q2
                      clear hq
                      go_wp2_with (go_at_call 18; refine (C.out _).mono ?_; rintro e w1 ⟨rfl, rfl⟩; clear C)
                      go_ret2
                      exact ⟨rfl, grown_refl _ _⟩
                · have i4 : (((j : Int) - k) == 19) = false := by rw [beq_eq_false_iff_ne]; omega
                  have i3 : K = 2 := by rw [EK.out, h48, decide_eq_false hC, show (j - k == 19) = false by simpa using hE]; simp
                  subst i3
                  clear EK hC hA hE
                  go_wp2_with (go_at_call 18; refine (C.out _).mono ?_; rintro e w1 ⟨rfl, rfl⟩; clear C)
                  go_ret2
                  exact ⟨rfl, grown_refl _ _⟩
            · have i2 : ¬ (1 : Int) < (j : Int) - k := by omega
              have i4 : (((j : Int) - k) == 19) = false := by rw [beq_eq_false_iff_ne]; omega
              have i3 : K = 2 := by rw [EK.out, decide_eq_false hC, decide_eq_false hA, show (j - k == 19) = false by rw [beq_eq_false_iff_ne]; omega]; simp
              subst i3
              clear EK hC hA
              go_wp2_with (go_at_call 18; refine (C.out _).mono ?_; rintro e w1 ⟨rfl, rfl⟩; clear C)
              go_ret2
              exact ⟨rfl, grown_refl _ _⟩

    · have j1 : ¬ (j : Int) < s.size := by omega
      have HJ2 := HJ.out
      rw [drop_end s j hlt] at HJ2
      have e : d = j := HJ2.symm
      subst e
      clear HJ2
      obtain ⟨n1, n2, n3, n4, n5⟩ := HN.out
      rcases n5 with ⟨h46, _⟩ | ⟨hno, ez, eK⟩
      · exact absurd h46 hlt
      · have ez' := ez
        subst ez'
        clear hno ez
        rw [wholeT s k z (by omega) hj] at eK
        obtain ⟨j, ej⟩ : ∃ j, j = z := ⟨_, rfl⟩
        subst ej
        have EK := hid eK
        clear HN HJ eK
        have w1 : IntKind.i64.wrap ((j : Int) - k) = (j : Int) - k := by rw [IntKind.wrap_i64]; omega
        have b48 : (s[k] == 48) = ((s[k].toNat : Int) == 48) := byte_eq _ _
        rw [b48] at EK
        clear b48
        have kj : (k : Int) ≤ j := by omega
        have js : (j : Int) ≤ s.size := by omega
        by_cases hC : 19 < j - k
        · have i1 : (19 : Int) < (j : Int) - k := by omega
          have i2 : (1 : Int) < (j : Int) - k := by omega
          have i3 : K = 0 := by rw [EK.out, decide_eq_true hC]; simp
          subst i3
          clear EK hC
          cases h48 : ((s[k].toNat : Int) == 48)
          all_goals (
            go_wp2
            go_ret2
            exact ⟨rfl, grown_refl _ _⟩)
        · have i1 : ¬ (19 : Int) < (j : Int) - k := by omega
          by_cases hA : 1 < j - k
          · have i2 : (1 : Int) < (j : Int) - k := by omega
            cases h48 : ((s[k].toNat : Int) == 48) with
            | true =>
              have i3 : K = 0 := by rw [EK.out, decide_eq_true hA, h48]; rfl
              subst i3
              clear EK hC hA
              go_wp2
              go_ret2
              exact ⟨rfl, grown_refl _ _⟩
            | false =>
              by_cases hE : j - k = 19
              · have i4 : (((j : Int) - k) == 19) = true := by rw [beq_iff_eq]; omega
                cases hX : Op.bytesLess maxW (s.extract k j).toList with
                | true =>
                  have i3 : K = 0 := by rw [EK.out, hX, hE]; simp
                  subst i3
                  have hq := less_eq (s.extract k j).toList maxW
                  rw [hX, Bool.not_true, Bool.or_eq_false_iff] at hq
                  obtain ⟨q1, q2⟩ := hq
                  unfold maxW at q1 q2
                  clear EK hC hA hE hX
                  go_wp2
                  go_ret2
                  exact ⟨rfl, grown_refl _ _⟩
                | false =>
                  have i3 : K = 2 := by rw [EK.out, hX, hE, h48]; simp
                  subst i3
                  have hq := less_eq (s.extract k j).toList maxW
                  rw [hX, Bool.not_false, Bool.or_eq_true] at hq
                  clear EK hC hA hE hX
                  cases q1 : Op.bytesLess (s.extract k j).toList maxW with
                  | true =>
                    unfold maxW at q1
                    clear hq
                    go_wp2
                    go_ret2
                    exact ⟨rfl, grown_refl _ _⟩
                  | false =>
                    have q2 : ((s.extract k j).toList == maxW) = true := by rw [q1] at hq; simpa using hq
                    unfold maxW at q1 q2
                    clear hq
                    go_wp2
                    go_ret2
                    exact ⟨rfl, grown_refl _ _⟩
              · have i4 : (((j : Int) - k) == 19) = false := by rw [beq_eq_false_iff_ne]; omega
                have i3 : K = 2 := by rw [EK.out, h48, decide_eq_false hC, show (j - k == 19) = false by simpa using hE]; simp
                subst i3
                clear EK hC hA hE
                go_wp2
                go_ret2
                exact ⟨rfl, grown_refl _ _⟩
          · have i2 : ¬ (1 : Int) < (j : Int) - k := by omega
            have i4 : (((j : Int) - k) == 19) = false := by rw [beq_eq_false_iff_ne]; omega
            have i3 : K = 2 := by rw [EK.out, decide_eq_false hC, decide_eq_false hA, show (j - k == 19) = false by rw [beq_eq_false_iff_ne]; omega]; simp
            subst i3
            clear EK hC hA
            go_wp2
            go_ret2
            exact ⟨rfl, grown_refl _ _⟩

end Go.Proofs.Ythpeckoleiecbaa
