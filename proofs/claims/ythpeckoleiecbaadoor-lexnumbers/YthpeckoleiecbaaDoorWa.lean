/-
  The word at a place: the program's wordAt.
-/
import Derived.Test.YthpeckoleiecbaaDoorNk
namespace Go.Proofs.YthpeckoleiecbaaDoor
open Go.RowKit
theorem run_append (p : UInt8 → Bool) : ∀ (a b : List UInt8), a.all p = true → runN p (a ++ b) = a.length + runN p b
  | [], b, _ => by simp
  | c :: r, b, h => by
    rw [List.all_cons, Bool.and_eq_true] at h
    rw [List.cons_append, run_pos _ _ _ h.1, run_append p r b h.2, List.length_cons]
    omega
theorem isD_noPt {c : UInt8} (h : isD c = true) : noPt c = true := by
  unfold noPt
  rw [bne_iff_ne]
  rintro rfl
  exact absurd h (by decide)
theorem takeWhile_all (p : UInt8 → Bool) (l : List UInt8) : (l.takeWhile p).all p = true := by
  induction l with
  | nil => rfl
  | cons c r ih =>
    cases h : p c with
    | true => rw [List.takeWhile_cons_of_pos h, List.all_cons, h, ih]; rfl
    | false => rw [List.takeWhile_cons_of_neg (by simp [h])]; rfl
theorem all_mono {p q : UInt8 → Bool} (h : ∀ c, p c = true → q c = true) {l : List UInt8} (hl : l.all p = true) : l.all q = true := by
  rw [List.all_eq_true] at hl ⊢
  exact fun x hx => h x (hl x hx)
theorem split_run (p : UInt8 → Bool) (l : List UInt8) : l.takeWhile p ++ l.dropWhile p = l := List.takeWhile_append_dropWhile
theorem run_drop_head (p : UInt8 → Bool) (l : List UInt8) (c : UInt8) (r : List UInt8) (h : l.dropWhile p = c :: r) : p c = false := by
  induction l with
  | nil => cases h
  | cons a t ih =>
    by_cases ha : p a = true
    · rw [List.dropWhile_cons_of_pos ha] at h; exact ih h
    · rw [List.dropWhile_cons_of_neg ha] at h
      injection h with h1 _
      rw [← h1]
      simpa using ha
/-- What a number's run is cut into. -/
theorem cutK_num (l : List UInt8) : cutK (l.take (numN l)) = numK l := by
  have hs := split_run isD l
  have ha := takeWhile_all isD l
  have hl : runN isD l = (l.takeWhile isD).length := rfl
  cases hd : l.dropWhile isD with
  | nil =>
    rw [hd, List.append_nil] at hs
    have e1 : numN l = l.length := by unfold numN; rw [hd, hl, hs]
    have e2 : numK l = if wholeL l then 2 else 0 := by unfold numK; rw [hd, hs]
    rw [e1, e2, List.take_length]
    unfold cutK
    have e3 : runN noPt l = l.length := by
      have := run_append noPt l [] (all_mono (fun _ => isD_noPt) (by rw [← hs]; exact ha))
      rw [List.append_nil] at this
      exact this
    rw [e3, if_neg (Nat.lt_irrefl _)]
  | cons c r =>
    by_cases hc : c = 46
    · subst hc
      have e1 : numN l = runN isD l + 1 + runN isD r := by unfold numN; rw [hd]; rfl
      have e2 : numK l = if runN isD r ≠ 0 ∧ runN isD l + runN isD r ≤ 15 then 3 else 0 := by unfold numK; rw [hd]; rfl
      have e3 : l.take (numN l) = l.takeWhile isD ++ 46 :: r.takeWhile isD := by
        rw [e1, hl]
        conv => lhs; arg 2; rw [← hs, hd]
        rw [List.take_append, List.take_of_length_le (by omega), show (l.takeWhile isD).length + 1 + runN isD r - (l.takeWhile isD).length = runN isD r + 1 by omega, List.take_succ_cons, ← takeWhile_take]
      have e4 : runN noPt (l.take (numN l)) = (l.takeWhile isD).length := by
        rw [e3, run_append noPt _ _ (all_mono (fun _ => isD_noPt) ha), run_neg noPt 46 _ (by decide)]
        rfl
      have e5 : (l.take (numN l)).drop ((l.takeWhile isD).length + 1) = r.takeWhile isD := by
        rw [e3, List.drop_append, List.drop_eq_nil_of_le (by omega), List.nil_append, show (l.takeWhile isD).length + 1 - (l.takeWhile isD).length = 1 by omega]
        rfl
      unfold cutK
      rw [e4, e5, e2, if_pos (by rw [e3, List.length_append, List.length_cons]; omega), hl]
      rfl
    · have e1 : numN l = runN isD l := by
        unfold numN
        rw [hd]
        split
        · rename_i e
          injection e with e _
          exact absurd e hc
        · rfl
      have e2 : numK l = if wholeL (l.takeWhile isD) then 2 else 0 := by
        unfold numK
        rw [hd]
        split
        · rename_i e
          injection e with e _
          exact absurd e hc
        · rfl
      have e3 : l.take (numN l) = l.takeWhile isD := by rw [e1, ← takeWhile_take]
      unfold cutK
      rw [e3, e2]
      have e4 : runN noPt (l.takeWhile isD) = (l.takeWhile isD).length := by
        have := run_append noPt (l.takeWhile isD) [] (all_mono (fun _ => isD_noPt) ha)
        rw [List.append_nil] at this
        exact this
      rw [e4, if_neg (Nat.lt_irrefl _)]
theorem extract_take (s : ByteArray) (j n : Nat) : (s.extract j (j + n)).toList = (s.toList.drop j).take n := by
  rw [ByteArray.toList_eq, ByteArray.toList_eq]
  simp
theorem signN_le2 (l : List UInt8) : signN l ≤ 2 := by
  cases l with
  | nil => exact Nat.zero_le _
  | cons c r =>
    rw [signN_cons]
    split
    · exact Nat.le_refl _
    · split <;> omega
theorem extract_two (s : ByteArray) (j n : Nat) (hj : j ≤ s.size) (h : n = min (j + 2) s.size) : (s.extract j n).toList = (s.toList.drop j).take 2 := by
  rw [ByteArray.toList_eq, ByteArray.toList_eq, h]
  simp
  by_cases h2 : j + 2 ≤ s.size
  · rw [Nat.min_eq_left h2, show j + 2 - j = 2 by omega]
  · omega
set_option maxRecDepth 100000 in
set_option maxHeartbeats 4000000 in
theorem behindSign_any (s : ByteArray) (k : Nat) (w : World) (hk : k < s.size) (hs : (s.size : Int) ≤ 4096) : Calls Tryd.prog 25 #[.string s, .int .i64 k] w fun e w' => e = .returned (.int .i64 (k + signN (s.toList.drop k) : Nat)) ∧ w' = w := by
  have ed := drop_at s k hk
  obtain ⟨R, hR⟩ : ∃ R, signN (s.toList.drop k) = R := ⟨_, rfl⟩
  obtain ⟨m, hm⟩ : ∃ m, m = min (k + 2) s.size := ⟨_, rfl⟩
  have e2 := extract_two s k m (by omega) hm
  have HR : Hid ((if twoL.contains (s.extract k m).toList then 2 else if oneL.contains s[k] then 1 else 0) = R) := by
    rw [e2, ← hR, ed]
    exact (signN_cons _ _).symm
  rw [hR]
  have k0 : (0 : Int) ≤ k := by omega
  have k1 : (k : Int) < s.size := by omega
  have m0 : (k : Int) ≤ m := by omega
  have m1 : (m : Int) ≤ s.size := by omega
  have m3 : min ((k : Int) + 2) (s.size : Int) = (m : Int) := by omega
  clear hR ed e2 hm
  have kw : IntKind.i64.wrap ((k : Int) + 2) = (k : Int) + 2 := by rw [IntKind.wrap_i64]; omega
  by_cases hT : (s.extract k m).toList ∈ twoL
  · have e : R = 2 := by rw [← HR.out, if_pos (List.contains_iff_mem.2 hT)]
    subst e
    clear HR
    unfold twoL at hT
    simp only [List.mem_cons, List.not_mem_nil, or_false] at hT
    rcases hT with h | h | h | h | h | h | h
    all_goals (
      go_enter Tryd.func25, Tryd.ntmps25
      go_wp2
      go_ret
      exact ⟨by simp, rfl⟩)
  · have nT : twoL.contains (s.extract k m).toList = false := by rw [← Bool.not_eq_true, List.contains_iff_mem]; exact hT
    unfold twoL at hT
    simp only [List.mem_cons, List.not_mem_nil, or_false, not_or] at hT
    obtain ⟨a0, a1, a2, a3, a4, a5, a6⟩ := hT
    have b0 : ((s.extract k m).toList == [58, 61]) = false := by rw [beq_eq_false_iff_ne]; exact a0
    have b1 : ((s.extract k m).toList == [60, 61]) = false := by rw [beq_eq_false_iff_ne]; exact a1
    have b2 : ((s.extract k m).toList == [62, 61]) = false := by rw [beq_eq_false_iff_ne]; exact a2
    have b3 : ((s.extract k m).toList == [61, 61]) = false := by rw [beq_eq_false_iff_ne]; exact a3
    have b4 : ((s.extract k m).toList == [33, 61]) = false := by rw [beq_eq_false_iff_ne]; exact a4
    have b5 : ((s.extract k m).toList == [38, 38]) = false := by rw [beq_eq_false_iff_ne]; exact a5
    have b6 : ((s.extract k m).toList == [124, 124]) = false := by rw [beq_eq_false_iff_ne]; exact a6
    clear a0 a1 a2 a3 a4 a5 a6
    have HR2 : Hid ((if oneL.contains s[k] then 1 else 0) = R) := by have := HR.out; rw [nT] at this; exact this
    clear HR nT
    by_cases hO : s[k] ∈ oneL
    · have e : R = 1 := by rw [← HR2.out, if_pos (List.contains_iff_mem.2 hO)]
      subst e
      unfold oneL at hO
      simp only [List.mem_cons, List.not_mem_nil, or_false] at hO
      clear HR2
      rcases hO with h | h | h | h | h | h | h | h | h | h | h | h | h | h | h
      all_goals (
        have hx : (s[k].toNat : Int) = _ := congrArg (fun c : UInt8 => (c.toNat : Int)) h
        simp only [UInt8.toNat_ofNat] at hx
        clear h
        go_enter Tryd.func25, Tryd.ntmps25
        go_wp2
        go_ret
        exact ⟨by simp, rfl⟩)
    · have e : R = 0 := by rw [← HR2.out, if_neg (fun h => hO (List.contains_iff_mem.1 h))]
      subst e
      unfold oneL at hO
      simp only [List.mem_cons, List.not_mem_nil, or_false, not_or] at hO
      obtain ⟨a0, a1, a2, a3, a4, a5, a6, a7, a8, a9, a10, a11, a12, a13, a14⟩ := hO
      have ne : ∀ n : UInt8, ¬ s[k] = n → ((s[k].toNat : Int) == (n.toNat : Int)) = false := fun n h => by rw [← byte_eq, beq_eq_false_iff_ne]; exact h
      have d0 : ((s[k].toNat : Int) == 40) = false := ne 40 a0
      have d1 : ((s[k].toNat : Int) == 41) = false := ne 41 a1
      have d2 : ((s[k].toNat : Int) == 123) = false := ne 123 a2
      have d3 : ((s[k].toNat : Int) == 125) = false := ne 125 a3
      have d4 : ((s[k].toNat : Int) == 44) = false := ne 44 a4
      have d5 : ((s[k].toNat : Int) == 59) = false := ne 59 a5
      have d6 : ((s[k].toNat : Int) == 61) = false := ne 61 a6
      have d7 : ((s[k].toNat : Int) == 43) = false := ne 43 a7
      have d8 : ((s[k].toNat : Int) == 45) = false := ne 45 a8
      have d9 : ((s[k].toNat : Int) == 42) = false := ne 42 a9
      have d10 : ((s[k].toNat : Int) == 47) = false := ne 47 a10
      have d11 : ((s[k].toNat : Int) == 37) = false := ne 37 a11
      have d12 : ((s[k].toNat : Int) == 60) = false := ne 60 a12
      have d13 : ((s[k].toNat : Int) == 62) = false := ne 62 a13
      have d14 : ((s[k].toNat : Int) == 33) = false := ne 33 a14
      clear ne HR2 a0 a1 a2 a3 a4 a5 a6 a7 a8 a9 a10 a11 a12 a13 a14
      go_enter Tryd.func25, Tryd.ntmps25
      go_wp2
      go_ret
      exact ⟨by simp, rfl⟩
end Go.Proofs.YthpeckoleiecbaaDoor
