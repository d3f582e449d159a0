/-
  A number's kind: strings.Cut at a point, whole numbers. The word at a place: the program's wordAt. The word at a place: the program's wordAt, whole.
-/
import Derived.Test.YtajoncmmdeahnaaGreatDoorLNu
import Derived.Shelf.RegionOpen
namespace Go.Proofs.YtajoncmmdeahnaaGreatDoor.Lw
open Go.RowKit
theorem less_eq : ∀ a b : List UInt8, (Op.bytesLess a b || a == b) = !Op.bytesLess b a
  | [], [] => rfl
  | [], _ :: _ => rfl
  | _ :: _, [] => rfl
  | a :: x, b :: y => by
    have ih := less_eq x y
    show ((decide (a < b) || (a == b && Op.bytesLess x y)) || (a :: x == b :: y)) = !(decide (b < a) || (b == a && Op.bytesLess y x))
    have e : (a :: x == b :: y) = (a == b && x == y) := rfl
    rw [e]
    by_cases h : a = b
    · subst h
      have n : ¬ a < a := UInt8.lt_irrefl a
      simp only [n, decide_false, beq_self_eq_true, Bool.true_and, Bool.false_or]
      exact ih
    · have e1 : (a == b) = false := by simpa using h
      have e2 : (b == a) = false := by simpa using fun e => h e.symm
      rw [e1, e2]
      simp only [Bool.false_and, Bool.or_false]
      by_cases hl : a < b
      · have : ¬ b < a := by
          rw [UInt8.lt_iff_toNat_lt] at hl ⊢
          omega
        simp [hl, this]
      · have : b < a := by
          have hne : a.toNat ≠ b.toNat := fun e => h (UInt8.toNat_inj.1 e)
          rw [UInt8.lt_iff_toNat_lt] at hl ⊢
          omega
        simp [hl, this]
def noPt (c : UInt8) : Bool := c != 46
theorem index_pt : ∀ l : List UInt8, Lib.indexByte l 46 = if runN noPt l < l.length then (runN noPt l : Int) else -1
  | [] => rfl
  | c :: r => by
    have ih := index_pt r
    unfold Lib.indexByte
    cases h : noPt c with
    | true =>
      rw [run_pos noPt c r h, ih]
      have hc : (c == 46) = false := by simpa [noPt] using h
      rw [hc]
      rw [List.length_cons]
      by_cases hr : runN noPt r < r.length
      · rw [if_pos hr, if_pos (show runN noPt r + 1 < r.length + 1 by omega)]
        have : ((runN noPt r : Int) == -1) = false := by rw [beq_eq_false_iff_ne]; omega
        rw [this]
        simp
      · rw [if_neg hr, if_neg (show ¬ runN noPt r + 1 < r.length + 1 by omega)]
        rfl
    | false =>
      have hc : (c == 46) = true := by simpa [noPt] using h
      rw [run_neg noPt c r h, hc, if_pos rfl, if_pos (by rw [List.length_cons]; omega)]
      rfl
set_option maxHeartbeats 1000000 in
set_option maxRecDepth 100000 in
theorem indexByte_any (s : ByteArray) (c : Int) (w : World) :
    Calls Tryz.prog 226 #[.string s, .int .u8 c] w fun e w' => e = .returned (.int .i64 (Lib.indexByte s.data.toList c.toNat.toUInt8)) ∧ w' = w := by
  go_enter Tryz.func226, Tryz.ntmps226
  go_wp2
  rw [run_callFunc_extern Tryz.func256 (by kernel_rfl) (by kernel_rfl) (by kernel_rfl) (e := Extern.BytealgIndexByte.indexByte) (by kernel_rfl), Lib.run_indexByteString]
  simp only [Result.andThen]
  rw [Oper.upon_value]
  go_wp2
  go_ret
  exact ⟨rfl, rfl⟩
set_option maxHeartbeats 2000000 in
set_option maxRecDepth 100000 in
theorem index_any (s : ByteArray) (w : World) :
    Calls Tryz.prog 194 #[.string s, .string ⟨#[46]⟩] w fun e w' => e = .returned (.int .i64 (Lib.indexByte s.data.toList 46)) ∧ w' = w := by
  go_enter Tryz.func194, Tryz.ntmps194
  go_wp2_with (go_at_call 226; refine (indexByte_any _ _ _).mono ?_; rintro e w' ⟨rfl, rfl⟩)
  · have h : ([46] == s.toList) = true := by assumption
    go_ret
    refine ⟨?_, rfl⟩
    have e : s.data.toList = [46] := by rw [← Lib.toList_data]; exact (beq_iff_eq.1 h).symm
    rw [e]
    simp [Lib.indexByte]
  · go_ret
    exact ⟨rfl, rfl⟩
def ptAt (s : ByteArray) : Nat := runN noPt s.toList
set_option maxHeartbeats 2000000 in
set_option maxRecDepth 100000 in
theorem cut_no (s : ByteArray) (w : World) (h : ¬ ptAt s < s.size) : Calls Tryz.prog 118 #[.string s, .string ⟨#[46]⟩] w fun e w' => e = .returned (.tuple #[.string s, .string ⟨#[]⟩, .bool false]) ∧ w.grownBy w' none := by
  have CI : Hid (∀ W, Calls Tryz.prog 194 #[.string s, .string ⟨#[46]⟩] W fun e w' => e = .returned (.int .i64 (-1)) ∧ w' = W) := fun W => by
    have := index_any s W
    rw [index_pt, ← ByteArray.toList_eq, size_toList, if_neg (show ¬ runN noPt s.toList < s.size from h)] at this
    exact this
  have CC : Hid (∀ W, Calls Tryz.prog 163 #[.string s, .string ⟨#[46]⟩] W fun e w' => e = .returned (.tuple #[.string s, .string ⟨#[]⟩, .bool false]) ∧ W.grownBy w' none) := fun W => by
    go_enter Tryz.func163, Tryz.ntmps163
    go_wp2_with (go_at_call 194; refine (CI.out _).mono ?_; rintro e w1 ⟨rfl, rfl⟩; clear CI)
    go_ret3
    exact ⟨rfl, grown_refl _ _⟩
  go_enter Tryz.func118, Tryz.ntmps118
  go_wp2_with (go_at_call 163; refine (CC.out _).mono ?_; rintro e w1 ⟨rfl, hg⟩; have G1 := hid hg; clear CC hg)
  go_ret3
  exact ⟨rfl, G1.out⟩
set_option maxHeartbeats 2000000 in
set_option maxRecDepth 100000 in
theorem cut_yes (s : ByteArray) (w : World) (h : ptAt s < s.size) (hs : (s.size : Int) ≤ 4096) : Calls Tryz.prog 118 #[.string s, .string ⟨#[46]⟩] w fun e w' => e = .returned (.tuple #[.string (s.extract 0 (ptAt s)), .string (s.extract (ptAt s + 1) s.size), .bool true]) ∧ w.grownBy w' none := by
  have CI : Hid (∀ W, Calls Tryz.prog 194 #[.string s, .string ⟨#[46]⟩] W fun e w' => e = .returned (.int .i64 (ptAt s : Nat)) ∧ w' = W) := fun W => by
    have := index_any s W
    rw [index_pt, ← ByteArray.toList_eq, size_toList, if_pos (show runN noPt s.toList < s.size from h)] at this
    exact this
  generalize ptAt s = i at *
  have c1 : (0 : Int) ≤ ↑i := by omega
  have c2 : (↑i : Int) ≤ ↑s.size := by omega
  have c3 : (0 : Int) ≤ ↑i + 1 := by omega
  have c4 : (↑i + 1 : Int) ≤ ↑s.size := by omega
  have c5 : ((i : Int) + 1).toNat = i + 1 := by omega
  have c6 : IntKind.i64.wrap ((i : Int) + 1) = (i : Int) + 1 := by rw [IntKind.wrap_i64]; omega
  have CC : Hid (∀ W, Calls Tryz.prog 163 #[.string s, .string ⟨#[46]⟩] W fun e w' => e = .returned (.tuple #[.string (s.extract 0 i), .string (s.extract (i + 1) s.size), .bool true]) ∧ W.grownBy w' none) := fun W => by
    go_enter Tryz.func163, Tryz.ntmps163
    go_wp2_with (go_at_call 194; refine (CI.out _).mono ?_; rintro e w1 ⟨rfl, rfl⟩; clear CI)
    go_quiet (fail)
    go_wp2
    go_ret3
    refine ⟨rfl, ?_⟩
    exact grown_drewN (grown_refl _ _) _
  go_enter Tryz.func118, Tryz.ntmps118
  go_wp2_with (go_at_call 163; refine (CC.out _).mono ?_; rintro e w1 ⟨rfl, hg⟩; have G1 := hid hg; clear CC hg)
  go_ret3
  exact ⟨rfl, G1.out⟩
set_option maxRecDepth 100000 in
set_option maxHeartbeats 1000000 in
theorem isWhole_any (s : ByteArray) (w : World) (h0 : 0 < s.size) : Calls Tryz.prog 119 #[.string s] w fun e w' => e = .returned (.bool (wholeL s.toList)) ∧ w' = w := by
  have e : wholeL s.toList = if s[0] = 48 then (s.size == 1) else decide (s.size < 19) || (s.size == 19 && !Op.bytesLess maxW s.toList) := by
    have e1 := drop_at s 0 h0
    rw [List.drop_zero] at e1
    have e2 : (s.toList.drop 1).length + 1 = s.size := by rw [List.length_drop, size_toList]; omega
    conv => lhs; rw [e1]
    show (if s[0] = 48 then (s.toList.drop 1).length == 0 else decide ((s[0] :: s.toList.drop 1).length < 19) || ((s[0] :: s.toList.drop 1).length == 19 && !Op.bytesLess maxW (s[0] :: s.toList.drop 1))) = _
    rw [← e1, size_toList]
    congr 1
    rw [Bool.eq_iff_iff, beq_iff_eq, beq_iff_eq]
    omega
  rw [e]
  clear e
  have i0 : (0 : Int) < s.size := by omega
  have e48 : (s[0] = 48) = ((s[0].toNat : Int) = 48) := propext ⟨fun h => by rw [h]; rfl, fun h => by rw [← UInt8.toNat_inj]; show _ = 48; omega⟩
  by_cases h48 : s[0] = 48
  · rw [if_pos h48]
    rw [e48] at h48
    have t1 : ((s[0].toNat : Int) == 48) = true := by rw [beq_iff_eq]; exact h48
    have t2 : ((s.size : Int) == 1) = (s.size == 1) := by rw [Bool.eq_iff_iff, beq_iff_eq, beq_iff_eq]; omega
    generalize (s.size == 1) = b at *
    clear e48 h48
    go_enter Tryz.func119, Tryz.ntmps119
    go_wp2
    go_ret
    exact ⟨by simp, rfl⟩
  · rw [if_neg h48]
    rw [e48] at h48
    have t1 : ((s[0].toNat : Int) == 48) = false := by rw [beq_eq_false_iff_ne]; exact h48
    generalize hx : Op.bytesLess maxW s.toList = x at *
    have HX := hid hx
    clear e48 h48 hx
    by_cases h19 : s.size < 19
    · have i1 : (s.size : Int) < 19 := by omega
      rw [decide_eq_true h19]
      go_enter Tryz.func119, Tryz.ntmps119
      go_wp2
      go_ret
      exact ⟨rfl, rfl⟩
    · have i1 : ¬ (s.size : Int) < 19 := by omega
      rw [decide_eq_false h19]
      have t2 : ((s.size : Int) == 19) = (s.size == 19) := by rw [Bool.eq_iff_iff, beq_iff_eq, beq_iff_eq]; omega
      cases h20 : (s.size == 19) with
      | true =>
        rw [h20] at t2
        clear h19 h20
        go_enter Tryz.func119, Tryz.ntmps119
        go_wp2
        go_ret
        refine ret_bool ?_
        rw [less_eq]
        show (!Op.bytesLess maxW s.toList) = !x
        rw [HX.out]
      | false =>
        rw [h20] at t2
        clear h19 h20
        go_enter Tryz.func119, Tryz.ntmps119
        go_wp2
        go_ret
        exact ⟨rfl, rfl⟩
def cutK (l : List UInt8) : Nat := if runN noPt l < l.length then (if (l.drop (runN noPt l + 1)).length ≠ 0 ∧ runN noPt l + (l.drop (runN noPt l + 1)).length ≤ 15 then 3 else 0) else if wholeL l then 2 else 0
set_option maxRecDepth 100000 in
set_option maxHeartbeats 1000000 in
theorem numberKind_any (s : ByteArray) (w : World) (h0 : 0 < s.size) (hs : (s.size : Int) ≤ 4096) : Calls Tryz.prog 76 #[.string s] w fun e w' => e = .returned (.int .i64 (cutK s.toList)) ∧ w.grownBy w' none := by
  unfold cutK
  rw [size_toList]
  by_cases h : ptAt s < s.size
  · rw [if_pos (show runN noPt s.toList < s.size from h)]
    have C := hid (cut_yes s w h hs)
    have n1 : (s.extract 0 (ptAt s)).size = ptAt s := by rw [ByteArray.size_extract]; omega
    have n2 : (s.toList.drop (runN noPt s.toList + 1)).length = (s.extract (ptAt s + 1) s.size).size := by
      rw [List.length_drop, size_toList, ByteArray.size_extract, Nat.min_self]; rfl
    rw [n2]
    change Calls _ _ _ _ fun e w' => e = .returned (.int .i64 ((if (s.extract (ptAt s + 1) s.size).size ≠ 0 ∧ ptAt s + (s.extract (ptAt s + 1) s.size).size ≤ 15 then 3 else 0 : Nat) : Int)) ∧ _
    have n3 : (s.extract (ptAt s + 1) s.size).size ≤ 4096 := by rw [ByteArray.size_extract, Nat.min_self]; omega
    clear n2
    generalize s.extract 0 (ptAt s) = a at *
    generalize s.extract (ptAt s + 1) s.size = b at *
    generalize ptAt s = i at *
    subst n1
    have i1 : (a.size : Int) ≤ 4096 := by omega
    have i2 : (b.size : Int) ≤ 4096 := by omega
    by_cases hb : b.size = 0
    · have e1 := toList_nil b hb
      rw [if_neg (fun h => h.1 hb)]
      clear n3 h0 h hs
      go_enter Tryz.func76, Tryz.ntmps76
      go_wp2_with (go_at_call 118; refine C.out.mono ?_; rintro e w1 ⟨rfl, hg⟩; have G1 := hid hg; clear C hg)
      go_ret
      exact ⟨rfl, G1.out⟩
    · have e1 := toList_ne b (by omega)
      have e2 : b.toList.isEmpty = false := by simpa using e1
      by_cases h15 : a.size + b.size ≤ 15
      · rw [if_pos ⟨hb, h15⟩]
        have t1 : (a.size : Int) + b.size ≤ 15 := by omega
        clear n3 h0 h hs hb h15
        go_enter Tryz.func76, Tryz.ntmps76
        go_wp2_with (go_at_call 118; refine C.out.mono ?_; rintro e w1 ⟨rfl, hg⟩; have G1 := hid hg; clear C hg)
        go_ret
        exact ⟨rfl, G1.out⟩
      · rw [if_neg (fun h => h15 h.2)]
        have t1 : ¬ (a.size : Int) + b.size ≤ 15 := by omega
        clear n3 h0 h hs hb h15
        go_enter Tryz.func76, Tryz.ntmps76
        go_wp2_with (go_at_call 118; refine C.out.mono ?_; rintro e w1 ⟨rfl, hg⟩; have G1 := hid hg; clear C hg)
        go_ret
        exact ⟨rfl, G1.out⟩
  · rw [if_neg (show ¬ runN noPt s.toList < s.size from h)]
    have C := hid (cut_no s w h)
    have C2 : Hid (∀ W, Calls Tryz.prog 119 #[.string s] W fun e w' => e = .returned (.bool (wholeL s.toList)) ∧ w' = W) := fun W => isWhole_any s W h0
    generalize wholeL s.toList = x at *
    cases x
    all_goals
      go_enter Tryz.func76, Tryz.ntmps76
      go_wp2_with (first
        | (go_at_call 118; refine C.out.mono ?_; rintro e w1 ⟨rfl, hg⟩; have G1 := hid hg; clear C hg)
        | (go_at_call 119; refine (C2.out _).mono ?_; rintro e w2 ⟨rfl, rfl⟩; clear C2))
      go_ret
      exact ⟨rfl, G1.out⟩
end Go.Proofs.YtajoncmmdeahnaaGreatDoor.Lw
namespace Go.Proofs.YtajoncmmdeahnaaGreatDoor.Lw
open Go.RowKit
theorem run_append (p : UInt8 → Bool) : ∀ (a b : List UInt8), a.all p = true → runN p (a ++ b) = a.length + runN p b
  | [], b, _ => by simp
  | c :: r, b, h => by
    rw [List.all_cons, Bool.and_eq_true] at h
    rw [List.cons_append, run_pos _ _ _ h.1, run_append p r b h.2, List.length_cons]
    omega
theorem isD_noPt {c : UInt8} (h : isD c = true) : noPt c = true := by
  unfold noPt
  rw [bne_iff_ne]
  rintro rfl
  exact absurd h (by decide)
theorem takeWhile_all (p : UInt8 → Bool) (l : List UInt8) : (l.takeWhile p).all p = true := by
  induction l with
  | nil => rfl
  | cons c r ih =>
    cases h : p c with
    | true => rw [List.takeWhile_cons_of_pos h, List.all_cons, h, ih]; rfl
    | false => rw [List.takeWhile_cons_of_neg (by simp [h])]; rfl
theorem all_mono {p q : UInt8 → Bool} (h : ∀ c, p c = true → q c = true) {l : List UInt8} (hl : l.all p = true) : l.all q = true := by
  rw [List.all_eq_true] at hl ⊢
  exact fun x hx => h x (hl x hx)
theorem split_run (p : UInt8 → Bool) (l : List UInt8) : l.takeWhile p ++ l.dropWhile p = l := List.takeWhile_append_dropWhile
theorem cutK_num (l : List UInt8) : cutK (l.take (numN l)) = numK l := by
  have hs := split_run isD l
  have ha := takeWhile_all isD l
  have hl : runN isD l = (l.takeWhile isD).length := rfl
  cases hd : l.dropWhile isD with
  | nil =>
    rw [hd, List.append_nil] at hs
    have e1 : numN l = l.length := by unfold numN; rw [hd, hl, hs]
    have e2 : numK l = if wholeL l then 2 else 0 := by unfold numK; rw [hd, hs]
    rw [e1, e2, List.take_length]
    unfold cutK
    have e3 : runN noPt l = l.length := by
      have := run_append noPt l [] (all_mono (fun _ => isD_noPt) (by rw [← hs]; exact ha))
      rw [List.append_nil] at this
      exact this
    rw [e3, if_neg (Nat.lt_irrefl _)]
  | cons c r =>
    by_cases hc : c = 46
    · subst hc
      have e1 : numN l = runN isD l + 1 + runN isD r := by unfold numN; rw [hd]; rfl
      have e2 : numK l = if runN isD r ≠ 0 ∧ runN isD l + runN isD r ≤ 15 then 3 else 0 := by unfold numK; rw [hd]; rfl
      have e3 : l.take (numN l) = l.takeWhile isD ++ 46 :: r.takeWhile isD := by
        rw [e1, hl]
        conv => lhs; arg 2; rw [← hs, hd]
        rw [List.take_append, List.take_of_length_le (by omega), show (l.takeWhile isD).length + 1 + runN isD r - (l.takeWhile isD).length = runN isD r + 1 by omega, List.take_succ_cons, ← takeWhile_take]
      have e4 : runN noPt (l.take (numN l)) = (l.takeWhile isD).length := by
        rw [e3, run_append noPt _ _ (all_mono (fun _ => isD_noPt) ha), run_neg noPt 46 _ (by decide)]
        rfl
      have e5 : (l.take (numN l)).drop ((l.takeWhile isD).length + 1) = r.takeWhile isD := by
        rw [e3, List.drop_append, List.drop_eq_nil_of_le (by omega), List.nil_append, show (l.takeWhile isD).length + 1 - (l.takeWhile isD).length = 1 by omega]
        rfl
      unfold cutK
      rw [e4, e5, e2, if_pos (by rw [e3, List.length_append, List.length_cons]; omega), hl]
      rfl
    · have e1 : numN l = runN isD l := by
        unfold numN
        rw [hd]
        split
        · rename_i e
          injection e with e _
          exact absurd e hc
        · rfl
      have e2 : numK l = if wholeL (l.takeWhile isD) then 2 else 0 := by
        unfold numK
        rw [hd]
        split
        · rename_i e
          injection e with e _
          exact absurd e hc
        · rfl
      have e3 : l.take (numN l) = l.takeWhile isD := by rw [e1, ← takeWhile_take]
      unfold cutK
      rw [e3, e2]
      have e4 : runN noPt (l.takeWhile isD) = (l.takeWhile isD).length := by
        have := run_append noPt (l.takeWhile isD) [] (all_mono (fun _ => isD_noPt) ha)
        rw [List.append_nil] at this
        exact this
      rw [e4, if_neg (Nat.lt_irrefl _)]
theorem extract_take (s : ByteArray) (j n : Nat) : (s.extract j (j + n)).toList = (s.toList.drop j).take n := by
  rw [ByteArray.toList_eq, ByteArray.toList_eq]
  simp
theorem extract_two (s : ByteArray) (j n : Nat) (hj : j ≤ s.size) (h : n = min (j + 2) s.size) : (s.extract j n).toList = (s.toList.drop j).take 2 := by
  rw [ByteArray.toList_eq, ByteArray.toList_eq, h]
  simp
  by_cases h2 : j + 2 ≤ s.size
  · rw [Nat.min_eq_left h2, show j + 2 - j = 2 by omega]
  · omega
set_option maxRecDepth 100000 in
set_option maxHeartbeats 4000000 in
theorem behindSign_any (s : ByteArray) (k : Nat) (w : World) (hk : k < s.size) (hs : (s.size : Int) ≤ 4096) : Calls Tryz.prog 77 #[.string s, .int .i64 k] w fun e w' => e = .returned (.int .i64 (k + signN (s.toList.drop k) : Nat)) ∧ w' = w := by
  have ed := drop_at s k hk
  obtain ⟨R, hR⟩ : ∃ R, signN (s.toList.drop k) = R := ⟨_, rfl⟩
  obtain ⟨m, hm⟩ : ∃ m, m = min (k + 2) s.size := ⟨_, rfl⟩
  have e2 := extract_two s k m (by omega) hm
  have HR : Hid ((if twoL.contains (s.extract k m).toList then 2 else if oneL.contains s[k] then 1 else 0) = R) := by
    rw [e2, ← hR, ed]
    exact (signN_cons _ _).symm
  rw [hR]
  have k0 : (0 : Int) ≤ k := by omega
  have k1 : (k : Int) < s.size := by omega
  have m0 : (k : Int) ≤ m := by omega
  have m1 : (m : Int) ≤ s.size := by omega
  have m3 : min ((k : Int) + 2) (s.size : Int) = (m : Int) := by omega
  clear hR ed e2 hm
  have kw : IntKind.i64.wrap ((k : Int) + 2) = (k : Int) + 2 := by rw [IntKind.wrap_i64]; omega
  by_cases hT : (s.extract k m).toList ∈ twoL
  · have e : R = 2 := by rw [← HR.out, if_pos (List.contains_iff_mem.2 hT)]
    subst e
    clear HR
    unfold twoL at hT
    simp only [List.mem_cons, List.not_mem_nil, or_false] at hT
    rcases hT with h | h | h | h | h | h | h
    all_goals (
      go_enter Tryz.func77, Tryz.ntmps77
      go_wp2
      go_ret
      exact ⟨by simp, rfl⟩)
  · have nT : twoL.contains (s.extract k m).toList = false := by rw [← Bool.not_eq_true, List.contains_iff_mem]; exact hT
    unfold twoL at hT
    simp only [List.mem_cons, List.not_mem_nil, or_false, not_or] at hT
    obtain ⟨a0, a1, a2, a3, a4, a5, a6⟩ := hT
    have b0 : ((s.extract k m).toList == [58, 61]) = false := by rw [beq_eq_false_iff_ne]; exact a0
    have b1 : ((s.extract k m).toList == [60, 61]) = false := by rw [beq_eq_false_iff_ne]; exact a1
    have b2 : ((s.extract k m).toList == [62, 61]) = false := by rw [beq_eq_false_iff_ne]; exact a2
    have b3 : ((s.extract k m).toList == [61, 61]) = false := by rw [beq_eq_false_iff_ne]; exact a3
    have b4 : ((s.extract k m).toList == [33, 61]) = false := by rw [beq_eq_false_iff_ne]; exact a4
    have b5 : ((s.extract k m).toList == [38, 38]) = false := by rw [beq_eq_false_iff_ne]; exact a5
    have b6 : ((s.extract k m).toList == [124, 124]) = false := by rw [beq_eq_false_iff_ne]; exact a6
    clear a0 a1 a2 a3 a4 a5 a6
    have HR2 : Hid ((if oneL.contains s[k] then 1 else 0) = R) := by have := HR.out; rw [nT] at this; exact this
    clear HR nT
    by_cases hO : s[k] ∈ oneL
    · have e : R = 1 := by rw [← HR2.out, if_pos (List.contains_iff_mem.2 hO)]
      subst e
      unfold oneL at hO
      simp only [List.mem_cons, List.not_mem_nil, or_false] at hO
      clear HR2
      rcases hO with h | h | h | h | h | h | h | h | h | h | h | h | h | h | h
      all_goals (
        have hx : (s[k].toNat : Int) = _ := congrArg (fun c : UInt8 => (c.toNat : Int)) h
        simp only [UInt8.toNat_ofNat] at hx
        clear h
        go_enter Tryz.func77, Tryz.ntmps77
        go_wp2
        go_ret
        exact ⟨by simp, rfl⟩)
    · have e : R = 0 := by rw [← HR2.out, if_neg (fun h => hO (List.contains_iff_mem.1 h))]
      subst e
      unfold oneL at hO
      simp only [List.mem_cons, List.not_mem_nil, or_false, not_or] at hO
      obtain ⟨a0, a1, a2, a3, a4, a5, a6, a7, a8, a9, a10, a11, a12, a13, a14⟩ := hO
      have ne : ∀ n : UInt8, ¬ s[k] = n → ((s[k].toNat : Int) == (n.toNat : Int)) = false := fun n h => by rw [← byte_eq, beq_eq_false_iff_ne]; exact h
      have d0 : ((s[k].toNat : Int) == 40) = false := ne 40 a0
      have d1 : ((s[k].toNat : Int) == 41) = false := ne 41 a1
      have d2 : ((s[k].toNat : Int) == 123) = false := ne 123 a2
      have d3 : ((s[k].toNat : Int) == 125) = false := ne 125 a3
      have d4 : ((s[k].toNat : Int) == 44) = false := ne 44 a4
      have d5 : ((s[k].toNat : Int) == 59) = false := ne 59 a5
      have d6 : ((s[k].toNat : Int) == 61) = false := ne 61 a6
      have d7 : ((s[k].toNat : Int) == 43) = false := ne 43 a7
      have d8 : ((s[k].toNat : Int) == 45) = false := ne 45 a8
      have d9 : ((s[k].toNat : Int) == 42) = false := ne 42 a9
      have d10 : ((s[k].toNat : Int) == 47) = false := ne 47 a10
      have d11 : ((s[k].toNat : Int) == 37) = false := ne 37 a11
      have d12 : ((s[k].toNat : Int) == 60) = false := ne 60 a12
      have d13 : ((s[k].toNat : Int) == 62) = false := ne 62 a13
      have d14 : ((s[k].toNat : Int) == 33) = false := ne 33 a14
      clear ne HR2 a0 a1 a2 a3 a4 a5 a6 a7 a8 a9 a10 a11 a12 a13 a14
      go_enter Tryz.func77, Tryz.ntmps77
      go_wp2
      go_ret
      exact ⟨by simp, rfl⟩
end Go.Proofs.YtajoncmmdeahnaaGreatDoor.Lw
namespace Go.Proofs.YtajoncmmdeahnaaGreatDoor.Lw
open Go.RowKit
theorem numN_pos (c : UInt8) (r : List UInt8) (h : isD c = true) : 1 ≤ numN (c :: r) := by
  unfold numN
  split <;> rw [run_pos _ _ _ h] <;> omega
set_option maxRecDepth 100000 in
set_option maxHeartbeats 2000000 in
theorem wordAt_any (s : ByteArray) (k : Nat) (w : World) (hk : k < s.size) (hs : (s.size : Int) ≤ 4096) :
    Calls Tryz.prog 36 #[.string s, .int .i64 k] w fun e w' => e = .returned (.tuple #[.int .i64 (wordK (s.toList.drop k)), .int .i64 (k + wordN (s.toList.drop k) : Nat)]) ∧ w.grownBy w' none := by
  have ed := drop_at s k hk
  have eK : wordK (s.toList.drop k) = if isL s[k] then nameK ((s.toList.drop k).takeWhile isLD) else if isD s[k] then numK (s.toList.drop k) else if signN (s.toList.drop k) = 0 then 0 else 5 := by
    rw [ed]; exact wordK_cons _ _
  have eN : wordN (s.toList.drop k) = if isL s[k] then runN isLD (s.toList.drop k) else if isD s[k] then numN (s.toList.drop k) else signN (s.toList.drop k) := by
    rw [ed]; exact wordN_cons _ _
  have CL : Hid (∀ W, Calls Tryz.prog 71 #[.int .u8 s[k].toNat] W fun e w' => e = .returned (.bool (isL s[k])) ∧ w' = W) := fun W => isLetter_any s[k] W
  have CD : Hid (∀ W, Calls Tryz.prog 74 #[.int .u8 s[k].toNat] W fun e w' => e = .returned (.bool (isD s[k])) ∧ w' = W) := fun W => isDigit_any s[k] W
  have hs' : (s.size : Int) ≤ 9223372036854775807 := by omega
  have k0 : (0 : Int) ≤ k := by omega
  have k1 : (k : Int) < s.size := by omega
  rw [eK, eN]
  clear eK eN
  cases hL : isL s[k] with
  | true =>
    simp only [if_true]
    rw [hL] at CL
    have CN : Hid (∀ W, Calls Tryz.prog 72 #[.string s, .int .i64 k] W fun e w' => e = .returned (.int .i64 (k + runN isLD (s.toList.drop k) : Nat)) ∧ w' = W) := fun W => behindName_any s k W (by omega) hs'
    have hle := run_le s isLD k (by omega)
    have CK : Hid (∀ W, Calls Tryz.prog 73 #[.string (s.extract k (k + runN isLD (s.toList.drop k)))] W fun e w' => e = .returned (.int .i64 (nameK ((s.toList.drop k).takeWhile isLD) : Nat)) ∧ w' = W) := fun W => by
      have := nameKind_any (s.extract k (k + runN isLD (s.toList.drop k))) W (by rw [ByteArray.size_extract]; omega)
      rw [extract_take, ← takeWhile_take] at this
      exact this
    generalize nameK ((s.toList.drop k).takeWhile isLD) = K at *
    obtain ⟨z, ez⟩ : ∃ z, k + runN isLD (s.toList.drop k) = z := ⟨_, rfl⟩
    rw [ez] at CN CK hle ⊢
    have z0 : (k : Int) ≤ z := by omega
    have z1 : (z : Int) ≤ s.size := by omega
    clear ez hL CD ed
    go_enter Tryz.func36, Tryz.ntmps36
    go_wp2_with (first
      | (go_at_call 71; refine (CL.out _).mono ?_; rintro e w1 ⟨rfl, rfl⟩; clear CL)
      | (go_at_call 72; refine (CN.out _).mono ?_; rintro e w1 ⟨rfl, rfl⟩; clear CN)
      | (go_at_call 73; refine (CK.out _).mono ?_; rintro e w1 ⟨rfl, rfl⟩; clear CK))
    go_ret2
    exact ⟨rfl, grown_refl _ _⟩
  | false =>
    simp only [Bool.false_eq_true, if_false]
    rw [hL] at CL
    cases hD : isD s[k] with
    | true =>
      simp only [if_true]
      rw [hD] at CD
      have CN : Hid (∀ W, Calls Tryz.prog 75 #[.string s, .int .i64 k] W fun e w' => e = .returned (.int .i64 (k + numN (s.toList.drop k) : Nat)) ∧ W.grownBy w' none) := fun W => behindNumber_any s k W (by omega) hs'
      have hle : k + numN (s.toList.drop k) ≤ s.size := by
        have := numN_le (s.toList.drop k)
        rw [List.length_drop, size_toList] at this
        omega
      have hge : 1 ≤ numN (s.toList.drop k) := by rw [ed]; exact numN_pos _ _ hD
      have CK : Hid (∀ W, Calls Tryz.prog 76 #[.string (s.extract k (k + numN (s.toList.drop k)))] W fun e w' => e = .returned (.int .i64 (numK (s.toList.drop k) : Nat)) ∧ W.grownBy w' none) := fun W => by
        have := numberKind_any (s.extract k (k + numN (s.toList.drop k))) W (by rw [ByteArray.size_extract]; omega) (by rw [ByteArray.size_extract]; omega)
        rw [extract_take, cutK_num] at this
        exact this
      generalize numK (s.toList.drop k) = K at *
      obtain ⟨z, ez⟩ : ∃ z, k + numN (s.toList.drop k) = z := ⟨_, rfl⟩
      rw [ez] at CN CK hle ⊢
      have z0 : (k : Int) ≤ z := by omega
      have z1 : (z : Int) ≤ s.size := by omega
      clear ez hL hD ed hge
      go_enter Tryz.func36, Tryz.ntmps36
      go_wp2_with (first
        | (go_at_call 71; refine (CL.out _).mono ?_; rintro e w1 ⟨rfl, rfl⟩; clear CL)
        | (go_at_call 74; refine (CD.out _).mono ?_; rintro e w1 ⟨rfl, rfl⟩; clear CD)
        | (go_at_call 75; refine (CN.out _).mono ?_; rintro e w1 ⟨rfl, hg⟩; have G1 := hid hg; clear CN hg)
        | (go_at_call 76; refine (CK.out _).mono ?_; rintro e w2 ⟨rfl, hg⟩; have G2 := hid (grown_none G1.out hg); clear CK hg))
      go_ret2
      exact ⟨rfl, G2.out⟩
    | false =>
      simp only [Bool.false_eq_true, if_false]
      rw [hD] at CD
      have CS : Hid (∀ W, Calls Tryz.prog 77 #[.string s, .int .i64 k] W fun e w' => e = .returned (.int .i64 (k + signN (s.toList.drop k) : Nat)) ∧ w' = W) := fun W => behindSign_any s k W hk hs
      generalize signN (s.toList.drop k) = m at *
      clear hL hD ed
      by_cases hm : m = 0
      · subst hm
        rw [Nat.add_zero] at CS ⊢
        rw [if_pos rfl]
        go_enter Tryz.func36, Tryz.ntmps36
        go_wp2_with (first
          | (go_at_call 71; refine (CL.out _).mono ?_; rintro e w1 ⟨rfl, rfl⟩; clear CL)
          | (go_at_call 74; refine (CD.out _).mono ?_; rintro e w1 ⟨rfl, rfl⟩; clear CD)
          | (go_at_call 77; refine (CS.out _).mono ?_; rintro e w1 ⟨rfl, rfl⟩; clear CS))
        go_ret2
        exact ⟨rfl, grown_refl _ _⟩
      · rw [if_neg hm]
        obtain ⟨z, ez⟩ : ∃ z, k + m = z := ⟨_, rfl⟩
        rw [ez] at CS ⊢
        have z0 : (k : Int) < z := by omega
        clear ez hm
        go_enter Tryz.func36, Tryz.ntmps36
        go_wp2_with (first
          | (go_at_call 71; refine (CL.out _).mono ?_; rintro e w1 ⟨rfl, rfl⟩; clear CL)
          | (go_at_call 74; refine (CD.out _).mono ?_; rintro e w1 ⟨rfl, rfl⟩; clear CD)
          | (go_at_call 77; refine (CS.out _).mono ?_; rintro e w1 ⟨rfl, rfl⟩; clear CS))
        go_ret2
        exact ⟨rfl, grown_refl _ _⟩
end Go.Proofs.YtajoncmmdeahnaaGreatDoor.Lw
