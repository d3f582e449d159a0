/-
  A number's kind: strings.Cut at a point, whole numbers.
-/
import Derived.Test.YthpeckoleiecbaaDoorNu
import Derived.Shelf.RegionOpen
namespace Go.Proofs.YthpeckoleiecbaaDoor
open Go.RowKit
theorem less_eq : ∀ a b : List UInt8, (Op.bytesLess a b || a == b) = !Op.bytesLess b a
  | [], [] => rfl
  | [], _ :: _ => rfl
  | _ :: _, [] => rfl
  | a :: x, b :: y => by
    have ih := less_eq x y
    show ((decide (a < b) || (a == b && Op.bytesLess x y)) || (a :: x == b :: y)) = !(decide (b < a) || (b == a && Op.bytesLess y x))
    have e : (a :: x == b :: y) = (a == b && x == y) := rfl
    rw [e]
    by_cases h : a = b
    · subst h
      have n : ¬ a < a := UInt8.lt_irrefl a
      simp only [n, decide_false, beq_self_eq_true, Bool.true_and, Bool.false_or]
      exact ih
    · have e1 : (a == b) = false := by simpa using h
      have e2 : (b == a) = false := by simpa using fun e => h e.symm
      rw [e1, e2]
      simp only [Bool.false_and, Bool.or_false]
      by_cases hl : a < b
      · have : ¬ b < a := by
          rw [UInt8.lt_iff_toNat_lt] at hl ⊢
          omega
        simp [hl, this]
      · have : b < a := by
          have hne : a.toNat ≠ b.toNat := fun e => h (UInt8.toNat_inj.1 e)
          rw [UInt8.lt_iff_toNat_lt] at hl ⊢
          omega
        simp [hl, this]
def noPt (c : UInt8) : Bool := c != 46
theorem index_pt : ∀ l : List UInt8, Lib.indexByte l 46 = if runN noPt l < l.length then (runN noPt l : Int) else -1
  | [] => rfl
  | c :: r => by
    have ih := index_pt r
    unfold Lib.indexByte
    cases h : noPt c with
    | true =>
      rw [run_pos noPt c r h, ih]
      have hc : (c == 46) = false := by simpa [noPt] using h
      rw [hc]
      rw [List.length_cons]
      by_cases hr : runN noPt r < r.length
      · rw [if_pos hr, if_pos (show runN noPt r + 1 < r.length + 1 by omega)]
        have : ((runN noPt r : Int) == -1) = false := by rw [beq_eq_false_iff_ne]; omega
        rw [this]
        simp
      · rw [if_neg hr, if_neg (show ¬ runN noPt r + 1 < r.length + 1 by omega)]
        rfl
    | false =>
      have hc : (c == 46) = true := by simpa [noPt] using h
      rw [run_neg noPt c r h, hc, if_pos rfl, if_pos (by rw [List.length_cons]; omega)]
      rfl
set_option maxHeartbeats 1000000 in
set_option maxRecDepth 100000 in
theorem indexByte_any (s : ByteArray) (c : Int) (w : World) :
    Calls Tryd.prog 43 #[.string s, .int .u8 c] w fun e w' => e = .returned (.int .i64 (Lib.indexByte s.data.toList c.toNat.toUInt8)) ∧ w' = w := by
  go_enter Tryd.func43, Tryd.ntmps43
  go_wp2
  rw [run_callFunc_extern Tryd.func47 (by kernel_rfl) (by kernel_rfl) (by kernel_rfl) (e := Extern.BytealgIndexByte.indexByte) (by kernel_rfl), Lib.run_indexByteString]
  simp only [Result.andThen]
  rw [Oper.upon_value]
  go_wp2
  go_ret
  exact ⟨rfl, rfl⟩
set_option maxHeartbeats 2000000 in
set_option maxRecDepth 100000 in
theorem index_any (s : ByteArray) (w : World) :
    Calls Tryd.prog 42 #[.string s, .string ⟨#[46]⟩] w fun e w' => e = .returned (.int .i64 (Lib.indexByte s.data.toList 46)) ∧ w' = w := by
  go_enter Tryd.func42, Tryd.ntmps42
  go_wp2_with (go_at_call 43; refine (indexByte_any _ _ _).mono ?_; rintro e w' ⟨rfl, rfl⟩)
  · have h : ([46] == s.toList) = true := by assumption
    go_ret
    refine ⟨?_, rfl⟩
    have e : s.data.toList = [46] := by rw [← Lib.toList_data]; exact (beq_iff_eq.1 h).symm
    rw [e]
    simp [Lib.indexByte]
  · go_ret
    exact ⟨rfl, rfl⟩
def ptAt (s : ByteArray) : Nat := runN noPt s.toList
set_option maxHeartbeats 2000000 in
set_option maxRecDepth 100000 in
theorem cut_no (s : ByteArray) (w : World) (h : ¬ ptAt s < s.size) : Calls Tryd.prog 37 #[.string s, .string ⟨#[46]⟩] w fun e w' => e = .returned (.tuple #[.string s, .string ⟨#[]⟩, .bool false]) ∧ w.grownBy w' none := by
  have CI : Hid (∀ W, Calls Tryd.prog 42 #[.string s, .string ⟨#[46]⟩] W fun e w' => e = .returned (.int .i64 (-1)) ∧ w' = W) := fun W => by
    have := index_any s W
    rw [index_pt, ← ByteArray.toList_eq, size_toList, if_neg (show ¬ runN noPt s.toList < s.size from h)] at this
    exact this
  have CC : Hid (∀ W, Calls Tryd.prog 41 #[.string s, .string ⟨#[46]⟩] W fun e w' => e = .returned (.tuple #[.string s, .string ⟨#[]⟩, .bool false]) ∧ W.grownBy w' none) := fun W => by
    go_enter Tryd.func41, Tryd.ntmps41
    go_wp2_with (go_at_call 42; refine (CI.out _).mono ?_; rintro e w1 ⟨rfl, rfl⟩; clear CI)
    go_ret3
    exact ⟨rfl, grown_refl _ _⟩
  go_enter Tryd.func37, Tryd.ntmps37
  go_wp2_with (go_at_call 41; refine (CC.out _).mono ?_; rintro e w1 ⟨rfl, hg⟩; have G1 := hid hg; clear CC hg)
  go_ret3
  exact ⟨rfl, G1.out⟩
set_option maxHeartbeats 2000000 in
set_option maxRecDepth 100000 in
theorem cut_yes (s : ByteArray) (w : World) (h : ptAt s < s.size) (hs : (s.size : Int) ≤ 4096) : Calls Tryd.prog 37 #[.string s, .string ⟨#[46]⟩] w fun e w' => e = .returned (.tuple #[.string (s.extract 0 (ptAt s)), .string (s.extract (ptAt s + 1) s.size), .bool true]) ∧ w.grownBy w' none := by
  have CI : Hid (∀ W, Calls Tryd.prog 42 #[.string s, .string ⟨#[46]⟩] W fun e w' => e = .returned (.int .i64 (ptAt s : Nat)) ∧ w' = W) := fun W => by
    have := index_any s W
    rw [index_pt, ← ByteArray.toList_eq, size_toList, if_pos (show runN noPt s.toList < s.size from h)] at this
    exact this
  generalize ptAt s = i at *
  have c1 : (0 : Int) ≤ ↑i := by omega
  have c2 : (↑i : Int) ≤ ↑s.size := by omega
  have c3 : (0 : Int) ≤ ↑i + 1 := by omega
  have c4 : (↑i + 1 : Int) ≤ ↑s.size := by omega
  have c5 : ((i : Int) + 1).toNat = i + 1 := by omega
  have c6 : IntKind.i64.wrap ((i : Int) + 1) = (i : Int) + 1 := by rw [IntKind.wrap_i64]; omega
  have CC : Hid (∀ W, Calls Tryd.prog 41 #[.string s, .string ⟨#[46]⟩] W fun e w' => e = .returned (.tuple #[.string (s.extract 0 i), .string (s.extract (i + 1) s.size), .bool true]) ∧ W.grownBy w' none) := fun W => by
    go_enter Tryd.func41, Tryd.ntmps41
    go_wp2_with (go_at_call 42; refine (CI.out _).mono ?_; rintro e w1 ⟨rfl, rfl⟩; clear CI)
    go_quiet (fail)
    go_wp2
    go_ret3
    refine ⟨rfl, ?_⟩
    exact grown_drewN (grown_refl _ _) _
  go_enter Tryd.func37, Tryd.ntmps37
  go_wp2_with (go_at_call 41; refine (CC.out _).mono ?_; rintro e w1 ⟨rfl, hg⟩; have G1 := hid hg; clear CC hg)
  go_ret3
  exact ⟨rfl, G1.out⟩
set_option maxRecDepth 100000 in
set_option maxHeartbeats 1000000 in
theorem isWhole_any (s : ByteArray) (w : World) (h0 : 0 < s.size) : Calls Tryd.prog 38 #[.string s] w fun e w' => e = .returned (.bool (wholeL s.toList)) ∧ w' = w := by
  have e : wholeL s.toList = if s[0] = 48 then (s.size == 1) else decide (s.size < 19) || (s.size == 19 && !Op.bytesLess maxW s.toList) := by
    have e1 := drop_at s 0 h0
    rw [List.drop_zero] at e1
    have e2 : (s.toList.drop 1).length + 1 = s.size := by rw [List.length_drop, size_toList]; omega
    conv => lhs; rw [e1]
    show (if s[0] = 48 then (s.toList.drop 1).length == 0 else decide ((s[0] :: s.toList.drop 1).length < 19) || ((s[0] :: s.toList.drop 1).length == 19 && !Op.bytesLess maxW (s[0] :: s.toList.drop 1))) = _
    rw [← e1, size_toList]
    congr 1
    rw [Bool.eq_iff_iff, beq_iff_eq, beq_iff_eq]
    omega
  rw [e]
  clear e
  have i0 : (0 : Int) < s.size := by omega
  have e48 : (s[0] = 48) = ((s[0].toNat : Int) = 48) := propext ⟨fun h => by rw [h]; rfl, fun h => by rw [← UInt8.toNat_inj]; show _ = 48; omega⟩
  by_cases h48 : s[0] = 48
  · rw [if_pos h48]
    rw [e48] at h48
    have t1 : ((s[0].toNat : Int) == 48) = true := by rw [beq_iff_eq]; exact h48
    have t2 : ((s.size : Int) == 1) = (s.size == 1) := by rw [Bool.eq_iff_iff, beq_iff_eq, beq_iff_eq]; omega
    generalize (s.size == 1) = b at *
    clear e48 h48
    go_enter Tryd.func38, Tryd.ntmps38
    go_wp2
    go_ret
    exact ⟨by simp, rfl⟩
  · rw [if_neg h48]
    rw [e48] at h48
    have t1 : ((s[0].toNat : Int) == 48) = false := by rw [beq_eq_false_iff_ne]; exact h48
    generalize hx : Op.bytesLess maxW s.toList = x at *
    have HX := hid hx
    clear e48 h48 hx
    by_cases h19 : s.size < 19
    · have i1 : (s.size : Int) < 19 := by omega
      rw [decide_eq_true h19]
      go_enter Tryd.func38, Tryd.ntmps38
      go_wp2
      go_ret
      exact ⟨rfl, rfl⟩
    · have i1 : ¬ (s.size : Int) < 19 := by omega
      rw [decide_eq_false h19]
      have t2 : ((s.size : Int) == 19) = (s.size == 19) := by rw [Bool.eq_iff_iff, beq_iff_eq, beq_iff_eq]; omega
      cases h20 : (s.size == 19) with
      | true =>
        rw [h20] at t2
        clear h19 h20
        go_enter Tryd.func38, Tryd.ntmps38
        go_wp2
        go_ret
        refine ret_bool ?_
        rw [less_eq]
        show (!Op.bytesLess maxW s.toList) = !x
        rw [HX.out]
      | false =>
        rw [h20] at t2
        clear h19 h20
        go_enter Tryd.func38, Tryd.ntmps38
        go_wp2
        go_ret
        exact ⟨rfl, rfl⟩
/-- The kind of digits with perhaps a point, cut there. -/
def cutK (l : List UInt8) : Nat := if runN noPt l < l.length then (if (l.drop (runN noPt l + 1)).length ≠ 0 ∧ runN noPt l + (l.drop (runN noPt l + 1)).length ≤ 15 then 3 else 0) else if wholeL l then 2 else 0
set_option maxRecDepth 100000 in
set_option maxHeartbeats 1000000 in
theorem numberKind_any (s : ByteArray) (w : World) (h0 : 0 < s.size) (hs : (s.size : Int) ≤ 4096) : Calls Tryd.prog 24 #[.string s] w fun e w' => e = .returned (.int .i64 (cutK s.toList)) ∧ w.grownBy w' none := by
  unfold cutK
  rw [size_toList]
  by_cases h : ptAt s < s.size
  · rw [if_pos (show runN noPt s.toList < s.size from h)]
    have C := hid (cut_yes s w h hs)
    have n1 : (s.extract 0 (ptAt s)).size = ptAt s := by rw [ByteArray.size_extract]; omega
    have n2 : (s.toList.drop (runN noPt s.toList + 1)).length = (s.extract (ptAt s + 1) s.size).size := by
      rw [List.length_drop, size_toList, ByteArray.size_extract, Nat.min_self]; rfl
    rw [n2]
    change Calls _ _ _ _ fun e w' => e = .returned (.int .i64 ((if (s.extract (ptAt s + 1) s.size).size ≠ 0 ∧ ptAt s + (s.extract (ptAt s + 1) s.size).size ≤ 15 then 3 else 0 : Nat) : Int)) ∧ _
    have n3 : (s.extract (ptAt s + 1) s.size).size ≤ 4096 := by rw [ByteArray.size_extract, Nat.min_self]; omega
    clear n2
    generalize s.extract 0 (ptAt s) = a at *
    generalize s.extract (ptAt s + 1) s.size = b at *
    generalize ptAt s = i at *
    subst n1
    have i1 : (a.size : Int) ≤ 4096 := by omega
    have i2 : (b.size : Int) ≤ 4096 := by omega
    by_cases hb : b.size = 0
    · have e1 := toList_nil b hb
      rw [if_neg (fun h => h.1 hb)]
      clear n3 h0 h hs
      go_enter Tryd.func24, Tryd.ntmps24
      go_wp2_with (go_at_call 37; refine C.out.mono ?_; rintro e w1 ⟨rfl, hg⟩; have G1 := hid hg; clear C hg)
      go_ret
      exact ⟨rfl, G1.out⟩
    · have e1 := toList_ne b (by omega)
      have e2 : b.toList.isEmpty = false := by simpa using e1
      by_cases h15 : a.size + b.size ≤ 15
      · rw [if_pos ⟨hb, h15⟩]
        have t1 : (a.size : Int) + b.size ≤ 15 := by omega
        clear n3 h0 h hs hb h15
        go_enter Tryd.func24, Tryd.ntmps24
        go_wp2_with (go_at_call 37; refine C.out.mono ?_; rintro e w1 ⟨rfl, hg⟩; have G1 := hid hg; clear C hg)
        go_ret
        exact ⟨rfl, G1.out⟩
      · rw [if_neg (fun h => h15 h.2)]
        have t1 : ¬ (a.size : Int) + b.size ≤ 15 := by omega
        clear n3 h0 h hs hb h15
        go_enter Tryd.func24, Tryd.ntmps24
        go_wp2_with (go_at_call 37; refine C.out.mono ?_; rintro e w1 ⟨rfl, hg⟩; have G1 := hid hg; clear C hg)
        go_ret
        exact ⟨rfl, G1.out⟩
  · rw [if_neg (show ¬ runN noPt s.toList < s.size from h)]
    have C := hid (cut_no s w h)
    have C2 : Hid (∀ W, Calls Tryd.prog 38 #[.string s] W fun e w' => e = .returned (.bool (wholeL s.toList)) ∧ w' = W) := fun W => isWhole_any s W h0
    generalize wholeL s.toList = x at *
    cases x
    all_goals
      go_enter Tryd.func24, Tryd.ntmps24
      go_wp2_with (first
        | (go_at_call 37; refine C.out.mono ?_; rintro e w1 ⟨rfl, hg⟩; have G1 := hid hg; clear C hg)
        | (go_at_call 38; refine (C2.out _).mono ?_; rintro e w2 ⟨rfl, rfl⟩; clear C2))
      go_ret
      exact ⟨rfl, G1.out⟩
end Go.Proofs.YthpeckoleiecbaaDoor
