/-
  strings.Cut at a point; strconv.Itoa of a digit; math.IsNaN of a quotient.
-/
import Derived.Test.YtdodammplhlihaaGreatDoorTm
namespace Go.Proofs.YtdodammplhlihaaGreatDoor
open Go.RowKit
theorem ix_pt : ∀ (A B : List UInt8), (∀ c ∈ A, isD c) → Lib.indexByte (A ++ 46 :: B) 46 = A.length
  | [], B, _ => by simp [Lib.indexByte]
  | c :: r, B, h => by
    have ih := ix_pt r B (fun x hx => h x (by simp [hx]))
    have hc := h c (by simp)
    have hn : (c == 46) = false := by
      rw [beq_eq_false_iff_ne]
      intro e
      subst e
      exact absurd hc.1 (by decide)
    rw [List.cons_append]
    unfold Lib.indexByte
    rw [hn, ih]
    have : ((r.length : Int) == -1) = false := by rw [beq_eq_false_iff_ne]; omega
    rw [this]
    simp
set_option maxHeartbeats 1000000 in
set_option maxRecDepth 100000 in
theorem indexByte_any (s : ByteArray) (c : Int) (w : World) :
    Calls Tryz.prog 69 #[.string s, .int .u8 c] w fun e w' => e = .returned (.int .i64 (Lib.indexByte s.data.toList c.toNat.toUInt8)) ∧ w' = w := by
  go_enter Tryz.func69, Tryz.ntmps69
  go_wp2
  rw [run_callFunc_extern Tryz.func98 (by kernel_rfl) (by kernel_rfl) (by kernel_rfl) (e := Extern.BytealgIndexByte.indexByte) (by kernel_rfl), Lib.run_indexByteString]
  simp only [Result.andThen]
  rw [Oper.upon_value]
  go_wp2
  go_ret
  exact ⟨rfl, rfl⟩
set_option maxHeartbeats 2000000 in
set_option maxRecDepth 100000 in
theorem index_any (s : ByteArray) (w : World) :
    Calls Tryz.prog 51 #[.string s, .string ⟨#[46]⟩] w fun e w' => e = .returned (.int .i64 (Lib.indexByte s.data.toList 46)) ∧ w' = w := by
  go_enter Tryz.func51, Tryz.ntmps51
  go_wp2_with (go_at_call 69; refine (indexByte_any _ _ _).mono ?_; rintro e w' ⟨rfl, rfl⟩)
  · have h : ([46] == s.toList) = true := by assumption
    go_ret
    refine ⟨?_, rfl⟩
    have e : s.data.toList = [46] := by rw [← Lib.toList_data]; exact (beq_iff_eq.1 h).symm
    rw [e]
    simp [Lib.indexByte]
  · go_ret
    exact ⟨rfl, rfl⟩
set_option maxHeartbeats 2000000 in
set_option maxRecDepth 100000 in
theorem cut_any (A B : List UInt8) (w : World) (hA : ∀ c ∈ A, isD c) (hl : A.length + B.length ≤ 100) : Calls Tryz.prog 16 #[.string (mkS (A ++ 46 :: B)), .string ⟨#[46]⟩] w fun e w' => e = .returned (.tuple #[.string (mkS A), .string (mkS B), .bool true]) ∧ w.grownBy w' none := by
  have CI : Hid (∀ W, Calls Tryz.prog 51 #[.string (mkS (A ++ 46 :: B)), .string ⟨#[46]⟩] W fun e w' => e = .returned (.int .i64 A.length) ∧ w' = W) := fun W => by
    have := index_any (mkS (A ++ 46 :: B)) W
    rw [mkS_data, ix_pt A B hA] at this
    exact this
  have sz : (mkS (A ++ 46 :: B)).size = A.length + (B.length + 1) := by rw [mkS_size]; simp
  have e1 : (mkS (A ++ 46 :: B)).extract 0 A.length = mkS A := by rw [ext_mk]; simp
  have e2 : (mkS (A ++ 46 :: B)).extract (A.length + 1) (mkS (A ++ 46 :: B)).size = mkS B := by rw [sz, ext_mk, List.take_of_length_le (by simp)]; simp
  obtain ⟨S, hS⟩ : ∃ S, mkS (A ++ 46 :: B) = S := ⟨_, rfl⟩
  rw [hS] at CI sz e1 e2 ⊢
  obtain ⟨i, hi⟩ : ∃ i, A.length = i := ⟨_, rfl⟩
  rw [hi] at CI sz e1 e2 hl
  have c1 : (0 : Int) ≤ ↑i := by omega
  have c2 : (↑i : Int) ≤ ↑S.size := by omega
  have c3 : (0 : Int) ≤ ↑i + 1 := by omega
  have c4 : (↑i + 1 : Int) ≤ ↑S.size := by omega
  have c5 : ((i : Int) + 1).toNat = i + 1 := by omega
  have c6 : IntKind.i64.wrap ((i : Int) + 1) = (i : Int) + 1 := by rw [IntKind.wrap_i64]; omega
  have c7 : (↑i : Int) ≤ 100 := by omega
  clear sz hS hi hA
  have CC : Hid (∀ W, Calls Tryz.prog 34 #[.string S, .string ⟨#[46]⟩] W fun e w' => e = .returned (.tuple #[.string (mkS A), .string (mkS B), .bool true]) ∧ W.grownBy w' none) := fun W => by
    go_enter Tryz.func34, Tryz.ntmps34
    go_wp2_with (go_at_call 51; refine (CI.out _).mono ?_; rintro e w1 ⟨rfl, rfl⟩; clear CI)
    go_quiet (fail)
    go_wp2
    go_ret3
    refine ⟨rfl, ?_⟩
    exact grown_drewN (grown_refl _ _) _
  go_enter Tryz.func16, Tryz.ntmps16
  go_wp2_with (go_at_call 34; refine (CC.out _).mono ?_; rintro e w1 ⟨rfl, hg⟩; have G1 := hid hg; clear CC hg)
  go_ret3
  exact ⟨rfl, G1.out⟩
set_option maxRecDepth 100000 in
set_option maxHeartbeats 1000000 in
theorem small_any (x : Nat) (w : World) (x0 : 1 ≤ x) (x1 : x ≤ 8) : Calls Tryz.prog 18 #[.int .i64 x] w fun e w' => e = .returned (.string ⟨#[UInt8.ofNat (48 + x)]⟩) ∧ w' = w := by
  have : x = 1 ∨ x = 2 ∨ x = 3 ∨ x = 4 ∨ x = 5 ∨ x = 6 ∨ x = 7 ∨ x = 8 := by omega
  have C78 : Hid (Calls Tryz.prog 78 #[.int .i64 x] w fun e w' => e = .returned (.string ⟨#[UInt8.ofNat (48 + x)]⟩) ∧ w' = w) := by
    rcases this with rfl | rfl | rfl | rfl | rfl | rfl | rfl | rfl <;>
    · go_enter Tryz.func78, Tryz.ntmps78
      go_wp2
      go_ret
      exact ⟨rfl, rfl⟩
  have a0 : (0 : Int) ≤ x := by omega
  have a1 : (x : Int) < 100 := by omega
  generalize (UInt8.ofNat (48 + x)) = c at *
  clear this x0 x1
  have C54 : Hid (Calls Tryz.prog 54 #[.int .i64 x, .int .i64 10] w fun e w' => e = .returned (.string ⟨#[c]⟩) ∧ w' = w) := by
    go_enter Tryz.func54, Tryz.ntmps54
    go_wp2_with (go_at_call 78; refine C78.out.mono ?_; clear C78; rintro e w1 ⟨rfl, hw⟩; have hw2 := hw.symm; clear hw; subst hw2)
    go_ret
    exact ⟨rfl, rfl⟩
  have C36 : Hid (Calls Tryz.prog 36 #[.int .i64 x] w fun e w' => e = .returned (.string ⟨#[c]⟩) ∧ w' = w) := by
    go_enter Tryz.func36, Tryz.ntmps36
    go_wp2_with (go_at_call 54; refine C54.out.mono ?_; clear C54; rintro e w1 ⟨rfl, hw⟩; have hw2 := hw.symm; clear hw; subst hw2)
    go_ret
    exact ⟨rfl, rfl⟩
  go_enter Tryz.func18, Tryz.ntmps18
  go_wp2_with (go_at_call 36; refine C36.out.mono ?_; clear C36; rintro e w1 ⟨rfl, hw⟩; have hw2 := hw.symm; clear hw; subst hw2)
  go_ret
  exact ⟨rfl, rfl⟩
end Go.Proofs.YtdodammplhlihaaGreatDoor
