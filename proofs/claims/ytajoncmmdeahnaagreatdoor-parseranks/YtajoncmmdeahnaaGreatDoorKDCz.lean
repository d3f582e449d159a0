/-
  strings.TrimLeft, TrimRight of noughts, strings.Cut at a point, strconv.Itoa of a digit; orNought. strings.Cut at a point; strconv.Itoa of a digit; math.IsNaN of a quotient.
-/
import Derived.Test.YtajoncmmdeahnaaGreatDoorKDPf
import Derived.Lib.Bytealg
import Derived.Lib.Strings
import Derived.Lib.Walk
import Derived.Shelf.RegionOpen
import Derived.BigQuiet
import Derived.Deep.QuietTactic
import Derived.OwnWalk
namespace Go.Proofs.YtajoncmmdeahnaaGreatDoor.Dg
open Go.RowKit
def strLen : Value → Nat
  | .string s => s.size
  | _ => 0
theorem bytes_ext {a b : ByteArray} (h : a.data.toList = b.data.toList) : a = b := ByteArray.ext (Array.toList_inj.1 h)
theorem mkS_data (l : List UInt8) : (mkS l).data.toList = l := by simp [mkS]
theorem ext_mk (l : List UInt8) (i j : Nat) : (mkS l).extract i j = mkS ((l.take j).drop i) := by
  apply bytes_ext
  rw [mkS_data]
  simp [mkS, List.take_drop]
  by_cases h : i ≤ j
  · rw [show i + (j - i) = j by omega]
  · rw [List.drop_eq_nil_of_le (by rw [List.length_take]; omega), List.drop_eq_nil_of_le (by rw [List.length_take]; omega)]
theorem mkS_get (l : List UInt8) (k : Nat) (h : k < (mkS l).size) : (mkS l)[k]'h = l[k]'(by rw [mkS_size] at h; exact h) := by
  have := toL_get (mkS l) k h
  simp only [mkS_data] at this
  exact this.symm
theorem grown_drewN {w w' : World} {row : Option Nat} (h : w.grownBy w' row) (n : Nat) : w.grownBy (w'.drewN n) row := ⟨h.os, h.tape, h.output, h.size, h.block⟩
def z0 (c : UInt8) : Bool := c == 48
def trimL (l : List UInt8) : List UInt8 := l.dropWhile z0
def trimR (l : List UInt8) : List UInt8 := (l.reverse.dropWhile z0).reverse
def StP (l : List UInt8) (w : World) (e : Ending) (w' : World) : Prop := e = .returned (.string (mkS l)) ∧ w' = w
theorem z0_iff (c : UInt8) : z0 c = ((c.toNat : Int) == 48) := by
  unfold z0
  rw [Bool.eq_iff_iff, beq_iff_eq, beq_iff_eq, ← UInt8.toNat_inj]
  show _ = 48 ↔ _
  omega
set_option maxRecDepth 100000 in
set_option maxHeartbeats 1000000 in
theorem trimLB_any (l : List UInt8) (w : World) : Calls Tryz.prog 202 #[.string (mkS l), .int .u8 48] w (StP (trimL l) w) := by
  go_enter Tryz.func202, Tryz.ntmps202
  go_wp2
  go_loop [0] (fun v => ∃ r : List UInt8, v = .string (mkS r) ∧ r.length ≤ l.length ∧ trimL r = trimL l) (fun v => strLen v)
  case atStart => exact ⟨l, rfl, Nat.le_refl _, rfl⟩
  case round =>
    obtain ⟨r, rfl, hr, ht⟩ := hrel
    have HT := hid ht
    cases r with
    | nil =>
      clear ht
      go_wp2
      go_ret
      exact ⟨by rw [← HT.out]; rfl, rfl⟩
    | cons c r =>
      have n0 : 0 < (mkS (c :: r)).size := by rw [mkS_size]; exact Nat.succ_pos _
      have g0 : ((mkS (c :: r))[0]'n0).toNat = c.toNat := by rw [mkS_get]; rfl
      have hne : ¬ mkS (c :: r) = ByteArray.empty := fun e => by rw [e] at n0; exact absurd n0 (by decide)
      have sz : ((mkS (c :: r)).size : Int) = r.length + 1 := by rw [mkS_size]; simp
      have i0 : (0 : Int) < (mkS (c :: r)).size := by omega
      have i1 : (1 : Int) ≤ (mkS (c :: r)).size := by omega
      have ex := ext_mk (c :: r) 1 (mkS (c :: r)).size
      rw [mkS_size, List.length_cons, List.take_of_length_le (by simp)] at ex
      have ex2 : (mkS (c :: r)).extract 1 (mkS (c :: r)).size = mkS r := by rw [mkS_size, List.length_cons]; exact ex
      have hz := z0_iff c
      cases h : z0 c with
      | true =>
        rw [h] at hz
        have hq := hz.symm
        have h2 : trimL (c :: r) = trimL r := by unfold trimL; rw [List.dropWhile_cons_of_pos h]
        have H2 := hid (h2.symm.trans ht)
        have HR := hid hr
        have SZ := hid (show strLen (.string (mkS r)) < strLen (.string (mkS (c :: r))) by show (mkS r).size < (mkS (c :: r)).size; rw [mkS_size, mkS_size, List.length_cons]; omega)
        clear ht hr h2 hz h ex sz
        generalize mkS (c :: r) = S at *
        go_wp2
        exact ⟨⟨r, rfl, by have := HR.out; rw [List.length_cons] at this; omega, H2.out⟩, SZ.out⟩
      | false =>
        rw [h] at hz
        have hq := hz.symm
        have h2 : trimL (c :: r) = c :: r := by unfold trimL; rw [List.dropWhile_cons_of_neg (by rw [h]; decide)]
        have H2 := hid (h2.symm.trans ht)
        clear ht hr h2 hz h ex sz HT
        generalize hS : mkS (c :: r) = S at *
        have HS := hid hS
        clear hS
        go_wp2
        go_ret
        exact ⟨by rw [← H2.out, HS.out]; rfl, rfl⟩
theorem trimR_snoc (r : List UInt8) (c : UInt8) : trimR (r ++ [c]) = if z0 c then trimR r else r ++ [c] := by
  unfold trimR
  rw [List.reverse_append, List.reverse_singleton, List.singleton_append]
  cases h : z0 c with
  | true => rw [List.dropWhile_cons_of_pos h]; rfl
  | false => rw [List.dropWhile_cons_of_neg (by rw [h]; decide)]; simp
set_option maxRecDepth 100000 in
set_option maxHeartbeats 1000000 in
theorem trimRB_any (l : List UInt8) (w : World) (hl : l.length ≤ 100) : Calls Tryz.prog 206 #[.string (mkS l), .int .u8 48] w (StP (trimR l) w) := by
  go_enter Tryz.func206, Tryz.ntmps206
  go_wp2
  go_loop [0] (fun v => ∃ r : List UInt8, v = .string (mkS r) ∧ r.length ≤ l.length ∧ trimR r = trimR l) (fun v => strLen v)
  case atStart => exact ⟨l, rfl, Nat.le_refl _, rfl⟩
  case round =>
    obtain ⟨r, rfl, hr, ht⟩ := hrel
    have HT := hid ht
    rcases List.eq_nil_or_concat r with rfl | ⟨r, c, rfl⟩
    · clear ht
      go_wp2
      go_ret
      exact ⟨by rw [← HT.out]; rfl, rfl⟩
    · rw [List.concat_eq_append] at *
      have ll : (mkS (r ++ [c])).size = r.length + 1 := by rw [mkS_size]; simp
      have n0 : r.length < (mkS (r ++ [c])).size := by omega
      have g0 : ((mkS (r ++ [c]))[r.length]'n0).toNat = c.toNat := by rw [mkS_get]; simp
      have hne : ¬ mkS (r ++ [c]) = ByteArray.empty := fun e => by rw [e] at n0; exact absurd n0 (by simp)
      have ex : (mkS (r ++ [c])).extract 0 r.length = mkS r := by rw [ext_mk]; simp
      have i2 : ((mkS (r ++ [c])).size : Int) - 1 = r.length := by omega
      have i0 : (0 : Int) < (mkS (r ++ [c])).size := by omega
      have h9 : r.length + 1 ≤ l.length := by simpa using hr
      have i3 : (r.length : Int) ≤ 100 := by omega
      clear h9
      have i4 : (r.length : Int) < (mkS (r ++ [c])).size := by omega
      have i5 : (r.length : Int) ≤ (mkS (r ++ [c])).size := by omega
      have i6 : (0 : Int) ≤ r.length := by omega
      have hz := z0_iff c
      have hsn := trimR_snoc r c
      have HR := hid hr
      have SZ := hid (show strLen (.string (mkS r)) < strLen (.string (mkS (r ++ [c]))) by show (mkS r).size < (mkS (r ++ [c])).size; rw [ll, mkS_size]; omega)
      cases h : z0 c with
      | true =>
        rw [h] at hz hsn
        have hq := hz.symm
        have H2 := hid (hsn.symm.trans ht)
        clear ht hr hz h ll hsn HT
        generalize mkS (r ++ [c]) = S at *
        go_wp2
        exact ⟨⟨r, rfl, by have := HR.out; simp at this; omega, H2.out⟩, SZ.out⟩
      | false =>
        rw [h] at hz hsn
        have hq := hz.symm
        have H2 := hid (hsn.symm.trans ht)
        clear ht hr hz h ll hsn HT
        generalize hS : mkS (r ++ [c]) = S at *
        have HS := hid hS
        clear hS
        go_wp2
        go_ret
        refine ⟨?_, rfl⟩
        have := H2.out
        simp only [Bool.false_eq_true, if_false] at this
        rw [← this, HS.out]
        rfl
set_option maxRecDepth 100000 in
set_option maxHeartbeats 1000000 in
theorem trimLeft_any (l : List UInt8) (w : World) : Calls Tryz.prog 171 #[.string (mkS l), .string ⟨#[48]⟩] w (StP (trimL l) w) := by
  have C := hid (trimLB_any l w)
  by_cases h0 : l = []
  · subst h0
    show Calls Tryz.prog 171 #[.string ⟨#[]⟩, .string ⟨#[48]⟩] w (StP [] w)
    clear C
    go_enter Tryz.func171, Tryz.ntmps171
    go_wp2
    go_ret
    exact ⟨rfl, rfl⟩
  · have n0 : 0 < (mkS l).size := by rw [mkS_size]; exact List.length_pos_iff.2 h0
    have hne : ¬ mkS l = ByteArray.empty := fun e => by rw [e] at n0; exact absurd n0 (by decide)
    have hn2 : ((mkS l).toList == []) = false := by
      rw [beq_eq_false_iff_ne]
      intro e
      rw [ByteArray.toList_eq, mkS_data] at e
      exact h0 e
    have hn3 : ¬ (mkS l).toList = [] := by simpa using hn2
    have ie : (mkS l).toList.isEmpty = false := by simpa using hn3
    clear h0
    generalize mkS l = S at *
    go_enter Tryz.func171, Tryz.ntmps171
    go_wp2_with (go_at_call 202; refine C.out.mono ?_; clear C; rintro e w1 ⟨rfl, hw⟩; have hw2 := hw.symm; clear hw; subst hw2)
    go_ret
    exact ⟨rfl, rfl⟩
set_option maxRecDepth 100000 in
set_option maxHeartbeats 1000000 in
theorem trimRight_any (l : List UInt8) (w : World) (hl : l.length ≤ 100) : Calls Tryz.prog 172 #[.string (mkS l), .string ⟨#[48]⟩] w (StP (trimR l) w) := by
  have C := hid (trimRB_any l w hl)
  by_cases h0 : l = []
  · subst h0
    show Calls Tryz.prog 172 #[.string ⟨#[]⟩, .string ⟨#[48]⟩] w (StP [] w)
    clear C
    go_enter Tryz.func172, Tryz.ntmps172
    go_wp2
    go_ret
    exact ⟨rfl, rfl⟩
  · have n0 : 0 < (mkS l).size := by rw [mkS_size]; exact List.length_pos_iff.2 h0
    have hne : ¬ mkS l = ByteArray.empty := fun e => by rw [e] at n0; exact absurd n0 (by decide)
    have hn3 : ¬ (mkS l).toList = [] := by
      intro e
      rw [ByteArray.toList_eq, mkS_data] at e
      exact h0 e
    have ie : (mkS l).toList.isEmpty = false := by simpa using hn3
    clear h0
    generalize mkS l = S at *
    go_enter Tryz.func172, Tryz.ntmps172
    go_wp2_with (go_at_call 206; refine C.out.mono ?_; clear C; rintro e w1 ⟨rfl, hw⟩; have hw2 := hw.symm; clear hw; subst hw2)
    go_ret
    exact ⟨rfl, rfl⟩
def orN (l : List UInt8) : List UInt8 := if l = [] then [48] else l
set_option maxRecDepth 100000 in
theorem orN_any (l : List UInt8) (w : World) : Calls Tryz.prog 170 #[.string (mkS l)] w (StP (orN l) w) := by
  by_cases h0 : l = []
  · subst h0
    show Calls Tryz.prog 170 #[.string ⟨#[]⟩] w (StP [48] w)
    go_enter Tryz.func170, Tryz.ntmps170
    go_wp2
    go_ret
    exact ⟨rfl, rfl⟩
  · have e0 : orN l = l := if_neg h0
    have hn3 : ¬ (mkS l).toList = [] := by
      intro e
      rw [ByteArray.toList_eq, mkS_data] at e
      exact h0 e
    have ie : (mkS l).toList.isEmpty = false := by simpa using hn3
    rw [e0]
    clear h0 e0
    generalize hS : mkS l = S at *
    have HS := hid hS
    clear hS
    go_enter Tryz.func170, Tryz.ntmps170
    go_wp2
    go_ret
    exact ⟨by rw [HS.out]; rfl, rfl⟩
end Go.Proofs.YtajoncmmdeahnaaGreatDoor.Dg
namespace Go.Proofs.YtajoncmmdeahnaaGreatDoor.Dg
open Go.RowKit
theorem ix_pt : ∀ (A B : List UInt8), (∀ c ∈ A, isD c) → Lib.indexByte (A ++ 46 :: B) 46 = A.length
  | [], B, _ => by simp [Lib.indexByte]
  | c :: r, B, h => by
    have ih := ix_pt r B (fun x hx => h x (by simp [hx]))
    have hc := h c (by simp)
    have hn : (c == 46) = false := by
      rw [beq_eq_false_iff_ne]
      intro e
      subst e
      exact absurd hc.1 (by decide)
    rw [List.cons_append]
    unfold Lib.indexByte
    rw [hn, ih]
    have : ((r.length : Int) == -1) = false := by rw [beq_eq_false_iff_ne]; omega
    rw [this]
    simp
set_option maxHeartbeats 1000000 in
set_option maxRecDepth 100000 in
theorem indexByte_any (s : ByteArray) (c : Int) (w : World) :
    Calls Tryz.prog 226 #[.string s, .int .u8 c] w fun e w' => e = .returned (.int .i64 (Lib.indexByte s.data.toList c.toNat.toUInt8)) ∧ w' = w := by
  go_enter Tryz.func226, Tryz.ntmps226
  go_wp2
  rw [run_callFunc_extern Tryz.func256 (by kernel_rfl) (by kernel_rfl) (by kernel_rfl) (e := Extern.BytealgIndexByte.indexByte) (by kernel_rfl), Lib.run_indexByteString]
  simp only [Result.andThen]
  rw [Oper.upon_value]
  go_wp2
  go_ret
  exact ⟨rfl, rfl⟩
set_option maxHeartbeats 2000000 in
set_option maxRecDepth 100000 in
theorem index_any (s : ByteArray) (w : World) :
    Calls Tryz.prog 194 #[.string s, .string ⟨#[46]⟩] w fun e w' => e = .returned (.int .i64 (Lib.indexByte s.data.toList 46)) ∧ w' = w := by
  go_enter Tryz.func194, Tryz.ntmps194
  go_wp2_with (go_at_call 226; refine (indexByte_any _ _ _).mono ?_; rintro e w' ⟨rfl, rfl⟩)
  · have h : ([46] == s.toList) = true := by assumption
    go_ret
    refine ⟨?_, rfl⟩
    have e : s.data.toList = [46] := by rw [← Lib.toList_data]; exact (beq_iff_eq.1 h).symm
    rw [e]
    simp [Lib.indexByte]
  · go_ret
    exact ⟨rfl, rfl⟩
set_option maxHeartbeats 2000000 in
set_option maxRecDepth 100000 in
theorem cut_any (A B : List UInt8) (w : World) (hA : ∀ c ∈ A, isD c) (hl : A.length + B.length ≤ 100) : Calls Tryz.prog 118 #[.string (mkS (A ++ 46 :: B)), .string ⟨#[46]⟩] w fun e w' => e = .returned (.tuple #[.string (mkS A), .string (mkS B), .bool true]) ∧ w.grownBy w' none := by
  have CI : Hid (∀ W, Calls Tryz.prog 194 #[.string (mkS (A ++ 46 :: B)), .string ⟨#[46]⟩] W fun e w' => e = .returned (.int .i64 A.length) ∧ w' = W) := fun W => by
    have := index_any (mkS (A ++ 46 :: B)) W
    rw [mkS_data, ix_pt A B hA] at this
    exact this
  have sz : (mkS (A ++ 46 :: B)).size = A.length + (B.length + 1) := by rw [mkS_size]; simp
  have e1 : (mkS (A ++ 46 :: B)).extract 0 A.length = mkS A := by rw [ext_mk]; simp
  have e2 : (mkS (A ++ 46 :: B)).extract (A.length + 1) (mkS (A ++ 46 :: B)).size = mkS B := by rw [sz, ext_mk, List.take_of_length_le (by simp)]; simp
  obtain ⟨S, hS⟩ : ∃ S, mkS (A ++ 46 :: B) = S := ⟨_, rfl⟩
  rw [hS] at CI sz e1 e2 ⊢
  obtain ⟨i, hi⟩ : ∃ i, A.length = i := ⟨_, rfl⟩
  rw [hi] at CI sz e1 e2 hl
  have c1 : (0 : Int) ≤ ↑i := by omega
  have c2 : (↑i : Int) ≤ ↑S.size := by omega
  have c3 : (0 : Int) ≤ ↑i + 1 := by omega
  have c4 : (↑i + 1 : Int) ≤ ↑S.size := by omega
  have c5 : ((i : Int) + 1).toNat = i + 1 := by omega
  have c6 : IntKind.i64.wrap ((i : Int) + 1) = (i : Int) + 1 := by rw [IntKind.wrap_i64]; omega
  have c7 : (↑i : Int) ≤ 100 := by omega
  clear sz hS hi hA
  have CC : Hid (∀ W, Calls Tryz.prog 163 #[.string S, .string ⟨#[46]⟩] W fun e w' => e = .returned (.tuple #[.string (mkS A), .string (mkS B), .bool true]) ∧ W.grownBy w' none) := fun W => by
    go_enter Tryz.func163, Tryz.ntmps163
    go_wp2_with (go_at_call 194; refine (CI.out _).mono ?_; rintro e w1 ⟨rfl, rfl⟩; clear CI)
    go_quiet (fail)
    go_wp2
    go_ret3
    refine ⟨rfl, ?_⟩
    exact grown_drewN (grown_refl _ _) _
  go_enter Tryz.func118, Tryz.ntmps118
  go_wp2_with (go_at_call 163; refine (CC.out _).mono ?_; rintro e w1 ⟨rfl, hg⟩; have G1 := hid hg; clear CC hg)
  go_ret3
  exact ⟨rfl, G1.out⟩
set_option maxRecDepth 100000 in
set_option maxHeartbeats 1000000 in
theorem small_any (x : Nat) (w : World) (x0 : 1 ≤ x) (x1 : x ≤ 8) : Calls Tryz.prog 16 #[.int .i64 x] w fun e w' => e = .returned (.string ⟨#[UInt8.ofNat (48 + x)]⟩) ∧ w' = w := by
  have : x = 1 ∨ x = 2 ∨ x = 3 ∨ x = 4 ∨ x = 5 ∨ x = 6 ∨ x = 7 ∨ x = 8 := by omega
  have C78 : Hid (Calls Tryz.prog 100 #[.int .i64 x] w fun e w' => e = .returned (.string ⟨#[UInt8.ofNat (48 + x)]⟩) ∧ w' = w) := by
    rcases this with rfl | rfl | rfl | rfl | rfl | rfl | rfl | rfl <;>
    · go_enter Tryz.func100, Tryz.ntmps100
      go_wp2
      go_ret
      exact ⟨rfl, rfl⟩
  have a0 : (0 : Int) ≤ x := by omega
  have a1 : (x : Int) < 100 := by omega
  generalize (UInt8.ofNat (48 + x)) = c at *
  clear this x0 x1
  have C54 : Hid (Calls Tryz.prog 56 #[.int .i64 x, .int .i64 10] w fun e w' => e = .returned (.string ⟨#[c]⟩) ∧ w' = w) := by
    go_enter Tryz.func56, Tryz.ntmps56
    go_wp2_with (go_at_call 100; refine C78.out.mono ?_; clear C78; rintro e w1 ⟨rfl, hw⟩; have hw2 := hw.symm; clear hw; subst hw2)
    go_ret
    exact ⟨rfl, rfl⟩
  have C36 : Hid (Calls Tryz.prog 30 #[.int .i64 x] w fun e w' => e = .returned (.string ⟨#[c]⟩) ∧ w' = w) := by
    go_enter Tryz.func30, Tryz.ntmps30
    go_wp2_with (go_at_call 56; refine C54.out.mono ?_; clear C54; rintro e w1 ⟨rfl, hw⟩; have hw2 := hw.symm; clear hw; subst hw2)
    go_ret
    exact ⟨rfl, rfl⟩
  go_enter Tryz.func16, Tryz.ntmps16
  go_wp2_with (go_at_call 30; refine C36.out.mono ?_; clear C36; rintro e w1 ⟨rfl, hw⟩; have hw2 := hw.symm; clear hw; subst hw2)
  go_ret
  exact ⟨rfl, rfl⟩
end Go.Proofs.YtajoncmmdeahnaaGreatDoor.Dg
