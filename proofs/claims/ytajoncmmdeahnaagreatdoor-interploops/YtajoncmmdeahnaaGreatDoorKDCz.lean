/-
  strings.TrimLeft, TrimRight of noughts, strings.Cut at a point, strconv.Itoa of a digit; orNought. strings.Cut at a point; strconv.Itoa of a digit; math.IsNaN of a quotient.
-/
import Derived.Test.YtajoncmmdeahnaaGreatDoorKDFl
import Derived.Lib.Bytealg
import Derived.Lib.Strings
import Derived.Lib.Walk
import Derived.Shelf.RegionOpen
import Derived.BigQuiet
import Derived.Deep.QuietTactic
import Derived.OwnWalk
namespace Go.Proofs.YtajoncmmdeahnaaGreatDoor.Dg
open Go.RowKit
def strLen : Value → Nat
  | .string s => s.size
  | _ => 0
theorem bytes_ext {a b : ByteArray} (h : a.data.toList = b.data.toList) : a = b := ByteArray.ext (Array.toList_inj.1 h)
theorem mkS_data (l : List UInt8) : (mkS l).data.toList = l := by simp [mkS]
theorem ext_mk (l : List UInt8) (i j : Nat) : (mkS l).extract i j = mkS ((l.take j).drop i) := by
  apply bytes_ext
  rw [mkS_data]
  simp [mkS, List.take_drop]
  by_cases h : i ≤ j
  · rw [show i + (j - i) = j by omega]
  · rw [List.drop_eq_nil_of_le (by rw [List.length_take]; omega), List.drop_eq_nil_of_le (by rw [List.length_take]; omega)]
theorem mkS_get (l : List UInt8) (k : Nat) (h : k < (mkS l).size) : (mkS l)[k]'h = l[k]'(by rw [mkS_size] at h; exact h) := by
  have := toL_get (mkS l) k h
  simp only [mkS_data] at this
  exact this.symm
def z0 (c : UInt8) : Bool := c == 48
def trimL (l : List UInt8) : List UInt8 := l.dropWhile z0
def trimR (l : List UInt8) : List UInt8 := (l.reverse.dropWhile z0).reverse
def StP (l : List UInt8) (w : World) (e : Ending) (w' : World) : Prop := e = .returned (.string (mkS l)) ∧ w' = w
theorem z0_iff (c : UInt8) : z0 c = ((c.toNat : Int) == 48) := by
  unfold z0
  rw [Bool.eq_iff_iff, beq_iff_eq, beq_iff_eq, ← UInt8.toNat_inj]
  show _ = 48 ↔ _
  omega
set_option maxRecDepth 100000 in
set_option maxHeartbeats 1000000 in
theorem trimLB_any (l : List UInt8) (w : World) : Calls Tryz.prog 202 #[.string (mkS l), .int .u8 48] w (StP (trimL l) w) := by
  go_enter Tryz.func202, Tryz.ntmps202
  go_wp2
  go_loop [0] (fun v => ∃ r : List UInt8, v = .string (mkS r) ∧ r.length ≤ l.length ∧ trimL r = trimL l) (fun v => strLen v)
  case atStart => exact ⟨l, rfl, Nat.le_refl _, rfl⟩
  case round =>
    obtain ⟨r, rfl, hr, ht⟩ := hrel
    have HT := hid ht
    cases r with
    | nil =>
      clear ht
      go_wp2
      go_ret
      exact ⟨by rw [← HT.out]; rfl, rfl⟩
    | cons c r =>
      have n0 : 0 < (mkS (c :: r)).size := by rw [mkS_size]; exact Nat.succ_pos _
      have g0 : ((mkS (c :: r))[0]'n0).toNat = c.toNat := by rw [mkS_get]; rfl
      have hne : ¬ mkS (c :: r) = ByteArray.empty := fun e => by rw [e] at n0; exact absurd n0 (by decide)
      have sz : ((mkS (c :: r)).size : Int) = r.length + 1 := by rw [mkS_size]; simp
      have i0 : (0 : Int) < (mkS (c :: r)).size := by omega
      have i1 : (1 : Int) ≤ (mkS (c :: r)).size := by omega
      have ex := ext_mk (c :: r) 1 (mkS (c :: r)).size
      rw [mkS_size, List.length_cons, List.take_of_length_le (by simp)] at ex
      have ex2 : (mkS (c :: r)).extract 1 (mkS (c :: r)).size = mkS r := by rw [mkS_size, List.length_cons]; exact ex
      have hz := z0_iff c
      cases h : z0 c with
      | true =>
        rw [h] at hz
        have hq := hz.symm
        have h2 : trimL (c :: r) = trimL r := by unfold trimL; rw [List.dropWhile_cons_of_pos h]
        have H2 := hid (h2.symm.trans ht)
        have HR := hid hr
        have SZ := hid (show strLen (.string (mkS r)) < strLen (.string (mkS (c :: r))) by show (mkS r).size < (mkS (c :: r)).size; rw [mkS_size, mkS_size, List.length_cons]; omega)
        clear ht hr h2 hz h ex sz
        generalize mkS (c :: r) = S at *
        go_wp2
        exact ⟨⟨r, rfl, by have := HR.out; rw [List.length_cons] at this; omega, H2.out⟩, SZ.out⟩
      | false =>
        rw [h] at hz
        have hq := hz.symm
        have h2 : trimL (c :: r) = c :: r := by unfold trimL; rw [List.dropWhile_cons_of_neg (by rw [h]; decide)]
        have H2 := hid (h2.symm.trans ht)
        clear ht hr h2 hz h ex sz HT
        generalize hS : mkS (c :: r) = S at *
        have HS := hid hS
        clear hS
        go_wp2
        go_ret
        exact ⟨by rw [← H2.out, HS.out]; rfl, rfl⟩
theorem trimR_snoc (r : List UInt8) (c : UInt8) : trimR (r ++ [c]) = if z0 c then trimR r else r ++ [c] := by
  unfold trimR
  rw [List.reverse_append, List.reverse_singleton, List.singleton_append]
  cases h : z0 c with
  | true => rw [List.dropWhile_cons_of_pos h]; rfl
  | false => rw [List.dropWhile_cons_of_neg (by rw [h]; decide)]; simp
set_option maxRecDepth 100000 in
set_option maxHeartbeats 1000000 in
theorem trimRB_any (l : List UInt8) (w : World) (hl : l.length ≤ 100) : Calls Tryz.prog 206 #[.string (mkS l), .int .u8 48] w (StP (trimR l) w) := by
  go_enter Tryz.func206, Tryz.ntmps206
  go_wp2
  go_loop [0] (fun v => ∃ r : List UInt8, v = .string (mkS r) ∧ r.length ≤ l.length ∧ trimR r = trimR l) (fun v => strLen v)
  case atStart => exact ⟨l, rfl, Nat.le_refl _, rfl⟩
  case round =>
    obtain ⟨r, rfl, hr, ht⟩ := hrel
    have HT := hid ht
    rcases List.eq_nil_or_concat r with rfl | ⟨r, c, rfl⟩
    · clear ht
      go_wp2
      go_ret
      exact ⟨by rw [← HT.out]; rfl, rfl⟩
    · rw [List.concat_eq_append] at *
      have ll : (mkS (r ++ [c])).size = r.length + 1 := by rw [mkS_size]; simp
      have n0 : r.length < (mkS (r ++ [c])).size := by omega
      have g0 : ((mkS (r ++ [c]))[r.length]'n0).toNat = c.toNat := by rw [mkS_get]; simp
      have hne : ¬ mkS (r ++ [c]) = ByteArray.empty := fun e => by rw [e] at n0; exact absurd n0 (by simp)
      have ex : (mkS (r ++ [c])).extract 0 r.length = mkS r := by rw [ext_mk]; simp
      have i2 : ((mkS (r ++ [c])).size : Int) - 1 = r.length := by omega
      have i0 : (0 : Int) < (mkS (r ++ [c])).size := by omega
      have h9 : r.length + 1 ≤ l.length := by simpa using hr
      have i3 : (r.length : Int) ≤ 100 := by omega
      clear h9
      have i4 : (r.length : Int) < (mkS (r ++ [c])).size := by omega
      have i5 : (r.length : Int) ≤ (mkS (r ++ [c])).size := by omega
      have i6 : (0 : Int) ≤ r.length := by omega
      have hz := z0_iff c
      have hsn := trimR_snoc r c
      have HR := hid hr
      have SZ := hid (show strLen (.string (mkS r)) < strLen (.string (mkS (r ++ [c]))) by show (mkS r).size < (mkS (r ++ [c])).size; rw [ll, mkS_size]; omega)
      cases h : z0 c with
      | true =>
        rw [h] at hz hsn
        have hq := hz.symm
        have H2 := hid (hsn.symm.trans ht)
        clear ht hr hz h ll hsn HT
        generalize mkS (r ++ [c]) = S at *
        go_wp2
        exact ⟨⟨r, rfl, by have := HR.out; simp at this; omega, H2.out⟩, SZ.out⟩
      | false =>
        rw [h] at hz hsn
        have hq := hz.symm
        have H2 := hid (hsn.symm.trans ht)
        clear ht hr hz h ll hsn HT
        generalize hS : mkS (r ++ [c]) = S at *
        have HS := hid hS
        clear hS
        go_wp2
        go_ret
        refine ⟨?_, rfl⟩
        have := H2.out
        simp only [Bool.false_eq_true, if_false] at this
        rw [← this, HS.out]
        rfl
set_option maxRecDepth 100000 in
set_option maxHeartbeats 1000000 in
theorem trimLeft_any (l : List UInt8) (w : World) : Calls Tryz.prog 171 #[.string (mkS l), .string ⟨#[48]⟩] w (StP (trimL l) w) := by
  have C := hid (trimLB_any l w)
  by_cases h0 : l = []
  · subst h0
    show Calls Tryz.prog 171 #[.string ⟨#[]⟩, .string ⟨#[48]⟩] w (StP [] w)
    clear C
    go_enter Tryz.func171, Tryz.ntmps171
    go_wp2
    go_ret
    exact ⟨rfl, rfl⟩
  · have n0 : 0 < (mkS l).size := by rw [mkS_size]; exact List.length_pos_iff.2 h0
    have hne : ¬ mkS l = ByteArray.empty := fun e => by rw [e] at n0; exact absurd n0 (by decide)
    have hn2 : ((mkS l).toList == []) = false := by
      rw [beq_eq_false_iff_ne]
      intro e
      rw [ByteArray.toList_eq, mkS_data] at e
      exact h0 e
    have hn3 : ¬ (mkS l).toList = [] := by simpa using hn2
    have ie : (mkS l).toList.isEmpty = false := by simpa using hn3
    clear h0
    generalize mkS l = S at *
    go_enter Tryz.func171, Tryz.ntmps171
    go_wp2_with (go_at_call 202; refine C.out.mono ?_; clear C; rintro e w1 ⟨rfl, hw⟩; have hw2 := hw.symm; clear hw; subst hw2)
    go_ret
    exact ⟨rfl, rfl⟩
set_option maxRecDepth 100000 in
set_option maxHeartbeats 1000000 in
theorem trimRight_any (l : List UInt8) (w : World) (hl : l.length ≤ 100) : Calls Tryz.prog 172 #[.string (mkS l), .string ⟨#[48]⟩] w (StP (trimR l) w) := by
  have C := hid (trimRB_any l w hl)
  by_cases h0 : l = []
  · subst h0
    show Calls Tryz.prog 172 #[.string ⟨#[]⟩, .string ⟨#[48]⟩] w (StP [] w)
    clear C
    go_enter Tryz.func172, Tryz.ntmps172
    go_wp2
    go_ret
    exact ⟨rfl, rfl⟩
  · have n0 : 0 < (mkS l).size := by rw [mkS_size]; exact List.length_pos_iff.2 h0
    have hne : ¬ mkS l = ByteArray.empty := fun e => by rw [e] at n0; exact absurd n0 (by decide)
    have hn3 : ¬ (mkS l).toList = [] := by
      intro e
      rw [ByteArray.toList_eq, mkS_data] at e
      exact h0 e
    have ie : (mkS l).toList.isEmpty = false := by simpa using hn3
    clear h0
    generalize mkS l = S at *
    go_enter Tryz.func172, Tryz.ntmps172
    go_wp2_with (go_at_call 206; refine C.out.mono ?_; clear C; rintro e w1 ⟨rfl, hw⟩; have hw2 := hw.symm; clear hw; subst hw2)
    go_ret
    exact ⟨rfl, rfl⟩
def orN (l : List UInt8) : List UInt8 := if l = [] then [48] else l
set_option maxRecDepth 100000 in
theorem orN_any (l : List UInt8) (w : World) : Calls Tryz.prog 170 #[.string (mkS l)] w (StP (orN l) w) := by
  by_cases h0 : l = []
  · subst h0
    show Calls Tryz.prog 170 #[.string ⟨#[]⟩] w (StP [48] w)
    go_enter Tryz.func170, Tryz.ntmps170
    go_wp2
    go_ret
    exact ⟨rfl, rfl⟩
  · have e0 : orN l = l := if_neg h0
    have hn3 : ¬ (mkS l).toList = [] := by
      intro e
      rw [ByteArray.toList_eq, mkS_data] at e
      exact h0 e
    have ie : (mkS l).toList.isEmpty = false := by simpa using hn3
    rw [e0]
    clear h0 e0
    generalize hS : mkS l = S at *
    have HS := hid hS
    clear hS
    go_enter Tryz.func170, Tryz.ntmps170
    go_wp2
    go_ret
    exact ⟨by rw [HS.out]; rfl, rfl⟩
end Go.Proofs.YtajoncmmdeahnaaGreatDoor.Dg
namespace Go.Proofs.YtajoncmmdeahnaaGreatDoor.Dg
open Go.RowKit
end Go.Proofs.YtajoncmmdeahnaaGreatDoor.Dg
