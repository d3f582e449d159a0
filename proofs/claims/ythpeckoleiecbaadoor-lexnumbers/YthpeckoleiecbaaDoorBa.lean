/-
  What a byte is, and which words are kept: the program's and the document's.
-/
import Derived.Test.YthpeckoleiecbaaDoorMem
import Derived.Test.YthpeckoleiecbaaDoorProg
import Derived.Test.YthpeckoleiecbaaDoorLx
import Derived.KernelRfl
namespace Go.Proofs.YthpeckoleiecbaaDoor
open Go.RowKit
theorem hid {p : Prop} (h : p) : Hid p := h
theorem bytes_ext {a b : ByteArray} (h : a.data.toList = b.data.toList) : a = b := ByteArray.ext (Array.toList_inj.1 h)
theorem calls_at {P : Program} {f : Nat} {args args' : Array Value} {w : World} {Q : Ending → World → Prop} (h : args' = args) (c : Calls P f args w Q) : Calls P f args' w Q := h ▸ c
theorem grown_drewN {w w' : World} {row : Option Nat} (h : w.grownBy w' row) (n : Nat) : w.grownBy (w'.drewN n) row := ⟨h.os, h.tape, h.output, h.size, h.block⟩
theorem isL_iff (c : UInt8) : isL c = ((decide (97 ≤ (c.toNat : Int)) && decide ((c.toNat : Int) ≤ 122)) || (decide (65 ≤ (c.toNat : Int)) && decide ((c.toNat : Int) ≤ 90)) || ((c.toNat : Int) == 95)) := by
  unfold isL
  have e1 : ∀ n : UInt8, decide (n ≤ c) = decide ((n.toNat : Int) ≤ c.toNat) := fun n => by
    rw [decide_eq_decide, UInt8.le_iff_toNat_le]; omega
  have e2 : ∀ n : UInt8, decide (c ≤ n) = decide ((c.toNat : Int) ≤ n.toNat) := fun n => by
    rw [decide_eq_decide, UInt8.le_iff_toNat_le]; omega
  have e3 : (c == 95) = ((c.toNat : Int) == 95) := by
    rw [Bool.eq_iff_iff, beq_iff_eq, beq_iff_eq, ← UInt8.toNat_inj]
    show _ = 95 ↔ _
    omega
  rw [e1, e2, e1, e2, e3]
  rfl
theorem isD_iff (c : UInt8) : isD c = (decide (48 ≤ (c.toNat : Int)) && decide ((c.toNat : Int) ≤ 57)) := by
  unfold isD
  have e1 : ∀ n : UInt8, decide (n ≤ c) = decide ((n.toNat : Int) ≤ c.toNat) := fun n => by
    rw [decide_eq_decide, UInt8.le_iff_toNat_le]; omega
  have e2 : ∀ n : UInt8, decide (c ≤ n) = decide ((c.toNat : Int) ≤ n.toNat) := fun n => by
    rw [decide_eq_decide, UInt8.le_iff_toNat_le]; omega
  rw [e1, e2]
  rfl
theorem byte_eq (c n : UInt8) : (c == n) = ((c.toNat : Int) == (n.toNat : Int)) := by
  rw [Bool.eq_iff_iff, beq_iff_eq, beq_iff_eq, ← UInt8.toNat_inj]
  omega
theorem ret_bool {a b : Bool} {w : World} (h : a = b) : Ending.returned (Value.bool a) = Ending.returned (Value.bool b) ∧ w = w := ⟨by rw [h], rfl⟩
set_option maxRecDepth 100000 in
theorem isLetter_any (c : UInt8) (w : World) : Calls Tryd.prog 19 #[.int .u8 c.toNat] w fun e w' => e = .returned (.bool (isL c)) ∧ w' = w := by
  have h := isL_iff c
  generalize isL c = b at *
  have c0 : (0 : Int) ≤ (c.toNat : Int) := by omega
  generalize (c.toNat : Int) = x at *
  have H := hid h
  clear h
  go_enter Tryd.func19, Tryd.ntmps19
  go_wp2
  all_goals (
    go_ret
    refine ret_bool ?_
    refine Eq.trans ?_ H.out.symm
    first
      | rfl
      | (simp [*]; done)
      | (simp [*]; omega)
      | (rw [Bool.eq_iff_iff]; simp; omega))
set_option maxRecDepth 100000 in
theorem isDigit_any (c : UInt8) (w : World) : Calls Tryd.prog 22 #[.int .u8 c.toNat] w fun e w' => e = .returned (.bool (isD c)) ∧ w' = w := by
  have h := isD_iff c
  generalize isD c = b at *
  have c0 : (0 : Int) ≤ (c.toNat : Int) := by omega
  generalize (c.toNat : Int) = x at *
  have H := hid h
  clear h
  go_enter Tryd.func22, Tryd.ntmps22
  go_wp2
  all_goals (
    go_ret
    refine ret_bool ?_
    refine Eq.trans ?_ H.out.symm
    first
      | rfl
      | (simp [*]; done)
      | (simp [*]; omega)
      | (rw [Bool.eq_iff_iff]; simp; omega))
theorem isG_iff (c : UInt8) : isG c = (((c.toNat : Int) == 32) || ((c.toNat : Int) == 9) || ((c.toNat : Int) == 10)) := by
  unfold isG
  rw [byte_eq, byte_eq, byte_eq]
  rfl
theorem noLf_iff (c : UInt8) : noLf c = ((c.toNat : Int) != 10) := by
  show (!(c == 10)) = !_
  rw [byte_eq]
  rfl
set_option maxRecDepth 100000 in
theorem gap_any (c : UInt8) (w : World) : Calls Tryd.prog 16 #[.int .u8 c.toNat] w fun e w' => e = .returned (.bool (isG c)) ∧ w' = w := by
  have h := isG_iff c
  generalize isG c = b at *
  have c0 : (0 : Int) ≤ (c.toNat : Int) := by omega
  generalize (c.toNat : Int) = x at *
  have H := hid h
  clear h
  go_enter Tryd.func16, Tryd.ntmps16
  go_wp2
  all_goals (
    go_ret
    refine ret_bool ?_
    refine Eq.trans ?_ H.out.symm
    first
      | rfl
      | (simp [*]; done)
      | (simp [*]; omega)
      | (rw [Bool.eq_iff_iff]; simp; omega))
set_option maxRecDepth 100000 in
theorem note_any (c : UInt8) (w : World) : Calls Tryd.prog 18 #[.int .u8 c.toNat] w fun e w' => e = .returned (.bool (noLf c)) ∧ w' = w := by
  have h := noLf_iff c
  generalize noLf c = b at *
  have c0 : (0 : Int) ≤ (c.toNat : Int) := by omega
  generalize (c.toNat : Int) = x at *
  have H := hid h
  clear h
  go_enter Tryd.func18, Tryd.ntmps18
  go_wp2
  all_goals (
    go_ret
    refine ret_bool ?_
    refine Eq.trans ?_ H.out.symm
    first
      | rfl
      | (simp [*]; done)
      | (simp [*]; omega)
      | (rw [Bool.eq_iff_iff]; simp; omega))
set_option maxRecDepth 100000 in
theorem nameByte_any (c : UInt8) (w : World) : Calls Tryd.prog 33 #[.int .u8 c.toNat] w fun e w' => e = .returned (.bool (isLD c)) ∧ w' = w := by
  have C1 : Hid (∀ W, Calls Tryd.prog 19 #[.int .u8 c.toNat] W fun e w' => e = .returned (.bool (isL c)) ∧ w' = W) := isLetter_any c
  have C2 : Hid (∀ W, Calls Tryd.prog 22 #[.int .u8 c.toNat] W fun e w' => e = .returned (.bool (isD c)) ∧ w' = W) := isDigit_any c
  unfold isLD
  generalize isL c = a at *
  generalize isD c = b at *
  generalize (c.toNat : Int) = x at *
  cases a
  all_goals
    go_enter Tryd.func33, Tryd.ntmps33
    go_wp2_with (first
      | (go_at_call 19; refine (C1.out _).mono ?_; rintro e w1 ⟨rfl, rfl⟩; clear C1)
      | (go_at_call 22; refine (C2.out _).mono ?_; rintro e w1 ⟨rfl, rfl⟩; clear C2))
    go_ret
    exact ⟨rfl, rfl⟩
end Go.Proofs.YthpeckoleiecbaaDoor
