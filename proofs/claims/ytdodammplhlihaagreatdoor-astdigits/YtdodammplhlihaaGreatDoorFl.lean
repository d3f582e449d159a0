/-
  Quotients of whole numbers as numbers with a point: never what is no number.
-/
import Derived.Test.YtdodammplhlihaaGreatDoorRf
namespace Go.Proofs.YtdodammplhlihaaGreatDoor
open Ieee Go.RowKit
/-- A number, or the one above all, without a sign. -/
def Fin0 (d : Datum) : Prop := (∃ m p, d = .number false m p) ∨ d = .infinity false
theorem read_rung (r : Nat) (h : r ≤ double.infRung) : Fin0 (double.read r) := by
  have hs : double.infRung < double.signWeight := by decide
  have e1 : r / double.signWeight = 0 := Nat.div_eq_of_lt (by omega)
  have e2 : r % double.signWeight = r := Nat.mod_eq_of_lt (by omega)
  unfold Format.read
  simp only [e1, e2]
  by_cases h1 : r < double.binade
  · rw [if_pos h1]; exact Or.inl ⟨_, _, rfl⟩
  · rw [if_neg h1]
    by_cases h2 : r < double.infRung
    · rw [if_pos h2]; exact Or.inl ⟨_, _, rfl⟩
    · rw [if_neg h2, if_pos (by omega)]; exact Or.inr rfl
theorem nearest_rung (m : Nat) (p : Int) : double.nearest false m p ≤ double.infRung := by
  unfold Format.nearest Format.word
  by_cases h : m = 0
  · rw [if_pos h]; simp
  · rw [if_neg h]
    simp only [Bool.false_eq_true, if_false]
    exact Nat.min_le_right _ _
theorem write_rung {d : Datum} (h : Fin0 d) : double.write d ≤ double.infRung := by
  rcases h with ⟨m, p, rfl⟩ | rfl
  · exact nearest_rung m p
  · show double.word false double.infRung ≤ _
    simp [Format.word]
theorem order_self {d : Datum} (h : Fin0 d) : d.order d = some .eq := by
  rcases h with ⟨m, p, rfl⟩ | rfl
  · unfold Datum.order
    simp
  · rfl
theorem quot_fin {a b : Datum} (k : Nat) (ha : Fin0 a) (hb : ∃ n j, b = .number false n j ∧ n ≠ 0) : ∃ d, a.quotient k b = some d ∧ Fin0 d := by
  obtain ⟨n, j, rfl, hn⟩ := hb
  rcases ha with ⟨m, p, rfl⟩ | rfl
  · unfold Datum.quotient
    simp only [hn, if_false]
    exact ⟨_, rfl, Or.inl ⟨_, _, rfl⟩⟩
  · exact ⟨_, rfl, Or.inr rfl⟩
theorem fl_rung (m : Nat) : floatOfInt .f64 m ≤ double.infRung := by
  show FloatKind.f64.nearest (m : Int) ≤ _
  unfold FloatKind.nearest
  have h : decide ((m : Int) < 0) = false := decide_eq_false (by omega)
  exact write_rung (Or.inl ⟨(m : Int).natAbs, 0, by rw [h]⟩)
def okB : Datum → Bool
  | .number false n _ => n != 0
  | _ => false
theorem okB_ex {d : Datum} (h : okB d = true) : ∃ n j, d = .number false n j ∧ n ≠ 0 := by
  cases d with
  | number s n j =>
    cases s with
    | false => exact ⟨n, j, rfl, by simpa [okB] using h⟩
    | true => cases h
  | infinity s => cases h
  | nan s f => cases h
theorem pow_read (x : Nat) (x0 : 1 ≤ x) (x1 : x ≤ 8) : okB (double.read (floatOfInt .f64 ((10 ^ x : Nat) : Int))) = true := by
  have : x = 1 ∨ x = 2 ∨ x = 3 ∨ x = 4 ∨ x = 5 ∨ x = 6 ∨ x = 7 ∨ x = 8 := by omega
  rcases this with rfl | rfl | rfl | rfl | rfl | rfl | rfl | rfl
  · decide +kernel
  · decide +kernel
  · decide +kernel
  · decide +kernel
  · decide +kernel
  · decide +kernel
  · decide +kernel
  · decide +kernel
/-- The quotient of a whole number and a power of ten is a number, equal to itself. -/
theorem div_ok (m x : Nat) (x0 : 1 ≤ x) (x1 : x ≤ 8) : ∃ q : Nat, FloatKind.f64.format.div (floatOfInt .f64 m) (floatOfInt .f64 ((10 ^ x : Nat) : Int)) = some q ∧ FloatKind.f64.format.order q q = some .eq ∧ q < 9223372036854775808 := by
  obtain ⟨d, h1, h2⟩ := quot_fin (double.fractionBits + 2) (read_rung _ (fl_rung m)) (okB_ex (pow_read x x0 x1))
  refine ⟨double.write d, ?_, ?_, ?_⟩
  · show ((double.read _).quotient (double.fractionBits + 2) (double.read _)).map double.write = _
    rw [h1]; rfl
  · exact order_self (read_rung _ (write_rung h2))
  · have := write_rung h2
    have : double.infRung < 9223372036854775808 := by decide
    omega
/-- What the quotient is. -/
def quo (m x : Nat) : Nat := (FloatKind.f64.format.div (floatOfInt .f64 m) (floatOfInt .f64 ((10 ^ x : Nat) : Int))).getD 0
theorem quo_is (m x : Nat) (x0 : 1 ≤ x) (x1 : x ≤ 8) : FloatKind.f64.format.div (floatOfInt .f64 m) (floatOfInt .f64 ((10 ^ x : Nat) : Int)) = some (quo m x) ∧ FloatKind.f64.format.order (quo m x) (quo m x) = some .eq ∧ quo m x < 9223372036854775808 := by
  obtain ⟨q, h1, h2, h3⟩ := div_ok m x x0 x1
  have e : quo m x = q := by unfold quo; rw [h1]; rfl
  rw [e]
  exact ⟨h1, h2, h3⟩
theorem quo_run (m x : Nat) (w : World) (x0 : 1 ≤ x) (x1 : x ≤ 8) : (binOp BinOp.quo 28 (.float .f64 (floatOfInt .f64 m)) (.float .f64 (floatOfInt .f64 ((10 ^ x : Nat) : Int)))).run Tryz.prog w = .ok (.float .f64 (quo m x)) w := by
  have h := (quo_is m x x0 x1).1
  generalize floatOfInt .f64 ((10 ^ x : Nat) : Int) = B at *
  generalize floatOfInt .f64 (m : Int) = A at *
  simp [binOp, Op.floatArith, h]
end Go.Proofs.YtdodammplhlihaaGreatDoor
