/-
  awake: of two changes the second one survives.
-/
import Derived.Test.YtoenddcdafnmiaaRead
namespace Go.Proofs.Ytoenddcdafnmiaa
open Go.RowKit Go.Maps
def awA : Chg := ⟨0, ⟨#[97]⟩, ⟨#[120]⟩, ⟨#[]⟩, 0⟩
def awB : Chg := ⟨1, ⟨#[98]⟩, ⟨#[121]⟩, ⟨#[]⟩, 0⟩
theorem awA_ok : OkC awA := ⟨by decide, by decide, by decide, by decide, by decide, by decide⟩
theorem awB_ok : OkC awB := ⟨by decide, by decide, by decide, by decide, by decide, by decide⟩
def awL (i : Nat) : OkChg := if i = 0 then ⟨awA, awA_ok⟩ else ⟨awB, awB_ok⟩
def aw0 : Dk := ⟨[], [], [], 0, 0, false⟩
def aw1 : Dk := stepD aw0 awA
def aw2 : Dk := stepD aw1 awB
def awF : FS := lostF aw2 2 0 awL
def aw3 : Dk := ⟨awF, awF, [], 0, 2, true⟩
def aw4 : Dk := ⟨awF, awF, [], 0, 2, false⟩
theorem aw_loose : ∀ i, (h : i < aw2.loose.length) → aw2.loose[i] = (awL i).1 := by
  intro i h
  have h' : i < 2 := h
  match i, h' with
  | 0, _ => rfl
  | 1, _ => rfl
theorem fits_small {l : FS} (B : Nat) (h : l.length ≤ 2 ∧ (∀ p ∈ l, p.2.size ≤ 2) ∧ ∀ p ∈ l, p.1.size ≤ 2) (hB : 2 ≤ B) : Fits l B := ⟨Nat.le_trans h.1 hB, fun p hp => Nat.le_trans (h.2.1 p hp) hB, fun p hp => Nat.le_trans (h.2.2 p hp) hB⟩
theorem aw1_small : Small aw1 := ⟨fits_small 1000000 (by decide +kernel) (by decide), by decide, by decide, by decide⟩
theorem aw_a : readE awF ⟨#[97]⟩ = 2 := by decide +kernel
theorem aw_b : readE awF ⟨#[98]⟩ = 0 := by decide +kernel
theorem aw_s : readS awF ⟨#[98]⟩ = ⟨#[121]⟩ := by decide +kernel
set_option maxRecDepth 100000 in
set_option maxHeartbeats 1000000 in
theorem awake_any (w : World) : Calls Try.prog 10 #[] w fun e w' => e = .returned (.bool true) ∧ w.grownBy w' none := by
  have n1 : nameB ⟨#[97]⟩ = true := by decide +kernel
  have n2 : nameB ⟨#[98]⟩ = true := by decide +kernel
  have m1 : (⟨#[97]⟩ : ByteArray).size ≤ maxLen := by unfold maxLen; decide
  have m2 : (⟨#[98]⟩ : ByteArray).size ≤ maxLen := by unfold maxLen; decide
  have s0 : Small aw0 := ⟨fits_nil _, by decide, by decide, by decide⟩
  have f2 : Fits aw2.sure 200000 := fits_nil _
  have C33 : Hid (∀ b W, IsDisk W w.heap.size b aw0 → Calls Try.prog 33 #[.pointer (some ⟨b, 0, none⟩), .string ⟨#[97]⟩, .string ⟨#[120]⟩] W fun e w' => e = .returned (.int .i64 0) ∧ IsDisk w' w.heap.size b aw1 ∧ Tend w.heap.size b W w') := fun b W h => append_any w.heap.size b aw0 ⟨#[97]⟩ ⟨#[120]⟩ W h rfl s0 n1 m1 (by decide)
  have C34 : Hid (∀ b W, IsDisk W w.heap.size b aw1 → Calls Try.prog 34 #[.pointer (some ⟨b, 0, none⟩), .string ⟨#[98]⟩, .string ⟨#[121]⟩] W fun e w' => e = .returned (.int .i64 0) ∧ IsDisk w' w.heap.size b aw2 ∧ Tend w.heap.size b W w') := fun b W h => write_any w.heap.size b aw1 ⟨#[98]⟩ ⟨#[121]⟩ W h rfl aw1_small n2 m2 (by decide)
  have C15 : Hid (∀ b W, IsDisk W w.heap.size b aw2 → Calls Try.prog 15 #[.pointer (some ⟨b, 0, none⟩), .int .i64 2, .int .i64 0] W fun e w' => e = .returned (.tuple #[]) ∧ IsDisk w' w.heap.size b aw3 ∧ W.grownBy w' (some b)) := fun b W h => crash_any w.heap.size b aw2 2 0 awL W h rfl aw_loose (by decide) (by decide) f2
  have C16 : Hid (∀ b W, IsDisk W w.heap.size b aw3 → Calls Try.prog 16 #[.pointer (some ⟨b, 0, none⟩)] W fun e w' => e = .returned (.bool true) ∧ IsDisk w' w.heap.size b aw4 ∧ W.grownBy w' (some b)) := fun b W h => up_any w.heap.size b aw3 W h rfl
  have C23 : Hid (∀ b W, IsDisk W w.heap.size b aw4 → Calls Try.prog 23 #[.pointer (some ⟨b, 0, none⟩), .string ⟨#[97]⟩] W fun e w' => e = .returned (.tuple #[.string (readS awF ⟨#[97]⟩), .int .i64 2]) ∧ W.grownBy w' none) := fun b W h => by
    have := read_any w.heap.size b aw4 ⟨#[97]⟩ W h rfl n1 m1
    rw [show aw4.now = awF from rfl, aw_a] at this
    exact this
  have C24 : Hid (∀ b W, IsDisk W w.heap.size b aw4 → Calls Try.prog 23 #[.pointer (some ⟨b, 0, none⟩), .string ⟨#[98]⟩] W fun e w' => e = .returned (.tuple #[.string ⟨#[121]⟩, .int .i64 0]) ∧ W.grownBy w' none) := fun b W h => by
    have := read_any w.heap.size b aw4 ⟨#[98]⟩ W h rfl n2 m2
    rw [show aw4.now = awF from rfl, aw_b, aw_s] at this
    exact this
  clear n1 n2 m1 m2 s0 f2
  generalize readS awF ⟨#[97]⟩ = r at *
  go_enter Try.func10, Try.ntmps10
  go_wp2_with (first | (go_at_call 7; refine (new_any _).mono ?_; rintro e w1 ⟨rfl, h1, g1⟩; have I1 : Hid (IsDisk w1 w.heap.size w.heap.size aw0) := h1; have G1 : Hid (w.grownBy w1 none) := g1; clear h1 g1) | (go_at_call 33; refine (C33.out _ _ I1.out).mono ?_; clear C33; rintro e w2 ⟨rfl, h2, t2⟩; have I2 : Hid (IsDisk w2 w.heap.size w.heap.size aw1) := h2; have G2 : Hid (w.grownBy w2 none) := Tend.grown G1.out t2; clear h2 t2) | (go_at_call 34; refine (C34.out _ _ I2.out).mono ?_; clear C34; rintro e w3 ⟨rfl, h3, t3⟩; have I3 : Hid (IsDisk w3 w.heap.size w.heap.size aw2) := h3; have G3 : Hid (w.grownBy w3 none) := Tend.grown G2.out t3; clear h3 t3) | (go_at_call 15; refine (C15.out _ _ I3.out).mono ?_; clear C15; rintro e w4 ⟨rfl, h4, g4⟩; have I4 : Hid (IsDisk w4 w.heap.size w.heap.size aw3) := h4; have G4 : Hid (w.grownBy w4 none) := grown_through G3.out g4 (Nat.le_refl _); clear h4 g4) | (go_at_call 16; refine (C16.out _ _ I4.out).mono ?_; clear C16; rintro e w5 ⟨rfl, h5, g5⟩; have I5 : Hid (IsDisk w5 w.heap.size w.heap.size aw4) := h5; have G5 : Hid (w.grownBy w5 none) := grown_through G4.out g5 (Nat.le_refl _); clear h5 g5) | (go_at_call 23; refine (C23.out _ _ I5.out).mono ?_; clear C23; rintro e w6 ⟨rfl, g6⟩; have I6 : Hid (IsDisk w6 w.heap.size w.heap.size aw4) := I5.out.kept g6; have G6 : Hid (w.grownBy w6 none) := grown_none G5.out g6; clear g6) | (go_at_call 23; refine (C24.out _ _ I6.out).mono ?_; clear C24; rintro e w7 ⟨rfl, g7⟩; have G7 : Hid (w.grownBy w7 none) := grown_none G6.out g7; clear g7))
  go_ret
  exact ⟨rfl, G7.out⟩
end Go.Proofs.Ytoenddcdafnmiaa
