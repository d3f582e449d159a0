/-
  strconv.ParseInt of a word of digits.
-/
import Derived.Test.YtajoncmmdeahnaaGreatDoorKACi
import Derived.Test.YtajoncmmdeahnaaGreatDoorKRa
import Derived.Shelf.Strconv.ParseInt10At64
import Derived.Lib.ParseIntBTie
import Derived.Lib.AtoiErrMem
namespace Go.Proofs.YtajoncmmdeahnaaGreatDoor
open Go.RowKit Go.Shelf
namespace Pm
def renI : Ren := { f := fun n => if n = 247 then 230 else if n = 287 then 258 else if n = 321 then 273 else 274, t := fun n => if n = 37 then 24 else if n = 46 then 157 else if n = 53 then 147 else if n = 75 then 164 else if n = 80 then 68 else if n = 167 then 241 else if n = 175 then 253 else n, g := fun n => n }
theorem laysI : LaysC.n247 Tryz.prog renI := by
  constructor <;> first | kernel_rfl | (intro w; kernel_rfl) | (constructor <;> first | kernel_rfl | (intro w; kernel_rfl) | (constructor <;> first | kernel_rfl | (intro w; kernel_rfl)))
theorem digF_le (l : List UInt8) : ∀ a, a ≤ digF a l := by
  induction l with
  | nil => exact fun a => Nat.le_refl _
  | cons c r ih => exact fun a => Nat.le_trans (by omega) (ih (a * 10 + (c.toNat - 48)))
theorem dgt_iff {c : UInt8} (h : dgt c = true) : 48 ≤ c.toNat ∧ c.toNat ≤ 57 := by
  unfold dgt at h
  rw [Bool.and_eq_true, decide_eq_true_eq, decide_eq_true_eq, UInt8.le_iff_toNat_le, UInt8.le_iff_toNat_le] at h
  exact h
theorem parseM_digits : ∀ (l : List UInt8) (a : Nat), l.all dgt = true → digF a l ≤ 9223372036854775807 → Lib.parseUintM (2 ^ 64 - 1) a l = .ok (digF a l)
  | [], a, _, _ => rfl
  | c :: r, a, h, hb => by
    rw [List.all_cons, Bool.and_eq_true] at h
    have hc := dgt_iff h.1
    have hb' : digF (a * 10 + (c.toNat - 48)) r ≤ 9223372036854775807 := hb
    have hl := digF_le r (a * 10 + (c.toNat - 48))
    have ih := parseM_digits r (a * 10 + (c.toNat - 48)) h.2 hb'
    rw [Lib.parseUintM, if_pos hc, if_neg (by omega), if_neg (by omega), ih]
    rfl
theorem parseI_digits (l : List UInt8) (h0 : l ≠ []) (h : l.all dgt = true) (hb : digF 0 l ≤ 9223372036854775807) : Lib.parseIntB 64 l = .ok (digF 0 l : Nat) := by
  match l, h0 with
  | c :: r, _ =>
    have hc := dgt_iff (by rw [List.all_cons, Bool.and_eq_true] at h; exact h.1)
    have hu : Lib.parseUintB 64 (c :: r) = .ok (digF 0 (c :: r)) := by
      unfold Lib.parseUintB
      rw [if_neg (by simp)]
      exact parseM_digits (c :: r) 0 h hb
    rw [Lib.parseIntB_plain 64 c r (by omega) (by omega), hu]
    unfold Lib.signlessC
    simp only []
    rw [if_neg (by omega)]
set_option maxRecDepth 100000 in
set_option maxHeartbeats 1000000 in
theorem parseInt_digits (l : List UInt8) (w : World) (h0 : l ≠ []) (h : l.all dgt = true) (hb : digF 0 l ≤ 9223372036854775807) (hl : l.length ≤ 4096) :
    Calls Tryz.prog 195 #[.string ⟨l.toArray⟩, .int .i64 10, .int .i64 64] w fun e w' => e = .returned (.tuple #[.int .i64 (digF 0 l : Nat), .nilIface]) ∧ w.grownBy w' none := by
  have hz : (⟨l.toArray⟩ : ByteArray).size = l.length := by show l.toArray.size = _; simp
  have C := Any.internal_strconv_ParseInt_10_at64 laysI ⟨l.toArray⟩ (by rw [hz]; intro e; exact h0 (List.eq_nil_of_length_eq_zero e)) (by rw [hz]; omega)
  have e0 : (⟨l.toArray⟩ : ByteArray).data.toList = l := by simp
  rw [e0, parseI_digits l h0 h hb] at C
  have CI : Hid (∀ W, Calls Tryz.prog 230 #[.string ⟨l.toArray⟩, .int .i64 10, .int .i64 64] W fun e w' => e = .returned (.tuple #[.int .i64 (digF 0 l : Nat), .nilIface]) ∧ W.grownBy w' none) := fun W => (C W).mono fun e w' hh => by
    obtain ⟨h1, h2⟩ := hh
    refine ⟨h1, ?_⟩
    rcases h2 with rfl | ⟨t, rfl⟩
    · exact grown_refl _ _
    · exact ⟨rfl, rfl, rfl, (Lib.bytesWorld_below _ _ _).size, fun k hk _ => (Lib.bytesWorld_below W _ t).block k hk⟩
  clear C e0 hz h0 h hb hl
  generalize digF 0 l = d at *
  generalize (⟨l.toArray⟩ : ByteArray) = s at *
  go_enter Tryz.func195, Tryz.ntmps195
  go_wp2_with (go_at_call 230; refine (CI.out _).mono ?_; rintro e w1 ⟨rfl, hg⟩; have G := hid hg; clear hg)
  go_ret2
  exact ⟨rfl, G.out⟩
end Pm
end Go.Proofs.YtajoncmmdeahnaaGreatDoor
