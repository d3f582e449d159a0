/-
  strconv.FormatUint at base 10, of every uint64: by the library's own contracts of what it calls.
-/
import Derived.Test.YthpeckoleiecbaaDoorBa
import Derived.Shelf.Strconv.Itoa1
import Derived.Shelf.Strconv.Itoa2
import Derived.Lib.AppendIntMem
namespace Go.Proofs.YthpeckoleiecbaaDoor
open Go.RowKit Go.Shelf Go.Sort
def renF : Ren := { f := fun n => if n = 283 then 11 else if n = 284 then 12 else if n = 285 then 13 else if n = 129 then 28 else if n = 317 then 27 else if n = 318 then 29 else n, t := fun n => if n = 37 then 40 else if n = 51 then 50 else if n = 53 then 22 else if n = 46 then 53 else if n = 212 then 49 else n, g := fun n => if n = 17 then 0 else n }
theorem laysSmall : Lays.n283 Tryd.prog renF := by
  constructor <;> first | kernel_rfl | (intro w; kernel_rfl)
theorem laysFmt : Lays.n285 Tryd.prog renF := by
  constructor <;> first | kernel_rfl | (intro w; kernel_rfl)
theorem laysNum0 : Lays.n284 Tryd.prog renF := by
  constructor <;> first | kernel_rfl | (intro w; kernel_rfl)
theorem laysNum : LaysM.n284 Tryd.prog renF := { laysNum0 with
  i0 := by kernel_rfl
  i3 := by kernel_rfl
  i4 := by kernel_rfl
  i5 := by kernel_rfl
  i9 := by kernel_rfl
  i46 := by kernel_rfl
  i53 := by kernel_rfl
  i212 := by kernel_rfl
  m17 := by kernel_rfl }
theorem grown_of_grow (w : World) (k : Nat) (os : Array Obj) : w.grownBy (grow (w.drewN k) os) none :=
  ⟨rfl, rfl, rfl, by show w.heap.size ≤ (w.heap ++ os).size; rw [Array.size_append]; omega, fun g hg _ => Lib.heap_grow_old w k os g hg⟩
/-- A number's digits. -/
def decS (u : Nat) : ByteArray := ⟨(Lib.decDigits u).toArray⟩
set_option maxHeartbeats 12800000 in
set_option maxRecDepth 100000 in
theorem innerUint_any (u : Nat) (hu64 : u < 18446744073709551616) (w : World) (htab : Lib.TabIs Tryd.prog w "internal/strconv.uint64pow10" .u64 Lib.pow10Tab) :
    Calls Tryd.prog 7 #[.int .u64 u, .int .i64 10] w fun e w' => e = .returned (.string (decS u)) ∧ w.grownBy w' none := by
  by_cases hu : u < 100
  · have iu : (u : Int) < 100 := by omega
    have CS : Hid (∀ W, Calls Tryd.prog 11 #[.int .i64 u] W fun e w' => e = .returned (.string (decS u)) ∧ w' = W) := fun W => Any.internal_strconv_small laysSmall u hu W
    generalize decS u = S at *
    clear hu htab hu64
    go_enter Tryd.func7, Tryd.ntmps7
    go_wp2_with (go_at_call 11; refine (CS.out _).mono ?_; rintro e w1 ⟨rfl, rfl⟩; clear CS)
    go_ret
    exact ⟨rfl, grown_refl _ _⟩
  · have hu1 : 1 ≤ u := by omega
    have hnd20 : Lib.nDigits u ≤ 20 := by have := Lib.numDigits_eq u hu1 hu64; split at this <;> omega
    have hal : Tryd.prog.arrayLen 37 = 24 := by kernel_rfl
    have hsl : ∀ W, (Instr.sliceAt 37 (.pointer (some ⟨w.heap.size, 0, none⟩)) none (some (.int .i64 (Lib.nDigits u : Int))) none).run Tryd.prog W = .ok (.slice (some ⟨w.heap.size, 0, none⟩) (Lib.nDigits u) 24) W := fun W => by
      rw [run_sliceAt_array_h W 37 ⟨w.heap.size, 0, none⟩ (by kernel_rfl) .i64 (Lib.nDigits u : Int) (by omega) (by rw [hal]; omega)]
      go_simp
    have hH0 := Lib.holds_zero0 w 37 (Lib.nDigits u) (by omega)
    have hfmt := Any.internal_strconv_formatBase10 laysFmt w.heap.size 0 24 u (Array.replicate (Lib.nDigits u) 0) (w.alloc (.cells Lib.zeros24 37)) hH0 (by rw [Array.size_replicate]; exact Lib.lt_pow_nDigits u) hu64 (by rw [Array.size_replicate]; omega)
    rw [Array.size_replicate] at hfmt
    have HF := Lib.hid hfmt
    have HH0 := Lib.hid hH0
    have CD : Hid (∀ W, Lib.TabIs Tryd.prog W "internal/strconv.uint64pow10" .u64 Lib.pow10Tab → Calls Tryd.prog 12 #[.int .u64 u] W fun e w' => e = .returned (.int .i64 (Lib.nDigits u)) ∧ w' = W) := fun W hW => Any.internal_strconv_numDigits laysNum u hu1 hu64 W hW
    have HT := hid htab
    have iu : ¬ (u : Int) < 100 := by omega
    clear hH0 hal hfmt htab hu
    go_enter Tryd.func7, Tryd.ntmps7
    go_wp2_with (go_at_call 12; refine (CD.out _ (Lib.tabIs_alloc HT.out _)).mono ?_; rintro e w' ⟨rfl, rfl⟩; clear CD)
    go_at_call 13
    refine HF.out.mono ?_
    rintro e w' ⟨rfl, k, v', dk, rfl, hF⟩
    have hcv : (convert 40 9 (.slice (some ⟨w.heap.size, 0, none⟩) (Lib.nDigits u) 24)).run Tryd.prog ((putRow (fun (b : UInt8) => Value.int .u8 (b.toNat : Int)) (w.alloc (.cells Lib.zeros24 37)) w.heap.size 0 dk).drewN k) = .ok (.string (decS u)) ((putRow (fun (b : UInt8) => Value.int .u8 (b.toNat : Int)) (w.alloc (.cells Lib.zeros24 37)) w.heap.size 0 dk).drewN k) := by
      have h := run_convert_bytes_back (P := Tryd.prog) ((putRow (fun (b : UInt8) => Value.int .u8 (b.toNat : Int)) (w.alloc (.cells Lib.zeros24 37)) w.heap.size 0 dk).drewN k) 40 9 5 ⟨w.heap.size, 0, none⟩ 24 (Lib.decDigits u) Tryd.underlying40 Tryd.underlying5 Tryd.underlying9 (fun j hj => by
        rw [Lib.row_is_numeral hF j hj, Lib.add_plain, World.cell?_drewN]
        exact cell?_putRow (fun (b : UInt8) => Value.int .u8 (b.toNat : Int)) _ w.heap.size 0 _ dk HH0.out (by rw [hF.size, Array.size_replicate]) j (by rw [hF.size]; rw [Lib.decDigits_length] at hj; exact hj))
      rw [Lib.decDigits_length] at h
      exact h
    obtain ⟨os, eo⟩ := Lib.fin_at w (.cells Lib.zeros24 37) dk k 0
    have G := hid (grown_of_grow w k os)
    rw [← eo] at G
    generalize (putRow (fun (b : UInt8) => Value.int .u8 (b.toNat : Int)) (w.alloc (.cells Lib.zeros24 37)) w.heap.size 0 dk).drewN k = W2 at *
    clear HF HH0 HT eo hF
    go_wp2
    go_ret
    exact ⟨rfl, G.out⟩
set_option maxRecDepth 100000 in
theorem formatUint_any (u : Nat) (hu64 : u < 18446744073709551616) (w : World) (htab : Lib.TabIs Tryd.prog w "internal/strconv.uint64pow10" .u64 Lib.pow10Tab) :
    Calls Tryd.prog 4 #[.int .u64 u, .int .i64 10] w fun e w' => e = .returned (.string (decS u)) ∧ w.grownBy w' none := by
  have C := hid (innerUint_any u hu64 w htab)
  generalize decS u = S at *
  clear htab hu64
  go_enter Tryd.func4, Tryd.ntmps4
  go_wp2_with (go_at_call 7; refine C.out.mono ?_; rintro e w1 ⟨rfl, hg⟩; have G := hid hg; clear C hg)
  go_ret
  exact ⟨rfl, G.out⟩
end Go.Proofs.YthpeckoleiecbaaDoor
