/-
  InterpLoops: its texts and the law's walk.
-/
import Derived.Test.YtajoncmmdeahnaaGreatDoorKJp
import Derived.Test.YtajoncmmdeahnaaGreatDoorKSc4
import Derived.WalkSmall
namespace Go.Proofs.YtajoncmmdeahnaaGreatDoor
open Go.RowKit Go.Shelf
namespace Rn
open Sc Ip
def preQ : List UInt8 := [118, 97, 114, 32, 105, 32, 105, 110, 116, 32, 61, 32, 48, 59, 32, 116, 101, 115, 116, 32, 116, 32, 123, 32, 102, 111, 114, 32, 116, 114, 117, 101, 32, 123, 32, 115, 107, 105, 112, 59, 32, 125, 32, 125, 32, 116, 101, 115, 116, 32, 117, 32, 123, 32, 102, 111, 114, 32, 105, 32, 60, 32]
def midQ : List UInt8 := [32, 123, 32, 105, 32, 61, 32, 105, 32, 43, 32, 49, 59, 32, 125, 32, 97, 115, 115, 101, 114, 116, 32, 105, 32, 61, 61, 32]
def endQ : List UInt8 := [59, 32, 125]
def txQ (k : Nat) : List UInt8 := preQ ++ dgL k ++ midQ ++ dgL k ++ endQ
def okQ (k : Nat) : Bool := match parsL 60 (txQ k) with
  | .ok n => outX 60 802 n [117] 20000 [] == some (1, 8 * k + 9, true) && preB 60 n (mkS [116])
  | .error _ => false
def partQ (i : Nat) : Bool := (List.range 16).all fun j => okQ (16 * i + j)
set_option maxRecDepth 100000 in
theorem allQ0 : partQ 0 = true := by kernel_rfl
set_option maxRecDepth 100000 in
theorem allQ1 : partQ 1 = true := by kernel_rfl
set_option maxRecDepth 100000 in
theorem allQ2 : partQ 2 = true := by kernel_rfl
set_option maxRecDepth 100000 in
theorem allQ3 : partQ 3 = true := by kernel_rfl
theorem okQ_at (k : Nat) (hk : k < 64) : ∃ n, parsL 60 (txQ k) = .ok n ∧ outX 60 802 n [117] 20000 [] = some (1, 8 * k + 9, true) ∧ preB 60 n (mkS [116]) = true := by
  have h1 : partQ (k / 16) = true := by
    rcases (show k / 16 = 0 ∨ k / 16 = 1 ∨ k / 16 = 2 ∨ k / 16 = 3 by omega) with h | h | h | h <;> rw [h]
    · exact allQ0
    · exact allQ1
    · exact allQ2
    · exact allQ3
  unfold partQ at h1
  have h2 := List.all_eq_true.1 h1 (k % 16) (List.mem_range.2 (by omega))
  rw [show 16 * (k / 16) + k % 16 = k by omega] at h2
  unfold okQ at h2
  cases hp : parsL 60 (txQ k) with
  | error e => rw [hp] at h2; cases h2
  | ok n =>
    rw [hp] at h2
    simp only [Bool.and_eq_true, beq_iff_eq] at h2
    exact ⟨n, rfl, h2⟩
theorem outQ {n : Nd} (h : preB 60 n (mkS [116]) = true) (f : Nat) (hf : f ≤ 2047) : outX 60 802 n [116] f [] = some (6, f, true) := by
  obtain ⟨q, h1, h2⟩ := run_trap (L := flM) h 800 f (by omega) (by omega)
  unfold outX
  rw [h1, Option.map_some, h2]
  rfl
theorem and_big (n : Int) : ∃ k : Nat, bits .and .i64 n 2047 = (k : Int) ∧ k ≤ 2047 := by
  have h1 : (BitVec.ofInt 64 (2047 : Int)).toNat = 2047 := by decide
  have key : (BitVec.ofInt 64 n &&& BitVec.ofInt 64 (2047 : Int)).toNat ≤ 2047 := by
    rw [BitVec.toNat_and, h1]
    exact Nat.and_le_right
  refine ⟨(BitVec.ofInt 64 n &&& BitVec.ofInt 64 (2047 : Int)).toNat, ?_, key⟩
  show IntKind.i64.wrap ((BitVec.ofInt 64 n &&& BitVec.ofInt 64 (2047 : Int)).toNat : Nat) = _
  generalize (BitVec.ofInt 64 n &&& BitVec.ofInt 64 (2047 : Int)).toNat = x at *
  rw [IntKind.wrap_i64]
  omega
theorem tab_kept {w w' : World} (hl : 14 < w.heap.size) (h : Lib.TabIs Tryz.prog w "internal/strconv.uint64pow10" .u64 Lib.pow10Tab) (hg : w.grownBy w' none) : Lib.TabIs Tryz.prog w' "internal/strconv.uint64pow10" .u64 Lib.pow10Tab :=
  var?_below (B := w.heap.size) ⟨hg.os, hg.tape, hg.output, hg.size, fun i hi => hg.block i hi (by simp)⟩ (show Tryz.prog.globalNamed "internal/strconv.uint64pow10" = some 0 by kernel_rfl) (by omega) h
theorem txQ_len (k : Nat) : (txQ k).length ≤ 4096 := by
  have := dgL_len k
  unfold txQ
  rw [List.length_append, List.length_append, List.length_append, List.length_append]
  have h1 : preQ.length = 62 := rfl
  have h2 : midQ.length = 28 := rfl
  have h3 : endQ.length = 3 := rfl
  rw [h1, h2, h3]
  omega
theorem txQ_eq (k : Nat) : mkS preQ ++ mkS (dgL k) ++ mkS midQ ++ mkS (dgL k) ++ mkS endQ = mkS (txQ k) := by
  unfold txQ
  rw [← app_mk, ← app_mk, ← app_mk, ← app_mk]
set_option maxRecDepth 100000 in
set_option maxHeartbeats 8000000 in
theorem loops_law (m g : Int) (w : World) (hG : Pm.GlB w w.heap.size) (ht : Lib.TabIs Tryz.prog w "internal/strconv.uint64pow10" .u64 Lib.pow10Tab) : Calls Tryz.prog 7 #[.int .i64 m, .int .i64 g] w (TrueP w) := by
  obtain ⟨k, hk, hk7⟩ := and_le m 63 (by decide)
  have hk1 : bits .and .i64 m 63 = (k : Int) := hk
  obtain ⟨f, hf, hf7⟩ := and_big g
  clear hk
  obtain ⟨n1, hp, hr, hq⟩ := okQ_at k (by omega)
  have hr2 := outQ hq f hf7
  have GG := hid (glb_all hG)
  have G0 := hid (grown_refl w none)
  have CI := hid (fun W (hW : Lib.TabIs Tryz.prog W "internal/strconv.uint64pow10" .u64 Lib.pow10Tab) => itoa_any k (by omega) W hW)
  have HT := hid ht
  have HL := hid hG.low
  have CA := hid (fun W (h : w.grownBy W none) => parse_closed 60 (txQ k) n1 W (txQ_len k) (GG.out W h) hp)
  rw [← txQ_eq] at CA
  have R1 := hid (fun W (h : w.grownBy W none) P ps cp hk => run_closed hr2 List.nodup_nil (by decide) W P ps cp (GG.out W h) hk 6 f f rfl rfl rfl)
  have R2 := hid (fun W (h : w.grownBy W none) P ps cp hk => run_closed hr List.nodup_nil (by decide) W P ps cp (GG.out W h) hk 1 (8 * (k : Int) + 9) 20000 rfl (by omega) rfl)
  have C18 := hid (fun W (h : w.grownBy W none) => awake_any W (GG.out W h))
  have l0 := dgL_len k
  have l1 : ¬ 9223372036854775807 < 62 + (mkS (dgL k)).size := by rw [mkS_size]; omega
  have l2 : ¬ 9223372036854775807 < 62 + (mkS (dgL k)).size + 28 := by rw [mkS_size]; omega
  have l3 : ¬ 9223372036854775807 < 62 + (mkS (dgL k)).size + 28 + (mkS (dgL k)).size := by rw [mkS_size]; omega
  have l4 : ¬ 9223372036854775807 < 62 + (mkS (dgL k)).size + 28 + (mkS (dgL k)).size + 3 := by rw [mkS_size]; omega
  have k0 : (0 : Int) ≤ k := by omega
  have k1 : (k : Int) ≤ 63 := by omega
  have f0 : (0 : Int) ≤ f := by omega
  have f1 : (f : Int) ≤ 2047 := by omega
  clear hG hp hr hr2 hq l0 ht
  generalize dgL k = tr at *
  go_enter Tryz.func7, Tryz.ntmps7
  go_wp2_with (first
    | (go_at_call 16; refine (CI.out _ HT.out).mono ?_; rintro e w0 ⟨rfl, hg⟩; have H0 := hid (grown_none G0.out hg); have HT0 := hid (tab_kept HL.out HT.out hg); clear HT hg)
    | (go_at_call 16; refine (CI.out _ HT0.out).mono ?_; rintro e w00 ⟨rfl, hg⟩; have H00 := hid (grown_none H0.out hg); have C9 := hid (CA.out _ H00.out); unfold preQ midQ endQ mkS at C9; clear CA CI HT0 hg)
    | (go_at_call 9; refine C9.out.mono ?_; rintro e w1 ⟨ps, cp, rfl, hk, hg⟩; have G1 := hid (grown_alloc (grown_none H00.out hg) (.cells #[.int .i64 n1.kind, .int .i64 n1.ty, .string n1.txt, .int .i64 n1.num, .slice ps n1.kids.length cp] 27)); have K1 := hid (hk.kept (grown_alloc (grown_refl _ none) (.cells #[.int .i64 n1.kind, .int .i64 n1.ty, .string n1.txt, .int .i64 n1.num, .slice ps n1.kids.length cp] 27))); have B1 := hid (Blk.new w1 27 #[.int .i64 n1.kind, .int .i64 n1.ty, .string n1.txt, .int .i64 n1.num, .slice ps n1.kids.length cp]); have C17 := hid (R1.out _ G1.out _ ps cp K1.out); clear C9 R1 hk hg)
    | (go_at_call 17; refine C17.out.mono ?_; rintro e w2 ⟨pa, cn, cap, rfl, hl1, hl2, hg⟩; have G2 := hid (grown_alloc (grown_none G1.out hg) (.cells #[.int .i64 6, .int .i64 f, .slice pa cn cap] 42)); have K2 := hid ((K1.out.kept hg).kept (grown_alloc (grown_refl _ none) (.cells #[.int .i64 6, .int .i64 f, .slice pa cn cap] 42))); have B2 := hid (B1.out.kept hg (by simp)); have S2 := hid (Blk.new w2 42 #[.int .i64 6, .int .i64 f, .slice pa cn cap]); have CD := hid (R2.out _ G2.out _ ps cp K2.out); have x0 := B2.out.cell 0; have x1 := B2.out.cell 1; have x2 := B2.out.cell 2; have x3 := B2.out.cell 3; have x4 := B2.out.cell 4; have xl := B2.out.lt; simp at x0 x1 x2 x3 x4; clear C17 R2 hl1 hl2 hg)
    | (go_at_call 17; refine CD.out.mono ?_; rintro e w3 ⟨pb, cm, cbp, rfl, hl1, hl2, hg⟩; have G3 := hid (grown_alloc (grown_none G2.out hg) (.cells #[.int .i64 1, .int .i64 (8 * (k : Int) + 9), .slice pb cm cbp] 42)); have S3 := hid ((S2.out.kept hg (by simp)).alloc (.cells #[.int .i64 1, .int .i64 (8 * (k : Int) + 9), .slice pb cm cbp] 42)); have T3 := hid (Blk.new w3 42 #[.int .i64 1, .int .i64 (8 * (k : Int) + 9), .slice pb cm cbp]); have CW := hid (C18.out _ G3.out); clear CD C18 hl1 hl2 hg)
    | (go_at_call 18; refine CW.out.mono ?_; rintro e w4 ⟨rfl, hg⟩; have G4 := hid (grown_none G3.out hg); have S4 := hid (S3.out.kept hg (by simp)); have T4 := hid (T3.out.kept hg (by simp)); have z0 := S4.out.cell 0; have z1 := S4.out.cell 1; have y0 := T4.out.cell 0; have y1 := T4.out.cell 1; simp at z0 z1 y0 y1; clear CW hg))
  go_ret
  exact ⟨rfl, G4.out⟩
end Rn
end Go.Proofs.YtajoncmmdeahnaaGreatDoor
