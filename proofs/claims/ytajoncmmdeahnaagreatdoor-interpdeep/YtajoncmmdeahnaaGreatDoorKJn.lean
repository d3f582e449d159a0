/-
  strconv.Itoa. InterpDeep: its texts and the law's walk.
-/
import Derived.Test.YtajoncmmdeahnaaGreatDoorKJl
import Derived.Shelf.Strconv.Itoa3
import Derived.Lib.AppendIntMem
import Derived.Test.YtajoncmmdeahnaaGreatDoorKSc4
namespace Go.Proofs.YtajoncmmdeahnaaGreatDoor
open Go.RowKit Go.Shelf
namespace Rn
def itoaR : Ren := { f := fun n => if n = 171 then 16 else if n = 243 then 30 else if n = 246 then 56 else if n = 283 then 100 else if n = 284 then 101 else if n = 285 then 102 else if n = 286 then 103 else if n = 129 then 143 else if n = 317 then 142 else if n = 318 then 144 else if n = 319 then 145 else if n = 320 then 146 else if n = 337 then 181 else if n = 338 then 182 else n, t := fun n => if n = 3 then 3 else if n = 9 then 9 else if n = 2 then 2 else if n = 4 then 4 else if n = 171 then 146 else if n = 0 then 0 else if n = 53 then 147 else if n = 37 then 24 else if n = 5 then 5 else if n = 173 then 150 else if n = 212 then 175 else if n = 51 then 176 else if n = 20 then 20 else if n = 213 then 177 else if n = 46 then 157 else if n = 232 then 225 else if n = 233 then 226 else n, g := fun n => if n = 17 then 0 else if n = 18 then 2 else if n = 19 then 3 else n }
set_option maxRecDepth 100000 in
theorem itoaL : LaysM.n171 Tryz.prog itoaR := by
  constructor
  · constructor <;> first | kernel_rfl | (intro w; kernel_rfl)
  all_goals first | kernel_rfl | (intro w; kernel_rfl)
def dgL (k : Nat) : List UInt8 := if k < 10 then [UInt8.ofNat (48 + k)] else if k < 100 then [UInt8.ofNat (48 + k / 10), UInt8.ofNat (48 + k % 10)] else [49, UInt8.ofNat (48 + k / 10 % 10), UInt8.ofNat (48 + k % 10)]
theorem dgL_len (k : Nat) : (dgL k).length ≤ 3 := by
  unfold dgL
  split
  · simp
  · split <;> simp
set_option maxRecDepth 100000 in
theorem itoa_all : ((List.range 128).all fun (k : Nat) => Lib.itoa (k : Int) == dgL k) = true := by kernel_rfl
theorem itoa_any (k : Nat) (hk : k < 128) (w : World) (ht : Lib.TabIs Tryz.prog w "internal/strconv.uint64pow10" .u64 Lib.pow10Tab) : Calls Tryz.prog 16 #[.int .i64 k] w fun e w' => e = .returned (.string (Sc.mkS (dgL k))) ∧ w.grownBy w' none := by
  refine (Any.strconv_Itoa itoaL k (by omega) (by omega) w ht).mono ?_
  rintro e w' ⟨rfl, n, os, rfl⟩
  have h1 := List.all_eq_true.1 itoa_all k (List.mem_range.2 hk)
  rw [beq_iff_eq] at h1
  rw [h1]
  exact ⟨rfl, rfl, rfl, rfl, by show w.heap.size ≤ (w.heap ++ os).size; rw [Array.size_append]; omega, fun g hg _ => Lib.heap_grow_old w n os g hg⟩
end Rn
end Go.Proofs.YtajoncmmdeahnaaGreatDoor
namespace Go.Proofs.YtajoncmmdeahnaaGreatDoor
open Go.RowKit Go.Shelf
namespace Rn
open Sc Ip
def preD : List UInt8 := [102, 117, 110, 99, 32, 102, 40, 110, 32, 105, 110, 116, 41, 32, 105, 110, 116, 32, 123, 32, 105, 102, 32, 110, 32, 61, 61, 32, 48, 32, 123, 32, 114, 101, 116, 117, 114, 110, 32, 48, 59, 32, 125, 32, 114, 101, 116, 117, 114, 110, 32, 102, 40, 110, 32, 45, 32, 49, 41, 59, 32, 125, 32, 116, 101, 115, 116, 32, 116, 32, 123, 32, 97, 115, 115, 101, 114, 116, 32, 102, 40]
def txD (k : Nat) : List UInt8 := preD ++ dgL k ++ [41, 32, 61, 61, 32, 48, 59, 32, 125]
def wantD (k : Nat) : Nat := if 64 < k + 1 then 5 else 1
def okD (k : Nat) : Bool := match outS 60 60 600 (txD k) [116] 20000 [] with
  | some (o, _, b) => o == wantD k && b
  | none => false
def part (i : Nat) : Bool := (List.range 16).all fun j => okD (16 * i + j)
set_option maxRecDepth 100000 in
theorem allD0 : part 0 = true := by kernel_rfl
set_option maxRecDepth 100000 in
theorem allD1 : part 1 = true := by kernel_rfl
set_option maxRecDepth 100000 in
theorem allD2 : part 2 = true := by kernel_rfl
set_option maxRecDepth 100000 in
theorem allD3 : part 3 = true := by kernel_rfl
set_option maxRecDepth 100000 in
theorem allD4 : part 4 = true := by kernel_rfl
set_option maxRecDepth 100000 in
theorem allD5 : part 5 = true := by kernel_rfl
set_option maxRecDepth 100000 in
theorem allD6 : part 6 = true := by kernel_rfl
set_option maxRecDepth 100000 in
theorem allD7 : part 7 = true := by kernel_rfl
theorem allD (i : Nat) (hi : i < 8) : part i = true := by
  rcases (show i = 0 ∨ i = 1 ∨ i = 2 ∨ i = 3 ∨ i = 4 ∨ i = 5 ∨ i = 6 ∨ i = 7 by omega) with rfl | rfl | rfl | rfl | rfl | rfl | rfl | rfl
  · exact allD0
  · exact allD1
  · exact allD2
  · exact allD3
  · exact allD4
  · exact allD5
  · exact allD6
  · exact allD7
theorem okD_at (k : Nat) (hk : k < 128) : ∃ n s, parsL 60 (txD k) = .ok n ∧ outX 60 600 n [116] 20000 [] = some (wantD k, s, true) := by
  have h1 := allD (k / 16) (by omega)
  unfold part at h1
  have h2 := List.all_eq_true.1 h1 (k % 16) (List.mem_range.2 (by omega))
  rw [show 16 * (k / 16) + k % 16 = k by omega] at h2
  unfold okD at h2
  split at h2
  case h_1 o s b ho =>
    rw [Bool.and_eq_true, beq_iff_eq] at h2
    obtain ⟨rfl, rfl⟩ := h2
    obtain ⟨n, h3, h4⟩ := outS_some ho
    exact ⟨n, s, h3, h4⟩
  case h_2 => cases h2
theorem txD_len (k : Nat) : (txD k).length ≤ 4096 := by
  have := dgL_len k
  unfold txD
  rw [List.length_append, List.length_append]
  have h1 : preD.length = 81 := rfl
  rw [h1]
  simp only [List.length_cons, List.length_nil]
  omega
theorem txD_eq (k : Nat) : mkS preD ++ mkS (dgL k) ++ (⟨#[41, 32, 61, 61, 32, 48, 59, 32, 125]⟩ : ByteArray) = mkS (txD k) := by
  unfold txD
  rw [← app_mk, ← app_mk]
  rfl
set_option maxRecDepth 100000 in
set_option maxHeartbeats 8000000 in
theorem deep_law (m : Int) (w : World) (hG : Pm.GlB w w.heap.size) (ht : Lib.TabIs Tryz.prog w "internal/strconv.uint64pow10" .u64 Lib.pow10Tab) : Calls Tryz.prog 6 #[.int .i64 m] w (TrueP w) := by
  obtain ⟨k, hk, hk7⟩ := and_le m 127 (by decide)
  have hk1 : bits .and .i64 m 127 = (k : Int) := hk
  clear hk
  obtain ⟨n1, s1, hp, hr⟩ := okD_at k (by omega)
  have GG := hid (glb_all hG)
  have G0 := hid (grown_refl w none)
  have CI := hid (itoa_any k (by omega) w ht)
  have CA := hid (fun W (h : w.grownBy W none) => parse_closed 60 (txD k) n1 W (txD_len k) (GG.out W h) hp)
  rw [← txD_eq] at CA
  have R1 := hid (fun W (h : w.grownBy W none) P ps cp hk => run_closed hr List.nodup_nil (by decide) W P ps cp (GG.out W h) hk (wantD k) s1 20000 rfl rfl rfl)
  have C18 := hid (fun W (h : w.grownBy W none) => awake_any W (GG.out W h))
  have l0 := dgL_len k
  have l1 : ¬ 9223372036854775807 < 81 + (mkS (dgL k)).size := by rw [mkS_size]; omega
  have l2 : ¬ 9223372036854775807 < 81 + (mkS (dgL k)).size + 9 := by rw [mkS_size]; omega
  have k0 : (0 : Int) ≤ k := by omega
  have k1 : (k : Int) ≤ 127 := by omega
  have hW : (64 < (k : Int) + 1 ∧ wantD k = 5) ∨ (¬ 64 < (k : Int) + 1 ∧ wantD k = 1) := by
    unfold wantD
    split
    · exact Or.inl ⟨by omega, rfl⟩
    · exact Or.inr ⟨by omega, rfl⟩
  clear hG hp hr l0 ht
  generalize dgL k = tr at *
  generalize wantD k = wn at *
  rcases hW with ⟨hd, rfl⟩ | ⟨hd, rfl⟩
  · go_enter Tryz.func6, Tryz.ntmps6
    go_wp2_with (first
      | (go_at_call 16; refine CI.out.mono ?_; rintro e w0 ⟨rfl, hg⟩; have H0 := hid (grown_none G0.out hg); have C9 := hid (CA.out _ H0.out); unfold preD mkS at C9; clear CA CI hg)
      | (go_at_call 9; refine C9.out.mono ?_; rintro e w1 ⟨ps, cp, rfl, hk, hg⟩; have G1 := hid (grown_alloc (grown_none H0.out hg) (.cells #[.int .i64 n1.kind, .int .i64 n1.ty, .string n1.txt, .int .i64 n1.num, .slice ps n1.kids.length cp] 27)); have K1 := hid (hk.kept (grown_alloc (grown_refl _ none) (.cells #[.int .i64 n1.kind, .int .i64 n1.ty, .string n1.txt, .int .i64 n1.num, .slice ps n1.kids.length cp] 27))); have C17 := hid (R1.out _ G1.out _ ps cp K1.out); clear C9 R1 hk hg)
      | (go_at_call 17; refine C17.out.mono ?_; rintro e w2 ⟨pa, cn, cap, rfl, hl1, hl2, hg⟩; have G2 := hid (grown_alloc (grown_none G1.out hg) (.cells #[.int .i64 5, .int .i64 s1, .slice pa cn cap] 42)); have S2 := hid (Blk.new w2 42 #[.int .i64 5, .int .i64 s1, .slice pa cn cap]); have CW := hid (C18.out _ G2.out); clear C17 C18 hl1 hl2 hg)
      | (go_at_call 18; refine CW.out.mono ?_; rintro e w3 ⟨rfl, hg⟩; have G3 := hid (grown_none G2.out hg); have S3 := hid (S2.out.kept hg (by simp)); have z0 := S3.out.cell 0; simp at z0; clear CW hg))
    go_ret
    exact ⟨rfl, G3.out⟩
  · go_enter Tryz.func6, Tryz.ntmps6
    go_wp2_with (first
      | (go_at_call 16; refine CI.out.mono ?_; rintro e w0 ⟨rfl, hg⟩; have H0 := hid (grown_none G0.out hg); have C9 := hid (CA.out _ H0.out); unfold preD mkS at C9; clear CA CI hg)
      | (go_at_call 9; refine C9.out.mono ?_; rintro e w1 ⟨ps, cp, rfl, hk, hg⟩; have G1 := hid (grown_alloc (grown_none H0.out hg) (.cells #[.int .i64 n1.kind, .int .i64 n1.ty, .string n1.txt, .int .i64 n1.num, .slice ps n1.kids.length cp] 27)); have K1 := hid (hk.kept (grown_alloc (grown_refl _ none) (.cells #[.int .i64 n1.kind, .int .i64 n1.ty, .string n1.txt, .int .i64 n1.num, .slice ps n1.kids.length cp] 27))); have C17 := hid (R1.out _ G1.out _ ps cp K1.out); clear C9 R1 hk hg)
      | (go_at_call 17; refine C17.out.mono ?_; rintro e w2 ⟨pa, cn, cap, rfl, hl1, hl2, hg⟩; have G2 := hid (grown_alloc (grown_none G1.out hg) (.cells #[.int .i64 1, .int .i64 s1, .slice pa cn cap] 42)); have S2 := hid (Blk.new w2 42 #[.int .i64 1, .int .i64 s1, .slice pa cn cap]); have CW := hid (C18.out _ G2.out); clear C17 C18 hl1 hl2 hg)
      | (go_at_call 18; refine CW.out.mono ?_; rintro e w3 ⟨rfl, hg⟩; have G3 := hid (grown_none G2.out hg); have S3 := hid (S2.out.kept hg (by simp)); have z0 := S3.out.cell 0; simp at z0; clear CW hg))
    go_ret
    exact ⟨rfl, G3.out⟩
end Rn
end Go.Proofs.YtajoncmmdeahnaaGreatDoor
