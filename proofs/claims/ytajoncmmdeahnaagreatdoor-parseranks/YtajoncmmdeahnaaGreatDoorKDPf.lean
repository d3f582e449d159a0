/-
  readFloat: digits alone, and 1e with a digit behind it. ParseFloat of digits alone, and of 1e with a digit behind it.
-/
import Derived.Test.YtajoncmmdeahnaaGreatDoorKNd
import Derived.Test.YtajoncmmdeahnaaGreatDoorProg
import Derived.KernelRfl
import Derived.IntWalk
import Derived.WalkMore
import Derived.Deep.DeepCutAuto
import Derived.Deep.Cut
import Derived.WalkLawsBesides
namespace Go.Proofs.YtajoncmmdeahnaaGreatDoor.Dg
open Go.RowKit
theorem hid {p : Prop} (h : p) : Hid p := h
def mkS (A : List UInt8) : ByteArray := ⟨A.toArray⟩
theorem mkS_size (A : List UInt8) : (mkS A).size = A.length := by show A.toArray.size = _; simp
def isD (c : UInt8) : Prop := 48 ≤ c.toNat ∧ c.toNat ≤ 57
def val : List UInt8 → Nat := List.foldl (fun n c => n * 10 + (c.toNat - 48)) 0
theorem val_snoc (l : List UInt8) (c : UInt8) : val (l ++ [c]) = val l * 10 + (c.toNat - 48) := by simp [val]
theorem val_take (l : List UInt8) (k : Nat) (h : k < l.length) : val (l.take (k + 1)) = val (l.take k) * 10 + ((l[k]).toNat - 48) := by
  rw [List.take_succ_eq_append_getElem h, val_snoc]
theorem val_lt (l : List UInt8) (h : ∀ c ∈ l, isD c) : ∀ k, k ≤ l.length → val (l.take k) < 10 ^ k
  | 0, _ => by simp [val]
  | k + 1, hk => by
    have ih := val_lt l h k (by omega)
    have hd := h _ (List.getElem_mem (show k < l.length by omega))
    rw [val_take l k (by omega), Nat.pow_succ]
    unfold isD at hd
    omega
theorem or32 (n : Int) (h0 : 48 ≤ n) (h1 : n ≤ 57) : bits .or .u8 n 32 = n := by
  have : n = 48 ∨ n = 49 ∨ n = 50 ∨ n = 51 ∨ n = 52 ∨ n = 53 ∨ n = 54 ∨ n = 55 ∨ n = 56 ∨ n = 57 := by omega
  rcases this with rfl | rfl | rfl | rfl | rfl | rfl | rfl | rfl | rfl | rfl <;> decide
set_option maxRecDepth 100000 in
theorem lower_dig (x : Int) (w : World) (h0 : 48 ≤ x) (h1 : x ≤ 57) : Calls Tryz.prog 273 #[.int .u8 x] w fun e w' => e = .returned (.int .u8 x) ∧ w' = w := by
  have h := or32 x h0 h1
  go_enter Tryz.func273, Tryz.ntmps273
  go_wp2
  go_ret
  exact ⟨rfl, rfl⟩
def RdP (m : Nat) (x : Int) (n : Nat) (w : World) (e : Ending) (w' : World) : Prop := e = .returned (.tuple #[.int .u64 m, .int .i64 x, .bool false, .bool false, .bool false, .int .i64 n, .bool true]) ∧ w' = w
theorem toL_len (s : ByteArray) : s.data.toList.length = s.size := by show s.data.toList.length = s.data.size; exact Array.length_toList
theorem toL_get (s : ByteArray) (k : Nat) (h : k < s.size) : s.data.toList[k]'(by rw [toL_len]; exact h) = s[k]'h := by rw [Array.getElem_toList]; rfl
def RdI (s : ByteArray) (k nd : Nat) (m : Nat) : Prop := k ≤ s.size ∧ nd ≤ k ∧ m = val (s.data.toList.take k) ∧ m < 10 ^ k ∧ (nd = 0 → m = 0)
theorem RdI.zero {s : ByteArray} {k a v : Nat} (h : RdI s k a v) (hk : k < s.size) (hc : (s[k]'hk).toNat = 48) (ha : a = 0) : RdI s (k + 1) a v := by
  obtain ⟨i1, i2, i3, i4, i5⟩ := h
  have v0 := i5 ha
  refine ⟨by omega, by omega, ?_, ?_, i5⟩
  · rw [val_take _ k (by rw [toL_len]; exact hk), toL_get s k hk, hc, ← i3, v0]
  · rw [v0]; exact Nat.pos_of_ne_zero (by simp)
theorem RdI.more {s : ByteArray} {k a v : Nat} (h : RdI s k a v) (hk : k < s.size) (hd : isD (s[k]'hk)) : RdI s (k + 1) (a + 1) (v * 10 + ((s[k]'hk).toNat - 48)) := by
  obtain ⟨i1, i2, i3, i4, i5⟩ := h
  have h1 := hd.1
  have h2 := hd.2
  refine ⟨by omega, by omega, ?_, ?_, fun h => by omega⟩
  · rw [val_take _ k (by rw [toL_len]; exact hk), toL_get s k hk, ← i3]
  · rw [Nat.pow_succ]; omega
set_option maxRecDepth 100000 in
set_option maxHeartbeats 4000000 in
theorem readFloat_digits (s : ByteArray) (w : World) (h0 : 0 < s.size) (h16 : s.size ≤ 16) (hd : ∀ k (h : k < s.size), isD (s[k]'h)) :
    Calls Tryz.prog 281 #[.string s] w (RdP (val s.data.toList) 0 s.size w) := by
  have HD := hid hd
  have LW : Hid (∀ (x : Int) (W : World), 48 ≤ x → x ≤ 57 → Calls Tryz.prog 273 #[.int .u8 x] W fun e w' => e = .returned (.int .u8 x) ∧ w' = W) := lower_dig
  have d0 := hd 0 h0
  obtain ⟨c0, hc0⟩ : ∃ c0 : Nat, (s[0]'h0).toNat = c0 := ⟨_, rfl⟩
  have a0 : (48 : Int) ≤ c0 := by have := d0.1; omega
  have a1 : (c0 : Int) ≤ 57 := by have := d0.2; omega
  have e43 : ((c0 : Int) == 43) = false := by simp; omega
  have e45 : ((c0 : Int) == 45) = false := by simp; omega
  have s0 : (0 : Int) < s.size := by omega
  have s1 : (s.size : Int) ≤ 16 := by omega
  have hne : ¬ s = ByteArray.empty := fun e => by rw [e] at h0; exact absurd h0 (by decide)
  clear hd d0
  go_enter Tryz.func281, Tryz.ntmps281
  go_wp2
  go_step3
  go_upto_region 12 with fail
  go_cut [54] (fun c W => c = .bool false ∧ W = w)
  case first =>
    by_cases hx : 2 < s.size ∧ c0 = 48
    · have x1 : (2 : Int) < s.size := by omega
      have x2 : ((c0 : Int) == 48) = true := by simp; omega
      have x3 : 1 < s.size := by omega
      have dd := HD.out 1 x3
      obtain ⟨c1, hc1⟩ : ∃ c1 : Nat, (s[1]'x3).toNat = c1 := ⟨_, rfl⟩
      have b0 : (48 : Int) ≤ c1 := by have := dd.1; omega
      have b1 : (c1 : Int) ≤ 57 := by have := dd.2; omega
      have b2 : ((c1 : Int) == 120) = false := by simp; omega
      clear hx dd
      go_wp2_with (go_at_call 273; refine (LW.out _ _ b0 b1).mono ?_; clear LW; rintro e w1 ⟨rfl, hw⟩; have hw2 := hw.symm; clear hw; subst hw2)
      go_meet
      exact ⟨rfl, rfl⟩
    · by_cases hy : 2 < s.size
      · have x1 : (2 : Int) < s.size := by omega
        have x2 : ((c0 : Int) == 48) = false := by simp; omega
        clear hx
        go_wp2
        go_meet
        exact ⟨rfl, rfl⟩
      · have x1 : ¬ (2 : Int) < s.size := by omega
        clear hx
        go_wp2
        go_meet
        exact ⟨rfl, rfl⟩
  case rest =>
    obtain ⟨rfl, rfl⟩ := hcut
    clear e43 e45 a0 a1 hc0
    go_wp2
    go_step3
    go_wp2
    go_loop [2, 5, 7, 9, 13, 14, 15, 16, 17] (fun m tr i us st sd nd nm dp => ∃ (k a v : Nat) (d : Int), RdI s k a v ∧ tr = .bool false ∧ us = .bool false ∧ st = .bool false ∧ m = .int .u64 v ∧ i = .int .i64 k ∧ sd = .bool (decide (0 < k)) ∧ nd = .int .i64 a ∧ nm = .int .i64 a ∧ dp = .int .i64 d ∧ -(k : Int) ≤ d ∧ d ≤ 0) (fun _ _ i _ _ _ _ _ _ => s.size - (intOf i).toNat)
    case atStart => exact ⟨0, 0, 0, 0, ⟨Nat.zero_le _, Nat.le_refl _, by simp [val], by decide, fun _ => rfl⟩, rfl, rfl, rfl, rfl, rfl, rfl, rfl, rfl, rfl, by decide, by decide⟩
    case round =>
      obtain ⟨k, a, v, d, hI, rfl, rfl, rfl, rfl, rfl, rfl, rfl, rfl, rfl, d1, d2⟩ := hrel
      have HI := hid hI
      obtain ⟨i1, i2, i3, i4, i5⟩ := hI
      have p16 : (10 : Nat) ^ k ≤ 10 ^ 16 := Nat.pow_le_pow_right (by decide) (by omega)
      have v1 : (v : Int) < 10000000000000000 := by have : v < 10 ^ 16 := Nat.lt_of_lt_of_le i4 p16; omega
      have k0 : (0 : Int) ≤ k := by omega
      have a2 : (a : Int) ≤ k := by omega
      by_cases hlt : k < s.size
      · have j1 : (k : Int) < s.size := by omega
        have dd := HD.out k hlt
        obtain ⟨c, hc⟩ : ∃ c : Nat, (s[k]'hlt).toNat = c := ⟨_, rfl⟩
        have b0 : (48 : Int) ≤ c := by have := dd.1; omega
        have b1 : (c : Int) ≤ 57 := by have := dd.2; omega
        have b2 : ((c : Int) == 95) = false := by simp; omega
        have b3 : ((c : Int) == 46) = false := by simp; omega
        have HC := hid hc
        clear dd i1 i2 i3 i4 i5 p16
        by_cases hz : c = 48 ∧ a = 0
        · have x1 : ((c : Int) == 48) = true := by simp; omega
          have x2 : ((a : Int) == 0) = true := by simp; omega
          have HZ := hid hz
          clear hz
          go_wp2
          go_round
          case rel =>
            refine ⟨k + 1, a, v, d - 1, HI.out.zero hlt (by rw [HC.out]; exact HZ.out.1) HZ.out.2, rfl, rfl, rfl, rfl, by go_num, by simp, rfl, rfl, by go_num, by omega, by omega⟩
          case measure => simp [intOf]; omega
        · have HZ := hid hz
          have cw : IntKind.u8.wrap ((c : Int) - 48) = ((c - 48 : Nat) : Int) := by rw [IntKind.wrap_u8]; omega
          have vw : IntKind.u64.wrap ((v : Int) * 10) = ((v * 10 : Nat) : Int) := by rw [IntKind.wrap_u64]; omega
          have vw2 : IntKind.u64.wrap (((v * 10 : Nat) : Int) + ((c - 48 : Nat) : Int)) = ((v * 10 + (c - 48) : Nat) : Int) := by rw [IntKind.wrap_u64]; omega
          have r0 := HI.out.more hlt (HD.out k hlt)
          rw [HC.out] at r0
          have r1 := hid r0
          clear r0
          by_cases hc48 : c = 48
          · have x1 : ((c : Int) == 48) = true := by simp; omega
            have x2 : ((a : Int) == 0) = false := by simp; omega
            have x3 : (a : Int) < 19 := by omega
            clear hz hc48
            go_wp2
            go_round
            case rel => exact ⟨k + 1, a + 1, v * 10 + (c - 48), d, r1.out, rfl, rfl, rfl, by go_num, by go_num, by simp, by go_num, by go_num, rfl, by omega, by omega⟩
            case measure => simp [intOf]; omega
          · have x1 : ((c : Int) == 48) = false := by simp; omega
            have x3 : (a : Int) < 19 := by omega
            clear hz hc48
            go_wp2
            go_round
            case rel => exact ⟨k + 1, a + 1, v * 10 + (c - 48), d, r1.out, rfl, rfl, rfl, by go_num, by go_num, by simp, by go_num, by go_num, rfl, by omega, by omega⟩
            case measure => simp [intOf]; omega
      · have hks : k = s.size := by omega
        have j1 : ¬ (k : Int) < s.size := by omega
        have kp : decide (0 < k) = true := decide_eq_true (by omega)
        have ev : v = val s.data.toList := by rw [i3, hks, List.take_of_length_le (by rw [toL_len]; exact Nat.le_refl _)]
        have EV := hid ev
        have EK := hid hks
        clear ev i1 i2 i3 i4 i5 p16 hlt v1 d1 d2 k0 h16
        by_cases hv : v = 0
        · have y1 : ((v : Int) == 0) = true := by simp; omega
          have HV := hid hv
          clear hv
          go_wp2
          exact bodyPost_ret (v := .tuple #[.int .u64 v, .int .i64 0, .bool false, .bool false, .bool false, .int .i64 s.size, .bool true]) (by simp [results, Tryz.results281, go_sem]) rfl ⟨by rw [← EV.out], rfl⟩
        · have y1 : ((v : Int) == 0) = false := by simp; omega
          have HV := hid hv
          clear hv
          go_wp2
          exact bodyPost_ret (v := .tuple #[.int .u64 v, .int .i64 0, .bool false, .bool false, .bool false, .int .i64 s.size, .bool true]) (by simp [results, Tryz.results281, go_sem]) rfl ⟨by rw [← EV.out], rfl⟩
end Go.Proofs.YtajoncmmdeahnaaGreatDoor.Dg
namespace Go.Proofs.YtajoncmmdeahnaaGreatDoor.Dg
open Go.RowKit
set_option maxRecDepth 100000 in
set_option maxHeartbeats 1000000 in
theorem special_dig (s : ByteArray) (w : World) (h0 : 0 < s.size) (hd : isD (s[0]'h0)) : Calls Tryz.prog 280 #[.string s] w fun e w' => e = .returned (.tuple #[.float .f64 0, .int .i64 0, .bool false]) ∧ w' = w := by
  obtain ⟨c, hc⟩ : ∃ c : Nat, (s[0]'h0).toNat = c := ⟨_, rfl⟩
  have b0 : (48 : Int) ≤ c := by have := hd.1; omega
  have b1 : (c : Int) ≤ 57 := by have := hd.2; omega
  have e1 : ((c : Int) == 43) = false := by simp; omega
  have e2 : ((c : Int) == 45) = false := by simp; omega
  have e3 : ((c : Int) == 105) = false := by simp; omega
  have e4 : ((c : Int) == 73) = false := by simp; omega
  have e5 : ((c : Int) == 110) = false := by simp; omega
  have e6 : ((c : Int) == 78) = false := by simp; omega
  have hne : ¬ s = ByteArray.empty := fun e => by subst e; exact absurd h0 (by decide)
  have z : ((s.size : Int) == 0) = false := by simp; omega
  clear hd
  go_enter Tryz.func280, Tryz.ntmps280
  go_wp2
  exact bodyPost_ret (v := .tuple #[.float .f64 0, .int .i64 0, .bool false]) (by simp [results, Tryz.results280, go_sem]) rfl ⟨rfl, rfl⟩
def powF : List Nat := [4607182418800017408, 4621819117588971520, 4636737291354636288, 4652007308841189376, 4666723172467343360, 4681608360884174848, 4696837146684686336, 4711630319722168320, 4726483295884279808]
structure Gl (w : World) : Prop where
  opt : w.cell? ⟨10, 0, none⟩ = some (.bool true)
  man : w.cell? ⟨11, 0, none⟩ = some (.int .u64 52)
  pow : ∃ g o n c, w.cell? ⟨14, 0, none⟩ = some (.slice (some ⟨g, o, none⟩) n c) ∧ 9 ≤ n ∧ ∀ j v, powF[j]? = some v → w.cell? ⟨g, o + j, none⟩ = some (.float .f64 v)
def ExP (v : Nat) (w : World) (e : Ending) (w' : World) : Prop := e = .returned (.tuple #[.float .f64 v, .bool true]) ∧ w' = w
set_option maxRecDepth 100000 in
set_option maxHeartbeats 2000000 in
theorem exact_zero (m : Nat) (w : World) (hm : m < 4503599627370496) (hG : Gl w) : Calls Tryz.prog 291 #[.int .u64 m, .int .i64 0, .bool false] w (ExP (floatOfInt .f64 m) w) := by
  have g1 := hG.man
  have h1 : (m : Int) / 4503599627370496 = 0 := by omega
  clear hm hG
  go_enter Tryz.func291, Tryz.ntmps291
  go_wp2
  exact bodyPost_ret (v := .tuple #[.float .f64 (floatOfInt .f64 m), .bool true]) (by simp [results, Tryz.results291, go_sem]) rfl ⟨rfl, rfl⟩
theorem o_gt : FloatKind.f64.format.order (floatOfInt .f64 1) 4831355200913801216 = some .lt := by kernel_rfl
theorem o_lt : FloatKind.f64.format.order (floatOfInt .f64 1) 14054727237768577024 = some .gt := by kernel_rfl
theorem mul1 (w : World) : (binOp BinOp.mul 167 (.float .f64 (floatOfInt .f64 1)) (.float .f64 4621819117588971520)).run Tryz.prog w = .ok (.float .f64 (floatOfInt .f64 10)) w := by kernel_rfl
set_option maxRecDepth 100000 in
set_option maxHeartbeats 2000000 in
theorem exact_exp1 (w : World) (hG : Gl w) : Calls Tryz.prog 291 #[.int .u64 1, .int .i64 1, .bool false] w (ExP (floatOfInt .f64 10) w) := by
  have g1 := hG.man
  obtain ⟨g, o, n, c, p1, p2, p5⟩ := hG.pow
  have p6 := p5 1 _ rfl
  have i1 : (1 : Int) < n := by omega
  have M := mul1 w
  have O1 := o_gt
  have O2 := o_lt
  clear p5 hG
  generalize floatOfInt .f64 10 = FX at *
  go_enter Tryz.func291, Tryz.ntmps291
  go_wp2
  exact bodyPost_ret (v := .tuple #[.float .f64 FX, .bool true]) (by simp [results, Tryz.results291, go_sem]) rfl ⟨rfl, rfl⟩
theorem mul2 (w : World) : (binOp BinOp.mul 167 (.float .f64 (floatOfInt .f64 1)) (.float .f64 4636737291354636288)).run Tryz.prog w = .ok (.float .f64 (floatOfInt .f64 100)) w := by kernel_rfl
set_option maxRecDepth 100000 in
set_option maxHeartbeats 2000000 in
theorem exact_exp2 (w : World) (hG : Gl w) : Calls Tryz.prog 291 #[.int .u64 1, .int .i64 2, .bool false] w (ExP (floatOfInt .f64 100) w) := by
  have g1 := hG.man
  obtain ⟨g, o, n, c, p1, p2, p5⟩ := hG.pow
  have p6 := p5 2 _ rfl
  have i1 : (2 : Int) < n := by omega
  have M := mul2 w
  have O1 := o_gt
  have O2 := o_lt
  clear p5 hG
  generalize floatOfInt .f64 100 = FX at *
  go_enter Tryz.func291, Tryz.ntmps291
  go_wp2
  exact bodyPost_ret (v := .tuple #[.float .f64 FX, .bool true]) (by simp [results, Tryz.results291, go_sem]) rfl ⟨rfl, rfl⟩
theorem mul3 (w : World) : (binOp BinOp.mul 167 (.float .f64 (floatOfInt .f64 1)) (.float .f64 4652007308841189376)).run Tryz.prog w = .ok (.float .f64 (floatOfInt .f64 1000)) w := by kernel_rfl
set_option maxRecDepth 100000 in
set_option maxHeartbeats 2000000 in
theorem exact_exp3 (w : World) (hG : Gl w) : Calls Tryz.prog 291 #[.int .u64 1, .int .i64 3, .bool false] w (ExP (floatOfInt .f64 1000) w) := by
  have g1 := hG.man
  obtain ⟨g, o, n, c, p1, p2, p5⟩ := hG.pow
  have p6 := p5 3 _ rfl
  have i1 : (3 : Int) < n := by omega
  have M := mul3 w
  have O1 := o_gt
  have O2 := o_lt
  clear p5 hG
  generalize floatOfInt .f64 1000 = FX at *
  go_enter Tryz.func291, Tryz.ntmps291
  go_wp2
  exact bodyPost_ret (v := .tuple #[.float .f64 FX, .bool true]) (by simp [results, Tryz.results291, go_sem]) rfl ⟨rfl, rfl⟩
theorem mul4 (w : World) : (binOp BinOp.mul 167 (.float .f64 (floatOfInt .f64 1)) (.float .f64 4666723172467343360)).run Tryz.prog w = .ok (.float .f64 (floatOfInt .f64 10000)) w := by kernel_rfl
set_option maxRecDepth 100000 in
set_option maxHeartbeats 2000000 in
theorem exact_exp4 (w : World) (hG : Gl w) : Calls Tryz.prog 291 #[.int .u64 1, .int .i64 4, .bool false] w (ExP (floatOfInt .f64 10000) w) := by
  have g1 := hG.man
  obtain ⟨g, o, n, c, p1, p2, p5⟩ := hG.pow
  have p6 := p5 4 _ rfl
  have i1 : (4 : Int) < n := by omega
  have M := mul4 w
  have O1 := o_gt
  have O2 := o_lt
  clear p5 hG
  generalize floatOfInt .f64 10000 = FX at *
  go_enter Tryz.func291, Tryz.ntmps291
  go_wp2
  exact bodyPost_ret (v := .tuple #[.float .f64 FX, .bool true]) (by simp [results, Tryz.results291, go_sem]) rfl ⟨rfl, rfl⟩
theorem mul5 (w : World) : (binOp BinOp.mul 167 (.float .f64 (floatOfInt .f64 1)) (.float .f64 4681608360884174848)).run Tryz.prog w = .ok (.float .f64 (floatOfInt .f64 100000)) w := by kernel_rfl
set_option maxRecDepth 100000 in
set_option maxHeartbeats 2000000 in
theorem exact_exp5 (w : World) (hG : Gl w) : Calls Tryz.prog 291 #[.int .u64 1, .int .i64 5, .bool false] w (ExP (floatOfInt .f64 100000) w) := by
  have g1 := hG.man
  obtain ⟨g, o, n, c, p1, p2, p5⟩ := hG.pow
  have p6 := p5 5 _ rfl
  have i1 : (5 : Int) < n := by omega
  have M := mul5 w
  have O1 := o_gt
  have O2 := o_lt
  clear p5 hG
  generalize floatOfInt .f64 100000 = FX at *
  go_enter Tryz.func291, Tryz.ntmps291
  go_wp2
  exact bodyPost_ret (v := .tuple #[.float .f64 FX, .bool true]) (by simp [results, Tryz.results291, go_sem]) rfl ⟨rfl, rfl⟩
theorem mul6 (w : World) : (binOp BinOp.mul 167 (.float .f64 (floatOfInt .f64 1)) (.float .f64 4696837146684686336)).run Tryz.prog w = .ok (.float .f64 (floatOfInt .f64 1000000)) w := by kernel_rfl
set_option maxRecDepth 100000 in
set_option maxHeartbeats 2000000 in
theorem exact_exp6 (w : World) (hG : Gl w) : Calls Tryz.prog 291 #[.int .u64 1, .int .i64 6, .bool false] w (ExP (floatOfInt .f64 1000000) w) := by
  have g1 := hG.man
  obtain ⟨g, o, n, c, p1, p2, p5⟩ := hG.pow
  have p6 := p5 6 _ rfl
  have i1 : (6 : Int) < n := by omega
  have M := mul6 w
  have O1 := o_gt
  have O2 := o_lt
  clear p5 hG
  generalize floatOfInt .f64 1000000 = FX at *
  go_enter Tryz.func291, Tryz.ntmps291
  go_wp2
  exact bodyPost_ret (v := .tuple #[.float .f64 FX, .bool true]) (by simp [results, Tryz.results291, go_sem]) rfl ⟨rfl, rfl⟩
theorem mul7 (w : World) : (binOp BinOp.mul 167 (.float .f64 (floatOfInt .f64 1)) (.float .f64 4711630319722168320)).run Tryz.prog w = .ok (.float .f64 (floatOfInt .f64 10000000)) w := by kernel_rfl
set_option maxRecDepth 100000 in
set_option maxHeartbeats 2000000 in
theorem exact_exp7 (w : World) (hG : Gl w) : Calls Tryz.prog 291 #[.int .u64 1, .int .i64 7, .bool false] w (ExP (floatOfInt .f64 10000000) w) := by
  have g1 := hG.man
  obtain ⟨g, o, n, c, p1, p2, p5⟩ := hG.pow
  have p6 := p5 7 _ rfl
  have i1 : (7 : Int) < n := by omega
  have M := mul7 w
  have O1 := o_gt
  have O2 := o_lt
  clear p5 hG
  generalize floatOfInt .f64 10000000 = FX at *
  go_enter Tryz.func291, Tryz.ntmps291
  go_wp2
  exact bodyPost_ret (v := .tuple #[.float .f64 FX, .bool true]) (by simp [results, Tryz.results291, go_sem]) rfl ⟨rfl, rfl⟩
theorem mul8 (w : World) : (binOp BinOp.mul 167 (.float .f64 (floatOfInt .f64 1)) (.float .f64 4726483295884279808)).run Tryz.prog w = .ok (.float .f64 (floatOfInt .f64 100000000)) w := by kernel_rfl
set_option maxRecDepth 100000 in
set_option maxHeartbeats 2000000 in
theorem exact_exp8 (w : World) (hG : Gl w) : Calls Tryz.prog 291 #[.int .u64 1, .int .i64 8, .bool false] w (ExP (floatOfInt .f64 100000000) w) := by
  have g1 := hG.man
  obtain ⟨g, o, n, c, p1, p2, p5⟩ := hG.pow
  have p6 := p5 8 _ rfl
  have i1 : (8 : Int) < n := by omega
  have M := mul8 w
  have O1 := o_gt
  have O2 := o_lt
  clear p5 hG
  generalize floatOfInt .f64 100000000 = FX at *
  go_enter Tryz.func291, Tryz.ntmps291
  go_wp2
  exact bodyPost_ret (v := .tuple #[.float .f64 FX, .bool true]) (by simp [results, Tryz.results291, go_sem]) rfl ⟨rfl, rfl⟩
end Go.Proofs.YtajoncmmdeahnaaGreatDoor.Dg
