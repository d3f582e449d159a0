/-
  ParseFloat of digits alone, and of 1e with a digit behind it.
-/
import Derived.Test.YtdodammplhlihaaGreatDoorRf
import Derived.WalkLawsBesides
namespace Go.Proofs.YtdodammplhlihaaGreatDoor
open Go.RowKit
set_option maxRecDepth 100000 in
set_option maxHeartbeats 1000000 in
theorem special_dig (s : ByteArray) (w : World) (h0 : 0 < s.size) (hd : isD (s[0]'h0)) : Calls Tryz.prog 114 #[.string s] w fun e w' => e = .returned (.tuple #[.float .f64 0, .int .i64 0, .bool false]) ∧ w' = w := by
  obtain ⟨c, hc⟩ : ∃ c : Nat, (s[0]'h0).toNat = c := ⟨_, rfl⟩
  have b0 : (48 : Int) ≤ c := by have := hd.1; omega
  have b1 : (c : Int) ≤ 57 := by have := hd.2; omega
  have e1 : ((c : Int) == 43) = false := by simp; omega
  have e2 : ((c : Int) == 45) = false := by simp; omega
  have e3 : ((c : Int) == 105) = false := by simp; omega
  have e4 : ((c : Int) == 73) = false := by simp; omega
  have e5 : ((c : Int) == 110) = false := by simp; omega
  have e6 : ((c : Int) == 78) = false := by simp; omega
  have hne : ¬ s = ByteArray.empty := fun e => by subst e; exact absurd h0 (by decide)
  have z : ((s.size : Int) == 0) = false := by simp; omega
  clear hd
  go_enter Tryz.func114, Tryz.ntmps114
  go_wp2
  exact bodyPost_ret (v := .tuple #[.float .f64 0, .int .i64 0, .bool false]) (by simp [results, Tryz.results114, go_sem]) rfl ⟨rfl, rfl⟩
def powF : List Nat := [4607182418800017408, 4621819117588971520, 4636737291354636288, 4652007308841189376, 4666723172467343360, 4681608360884174848, 4696837146684686336, 4711630319722168320, 4726483295884279808]
/-- What the tables of package strconv hold, as far as it matters here. -/
structure Gl (w : World) : Prop where
  opt : w.cell? ⟨8, 0, none⟩ = some (.bool true)
  man : w.cell? ⟨9, 0, none⟩ = some (.int .u64 52)
  pow : ∃ g o n c, w.cell? ⟨12, 0, none⟩ = some (.slice (some ⟨g, o, none⟩) n c) ∧ 9 ≤ n ∧ ∀ j v, powF[j]? = some v → w.cell? ⟨g, o + j, none⟩ = some (.float .f64 v)
/-- What atof64exact answers. -/
def ExP (v : Nat) (w : World) (e : Ending) (w' : World) : Prop := e = .returned (.tuple #[.float .f64 v, .bool true]) ∧ w' = w
set_option maxRecDepth 100000 in
set_option maxHeartbeats 2000000 in
theorem exact_zero (m : Nat) (w : World) (hm : m < 4503599627370496) (hG : Gl w) : Calls Tryz.prog 125 #[.int .u64 m, .int .i64 0, .bool false] w (ExP (floatOfInt .f64 m) w) := by
  have g1 := hG.man
  have h1 : (m : Int) / 4503599627370496 = 0 := by omega
  clear hm hG
  go_enter Tryz.func125, Tryz.ntmps125
  go_wp2
  exact bodyPost_ret (v := .tuple #[.float .f64 (floatOfInt .f64 m), .bool true]) (by simp [results, Tryz.results125, go_sem]) rfl ⟨rfl, rfl⟩
theorem o_gt : FloatKind.f64.format.order (floatOfInt .f64 1) 4831355200913801216 = some .lt := by kernel_rfl
theorem o_lt : FloatKind.f64.format.order (floatOfInt .f64 1) 14054727237768577024 = some .gt := by kernel_rfl
theorem mul1 (w : World) : (binOp BinOp.mul 28 (.float .f64 (floatOfInt .f64 1)) (.float .f64 4621819117588971520)).run Tryz.prog w = .ok (.float .f64 (floatOfInt .f64 10)) w := by kernel_rfl
set_option maxRecDepth 100000 in
set_option maxHeartbeats 2000000 in
theorem exact_exp1 (w : World) (hG : Gl w) : Calls Tryz.prog 125 #[.int .u64 1, .int .i64 1, .bool false] w (ExP (floatOfInt .f64 10) w) := by
  have g1 := hG.man
  obtain ⟨g, o, n, c, p1, p2, p5⟩ := hG.pow
  have p6 := p5 1 _ rfl
  have i1 : (1 : Int) < n := by omega
  have M := mul1 w
  have O1 := o_gt
  have O2 := o_lt
  clear p5 hG
  generalize floatOfInt .f64 10 = FX at *
  go_enter Tryz.func125, Tryz.ntmps125
  go_wp2
  exact bodyPost_ret (v := .tuple #[.float .f64 FX, .bool true]) (by simp [results, Tryz.results125, go_sem]) rfl ⟨rfl, rfl⟩
theorem mul2 (w : World) : (binOp BinOp.mul 28 (.float .f64 (floatOfInt .f64 1)) (.float .f64 4636737291354636288)).run Tryz.prog w = .ok (.float .f64 (floatOfInt .f64 100)) w := by kernel_rfl
set_option maxRecDepth 100000 in
set_option maxHeartbeats 2000000 in
theorem exact_exp2 (w : World) (hG : Gl w) : Calls Tryz.prog 125 #[.int .u64 1, .int .i64 2, .bool false] w (ExP (floatOfInt .f64 100) w) := by
  have g1 := hG.man
  obtain ⟨g, o, n, c, p1, p2, p5⟩ := hG.pow
  have p6 := p5 2 _ rfl
  have i1 : (2 : Int) < n := by omega
  have M := mul2 w
  have O1 := o_gt
  have O2 := o_lt
  clear p5 hG
  generalize floatOfInt .f64 100 = FX at *
  go_enter Tryz.func125, Tryz.ntmps125
  go_wp2
  exact bodyPost_ret (v := .tuple #[.float .f64 FX, .bool true]) (by simp [results, Tryz.results125, go_sem]) rfl ⟨rfl, rfl⟩
theorem mul3 (w : World) : (binOp BinOp.mul 28 (.float .f64 (floatOfInt .f64 1)) (.float .f64 4652007308841189376)).run Tryz.prog w = .ok (.float .f64 (floatOfInt .f64 1000)) w := by kernel_rfl
set_option maxRecDepth 100000 in
set_option maxHeartbeats 2000000 in
theorem exact_exp3 (w : World) (hG : Gl w) : Calls Tryz.prog 125 #[.int .u64 1, .int .i64 3, .bool false] w (ExP (floatOfInt .f64 1000) w) := by
  have g1 := hG.man
  obtain ⟨g, o, n, c, p1, p2, p5⟩ := hG.pow
  have p6 := p5 3 _ rfl
  have i1 : (3 : Int) < n := by omega
  have M := mul3 w
  have O1 := o_gt
  have O2 := o_lt
  clear p5 hG
  generalize floatOfInt .f64 1000 = FX at *
  go_enter Tryz.func125, Tryz.ntmps125
  go_wp2
  exact bodyPost_ret (v := .tuple #[.float .f64 FX, .bool true]) (by simp [results, Tryz.results125, go_sem]) rfl ⟨rfl, rfl⟩
theorem mul4 (w : World) : (binOp BinOp.mul 28 (.float .f64 (floatOfInt .f64 1)) (.float .f64 4666723172467343360)).run Tryz.prog w = .ok (.float .f64 (floatOfInt .f64 10000)) w := by kernel_rfl
set_option maxRecDepth 100000 in
set_option maxHeartbeats 2000000 in
theorem exact_exp4 (w : World) (hG : Gl w) : Calls Tryz.prog 125 #[.int .u64 1, .int .i64 4, .bool false] w (ExP (floatOfInt .f64 10000) w) := by
  have g1 := hG.man
  obtain ⟨g, o, n, c, p1, p2, p5⟩ := hG.pow
  have p6 := p5 4 _ rfl
  have i1 : (4 : Int) < n := by omega
  have M := mul4 w
  have O1 := o_gt
  have O2 := o_lt
  clear p5 hG
  generalize floatOfInt .f64 10000 = FX at *
  go_enter Tryz.func125, Tryz.ntmps125
  go_wp2
  exact bodyPost_ret (v := .tuple #[.float .f64 FX, .bool true]) (by simp [results, Tryz.results125, go_sem]) rfl ⟨rfl, rfl⟩
theorem mul5 (w : World) : (binOp BinOp.mul 28 (.float .f64 (floatOfInt .f64 1)) (.float .f64 4681608360884174848)).run Tryz.prog w = .ok (.float .f64 (floatOfInt .f64 100000)) w := by kernel_rfl
set_option maxRecDepth 100000 in
set_option maxHeartbeats 2000000 in
theorem exact_exp5 (w : World) (hG : Gl w) : Calls Tryz.prog 125 #[.int .u64 1, .int .i64 5, .bool false] w (ExP (floatOfInt .f64 100000) w) := by
  have g1 := hG.man
  obtain ⟨g, o, n, c, p1, p2, p5⟩ := hG.pow
  have p6 := p5 5 _ rfl
  have i1 : (5 : Int) < n := by omega
  have M := mul5 w
  have O1 := o_gt
  have O2 := o_lt
  clear p5 hG
  generalize floatOfInt .f64 100000 = FX at *
  go_enter Tryz.func125, Tryz.ntmps125
  go_wp2
  exact bodyPost_ret (v := .tuple #[.float .f64 FX, .bool true]) (by simp [results, Tryz.results125, go_sem]) rfl ⟨rfl, rfl⟩
theorem mul6 (w : World) : (binOp BinOp.mul 28 (.float .f64 (floatOfInt .f64 1)) (.float .f64 4696837146684686336)).run Tryz.prog w = .ok (.float .f64 (floatOfInt .f64 1000000)) w := by kernel_rfl
set_option maxRecDepth 100000 in
set_option maxHeartbeats 2000000 in
theorem exact_exp6 (w : World) (hG : Gl w) : Calls Tryz.prog 125 #[.int .u64 1, .int .i64 6, .bool false] w (ExP (floatOfInt .f64 1000000) w) := by
  have g1 := hG.man
  obtain ⟨g, o, n, c, p1, p2, p5⟩ := hG.pow
  have p6 := p5 6 _ rfl
  have i1 : (6 : Int) < n := by omega
  have M := mul6 w
  have O1 := o_gt
  have O2 := o_lt
  clear p5 hG
  generalize floatOfInt .f64 1000000 = FX at *
  go_enter Tryz.func125, Tryz.ntmps125
  go_wp2
  exact bodyPost_ret (v := .tuple #[.float .f64 FX, .bool true]) (by simp [results, Tryz.results125, go_sem]) rfl ⟨rfl, rfl⟩
theorem mul7 (w : World) : (binOp BinOp.mul 28 (.float .f64 (floatOfInt .f64 1)) (.float .f64 4711630319722168320)).run Tryz.prog w = .ok (.float .f64 (floatOfInt .f64 10000000)) w := by kernel_rfl
set_option maxRecDepth 100000 in
set_option maxHeartbeats 2000000 in
theorem exact_exp7 (w : World) (hG : Gl w) : Calls Tryz.prog 125 #[.int .u64 1, .int .i64 7, .bool false] w (ExP (floatOfInt .f64 10000000) w) := by
  have g1 := hG.man
  obtain ⟨g, o, n, c, p1, p2, p5⟩ := hG.pow
  have p6 := p5 7 _ rfl
  have i1 : (7 : Int) < n := by omega
  have M := mul7 w
  have O1 := o_gt
  have O2 := o_lt
  clear p5 hG
  generalize floatOfInt .f64 10000000 = FX at *
  go_enter Tryz.func125, Tryz.ntmps125
  go_wp2
  exact bodyPost_ret (v := .tuple #[.float .f64 FX, .bool true]) (by simp [results, Tryz.results125, go_sem]) rfl ⟨rfl, rfl⟩
theorem mul8 (w : World) : (binOp BinOp.mul 28 (.float .f64 (floatOfInt .f64 1)) (.float .f64 4726483295884279808)).run Tryz.prog w = .ok (.float .f64 (floatOfInt .f64 100000000)) w := by kernel_rfl
set_option maxRecDepth 100000 in
set_option maxHeartbeats 2000000 in
theorem exact_exp8 (w : World) (hG : Gl w) : Calls Tryz.prog 125 #[.int .u64 1, .int .i64 8, .bool false] w (ExP (floatOfInt .f64 100000000) w) := by
  have g1 := hG.man
  obtain ⟨g, o, n, c, p1, p2, p5⟩ := hG.pow
  have p6 := p5 8 _ rfl
  have i1 : (8 : Int) < n := by omega
  have M := mul8 w
  have O1 := o_gt
  have O2 := o_lt
  clear p5 hG
  generalize floatOfInt .f64 100000000 = FX at *
  go_enter Tryz.func125, Tryz.ntmps125
  go_wp2
  exact bodyPost_ret (v := .tuple #[.float .f64 FX, .bool true]) (by simp [results, Tryz.results125, go_sem]) rfl ⟨rfl, rfl⟩
end Go.Proofs.YtdodammplhlihaaGreatDoor
