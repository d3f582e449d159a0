/-
  Values: what the laws of the interpreter need besides: the other noughts' signs, two answers compared, no number as a whole one.
-/
import Derived.Test.YtajoncmmdeahnaaGreatDoorKVe
import Derived.Test.YtajoncmmdeahnaaGreatDoorKPm
namespace Go.Proofs.YtajoncmmdeahnaaGreatDoor
open Go.RowKit
namespace Vl
set_option maxRecDepth 100000 in
theorem neg_gen (n r : Int) (F F' : Nat) (w : World) (hO : ∀ W, Calls Tryz.prog 221 #[vl 2 n] W (GrP (.float .f64 F) W)) (hn : ∀ W, (Op.unary UnOp.neg (.float .f64 F)).run Tryz.prog W = .ok (.float .f64 F') W) (hC : ∀ W, Calls Tryz.prog 220 #[.float .f64 F'] W (GrP (vl 2 r) W)) : Calls Tryz.prog 185 #[.string ⟨#[45]⟩, vl 2 n] w (GrP (vl 2 r) w) := by
  have C20 := hid hO
  have C17 := hid hC
  clear hO hC
  unfold GrP at *
  go_enter Tryz.func185, Tryz.ntmps185
  go_wp2_with (first
    | (go_at_call 221; refine (C20.out _).mono ?_; rintro e w2 ⟨rfl, hg⟩; have B2 : Hid (Blk w2 (w.heap.size + 1) 115 #[.int .i64 0, .int .i64 0]) := (Blk.kept (by simpa using Blk.new (w.alloc (Obj.cells #[.int .i64 2, .int .i64 n] 115)) 115 #[.int .i64 0, .int .i64 0]) hg (by simp)); have G2 := hid (grown_trans (grow2 (grow1 w _) _) hg); clear hg)
    | (go_at_call 220; refine (C17.out _).mono ?_; rintro e w1 ⟨rfl, hg⟩; have B1 := hid (B2.out.kept hg (by simp)); obtain ⟨c0, c1, f0, f1⟩ := two_cells B1.out; have G1 := hid (grown_trans G2.out hg); clear hg))
  obtain ⟨z0, z1, _, _⟩ := two_cells (blk_two B1.out (.int .i64 2) (.int .i64 r))
  refine bodyPost_ret (v := vl 2 r) (by simp [results, Tryz.results185, go_sem, z0, z1]) rfl ⟨rfl, ?_⟩
  exact set_two G1.out (by omega) _ _
theorem trunc_nan (w : World) : (callFunc 271 #[.float .f64 9221120237041090561]).run Tryz.prog w = .ok (.value (.float .f64 9221120237041090561)) w := by kernel_rfl
set_option maxRecDepth 100000 in
theorem cut_nan (w : World) : Calls Tryz.prog 224 #[.float .f64 9221120237041090561] w (GrP (tw (vl 0 0) 4) w) := by
  have C44 : Hid (∀ W, Calls Tryz.prog 255 #[.float .f64 9221120237041090561] W (StP (.float .f64 9221120237041090561) W)) := fun W => by
    have hr : ∀ W, (callFunc 271 #[.float .f64 9221120237041090561]).run Tryz.prog W = .ok (.value (.float .f64 9221120237041090561)) W := fun W => trunc_nan W
    unfold StP
    go_enter Tryz.func255, Tryz.ntmps255
    go_wp2
    go_ret
    exact ⟨rfl, rfl⟩
  have C34 : Hid (∀ W, Calls Tryz.prog 131 #[.float .f64 9221120237041090561] W (StP (.bool true) W)) := fun W => by
    have h := isNaN_any 9221120237041090561 W
    have e : nanB 9221120237041090561 = true := by decide +kernel
    rw [e] at h
    exact h
  unfold GrP
  go_enter Tryz.func224, Tryz.ntmps224
  go_wp2_with (first
    | (go_at_call 255; refine (C44.out _).mono ?_; rintro e w1 ⟨rfl, hw⟩; replace hw := hw.symm; subst hw)
    | (go_at_call 131; refine (C34.out _).mono ?_; rintro e w1 ⟨rfl, hw⟩; replace hw := hw.symm; subst hw))
  refine bodyPost_ret (v := tw (vl 0 0) 4) (by simp [results, Tryz.results224, go_sem]) rfl ⟨rfl, ?_⟩
  exact grow1 w _
set_option maxRecDepth 100000 in
theorem conv_gen (n t k j : Int) (F : Nat) (w : World) (hO : ∀ W, Calls Tryz.prog 221 #[vl 2 n] W (GrP (.float .f64 F) W)) (hC : ∀ W, Calls Tryz.prog 224 #[.float .f64 F] W (GrP (tw (vl t k) j) W)) : Calls Tryz.prog 187 #[.int .i64 1, vl 2 n] w (GrP (tw (vl t k) j) w) := by
  have C20 := hid hO
  have C37 := hid hC
  clear hO hC
  unfold GrP at *
  go_enter Tryz.func187, Tryz.ntmps187
  go_wp2_with (first
    | (go_at_call 221; refine (C20.out _).mono ?_; rintro e w2 ⟨rfl, hg⟩; have B2 : Hid (Blk w2 (w.heap.size + 1) 115 #[.int .i64 0, .int .i64 0]) := (Blk.kept (by simpa using Blk.new (w.alloc (Obj.cells #[.int .i64 2, .int .i64 n] 115)) 115 #[.int .i64 0, .int .i64 0]) hg (by simp)); have G2 := hid (grown_trans (grow2 (grow1 w _) _) hg); clear hg)
    | (go_at_call 224; refine (C37.out _).mono ?_; rintro e w1 ⟨rfl, hg⟩; have B1 := hid (B2.out.kept hg (by simp)); obtain ⟨c0, c1, f0, f1⟩ := two_cells B1.out; have G1 := hid (grown_trans G2.out hg); clear hg))
  obtain ⟨z0, z1, _, _⟩ := two_cells (blk_two B1.out (.int .i64 t) (.int .i64 k))
  refine bodyPost_ret (v := tw (vl t k) j) (by simp [results, Tryz.results187, go_sem, z0, z1]) rfl ⟨rfl, ?_⟩
  exact set_two G1.out (by omega) _ _
set_option maxRecDepth 100000 in
theorem known_eql_3 (w : World) : Calls Tryz.prog 250 #[.string ⟨#[61, 61]⟩, .int .i64 3] w (StP (.bool true) w) := by
  have C32 : Hid (∀ W, Calls Tryz.prog 254 #[.int .i64 3] W (StP (.bool false) W)) := fun W => by
    unfold StP
    go_enter Tryz.func254, Tryz.ntmps254
    go_wp2
    go_ret
    exact ⟨rfl, rfl⟩
  have C33 : Hid (∀ W, Calls Tryz.prog 223 #[.int .i64 3] W (StP (.bool true) W)) := fun W => by
    unfold StP at *
    go_enter Tryz.func223, Tryz.ntmps223
    go_wp2_with (go_at_call 254; refine (C32.out _).mono ?_; rintro e w1 ⟨rfl, hw⟩; replace hw := hw.symm; subst hw)
    go_ret
    exact ⟨rfl, rfl⟩
  unfold StP at *
  go_enter Tryz.func250, Tryz.ntmps250
  go_wp2_with (go_at_call 223; refine (C33.out _).mono ?_; rintro e w1 ⟨rfl, hw⟩; replace hw := hw.symm; subst hw)
  go_ret
  exact ⟨rfl, rfl⟩
set_option maxRecDepth 100000 in
theorem answers_eql (x y : Bool) (w : World) : Calls Tryz.prog 253 #[.string ⟨#[61, 61]⟩, .bool x, .bool y] w (StP (.bool (x == y)) w) := by
  unfold StP
  go_enter Tryz.func253, Tryz.ntmps253
  go_wp2
  go_ret
  exact ⟨rfl, rfl⟩
set_option maxRecDepth 100000 in
set_option maxHeartbeats 2000000 in
theorem bin_bool (x y : Int) (w : World) : Calls Tryz.prog 222 #[.string ⟨#[61, 61]⟩, vl 3 x, vl 3 y] w (GrP (tw (vl 3 (b2i ((x == 1) == (y == 1)))) 0) w) := by
  have C14 : Hid (∀ W, Calls Tryz.prog 250 #[.string ⟨#[61, 61]⟩, .int .i64 3] W (StP (.bool true) W)) := fun W => known_eql_3 W
  have CA : Hid (∀ z W, Calls Tryz.prog 153 #[vl 3 z] W (GrP (.bool (z == 1)) W)) := fun z W => by
    have h := true_any 3 z W
    exact h
  have CD : Hid (∀ p q W, Calls Tryz.prog 253 #[.string ⟨#[61, 61]⟩, .bool p, .bool q] W (StP (.bool (p == q)) W)) := fun p q W => answers_eql p q W
  have CE : Hid (∀ p W, Calls Tryz.prog 188 #[.bool p] W (GrP (vl 3 (b2i p)) W)) := fun p W => bool_any p W
  unfold GrP at *
  generalize hX : (x == 1) = p at *
  generalize hY : (y == 1) = q at *
  have CA1 : Hid (∀ W, Calls Tryz.prog 153 #[vl 3 x] W fun e w' => e = Ending.returned (Value.bool p) ∧ W.grownBy w' none) := hid (fun W => by have h := CA.out x W; rw [hX] at h; exact h)
  have CA2 : Hid (∀ W, Calls Tryz.prog 153 #[vl 3 y] W fun e w' => e = Ending.returned (Value.bool q) ∧ W.grownBy w' none) := hid (fun W => by have h := CA.out y W; rw [hY] at h; exact h)
  have CD1 := hid (CD.out p q)
  generalize (p == q) = r at *
  have CE1 := hid (CE.out r)
  generalize b2i r = R at *
  clear CA CD CE hX hY
  go_enter Tryz.func222, Tryz.ntmps222
  go_wp2_with (first
    | (go_at_call 250; refine (C14.out _).mono ?_; rintro e w1 ⟨rfl, hw⟩; replace hw := hw.symm; subst hw))
  have BA : Hid (Blk (((w.alloc (Obj.cells #[.int .i64 3, .int .i64 x] 115)).alloc (Obj.cells #[.int .i64 3, .int .i64 y] 115)).alloc (Obj.cells #[.int .i64 0, .int .i64 0] 115)) w.heap.size 115 #[.int .i64 3, .int .i64 x]) := ((Blk.new w 115 _).alloc _).alloc _
  have BB : Hid (Blk (((w.alloc (Obj.cells #[.int .i64 3, .int .i64 x] 115)).alloc (Obj.cells #[.int .i64 3, .int .i64 y] 115)).alloc (Obj.cells #[.int .i64 0, .int .i64 0] 115)) (w.heap.size + 1) 115 #[.int .i64 3, .int .i64 y]) := Blk.alloc (by simpa using Blk.new (w.alloc (Obj.cells #[.int .i64 3, .int .i64 x] 115)) 115 #[.int .i64 3, .int .i64 y]) _
  have BR : Hid (Blk (((w.alloc (Obj.cells #[.int .i64 3, .int .i64 x] 115)).alloc (Obj.cells #[.int .i64 3, .int .i64 y] 115)).alloc (Obj.cells #[.int .i64 0, .int .i64 0] 115)) (w.heap.size + 2) 115 #[.int .i64 0, .int .i64 0]) := hid (by simpa using Blk.new ((w.alloc (Obj.cells #[.int .i64 3, .int .i64 x] 115)).alloc (Obj.cells #[.int .i64 3, .int .i64 y] 115)) 115 #[.int .i64 0, .int .i64 0])
  have G3 := hid (grow2 (grow2 (grow1 w (Obj.cells #[.int .i64 3, .int .i64 x] 115)) (Obj.cells #[.int .i64 3, .int .i64 y] 115)) (Obj.cells #[.int .i64 0, .int .i64 0] 115))
  generalize ((w.alloc (Obj.cells #[.int .i64 3, .int .i64 x] 115)).alloc (Obj.cells #[.int .i64 3, .int .i64 y] 115)).alloc (Obj.cells #[.int .i64 0, .int .i64 0] 115) = w3 at *
  obtain ⟨a0, a1, _, _⟩ := two_cells BA.out
  obtain ⟨b0, b1, _, _⟩ := two_cells BB.out
  go_region_with (first
    | (go_at_call 153; refine calls_at (args := #[vl 3 x]) rfl ?_; refine (CA1.out _).mono ?_; clear CA1; rintro e w4 ⟨rfl, hg⟩; have G4 : Hid (w3.grownBy w4 none) := ⟨hg.os, hg.tape, hg.output, hg.size, hg.block⟩; clear hg; obtain ⟨b2, b3, _, _⟩ := two_cells (BB.out.kept G4.out (by simp)))
    | (go_at_call 153; refine calls_at (args := #[vl 3 y]) rfl ?_; refine (CA2.out _).mono ?_; clear CA2; rintro e w5 ⟨rfl, hg⟩; have G5 : Hid (w3.grownBy w5 none) := grown_trans G4.out ⟨hg.os, hg.tape, hg.output, hg.size, hg.block⟩; clear hg)
    | (go_at_call 253; refine (CD1.out _).mono ?_; clear CD1; rintro e w6 ⟨rfl, hw⟩; replace hw := hw.symm; subst hw)
    | (go_at_call 188; refine (CE1.out _).mono ?_; clear CE1; rintro e w7 ⟨rfl, hg⟩; have G6 : Hid (w3.grownBy w7 none) := grown_trans G5.out ⟨hg.os, hg.tape, hg.output, hg.size, hg.block⟩; clear hg; have B6 := hid (BR.out.kept G6.out (by simp)); obtain ⟨c0, c1, f0, f1⟩ := two_cells B6.out))
  all_goals
    go_wp2
    obtain ⟨z0, z1, _, _⟩ := two_cells (blk_two B6.out (.int .i64 3) (.int .i64 R))
    refine bodyPost_ret (v := tw (vl 3 R) 0) (by simp [results, Tryz.results222, go_sem, z0, z1]) rfl ⟨rfl, ?_⟩
    exact set_two (grown_trans G3.out G6.out) (by omega) _ _
end Vl
namespace Ip
open Vl (StP GrP tw vl cmpF)
structure FlC (L : Fl) : Prop where
  bin : ∀ (t : ByteArray) x y v, L.bin t.data.toList x y = some v → (∀ W, Calls Tryz.prog 250 #[.string t, .int .i64 2] W (StP (.bool true) W)) ∧ ∀ W, Calls Tryz.prog 252 #[.string t, .float .f64 x, .float .f64 y] W (GrP (vV v) W)
  neg : ∀ n v, L.neg (ofV (2, n)) = some v → ∀ W, Calls Tryz.prog 185 #[.string ⟨#[45]⟩, vl 2 n] W (GrP (vV v) W)
  cut : ∀ n r, L.cut (ofV (2, n)) = some r → ∀ W, Calls Tryz.prog 187 #[.int .i64 1, vl 2 n] W (GrP (tw (vV r.1) r.2) W)
theorem bytes_of {t : ByteArray} {l : List UInt8} (h : t.data.toList = l) : t = ⟨l.toArray⟩ := by
  cases t with
  | mk d => cases d with
    | mk l' => subst h; rfl
theorem binC {L : Fl} (hL : FlC L) (t : ByteArray) (a b : V) (r : V × Nat) (h : binM L t.data.toList a b = some r) (w : World) : Calls Tryz.prog 222 #[.string t, vV a, vV b] w (GrP (tw (vV r.1) r.2) w) := by
  obtain ⟨a1, x⟩ := a
  obtain ⟨b1, y⟩ := b
  unfold binM at h
  by_cases h1 : a1 = 1 ∧ b1 = 1
  · obtain ⟨rfl, rfl⟩ := h1
    rw [if_pos ⟨rfl, rfl⟩] at h
    by_cases h2 : wholeS.contains t.data.toList = true
    · rw [if_pos h2] at h
      have hr := Option.some.inj h
      subst hr
      have h3 : t.data.toList ∈ wholeS := by simpa using h2
      unfold wholeS at h3
      simp only [List.mem_cons, List.not_mem_nil, or_false] at h3
      rcases h3 with h3 | h3 | h3 | h3 | h3 | h3 | h3 | h3 | h3 | h3 | h3
      all_goals
        obtain rfl := bytes_of h3
        clear h h2
      · exact Vl.bin_int _ x y _ _ _ w Vl.known_add_1 (Vl.who_add x y)
      · exact Vl.bin_int _ x y _ _ _ w Vl.known_sub_1 (Vl.who_sub x y)
      · exact Vl.bin_int _ x y _ _ _ w Vl.known_mul_1 (Vl.who_mul x y)
      · show Calls _ _ _ _ (GrP (tw (vV (wholesM [47] x y).1) ((wholesM [47] x y).2 : Nat)) w)
        by_cases hy : y = 0
        · subst hy
          have e : wholesM [47] x 0 = ((0, 0), 3) := by simp [wholesM]
          rw [e]
          exact Vl.bin_int _ x 0 0 0 3 w Vl.known_quo_1 (Vl.zero_quo x)
        · have e : wholesM [47] x y = (intV (IntKind.i64.wrap (x.tdiv y)), 0) := by simp [wholesM, hy]
          rw [e]
          exact Vl.bin_int _ x y 1 _ 0 w Vl.known_quo_1 (fun W => Vl.who_quo x y W hy)
      · show Calls _ _ _ _ (GrP (tw (vV (wholesM [37] x y).1) ((wholesM [37] x y).2 : Nat)) w)
        by_cases hy : y = 0
        · subst hy
          have e : wholesM [37] x 0 = ((0, 0), 3) := by simp [wholesM]
          rw [e]
          exact Vl.bin_int _ x 0 0 0 3 w Vl.known_rem_1 (Vl.zero_rem x)
        · have e : wholesM [37] x y = (intV (x.tmod y), 0) := by simp [wholesM, hy]
          rw [e]
          exact Vl.bin_int _ x y 1 _ 0 w Vl.known_rem_1 (fun W => Vl.who_rem x y W hy)
      · exact Vl.bin_int _ x y _ _ _ w Vl.known_lss_1 (Vl.who_lss x y)
      · exact Vl.bin_int _ x y _ _ _ w Vl.known_leq_1 (Vl.who_leq x y)
      · exact Vl.bin_int _ x y _ _ _ w Vl.known_gtr_1 (Vl.who_gtr x y)
      · exact Vl.bin_int _ x y _ _ _ w Vl.known_geq_1 (Vl.who_geq x y)
      · exact Vl.bin_int _ x y _ _ _ w Vl.known_eql_1 (Vl.who_eql x y)
      · exact Vl.bin_int _ x y _ _ _ w Vl.known_neq_1 (Vl.who_neq x y)
    · rw [if_neg h2] at h
      cases h
  rw [if_neg h1] at h
  by_cases h2 : a1 = 2 ∧ b1 = 2
  · obtain ⟨rfl, rfl⟩ := h2
    rw [if_pos ⟨rfl, rfl⟩] at h
    rw [Option.map_eq_some_iff] at h
    obtain ⟨v, hv, rfl⟩ := h
    obtain ⟨k1, k2⟩ := hL.bin t _ _ v hv
    exact Vl.bin_float t x y v.1 v.2 w k1 k2
  rw [if_neg h2] at h
  by_cases h3 : a1 = 3 ∧ b1 = 3 ∧ t.data.toList = [61, 61]
  · rw [if_pos h3] at h
    obtain ⟨rfl, rfl, h4⟩ := h3
    obtain rfl := bytes_of h4
    have hr := Option.some.inj h
    subst hr
    exact Vl.bin_bool x y w
  · rw [if_neg h3] at h
    cases h
theorem unC {L : Fl} (hL : FlC L) (t : ByteArray) (a v : V) (h : unM L t.data.toList a = some v) (w : World) : Calls Tryz.prog 185 #[.string t, vV a] w (GrP (vV v) w) := by
  obtain ⟨a1, x⟩ := a
  unfold unM at h
  by_cases h1 : t.data.toList = [45] ∧ a1 = 2
  · rw [if_pos h1] at h
    obtain ⟨h2, rfl⟩ := h1
    obtain rfl := bytes_of h2
    exact hL.neg x v h w
  · rw [if_neg h1] at h
    cases h
theorem convC {L : Fl} (hL : FlC L) (t : Int) (a : V) (r : V × Nat) (h : convM L t a = some r) (w : World) : Calls Tryz.prog 187 #[.int .i64 t, vV a] w (GrP (tw (vV r.1) r.2) w) := by
  obtain ⟨a1, x⟩ := a
  unfold convM at h
  by_cases h1 : t = 1 ∧ a1 = 2
  · rw [if_pos h1] at h
    obtain ⟨rfl, rfl⟩ := h1
    exact hL.cut x r h w
  · rw [if_neg h1] at h
    cases h
theorem trueC (a : V) (w : World) : Calls Tryz.prog 153 #[vV a] w (GrP (.bool (trueV a)) w) := Vl.true_any a.1 a.2 w
def flM : Fl where
  bin s x y := if s = [47] then (if x = 0 ∧ y = 0 then some (2, 9221120237041090561) else if x = 4607182418800017408 ∧ y = 9223372036854775808 then some (2, -4503599627370496) else none)
    else if s = [60] then some (boolV (cmpF .lss x y)) else if s = [61, 61] then some (boolV (cmpF .eql x y)) else if s = [33, 61] then some (boolV (cmpF .neq x y)) else none
  neg x := if x = 0 then some (2, -9223372036854775808) else if x = 4607182418800017408 then some (2, -4616189618054758400) else none
  cut x := if x = 9221120237041090561 then some ((0, 0), 4) else none
theorem flM_ok : FlC flM := by
  refine ⟨fun t x y v h => ?_, fun n v h W => ?_, fun n r h W => ?_⟩
  · unfold flM at h
    simp only [] at h
    by_cases h1 : t.data.toList = [47]
    · rw [if_pos h1] at h
      obtain rfl := bytes_of h1
      refine ⟨Vl.known_quo_2, fun W => ?_⟩
      by_cases h2 : x = 0 ∧ y = 0
      · rw [if_pos h2] at h
        obtain ⟨rfl, rfl⟩ := h2
        have hv := Option.some.inj h
        subst hv
        exact Vl.num_zero W
      rw [if_neg h2] at h
      by_cases h3 : x = 4607182418800017408 ∧ y = 9223372036854775808
      · rw [if_pos h3] at h
        obtain ⟨rfl, rfl⟩ := h3
        have hv := Option.some.inj h
        subst hv
        exact Vl.num_one W
      · rw [if_neg h3] at h
        cases h
    rw [if_neg h1] at h
    by_cases h2 : t.data.toList = [60]
    · rw [if_pos h2] at h
      obtain rfl := bytes_of h2
      have hv := Option.some.inj h
      subst hv
      exact ⟨Vl.known_lss_2, Vl.num_lss x y⟩
    rw [if_neg h2] at h
    by_cases h3 : t.data.toList = [61, 61]
    · rw [if_pos h3] at h
      obtain rfl := bytes_of h3
      have hv := Option.some.inj h
      subst hv
      exact ⟨Vl.known_eql_2, Vl.num_eql x y⟩
    rw [if_neg h3] at h
    by_cases h4 : t.data.toList = [33, 61]
    · rw [if_pos h4] at h
      obtain rfl := bytes_of h4
      have hv := Option.some.inj h
      subst hv
      exact ⟨Vl.known_neq_2, Vl.num_neq x y⟩
    · rw [if_neg h4] at h
      cases h
  · unfold flM at h
    simp only [] at h
    have hO : ∀ W, Calls Tryz.prog 221 #[vl 2 n] W (GrP (.float .f64 (ofV (2, n))) W) := fun W => Vl.of_any 2 n W
    by_cases h1 : ofV (2, n) = 0
    · rw [if_pos h1] at h
      have hv := Option.some.inj h
      subst hv
      rw [h1] at hO
      exact Vl.neg_gen n _ 0 9223372036854775808 W hO (fun W => by kernel_rfl) (fun W => Vl.float_any 9223372036854775808 W)
    rw [if_neg h1] at h
    by_cases h2 : ofV (2, n) = 4607182418800017408
    · rw [if_pos h2] at h
      have hv := Option.some.inj h
      subst hv
      rw [h2] at hO
      exact Vl.neg_gen n _ 4607182418800017408 13830554455654793216 W hO (fun W => by kernel_rfl) (fun W => Vl.float_any 13830554455654793216 W)
    · rw [if_neg h2] at h
      cases h
  · unfold flM at h
    simp only [] at h
    have hO : ∀ W, Calls Tryz.prog 221 #[vl 2 n] W (GrP (.float .f64 (ofV (2, n))) W) := fun W => Vl.of_any 2 n W
    by_cases h1 : ofV (2, n) = 9221120237041090561
    · rw [if_pos h1] at h
      have hv := Option.some.inj h
      subst hv
      rw [h1] at hO
      exact Vl.conv_gen n 0 0 4 9221120237041090561 W hO Vl.cut_nan
    · rw [if_neg h1] at h
      cases h
end Ip
end Go.Proofs.YtajoncmmdeahnaaGreatDoor
