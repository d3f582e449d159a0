/-
  The contract of cupelref01.round: a round of whatever 25 numbers of 64 bits, as the document has it.
-/
import Derived.Test.YtncplpgelfjfjaaDoorTurn
namespace Go.Proofs.YtncplpgelfjfjaaDoor
open Go.RowKit
/-- A column's sum, from the top on. -/
def colTo (F : Nat → BitVec 64) (m : Nat) : Nat → BitVec 64
  | 0 => 0
  | j + 1 => colTo F m j ^^^ F (m + 5 * j)
theorem colTo_all (F : Nat → BitVec 64) (m : Nat) : colTo F m 5 = col F m := by
  simp [colTo, col]
/-- The lanes when k columns are done, and j numbers of the next one. -/
def thR (F : Nat → BitVec 64) (k j i : Nat) : BitVec 64 := if i % 5 < k ∨ (i % 5 = k ∧ i / 5 < j) then theta F i else F i
/-- The path over the places. -/
def xy : Nat → Nat × Nat
  | 0 => (1, 0)
  | t + 1 => ((xy t).2, (2 * (xy t).1 + 3 * (xy t).2) % 5)
theorem xy_lt : ∀ t, (xy t).1 < 5 ∧ (xy t).2 < 5
  | 0 => ⟨by decide, by decide⟩
  | t + 1 => ⟨(xy_lt t).2, Nat.mod_lt _ (by decide)⟩
def cR (B : Nat → BitVec 64) : Nat → Nat → BitVec 64
  | 0 => fun i => if i = 0 then B 0 else 0
  | t + 1 => fun i => if i = (xy t).2 + 5 * ((2 * (xy t).1 + 3 * (xy t).2) % 5) then rotl (B ((xy t).1 + 5 * (xy t).2)) ((t + 1) * (t + 2) / 2 % 64) else cR B t i
theorem cR_all (B : Nat → BitVec 64) (i : Nat) (hi : i < 25) : cR B 24 i = rhopi B i := by
  match i, hi with
  | 0, _ => rw [show rhopi B 0 = rotl (B 0) 0 from rfl, rotl_zero]; rfl
  | 1, _ => rfl
  | 2, _ => rfl
  | 3, _ => rfl
  | 4, _ => rfl
  | 5, _ => rfl
  | 6, _ => rfl
  | 7, _ => rfl
  | 8, _ => rfl
  | 9, _ => rfl
  | 10, _ => rfl
  | 11, _ => rfl
  | 12, _ => rfl
  | 13, _ => rfl
  | 14, _ => rfl
  | 15, _ => rfl
  | 16, _ => rfl
  | 17, _ => rfl
  | 18, _ => rfl
  | 19, _ => rfl
  | 20, _ => rfl
  | 21, _ => rfl
  | 22, _ => rfl
  | 23, _ => rfl
  | 24, _ => rfl
  | n + 25, h => omega
/-- The lanes when k rows are bent, and j numbers of the next one. -/
def chR (B C : Nat → BitVec 64) (k j i : Nat) : BitVec 64 := if i / 5 < k ∨ (i / 5 = k ∧ i % 5 < j) then chi C i else B i
theorem built23 : (Tryd.prog.built 23 []) = some (arr .u64 25 (fun _ => 0)) := by kernel_rfl
theorem build_zero {P : Program} {ops : Array Oper} {rest : List Oper} {o : Oper} {a : Act} {w : World} {Q : Exit → Act → World → Prop} (t : TypeId) (cs : Array Value) (hb : P.built t [] = some cs)
    (hgd : o.guard = none) (ho : o.op = .build t #[]) (h : wpList P ops Q rest (a.put o.dst (.agg cs)) w) : wpList P ops Q (o :: rest) a w :=
  wpList_build hgd t #[] ho (by simp [hb]) (by simpa [hb] using h)
theorem blks (w : World) (A B C D : Array Value) : Blk ((((w.alloc (.cells A 23)).alloc (.cells B 23)).alloc (.cells C 23)).alloc (.cells D 23)) w.heap.size 23 A ∧
    Blk ((((w.alloc (.cells A 23)).alloc (.cells B 23)).alloc (.cells C 23)).alloc (.cells D 23)) (w.heap.size + 1) 23 B ∧
    Blk ((((w.alloc (.cells A 23)).alloc (.cells B 23)).alloc (.cells C 23)).alloc (.cells D 23)) (w.heap.size + 2) 23 C ∧
    Blk ((((w.alloc (.cells A 23)).alloc (.cells B 23)).alloc (.cells C 23)).alloc (.cells D 23)) (w.heap.size + 3) 23 D := by
  refine ⟨(((Blk.new w 23 A).alloc _).alloc _).alloc _, ((Blk.new2 w _ 23 B).alloc _).alloc _, ?_, ?_⟩
  · have h := Blk.new2 (w.alloc (.cells A 23)) (.cells B 23) 23 C
    rw [show (w.alloc (.cells A 23)).heap.size + 1 = w.heap.size + 2 by simp] at h
    exact h.alloc _
  · have h := Blk.new2 ((w.alloc (.cells A 23)).alloc (.cells B 23)) (.cells C 23) 23 D
    rwa [show ((w.alloc (.cells A 23)).alloc (.cells B 23)).heap.size + 1 = w.heap.size + 3 by simp] at h
theorem thR_none (F : Nat → BitVec 64) (i : Nat) : thR F 0 0 i = F i := by simp [thR]
theorem thR_next (F : Nat → BitVec 64) (k i : Nat) (_hi : i < 25) : thR F k 5 i = thR F (k + 1) 0 i := by
  unfold thR
  by_cases e : i % 5 < k ∨ (i % 5 = k ∧ i / 5 < 5)
  · rw [if_pos e, if_pos (by omega)]
  · rw [if_neg e, if_neg (by omega)]
theorem thR_all (F : Nat → BitVec 64) (i : Nat) : thR F 5 0 i = theta F i := by
  unfold thR; rw [if_pos (by omega)]
theorem thR_at (F : Nat → BitVec 64) (k j : Nat) (hk : k < 5) : thR F k j (k + 5 * j) = F (k + 5 * j) := by
  unfold thR; rw [if_neg (by omega)]
theorem thR_step (F : Nat → BitVec 64) (k j : Nat) (hk : k < 5) (x : BitVec 64) (hx : x = mixOf F k) (i : Nat) (_hi : i < 25) :
    upd (lan (thR F k j)) (k + 5 * j) (U (F (k + 5 * j) ^^^ x)) i = lan (thR F k (j + 1)) i := by
  subst hx
  rw [lan_at]
  unfold upd
  by_cases e : i = k + 5 * j
  · rw [if_pos e]
    unfold thR
    rw [if_pos (by omega), theta, show i % 5 = k by omega, e]
  · rw [if_neg e, lan_at]
    unfold thR
    by_cases e2 : i % 5 < k ∨ (i % 5 = k ∧ i / 5 < j)
    · rw [if_pos e2, if_pos (by omega)]
    · rw [if_neg e2, if_neg (by omega)]
theorem chR_none (B C : Nat → BitVec 64) (i : Nat) : chR B C 0 0 i = B i := by simp [chR]
theorem chR_next (B C : Nat → BitVec 64) (k i : Nat) : chR B C k 5 i = chR B C (k + 1) 0 i := by
  unfold chR
  by_cases e : i / 5 < k ∨ (i / 5 = k ∧ i % 5 < 5)
  · rw [if_pos e, if_pos (by omega)]
  · rw [if_neg e, if_neg (by omega)]
theorem chR_all (B C : Nat → BitVec 64) (i : Nat) (hi : i < 25) : chR B C 5 0 i = chi C i := by
  unfold chR; rw [if_pos (by omega)]
theorem chR_step (B C : Nat → BitVec 64) (k j : Nat) (hj : j < 5) (m1 m2 : Nat) (h1 : m1 = (j + 1) % 5) (h2 : m2 = (j + 2) % 5) (i : Nat) :
    upd (lan (chR B C k j)) (j + 5 * k) (U (C (j + 5 * k) ^^^ (~~~ C (m1 + 5 * k) &&& C (m2 + 5 * k)))) i = lan (chR B C k (j + 1)) i := by
  subst h1 h2
  rw [lan_at]
  unfold upd
  by_cases e : i = j + 5 * k
  · rw [if_pos e]
    unfold chR
    rw [if_pos (by omega), chi, show i / 5 = k by omega, show i % 5 = j by omega, e, Nat.add_comm (5 * k), Nat.add_comm (5 * k)]
  · rw [if_neg e, lan_at]
    unfold chR
    by_cases e2 : i / 5 < k ∨ (i / 5 = k ∧ i % 5 < j)
    · rw [if_pos e2, if_pos (by omega)]
    · rw [if_neg e2, if_neg (by omega)]
theorem cR_zero (B : Nat → BitVec 64) (i : Nat) : upd (fun _ => 0) 0 (U (B 0)) i = lan (cR B 0) i := by
  unfold upd
  rw [lan_at]
  by_cases e : i = 0
  · rw [if_pos e]; simp [cR, e]
  · rw [if_neg e]; simp [cR, e, U]
theorem cR_step (B : Nat → BitVec 64) (t x y p : Nat) (hx : x = (xy t).1) (hy : y = (xy t).2) (hp : p = y + 5 * ((2 * x + 3 * y) % 5)) (i : Nat) :
    upd (lan (cR B t)) p (U (rotl (B (x + 5 * y)) ((t + 1) * (t + 2) / 2 % 64))) i = lan (cR B (t + 1)) i := by
  subst hx hy hp
  unfold upd
  rw [lan_at, lan_at]
  simp only [cR]
  split <;> rfl
/-- What a round's four rows hold: the numbers that came in, the answer's room, b and c; nothing older turned. -/
structure RS (w wr : World) (F : Nat → BitVec 64) (B C : Nat → Int) : Prop where
  g : w.grownBy wr none
  a : Blk wr w.heap.size 23 (arr .u64 25 (lan F))
  r : Blk wr (w.heap.size + 1) 23 (arr .u64 25 (fun _ => 0))
  b : Blk wr (w.heap.size + 2) 23 (arr .u64 25 B)
  c : Blk wr (w.heap.size + 3) 23 (arr .u64 25 C)
theorem RS.drew {w wr : World} {F : Nat → BitVec 64} {B C : Nat → Int} (h : RS w wr F B C) : RS w wr.drew F B C := ⟨grown_drew h.g, h.a.drew, h.r.drew, h.b.drew, h.c.drew⟩
theorem RS.setb {w wr : World} {F : Nat → BitVec 64} {B C : Nat → Int} (h : RS w wr F B C) (i : Nat) (v : Int) : RS w (wr.setCell ⟨w.heap.size + 2, i, none⟩ (.int .u64 v)) F (upd B i v) C :=
  ⟨grown_set_new h.g _ (by simp), h.a.other _ (by simp), h.r.other _ (by simp), h.b.seti i v, h.c.other _ (by simp)⟩
theorem RS.setc {w wr : World} {F : Nat → BitVec 64} {B C : Nat → Int} (h : RS w wr F B C) (i : Nat) (v : Int) : RS w (wr.setCell ⟨w.heap.size + 3, i, none⟩ (.int .u64 v)) F B (upd C i v) :=
  ⟨grown_set_new h.g _ (by simp), h.a.other _ (by simp), h.r.other _ (by simp), h.b.other _ (by simp), h.c.seti i v⟩
theorem RS.congr {w wr : World} {F : Nat → BitVec 64} {B C B' C' : Nat → Int} (h : RS w wr F B C) (hb : ∀ i, i < 25 → B i = B' i) (hc : ∀ i, i < 25 → C i = C' i) : RS w wr F B' C' :=
  ⟨h.g, h.a, h.r, h.b.congr hb, h.c.congr hc⟩
theorem RS.start {w w1 w2 : World} {F : Nat → BitVec 64} {Z1 Z2 Z3 : Array Value} (hb1 : Blk w1 (w.heap.size + 2) 23 (arr .u64 25 (lan F)))
    (hg1 : ((((w.alloc (.cells (arr .u64 25 (lan F)) 23)).alloc (.cells Z1 23)).alloc (.cells Z2 23)).alloc (.cells Z3 23)).grownBy w1 (some (w.heap.size + 2))) (e1 : Z1 = arr .u64 25 (fun _ => 0))
    (hb2 : Blk w2 (w.heap.size + 3) 23 (arr .u64 25 (fun _ => 0))) (hg2 : w1.grownBy w2 (some (w.heap.size + 3))) : RS w w2 F (lan F) (fun _ => 0) := by
  subst e1
  obtain ⟨h0, h1, _, _⟩ := blks w (arr .u64 25 (lan F)) (arr .u64 25 (fun _ => 0)) Z2 Z3
  have g0 : w.grownBy w1 none := grown_through (grown_alloc (grown_alloc (grown_alloc (grown_alloc (grown_refl w none) _) _) _) _) hg1 (by omega)
  exact ⟨grown_through g0 hg2 (by omega), (h0.kept hg1 (by simp)).kept hg2 (by simp), (h1.kept hg1 (by simp)).kept hg2 (by simp), hb1.kept hg2 (by simp), hb2⟩
theorem subU (x : BitVec 64) : IntKind.u64.wrap (18446744073709551615 - U x) = U (~~~x) := by
  have h0 := U_lo x
  have h1 := U_hi x
  rw [notU]
  have h2 := U_lo (~~~x)
  have h3 := U_hi (~~~x)
  simp only [IntKind.wrap, IntKind.bits, IntKind.signed]
  simp
  omega
theorem is_store {P : Program} {ops : Array Oper} {rest : List Oper} {o : Oper} {a : Act} {w : World} {Q : Exit → Act → World → Prop} (ty : TypeId) (x y : Operand) (_ho : o.op = .store ty x y) (h : wpList P ops Q (o :: rest) a w) : wpList P ops Q (o :: rest) a w := h
theorem is_load {P : Program} {ops : Array Oper} {rest : List Oper} {o : Oper} {a : Act} {w : World} {Q : Exit → Act → World → Prop} (ty : TypeId) (x : Operand) (_ho : o.op = .load ty x) (h : wpList P ops Q (o :: rest) a w) : wpList P ops Q (o :: rest) a w := h
set_option maxRecDepth 100000 in
set_option maxHeartbeats 4000000 in
theorem round_any (F : Nat → BitVec 64) (n : Nat) (w : World) (hn : n < 24) :
    Calls Tryd.prog 25 #[.agg (arr .u64 25 (lan F)), .int .i64 n] w fun e w' => e = .returned (.agg (arr .u64 25 (lan (round F n)))) ∧ w.grownBy w' none := by
  go_enter Tryd.func25, Tryd.ntmps25
  go_wp2_with (first | (refine is_load 23 (.tmp 2) rfl ?_; refine load_blk 23 w.heap.size 23 (arr .u64 25 (lan F)) ((Blk.new w 23 _).alloc _) _ Tryd.underlying23 rfl (by rw [arr_size]; exact size23) _ rfl rfl rfl ?_) | (refine build_zero 23 _ built23 rfl rfl ?_) | (refine is_store 23 (.tmp 5) (.tmp 17) rfl ?_; refine store_blk 23 (w.heap.size + 2) 23 _ (arr .u64 25 (lan F)) (blks w _ _ _ _).2.2.1 (by rw [arr_size]; exact size23) (by rw [arr_size]; rfl) (arr_one _ _ _) _ _ rfl rfl rfl rfl ?_; intro w1 hb1 hg1) | (refine is_store 23 (.tmp 6) (.tmp 18) rfl ?_; refine store_blk 23 (w.heap.size + 3) 23 _ (arr .u64 25 (fun _ => 0)) ((blks w _ _ _ _).2.2.2.kept hg1 (by simp)) (by rw [arr_size]; exact size23) (by rw [arr_size]; rfl) (arr_one _ _ _) _ _ rfl rfl rfl rfl ?_; intro w2 hb2 hg2; have R2 := RS.start hb1 hg1 rfl hb2 hg2; clear hb1 hg1 hb2 hg2))
  go_loopw [7] (fun i wr => ∃ k : Nat, k ≤ 5 ∧ i = .int .i64 k ∧ RS w wr F (lan (thR F k 0)) (fun _ => 0)) (fun i _ => 5 - (intOf i).toNat)
  case atStart => exact ⟨0, by omega, rfl, R2.congr (fun i _ => by rw [lan_at, lan_at, thR_none]) (fun _ _ => rfl)⟩
  case round =>
    clear R2
    obtain ⟨k, hk, rfl, R3⟩ := hrel
    by_cases hlt : k < 5
    · go_wp2
      go_loop [8, 9, 10] (fun l r y => ∃ j : Nat, j ≤ 5 ∧ y = .int .i64 j ∧ l = .int .u64 (U (colTo F ((k + 4) % 5) j)) ∧ r = .int .u64 (U (colTo F ((k + 1) % 5) j))) (fun _ _ y => 5 - (intOf y).toNat)
      case atStart => exact ⟨0, by omega, rfl, rfl, rfl⟩
      case round =>
        obtain ⟨j, hj, rfl, rfl, rfl⟩ := hrel
        by_cases hlt2 : j < 5
        · have i0 : (0 : Int) ≤ (k : Int) := by omega
          have i1 : (k : Int) < 5 := by omega
          have i2 : (0 : Int) ≤ (j : Int) := by omega
          have i3 : (j : Int) < 5 := by omega
          have hX := xorU
          have c1 := R3.a.ints ((k + 4) % 5 + 5 * j) (by omega)
          have c2 := R3.a.ints ((k + 1) % 5 + 5 * j) (by omega)
          rw [lan_at] at c1 c2
          have s1 : Hid (colTo F ((k + 4) % 5) (j + 1) = colTo F ((k + 4) % 5) j ^^^ F ((k + 4) % 5 + 5 * j)) := rfl
          have s2 : Hid (colTo F ((k + 1) % 5) (j + 1) = colTo F ((k + 1) % 5) j ^^^ F ((k + 1) % 5 + 5 * j)) := rfl
          generalize F ((k + 4) % 5 + 5 * j) = x4 at *
          generalize F ((k + 1) % 5 + 5 * j) = x1 at *
          clear R3
          generalize colTo F ((k + 4) % 5) j = l at *
          generalize colTo F ((k + 1) % 5) j = r at *
          go_wp2
          go_round
          case rel => exact ⟨j + 1, by omega, by go_num, by rw [s1.out], by rw [s2.out]⟩
          case measure => simp [intOf]; omega
        · have e : j = 5 := by omega
          subst e
          have E0 : Hid (col F ((k + 4) % 5) ^^^ rotl (col F ((k + 1) % 5)) 1 = mixOf F k) := rfl
          rw [colTo_all, colTo_all]
          generalize col F ((k + 4) % 5) = cl at *
          generalize col F ((k + 1) % 5) = cr at *
          go_wp2
          go_loopw [11] (fun y wr => ∃ j : Nat, j ≤ 5 ∧ y = .int .i64 j ∧ RS w wr F (lan (thR F k j)) (fun _ => 0)) (fun y _ => 5 - (intOf y).toNat)
          case atStart => exact ⟨0, by omega, rfl, R3⟩
          case round =>
            clear R3
            obtain ⟨j, hj, rfl, R4⟩ := hrel
            by_cases hlt3 : j < 5
            · have hX := xorU
              have c := R4.b.ints (k + 5 * j) (by omega)
              rw [lan_at, thR_at F k j hlt] at c
              have c' : wr.cell? ⟨w.heap.size + 1 + 1, k + 5 * j, none⟩ = some (.int .u64 (U (F (k + 5 * j)))) := c
              have f := R4.b.frozen (k + 5 * j)
              have f' : wr.frozen? ⟨w.heap.size + 1 + 1, k + 5 * j, none⟩ = false := f
              have v5 : IntKind.i64.wrap (5 * (j : Int)) = 5 * (j : Int) := i64_in _ (by omega)
              have vk : IntKind.i64.wrap ((k : Int) + 5 * (j : Int)) = (k : Int) + 5 * (j : Int) := i64_in _ (by omega)
              have a0 : (k : Int) + 5 * (j : Int) < 25 := by omega
              have b0 : 0 ≤ (k : Int) + 5 * (j : Int) := by omega
              have n0 : ((k : Int) + 5 * (j : Int)).toNat = k + 5 * j := by omega
              have i2 : (0 : Int) ≤ (j : Int) := by omega
              have i3 : (j : Int) < 5 := by omega
              obtain ⟨x, ex⟩ : ∃ x, x = F (k + 5 * j) := ⟨_, rfl⟩
              rw [← ex] at c c'
              have EX : Hid (x = F (k + 5 * j)) := ex
              clear ex
              go_wp2
              go_region_with (go_at_call 29; refine (turned_any cr 1 _ (by omega) (by omega)).mono ?_; rintro e w' ⟨rfl, rfl⟩)
              all_goals
                go_wp2
                go_roundw
                case rel =>
                  refine ⟨j + 1, by omega, by go_num, RS.drew ((R4.setb (k + 5 * j) _).congr (fun i hi => ?_) (fun _ _ => rfl))⟩
                  rw [EX.out]
                  exact thR_step F k j hlt _ E0.out i hi
                case measure => simp [intOf]; omega
            · have e : j = 5 := by omega
              subst e
              have R5 : RS w wr F (lan (thR F (k + 1) 0)) (fun _ => 0) := R4.congr (fun i hi => by rw [lan_at, lan_at, thR_next F k i hi]) (fun _ _ => rfl)
              clear R4
              go_wp2
              go_roundw
              case rel => exact ⟨k + 1, by omega, by go_num, R5⟩
              case measure => simp [intOf]; omega
    · have e : k = 5 := by omega
      subst e
      rw [show ((5 : Nat) : Int) = 5 from rfl]
      obtain ⟨B, eB⟩ : ∃ B, B = theta F := ⟨_, rfl⟩
      have EB : Hid (B = theta F) := eB
      have R4 : RS w wr F (lan B) (fun _ => 0) := R3.congr (fun i _ => by rw [lan_at, lan_at, thR_all, eB]) (fun _ _ => rfl)
      clear R3 eB
      have cb : wr.cell? ⟨w.heap.size + 1 + 1, 0, none⟩ = some (.int .u64 (U (B 0))) := R4.b.ints 0 (by omega)
      have cc : wr.cell? ⟨w.heap.size + 1 + 1 + 1, 0, none⟩ = some (.int .u64 0) := R4.c.ints 0 (by omega)
      have fc : wr.frozen? ⟨w.heap.size + 1 + 1 + 1, 0, none⟩ = false := R4.c.frozen 0
      go_wp2
      clear cb cc fc
      go_loopw [12, 13, 14] (fun x y t wr => ∃ m : Nat, m ≤ 24 ∧ t = .int .i64 m ∧ x = .int .i64 ((xy m).1 : Nat) ∧ y = .int .i64 ((xy m).2 : Nat) ∧ RS w wr F (lan B) (lan (cR B m))) (fun _ _ t _ => 24 - (intOf t).toNat)
      case atStart => exact ⟨0, by omega, rfl, rfl, rfl, (R4.setc 0 _).congr (fun _ _ => rfl) (fun i _ => cR_zero B i)⟩
      case round =>
        clear R4
        obtain ⟨m, hm, rfl, rfl, rfl, R5⟩ := hrel
        by_cases hlt4 : m < 24
        · obtain ⟨hx5, hy5⟩ := xy_lt m
          obtain ⟨x, ex⟩ : ∃ x, x = (xy m).1 := ⟨_, rfl⟩
          obtain ⟨y, ey⟩ : ∃ y, y = (xy m).2 := ⟨_, rfl⟩
          have ex1 : Hid ((xy (m + 1)).1 = y) := by rw [ey]; rfl
          have ey1 : Hid ((xy (m + 1)).2 = (2 * x + 3 * y) % 5) := by rw [ex, ey]; rfl
          rw [← ex] at hx5
          rw [← ey] at hy5
          rw [← ex, ← ey]
          have EX : Hid (x = (xy m).1) := ex
          have EY : Hid (y = (xy m).2) := ey
          clear ex ey
          obtain ⟨z, ez⟩ : ∃ z, z = B (x + 5 * y) := ⟨_, rfl⟩
          have cb : wr.cell? ⟨w.heap.size + 1 + 1, x + 5 * y, none⟩ = some (.int .u64 (U z)) := by rw [ez]; exact R5.b.ints (x + 5 * y) (by omega)
          obtain ⟨o, cc⟩ : ∃ o, wr.cell? ⟨w.heap.size + 1 + 1 + 1, y + 5 * ((2 * x + 3 * y) % 5), none⟩ = some (.int .u64 o) := ⟨_, R5.c.ints (y + 5 * ((2 * x + 3 * y) % 5)) (by omega)⟩
          have fc : wr.frozen? ⟨w.heap.size + 1 + 1 + 1, y + 5 * ((2 * x + 3 * y) % 5), none⟩ = false := R5.c.frozen _
          have EZ : Hid (z = B (x + 5 * y)) := ez
          have HR : Hid (RS w wr F (lan B) (lan (cR B m))) := R5
          have pc : ((m : Int) + 1) * ((m : Int) + 2) = (((m + 1) * (m + 2) : Nat) : Int) := by push_cast; rfl
          have pl : (m + 1) * (m + 2) ≤ 24 * 25 := Nat.mul_le_mul (by omega) (by omega)
          have q0 : 0 ≤ ((m : Int) + 1) * ((m : Int) + 2) := by omega
          have q1 : ((m : Int) + 1) * ((m : Int) + 2) ≤ 600 := by omega
          have PT : Hid ((((m : Int) + 1) * ((m : Int) + 2) / 2 % 64).toNat = (m + 1) * (m + 2) / 2 % 64) := by unfold Hid; omega
          have i0 : (m : Int) < 24 := by omega
          have i1 : (x : Int) < 5 := by omega
          have i2 : (y : Int) < 5 := by omega
          have HN : Hid (RS w (wr.setCell ⟨w.heap.size + 1 + 1 + 1, y + 5 * ((2 * x + 3 * y) % 5), none⟩ (.int .u64 (U (rotl z ((((m : Int) + 1) * ((m : Int) + 2) / 2 % 64).toNat))))) F (lan B) (lan (cR B (m + 1)))) :=
            (R5.setc (y + 5 * ((2 * x + 3 * y) % 5)) (U (rotl z ((((m : Int) + 1) * ((m : Int) + 2) / 2 % 64).toNat)))).congr (fun _ _ => rfl) (fun i _ => by rw [PT.out, ez]; exact cR_step B m x y _ EX.out EY.out rfl i)
          clear ez R5 pc pl HR EZ PT EX EY
          go_wp2_with (go_at_call 29; refine (turned_any z _ _ (by omega) (by omega)).mono ?_; rintro e w' ⟨rfl, rfl⟩)
          go_roundw
          case rel =>
            exact ⟨m + 1, by omega, by go_num, by rw [ex1.out], by rw [ey1.out]; go_num, HN.out⟩
          case measure => simp [intOf]; omega
        · have e : m = 24 := by omega
          subst e
          generalize (xy 24).1 = xx
          generalize (xy 24).2 = yy
          rw [show ((24 : Nat) : Int) = 24 from rfl]
          obtain ⟨C, eC⟩ : ∃ C, C = rhopi B := ⟨_, rfl⟩
          have EC : Hid (C = rhopi B) := eC
          have R6 : RS w wr F (lan B) (lan C) := R5.congr (fun _ _ => rfl) (fun i hi => by rw [lan_at, lan_at, cR_all B i hi, eC])
          clear R5 eC
          go_wp2
          go_loopw [15] (fun y wr => ∃ k : Nat, k ≤ 5 ∧ y = .int .i64 k ∧ RS w wr F (lan (chR B C k 0)) (lan C)) (fun y _ => 5 - (intOf y).toNat)
          case atStart => exact ⟨0, by omega, rfl, R6.congr (fun i _ => by rw [lan_at, lan_at, chR_none]) (fun _ _ => rfl)⟩
          case round =>
            clear R6
            obtain ⟨k, hk, rfl, R7⟩ := hrel
            by_cases hlt5 : k < 5
            · have hd5 : decide ((k : Int) < 5) = true := by simp; omega
              go_wp2
              go_loopw [16] (fun x wr => ∃ j : Nat, j ≤ 5 ∧ x = .int .i64 j ∧ RS w wr F (lan (chR B C k j)) (lan C)) (fun x _ => 5 - (intOf x).toNat)
              case atStart => exact ⟨0, by omega, rfl, R7⟩
              case round =>
                clear R7
                obtain ⟨j, hj, rfl, R8⟩ := hrel
                by_cases hlt6 : j < 5
                · obtain ⟨m1, e1⟩ : ∃ m, m = (j + 1) % 5 := ⟨_, rfl⟩
                  obtain ⟨m2, e2⟩ : ∃ m, m = (j + 2) % 5 := ⟨_, rfl⟩
                  obtain ⟨z0, ez0⟩ : ∃ z, z = C (j + 5 * k) := ⟨_, rfl⟩
                  obtain ⟨z1, ez1⟩ : ∃ z, z = C (m1 + 5 * k) := ⟨_, rfl⟩
                  obtain ⟨z2, ez2⟩ : ∃ z, z = C (m2 + 5 * k) := ⟨_, rfl⟩
                  have c0 : wr.cell? ⟨w.heap.size + 1 + 1 + 1, j + 5 * k, none⟩ = some (.int .u64 (U z0)) := by rw [ez0]; exact R8.c.ints (j + 5 * k) (by omega)
                  have c1 : wr.cell? ⟨w.heap.size + 1 + 1 + 1, m1 + 5 * k, none⟩ = some (.int .u64 (U z1)) := by rw [ez1]; exact R8.c.ints (m1 + 5 * k) (by omega)
                  have c2 : wr.cell? ⟨w.heap.size + 1 + 1 + 1, m2 + 5 * k, none⟩ = some (.int .u64 (U z2)) := by rw [ez2]; exact R8.c.ints (m2 + 5 * k) (by omega)
                  obtain ⟨o, co⟩ : ∃ o, wr.cell? ⟨w.heap.size + 1 + 1, j + 5 * k, none⟩ = some (.int .u64 o) := ⟨_, R8.b.ints (j + 5 * k) (by omega)⟩
                  have fo : wr.frozen? ⟨w.heap.size + 1 + 1, j + 5 * k, none⟩ = false := R8.b.frozen _
                  have i0 : (0 : Int) ≤ (j : Int) := by omega
                  have i1 : (j : Int) < 5 := by omega
                  have i2 : (0 : Int) ≤ (k : Int) := by omega
                  have i3 : (k : Int) < 5 := by omega
                  have x1 : ((j : Int) + 1).tmod 5 = (m1 : Int) := by rw [Int.tmod_eq_emod_of_nonneg (by omega)]; omega
                  have x2 : ((j : Int) + 2).tmod 5 = (m2 : Int) := by rw [Int.tmod_eq_emod_of_nonneg (by omega)]; omega
                  have v1 : IntKind.i64.wrap ((j : Int) + 1) = (j : Int) + 1 := i64_in _ (by omega)
                  have v2 : IntKind.i64.wrap ((j : Int) + 2) = (j : Int) + 2 := i64_in _ (by omega)
                  have v3 : IntKind.i64.wrap (5 * (k : Int)) = 5 * (k : Int) := i64_in _ (by omega)
                  have v4 : IntKind.i64.wrap ((j : Int) + 5 * (k : Int)) = (j : Int) + 5 * (k : Int) := i64_in _ (by omega)
                  have v5 : IntKind.i64.wrap ((m1 : Int) + 5 * (k : Int)) = (m1 : Int) + 5 * (k : Int) := i64_in _ (by omega)
                  have v6 : IntKind.i64.wrap ((m2 : Int) + 5 * (k : Int)) = (m2 : Int) + 5 * (k : Int) := i64_in _ (by omega)
                  have a4 : (j : Int) + 5 * (k : Int) < 25 := by omega
                  have b4 : 0 ≤ (j : Int) + 5 * (k : Int) := by omega
                  have n4 : ((j : Int) + 5 * (k : Int)).toNat = j + 5 * k := by omega
                  have a5 : (m1 : Int) + 5 * (k : Int) < 25 := by omega
                  have b5 : 0 ≤ (m1 : Int) + 5 * (k : Int) := by omega
                  have n5 : ((m1 : Int) + 5 * (k : Int)).toNat = m1 + 5 * k := by omega
                  have a6 : (m2 : Int) + 5 * (k : Int) < 25 := by omega
                  have b6 : 0 ≤ (m2 : Int) + 5 * (k : Int) := by omega
                  have n6 : ((m2 : Int) + 5 * (k : Int)).toNat = m2 + 5 * k := by omega
                  have hX := xorU
                  have hA := andU
                  have hS := subU
                  skip
                  skip
                  skip
                  skip
                  skip
                  skip
                  have HN : Hid (RS w (wr.setCell ⟨w.heap.size + 1 + 1, j + 5 * k, none⟩ (.int .u64 (U (z0 ^^^ (~~~z1 &&& z2))))).drew F (lan (chR B C k (j + 1))) (lan C)) :=
                    RS.drew ((R8.setb (j + 5 * k) (U (z0 ^^^ (~~~z1 &&& z2)))).congr (fun i _ => by rw [ez0, ez1, ez2]; exact chR_step B C k j hlt6 m1 m2 e1 e2 i) (fun _ _ => rfl))
                  clear e1 e2 ez0 ez1 ez2 R8
                  go_wp2
                  go_region_held3 (fun w' => w'.cell? ⟨w.heap.size + 1 + 1 + 1, j + 5 * k, none⟩ = some (.int .u64 (U z0)) ∧ w'.cell? ⟨w.heap.size + 1 + 1 + 1, m1 + 5 * k, none⟩ = some (.int .u64 (U z1)) ∧ w'.cell? ⟨w.heap.size + 1 + 1 + 1, m2 + 5 * k, none⟩ = some (.int .u64 (U z2))) (go_keep) (fail)
                  go_wp2
                  go_roundw
                  case rel =>
                    exact ⟨j + 1, by omega, by go_num, HN.out⟩
                  case measure => simp [intOf]; omega
                · have e : j = 5 := by omega
                  subst e
                  have R9 : RS w wr F (lan (chR B C (k + 1) 0)) (lan C) := R8.congr (fun i _ => by rw [lan_at, lan_at, chR_next]) (fun _ _ => rfl)
                  clear R8
                  go_wp2
                  go_roundw
                  case rel =>
                    first | exact ⟨k + 1, by omega, by go_num, R9⟩ | (repeat apply Exists.intro; exact ⟨⟨k + 1, by omega, by go_num, R9⟩, rfl⟩)
                  case measure => simp [intOf]; omega
            · have e : k = 5 := by omega
              subst e
              rw [show ((5 : Nat) : Int) = 5 from rfl]
              have R8 : RS w wr F (lan (chi C)) (lan C) := R7.congr (fun i hi => by rw [lan_at, lan_at, chR_all B C i hi]) (fun _ _ => rfl)
              have cb : wr.cell? ⟨w.heap.size + 1 + 1, 0, none⟩ = some (.int .u64 (U (chi C 0))) := R8.b.ints 0 (by omega)
              have fb : wr.frozen? ⟨w.heap.size + 1 + 1, 0, none⟩ = false := R8.b.frozen 0
              have hX := xorU
              have HN : Hid (RS w (wr.setCell ⟨w.heap.size + 1 + 1, 0, none⟩ (.int .u64 (U (chi C 0 ^^^ rc n)))).drew F (lan (round F n)) (lan C)) :=
                RS.drew ((R8.setb 0 (U (chi C 0 ^^^ rc n))).congr (fun i _ => by rw [EC.out, EB.out]; exact round_upd F n i) (fun _ _ => rfl))
              clear R7 R8 EB EC
              generalize chi C 0 = z at *
              go_wp2
              go_region_with (go_at_call 30; refine (constant_any n _ hn).mono ?_; rintro e w' ⟨rfl, rfl⟩)
              all_goals
                obtain ⟨wz, hz⟩ : ∃ wz, wz = (wr.setCell ⟨w.heap.size + 1 + 1, 0, none⟩ (.int .u64 (U (z ^^^ rc n)))).drew := ⟨_, rfl⟩
                have RZ := HN.out
                rw [← hz] at RZ ⊢
                clear hz HN cb fb hX
                go_wp2_with (first | (refine is_load 23 (.tmp 5) rfl ?_; refine load_blk 23 (w.heap.size + 2) 23 (arr .u64 25 (lan (round F n))) RZ.b _ Tryd.underlying23 rfl (by rw [arr_size]; exact size23) _ rfl rfl rfl ?_) | (refine is_store 23 (.tmp 4) (.tmp 145) rfl ?_; refine store_blk 23 (w.heap.size + 1) 23 _ (arr .u64 25 (lan (round F n))) RZ.r (by rw [arr_size]; exact size23) (by rw [arr_size, arr_size]) (arr_one _ _ _) _ _ rfl rfl rfl rfl ?_; intro wy hby hgy))
                exact bodyPost_ret (v := .agg (arr .u64 25 (lan (round F n)))) (results_cell_row Tryd.results25 _ _ (w.heap.size + 1) 23 _ (0, 0) _ rfl hby Tryd.underlying23 rfl (by rw [arr_size]; exact size23)) rfl ⟨rfl, grown_through RZ.g hgy (by omega)⟩
end Go.Proofs.YtncplpgelfjfjaaDoor
