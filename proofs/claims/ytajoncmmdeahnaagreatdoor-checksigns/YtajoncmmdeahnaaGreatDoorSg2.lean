/-
  CheckSigns: the law's walk.
-/
import Derived.Test.YtajoncmmdeahnaaGreatDoorKSg1
import Derived.Deep.CutRange
import Derived.Deep.CutBlock
import Derived.Deep.RegionHeld3
import Derived.Deep.DeepCutAuto
namespace Go.Proofs.YtajoncmmdeahnaaGreatDoor
open Go.RowKit
namespace Sc
def sgV (i : Nat) : ByteArray := mkS (sgL i)
def tyV (i : Nat) : ByteArray := mkS (tyL i)
theorem sg_at (i : Nat) (hi : i < 13) (h : i < ([Value.string ⟨#[43]⟩, Value.string ⟨#[45]⟩, Value.string ⟨#[42]⟩, Value.string ⟨#[47]⟩, Value.string ⟨#[37]⟩, Value.string ⟨#[60]⟩, Value.string ⟨#[60, 61]⟩, Value.string ⟨#[62]⟩, Value.string ⟨#[62, 61]⟩, Value.string ⟨#[61, 61]⟩, Value.string ⟨#[33, 61]⟩, Value.string ⟨#[38, 38]⟩, Value.string ⟨#[124, 124]⟩] : List Value).length) : ([Value.string ⟨#[43]⟩, Value.string ⟨#[45]⟩, Value.string ⟨#[42]⟩, Value.string ⟨#[47]⟩, Value.string ⟨#[37]⟩, Value.string ⟨#[60]⟩, Value.string ⟨#[60, 61]⟩, Value.string ⟨#[62]⟩, Value.string ⟨#[62, 61]⟩, Value.string ⟨#[61, 61]⟩, Value.string ⟨#[33, 61]⟩, Value.string ⟨#[38, 38]⟩, Value.string ⟨#[124, 124]⟩] : List Value)[i]'h = .string (sgV i) := by
  match i, hi with
  | 0, _ => rfl
  | 1, _ => rfl
  | 2, _ => rfl
  | 3, _ => rfl
  | 4, _ => rfl
  | 5, _ => rfl
  | 6, _ => rfl
  | 7, _ => rfl
  | 8, _ => rfl
  | 9, _ => rfl
  | 10, _ => rfl
  | 11, _ => rfl
  | 12, _ => rfl
theorem ty_at (i : Nat) (hi : i < 3) (h : i < ([Value.string ⟨#[105, 110, 116]⟩, Value.string ⟨#[102, 108, 111, 97, 116]⟩, Value.string ⟨#[98, 111, 111, 108]⟩] : List Value).length) : ([Value.string ⟨#[105, 110, 116]⟩, Value.string ⟨#[102, 108, 111, 97, 116]⟩, Value.string ⟨#[98, 111, 111, 108]⟩] : List Value)[i]'h = .string (tyV i) := by
  match i, hi with
  | 0, _ => rfl
  | 1, _ => rfl
  | 2, _ => rfl
theorem mod13 (n : Int) : ∃ i : Nat, (wrap64 (n.tmod 13 + 13)).tmod 13 = (i : Int) ∧ i < 13 := by
  have h1 : -13 < n.tmod 13 := by have := Int.lt_tmod_of_pos n (show (0 : Int) < 13 by decide); omega
  have h2 : n.tmod 13 < 13 := Int.tmod_lt_of_pos n (by decide)
  generalize n.tmod 13 = m at *
  have h3 : wrap64 (m + 13) = m + 13 := by unfold wrap64; omega
  rw [h3, Int.tmod_eq_emod_of_nonneg (by omega)]
  exact ⟨((m + 13) % 13).toNat, by omega, by omega⟩
theorem mod3 (n : Int) : ∃ i : Nat, (wrap64 (n.tmod 3 + 3)).tmod 3 = (i : Int) ∧ i < 3 := by
  have h1 : -3 < n.tmod 3 := by have := Int.lt_tmod_of_pos n (show (0 : Int) < 3 by decide); omega
  have h2 : n.tmod 3 < 3 := Int.tmod_lt_of_pos n (by decide)
  generalize n.tmod 3 = m at *
  have h3 : wrap64 (m + 3) = m + 3 := by unfold wrap64; omega
  rw [h3, Int.tmod_eq_emod_of_nonneg (by omega)]
  exact ⟨((m + 3) % 3).toNat, by omega, by omega⟩
theorem ty_cell (i : Nat) (hi : i < 3) : (#[Value.string ⟨#[105, 110, 116]⟩, Value.string ⟨#[102, 108, 111, 97, 116]⟩, Value.string ⟨#[98, 111, 111, 108]⟩] : Array Value)[i]? = some (.string (tyV i)) := by
  match i, hi with
  | 0, _ => rfl
  | 1, _ => rfl
  | 2, _ => rfl
theorem ty_size (i : Nat) : (tyV i).size ≤ 5 := by
  unfold tyV
  rw [mkS_size]
  match i with
  | 0 => decide
  | 1 => decide
  | n + 2 => exact Nat.le_succ 4
theorem sg_size (i : Nat) : (sgV i).size ≤ 2 := by
  unfold sgV
  rw [mkS_size]
  unfold sgL
  split <;> decide
theorem txS_eq (i x y : Nat) (X Y A S C1 C2 C3 C4 C5 C6 C7 C8 : ByteArray) (eX : X = tyV x) (eY : Y = tyV y) (eA : A = tyV (anF i x)) (eS : S = sgV i) (e1 : (⟨#[102, 117, 110, 99, 32, 102, 40, 97, 32]⟩ : ByteArray) ++ X = C1) (e2 : C1 ++ (⟨#[44, 32, 98, 32]⟩ : ByteArray) = C2) (e3 : C2 ++ Y = C3) (e4 : C3 ++ (⟨#[41, 32]⟩ : ByteArray) = C4) (e5 : C4 ++ A = C5) (e6 : C5 ++ (⟨#[32, 123, 32, 114, 101, 116, 117, 114, 110, 32, 97, 32]⟩ : ByteArray) = C6) (e7 : C6 ++ S = C7) (e8 : C7 ++ (⟨#[32, 98, 59, 32, 125]⟩ : ByteArray) = C8) : C8 = mkS (txS i x y) := by
  subst e1 e2 e3 e4 e5 e6 e7 e8 eX eY eA eS
  unfold txS
  rw [← app_mk, ← app_mk, ← app_mk, ← app_mk, ← app_mk, ← app_mk, ← app_mk, ← app_mk]
  rfl
/-- Behind the parser's call: its tree in a cell of the law's own. -/
def R23 (w : World) (p : Nd) (c14 c15 c16 : Value) (W : World) : Prop := ∃ b ps cp, c14 = .pointer (some ⟨b, 0, none⟩) ∧ c15 = .int .i64 0 ∧ c16 = .int .i64 0 ∧ w.grownBy W none ∧ Blk W b 27 #[.int .i64 p.kind, .int .i64 p.ty, .string p.txt, .int .i64 p.num, .slice ps p.kids.length cp] ∧ KsV W (fun _ => True) (.slice ps p.kids.length cp) p.kids
theorem un_drew {W W' : World} {r : Option Nat} (h : W.drew.grownBy W' r) : W.grownBy W' r := ⟨h.os, h.tape, h.output, h.size, h.block⟩
theorem un_drewA {W W' : World} {o : Obj} (h : (W.alloc o).drew.grownBy W' none) : W.grownBy W' none := grown_none (grown_alloc (grown_refl W none) o) (un_drew h)
theorem natE (x y : Nat) (E : Bool) (h : ((x : Int) == (y : Int)) = E) : (x == y) = E := by
  subst h
  by_cases e : x = y
  · subst e; simp
  · have h1 : (x == y) = false := by rw [beq_eq_false_iff_ne]; exact e
    have h2 : ((x : Int) == (y : Int)) = false := by rw [beq_eq_false_iff_ne]; omega
    rw [h1, h2]
set_option maxRecDepth 100000 in
set_option maxHeartbeats 60000000 in
theorem signs_law (sign a b : Int) (w : World) (hG : Pm.GlB w w.heap.size) : Calls Tryz.prog 5 #[.int .i64 sign, .int .i64 a, .int .i64 b] w (TrueP w) := by
  obtain ⟨i, hi0, hi⟩ := mod13 sign
  obtain ⟨x, hx0, hx⟩ := mod3 a
  obtain ⟨y, hy0, hy⟩ := mod3 b
  have GG := hid (glb_all hG)
  have i0 : (0 : Int) ≤ i := by omega
  have i1 : (i : Int) < 13 := by omega
  have x0 : (0 : Int) ≤ x := by omega
  have x1 : (x : Int) < 3 := by omega
  have y0 : (0 : Int) ≤ y := by omega
  have y1 : (y : Int) < 3 := by omega
  have hS := sg_at i hi
  obtain ⟨S, eS⟩ : ∃ Z, sgV i = Z := ⟨_, rfl⟩
  rw [eS] at hS
  have ES := hid eS
  clear hG eS
  go_enter Tryz.func5, Tryz.ntmps5
  go_upto_region 5 with fail
  go_cut [55] from 38 to 55 (fun c W => c = .bool (decide (5 ≤ i)) ∧ w.grownBy W none ∧ Blk W (w.heap.size + 1) 9 #[Value.string ⟨#[105, 110, 116]⟩, Value.string ⟨#[102, 108, 111, 97, 116]⟩, Value.string ⟨#[98, 111, 111, 108]⟩])
  case first =>
    have GW := hid (grown_alloc (grown_alloc (grown_refl w none) (.cells #[Value.string ⟨#[43]⟩, Value.string ⟨#[45]⟩, Value.string ⟨#[42]⟩, Value.string ⟨#[47]⟩, Value.string ⟨#[37]⟩, Value.string ⟨#[60]⟩, Value.string ⟨#[60, 61]⟩, Value.string ⟨#[62]⟩, Value.string ⟨#[62, 61]⟩, Value.string ⟨#[61, 61]⟩, Value.string ⟨#[33, 61]⟩, Value.string ⟨#[38, 38]⟩, Value.string ⟨#[124, 124]⟩] 9)) (.cells #[Value.string ⟨#[105, 110, 116]⟩, Value.string ⟨#[102, 108, 111, 97, 116]⟩, Value.string ⟨#[98, 111, 111, 108]⟩] 9))
    have BW : Hid (Blk ((w.alloc (.cells #[Value.string ⟨#[43]⟩, Value.string ⟨#[45]⟩, Value.string ⟨#[42]⟩, Value.string ⟨#[47]⟩, Value.string ⟨#[37]⟩, Value.string ⟨#[60]⟩, Value.string ⟨#[60, 61]⟩, Value.string ⟨#[62]⟩, Value.string ⟨#[62, 61]⟩, Value.string ⟨#[61, 61]⟩, Value.string ⟨#[33, 61]⟩, Value.string ⟨#[38, 38]⟩, Value.string ⟨#[124, 124]⟩] 9)).alloc (.cells #[Value.string ⟨#[105, 110, 116]⟩, Value.string ⟨#[102, 108, 111, 97, 116]⟩, Value.string ⟨#[98, 111, 111, 108]⟩] 9)) (w.heap.size + 1) 9 #[Value.string ⟨#[105, 110, 116]⟩, Value.string ⟨#[102, 108, 111, 97, 116]⟩, Value.string ⟨#[98, 111, 111, 108]⟩]) := hid (by
      have h := Blk.new (w.alloc (.cells #[Value.string ⟨#[43]⟩, Value.string ⟨#[45]⟩, Value.string ⟨#[42]⟩, Value.string ⟨#[47]⟩, Value.string ⟨#[37]⟩, Value.string ⟨#[60]⟩, Value.string ⟨#[60, 61]⟩, Value.string ⟨#[62]⟩, Value.string ⟨#[62, 61]⟩, Value.string ⟨#[61, 61]⟩, Value.string ⟨#[33, 61]⟩, Value.string ⟨#[38, 38]⟩, Value.string ⟨#[124, 124]⟩] 9)) 9 #[Value.string ⟨#[105, 110, 116]⟩, Value.string ⟨#[102, 108, 111, 97, 116]⟩, Value.string ⟨#[98, 111, 111, 108]⟩]
      rw [World.size_alloc] at h
      exact h)
    clear hS
    rcases (show i = 0 ∨ i = 1 ∨ i = 2 ∨ i = 3 ∨ i = 4 ∨ i = 5 ∨ i = 6 ∨ i = 7 ∨ i = 8 ∨ i = 9 ∨ i = 10 ∨ i = 11 ∨ i = 12 by omega) with rfl | rfl | rfl | rfl | rfl | rfl | rfl | rfl | rfl | rfl | rfl | rfl | rfl
    all_goals
      have hS := ES.out
      unfold sgV sgL mkS at hS
      subst hS
      clear ES
      go_wp2
      go_meet
      exact ⟨rfl, GW.out, BW.out⟩
  case rest =>
    obtain ⟨rfl, hg, hB⟩ := hcut
    have GW := hid hg
    have BW := hid hB
    clear hg hB hS
    have HT := hid (And.intro (ty_at x hx) (ty_at y hy))
    obtain ⟨E, hE⟩ : ∃ E, ((x : Int) == (y : Int)) = E := ⟨_, rfl⟩
    have hT5 := True.intro
    by_cases hi5 : 5 ≤ i
    · have d5 : decide (5 ≤ i) = true := decide_eq_true hi5
      go_upto_block 0 with fail
      go_cut [13] from 59 to 88 (fun c W => c = .bool (okF i x E) ∧ W = wc)
      case first =>
        clear hE hT5
        rcases (show i = 0 ∨ i = 1 ∨ i = 2 ∨ i = 3 ∨ i = 4 ∨ i = 5 ∨ i = 6 ∨ i = 7 ∨ i = 8 ∨ i = 9 ∨ i = 10 ∨ i = 11 ∨ i = 12 by omega) with rfl | rfl | rfl | rfl | rfl | rfl | rfl | rfl | rfl | rfl | rfl | rfl | rfl
        all_goals first
          | exact absurd hi5 (by decide)
          | (
            have hS := ES.out
            unfold sgV sgL mkS at hS
            subst hS
            clear ES
            rcases (show x = 0 ∨ x = 1 ∨ x = 2 by omega) with rfl | rfl | rfl
            all_goals
              cases E
              all_goals
                go_wp2
                go_meet
                first | exact ⟨rfl, rfl⟩ | (exfalso; omega))
      case rest =>
        obtain ⟨rfl, rfl⟩ := hcut
        have GD := hid (grown_drew GW.out)
        have BD := hid BW.out.drew
        obtain ⟨X, eX⟩ : ∃ Z, tyV x = Z := ⟨_, rfl⟩
        obtain ⟨Y, eY⟩ : ∃ Z, tyV y = Z := ⟨_, rfl⟩
        have cx : wc.drew.cell? ⟨w.heap.size + 1, x, none⟩ = some (.string X) := by rw [BD.out.cell, ty_cell x hx, eX]
        have cy : wc.drew.cell? ⟨w.heap.size + 1, y, none⟩ = some (.string Y) := by rw [BD.out.cell, ty_cell y hy, eY]
        have zX := ty_size x
        have zY := ty_size y
        have zS := sg_size i
        rw [eX] at zX
        rw [eY] at zY
        rw [ES.out] at zS
        obtain ⟨A, eA⟩ : ∃ Z, tyV 2 = Z := ⟨_, rfl⟩
        have ca : wc.drew.cell? ⟨w.heap.size + 1, 2, none⟩ = some (.string A) := by rw [BD.out.cell, ty_cell 2 (by decide), eA]
        have zA := ty_size 2
        rw [eA] at zA
        have EA : A = tyV (anF i x) := by rw [← eA]; unfold anF; rw [if_pos hi5]
        obtain ⟨C1, eC1⟩ : ∃ Z : ByteArray, (⟨#[102, 117, 110, 99, 32, 102, 40, 97, 32]⟩ : ByteArray) ++ X = Z := ⟨_, rfl⟩
        have sC1 : C1.size = 9 + X.size := by rw [← eC1, ByteArray.size_append]; rfl
        have fC1 : ¬ 9223372036854775807 < 9 + X.size := by omega
        obtain ⟨C2, eC2⟩ : ∃ Z : ByteArray, C1 ++ (⟨#[44, 32, 98, 32]⟩ : ByteArray) = Z := ⟨_, rfl⟩
        have sC2 : C2.size = C1.size + 4 := by rw [← eC2, ByteArray.size_append]; rfl
        have fC2 : ¬ 9223372036854775807 < C1.size + 4 := by omega
        obtain ⟨C3, eC3⟩ : ∃ Z : ByteArray, C2 ++ Y = Z := ⟨_, rfl⟩
        have sC3 : C3.size = C2.size + Y.size := by rw [← eC3, ByteArray.size_append]
        have fC3 : ¬ 9223372036854775807 < C2.size + Y.size := by omega
        obtain ⟨C4, eC4⟩ : ∃ Z : ByteArray, C3 ++ (⟨#[41, 32]⟩ : ByteArray) = Z := ⟨_, rfl⟩
        have sC4 : C4.size = C3.size + 2 := by rw [← eC4, ByteArray.size_append]; rfl
        have fC4 : ¬ 9223372036854775807 < C3.size + 2 := by omega
        obtain ⟨C5, eC5⟩ : ∃ Z : ByteArray, C4 ++ A = Z := ⟨_, rfl⟩
        have sC5 : C5.size = C4.size + A.size := by rw [← eC5, ByteArray.size_append]
        have fC5 : ¬ 9223372036854775807 < C4.size + A.size := by omega
        obtain ⟨C6, eC6⟩ : ∃ Z : ByteArray, C5 ++ (⟨#[32, 123, 32, 114, 101, 116, 117, 114, 110, 32, 97, 32]⟩ : ByteArray) = Z := ⟨_, rfl⟩
        have sC6 : C6.size = C5.size + 12 := by rw [← eC6, ByteArray.size_append]; rfl
        have fC6 : ¬ 9223372036854775807 < C5.size + 12 := by omega
        obtain ⟨C7, eC7⟩ : ∃ Z : ByteArray, C6 ++ S = Z := ⟨_, rfl⟩
        have sC7 : C7.size = C6.size + S.size := by rw [← eC7, ByteArray.size_append]
        have fC7 : ¬ 9223372036854775807 < C6.size + S.size := by omega
        obtain ⟨C8, eC8⟩ : ∃ Z : ByteArray, C7 ++ (⟨#[32, 98, 59, 32, 125]⟩ : ByteArray) = Z := ⟨_, rfl⟩
        have sC8 : C8.size = C7.size + 5 := by rw [← eC8, ByteArray.size_append]; rfl
        have fC8 : ¬ 9223372036854775807 < C7.size + 5 := by omega
        have eT := txS_eq i x y X Y A S C1 C2 C3 C4 C5 C6 C7 C8 eX.symm eY.symm EA ES.out.symm eC1 eC2 eC3 eC4 eC5 eC6 eC7 eC8
        obtain ⟨p, z, hp, hq⟩ := codeS i x y hi hx hy
        rw [natE x y E hE] at hq
        have CP := hid (fun W (h : w.grownBy W none) => parse_closed 60 (txS i x y) p W (by rw [← mkS_size, ← eT]; omega) (GG.out _ h) hp)
        rw [← eT] at CP
        have BA := BW.out.alloc (.cells #[.int .i64 0, .int .i64 0, .string ⟨#[]⟩, .int .i64 0, .slice none 0 0] 27)
        have cxa : (wc.alloc (.cells #[.int .i64 0, .int .i64 0, .string ⟨#[]⟩, .int .i64 0, .slice none 0 0] 27)).cell? ⟨w.heap.size + 1, x, none⟩ = some (.string X) := by rw [BA.cell, ty_cell x hx, eX]
        have cya : (wc.alloc (.cells #[.int .i64 0, .int .i64 0, .string ⟨#[]⟩, .int .i64 0, .slice none 0 0] 27)).cell? ⟨w.heap.size + 1, y, none⟩ = some (.string Y) := by rw [BA.cell, ty_cell y hy, eY]
        have caa : (wc.alloc (.cells #[.int .i64 0, .int .i64 0, .string ⟨#[]⟩, .int .i64 0, .slice none 0 0] 27)).cell? ⟨w.heap.size + 1, 2, none⟩ = some (.string A) := by rw [BA.cell, ty_cell 2 (by decide), eA]
        clear BA
        have GZ := hid (grown_drew (grown_alloc GW.out (.cells #[.int .i64 0, .int .i64 0, .string ⟨#[]⟩, .int .i64 0, .slice none 0 0] 27)))
        have BZ := hid ((Blk.new wc 27 #[.int .i64 0, .int .i64 0, .string ⟨#[]⟩, .int .i64 0, .slice none 0 0]).drew)
        have NZ : Hid (¬ ((wc.alloc (.cells #[.int .i64 0, .int .i64 0, .string ⟨#[]⟩, .int .i64 0, .slice none 0 0] 27)).drew.heap.size ≤ wc.heap.size)) := hid (by show ¬ ((wc.alloc _).heap.size ≤ wc.heap.size); rw [World.size_alloc]; omega)
        clear eT hp EA sC1 sC2 sC3 sC4 sC5 sC6 sC7 sC8 zX zY zS zA hi5 d5 hE HT hi0 hx0 hy0 BD ES
        generalize okF i x E = B at *
        go_upto_region 23 with fail
        go_cut [14, 15, 16] from 55 to 114 (fun c14 c15 c16 W => R23 w p c14 c15 c16 W)
        case first =>
          have SS : Hid (∀ W, wc.grownBy W none → (fun V => V.cell? ⟨w.heap.size + 1, x, none⟩ = some (.string X) ∧ V.cell? ⟨w.heap.size + 1, y, none⟩ = some (.string Y) ∧ V.cell? ⟨w.heap.size + 1, 2, none⟩ = some (.string A)) W) := hid (fun W hW => by
            have B := BW.out.kept hW (by simp)
            exact ⟨by rw [B.cell, ty_cell x hx, eX], by rw [B.cell, ty_cell y hy, eY], by rw [B.cell, ty_cell 2 (by decide), eA]⟩)
          clear cx cy cxa cya ca caa
          obtain ⟨x4, x5, x6⟩ := SS.out wc (grown_refl _ _)
          go_region_held3 (fun V => V.cell? ⟨w.heap.size + 1, x, none⟩ = some (.string X) ∧ V.cell? ⟨w.heap.size + 1, y, none⟩ = some (.string Y) ∧ V.cell? ⟨w.heap.size + 1, 2, none⟩ = some (.string A)) (first | assumption | exact SS.out _ (grown_drew (grown_refl _ _)) | exact SS.out _ (grown_drew (grown_alloc (grown_refl _ _) _)) | exact SS.out _ (grown_alloc Ga.out _) | go_keep) (first
            | (go_at_call 9; refine (CP.out _ (by first | exact GD.out | exact GZ.out)).mono ?_; rintro e w1 ⟨ps, cp, rfl, hk, hg⟩; have Ga : Hid (wc.grownBy w1 none) := (by first | exact un_drew hg | exact un_drewA hg); have SK4 := SS.out w1 Ga.out; (first | (have Z1 := BZ.out.kept hg (by simp); have z0 := Z1.cell 0; have z1 := Z1.cell 1; have z2 := Z1.cell 2; have z3 := Z1.cell 3; have z4 := Z1.cell 4; have f0 := Z1.frozen 0; have f1 := Z1.frozen 1; have f2 := Z1.frozen 2; have f3 := Z1.frozen 3; have f4 := Z1.frozen 4; simp at z0 z1 z2 z3 z4; have SK6 := SS.out (set5 w1 wc.heap.size 0 (.int .i64 p.kind) (.int .i64 p.ty) (.string p.txt) (.int .i64 p.num) (.slice ps p.kids.length cp)) (grown_set5_new Ga.out _ _ _ _ _ _ (Nat.le_refl _)); have RR := hid (show R23 w p (.pointer (some ⟨wc.heap.size, 0, none⟩)) (.int .i64 0) (.int .i64 0) (set5 w1 wc.heap.size 0 (.int .i64 p.kind) (.int .i64 p.ty) (.string p.txt) (.int .i64 p.num) (.slice ps p.kids.length cp)) from ⟨_, ps, cp, rfl, rfl, rfl, grown_set5_new (grown_none GZ.out hg) _ _ _ _ _ _ GW.out.size, by have h := Z1.set5 0 (.int .i64 p.kind) (.int .i64 p.ty) (.string p.txt) (.int .i64 p.num) (.slice ps p.kids.length cp); simpa [put5] using h, (hk.keptB (grown_set5 (grown_refl w1 (some wc.heap.size)) 0 _ _ _ _ _) (NZ.out)).mono (fun _ _ _ => trivial)⟩); clear Z1) | (have SK6 := SS.out (w1.alloc (.cells #[.int .i64 p.kind, .int .i64 p.ty, .string p.txt, .int .i64 p.num, .slice ps p.kids.length cp] 27)) (grown_alloc Ga.out _); have SK7 := SS.out (w1.alloc (.cells #[.int .i64 0, .int .i64 0, .string ⟨#[]⟩, .int .i64 0, .slice none 0 0] 27)) (grown_alloc Ga.out _); have RR := hid (show R23 w p (.pointer (some ⟨w1.heap.size, 0, none⟩)) (.int .i64 0) (.int .i64 0) (w1.alloc (.cells #[.int .i64 p.kind, .int .i64 p.ty, .string p.txt, .int .i64 p.num, .slice ps p.kids.length cp] 27)) from ⟨_, ps, cp, rfl, rfl, rfl, grown_alloc (grown_none GD.out hg) _, Blk.new w1 27 _, (hk.mono (fun _ _ _ => trivial)).kept (grown_alloc (grown_refl _ none) _)⟩))); clear CP hk hg))
          all_goals
            (try go_wp2_with fail)
            go_meet
            exact RR.out
        case rest =>
          obtain ⟨b, ps, cp, rfl, rfl, rfl, hg, hB, hk⟩ := hcut
          have G1 := hid hg
          have v0 := hB.cell 0
          have v1 := hB.cell 1
          have v2 := hB.cell 2
          have v3 := hB.cell 3
          have v4 := hB.cell 4
          simp at v0 v1 v2 v3 v4
          cases B
          case false =>
            have hq : codeOf (Ck.checkT 60 p) = some (z, 122) := hq
            have C14 := hid (check_closed 60 p z 122 _ _ ps cp (GG.out _ G1.out) hk hq)
            clear hq hB hg hk CP eC1 eC2 eC3 eC4 eC5 eC6 eC7 eC8 fC1 fC2 fC3 fC4 fC5 fC6 fC7 fC8 cx cy cxa cya ca caa GZ BZ NZ GD GW
            go_wp2_with (first
              | (go_at_call 14; refine C14.out.mono ?_; rintro e w2 ⟨kd, ty, tx, nm, qs, ln, cq, rfl, hg⟩; have G2 := hid (grown_alloc (grown_none G1.out hg) (.cells #[.int .i64 kd, .int .i64 ty, .string tx, .int .i64 nm, .slice qs ln cq] 27)); have C15 := hid (awake_any _ (GG.out _ G2.out)); clear C14 G1 hg)
              | (go_at_call 15; refine C15.out.mono ?_; rintro e w3 ⟨rfl, hg⟩; have G3 := hid (grown_none G2.out hg); clear C15 hg))
            go_ret
            exact ⟨rfl, G3.out⟩
          case true =>
            have hq : codeOf (Ck.checkT 60 p) = some (z, 0) := hq
            have C14 := hid (check_closed 60 p z 0 _ _ ps cp (GG.out _ G1.out) hk hq)
            clear hq hB hg hk CP eC1 eC2 eC3 eC4 eC5 eC6 eC7 eC8 fC1 fC2 fC3 fC4 fC5 fC6 fC7 fC8 cx cy cxa cya ca caa GZ BZ NZ GD GW
            go_wp2_with (first
              | (go_at_call 14; refine C14.out.mono ?_; rintro e w2 ⟨kd, ty, tx, nm, qs, ln, cq, rfl, hg⟩; have G2 := hid (grown_alloc (grown_none G1.out hg) (.cells #[.int .i64 kd, .int .i64 ty, .string tx, .int .i64 nm, .slice qs ln cq] 27)); have C15 := hid (awake_any _ (GG.out _ G2.out)); clear C14 G1 hg)
              | (go_at_call 15; refine C15.out.mono ?_; rintro e w3 ⟨rfl, hg⟩; have G3 := hid (grown_none G2.out hg); clear C15 hg))
            go_ret
            exact ⟨rfl, G3.out⟩
    · have d5 : decide (5 ≤ i) = false := decide_eq_false hi5
      go_upto_block 0 with fail
      go_cut [13] from 59 to 88 (fun c W => c = .bool (okF i x E) ∧ W = wc)
      case first =>
        clear hE hT5
        rcases (show i = 0 ∨ i = 1 ∨ i = 2 ∨ i = 3 ∨ i = 4 ∨ i = 5 ∨ i = 6 ∨ i = 7 ∨ i = 8 ∨ i = 9 ∨ i = 10 ∨ i = 11 ∨ i = 12 by omega) with rfl | rfl | rfl | rfl | rfl | rfl | rfl | rfl | rfl | rfl | rfl | rfl | rfl
        all_goals first
          | exact absurd hi5 (by decide)
          | (
            have hS := ES.out
            unfold sgV sgL mkS at hS
            subst hS
            clear ES
            rcases (show x = 0 ∨ x = 1 ∨ x = 2 by omega) with rfl | rfl | rfl
            all_goals
              cases E
              all_goals
                go_wp2
                go_meet
                first | exact ⟨rfl, rfl⟩ | (exfalso; omega))
      case rest =>
        obtain ⟨rfl, rfl⟩ := hcut
        have GD := hid (grown_drew GW.out)
        have BD := hid BW.out.drew
        obtain ⟨X, eX⟩ : ∃ Z, tyV x = Z := ⟨_, rfl⟩
        obtain ⟨Y, eY⟩ : ∃ Z, tyV y = Z := ⟨_, rfl⟩
        have cx : wc.drew.cell? ⟨w.heap.size + 1, x, none⟩ = some (.string X) := by rw [BD.out.cell, ty_cell x hx, eX]
        have cy : wc.drew.cell? ⟨w.heap.size + 1, y, none⟩ = some (.string Y) := by rw [BD.out.cell, ty_cell y hy, eY]
        have zX := ty_size x
        have zY := ty_size y
        have zS := sg_size i
        rw [eX] at zX
        rw [eY] at zY
        rw [ES.out] at zS
        have EA : X = tyV (anF i x) := by rw [← eX]; unfold anF; rw [if_neg hi5]
        obtain ⟨C1, eC1⟩ : ∃ Z : ByteArray, (⟨#[102, 117, 110, 99, 32, 102, 40, 97, 32]⟩ : ByteArray) ++ X = Z := ⟨_, rfl⟩
        have sC1 : C1.size = 9 + X.size := by rw [← eC1, ByteArray.size_append]; rfl
        have fC1 : ¬ 9223372036854775807 < 9 + X.size := by omega
        obtain ⟨C2, eC2⟩ : ∃ Z : ByteArray, C1 ++ (⟨#[44, 32, 98, 32]⟩ : ByteArray) = Z := ⟨_, rfl⟩
        have sC2 : C2.size = C1.size + 4 := by rw [← eC2, ByteArray.size_append]; rfl
        have fC2 : ¬ 9223372036854775807 < C1.size + 4 := by omega
        obtain ⟨C3, eC3⟩ : ∃ Z : ByteArray, C2 ++ Y = Z := ⟨_, rfl⟩
        have sC3 : C3.size = C2.size + Y.size := by rw [← eC3, ByteArray.size_append]
        have fC3 : ¬ 9223372036854775807 < C2.size + Y.size := by omega
        obtain ⟨C4, eC4⟩ : ∃ Z : ByteArray, C3 ++ (⟨#[41, 32]⟩ : ByteArray) = Z := ⟨_, rfl⟩
        have sC4 : C4.size = C3.size + 2 := by rw [← eC4, ByteArray.size_append]; rfl
        have fC4 : ¬ 9223372036854775807 < C3.size + 2 := by omega
        obtain ⟨C5, eC5⟩ : ∃ Z : ByteArray, C4 ++ X = Z := ⟨_, rfl⟩
        have sC5 : C5.size = C4.size + X.size := by rw [← eC5, ByteArray.size_append]
        have fC5 : ¬ 9223372036854775807 < C4.size + X.size := by omega
        obtain ⟨C6, eC6⟩ : ∃ Z : ByteArray, C5 ++ (⟨#[32, 123, 32, 114, 101, 116, 117, 114, 110, 32, 97, 32]⟩ : ByteArray) = Z := ⟨_, rfl⟩
        have sC6 : C6.size = C5.size + 12 := by rw [← eC6, ByteArray.size_append]; rfl
        have fC6 : ¬ 9223372036854775807 < C5.size + 12 := by omega
        obtain ⟨C7, eC7⟩ : ∃ Z : ByteArray, C6 ++ S = Z := ⟨_, rfl⟩
        have sC7 : C7.size = C6.size + S.size := by rw [← eC7, ByteArray.size_append]
        have fC7 : ¬ 9223372036854775807 < C6.size + S.size := by omega
        obtain ⟨C8, eC8⟩ : ∃ Z : ByteArray, C7 ++ (⟨#[32, 98, 59, 32, 125]⟩ : ByteArray) = Z := ⟨_, rfl⟩
        have sC8 : C8.size = C7.size + 5 := by rw [← eC8, ByteArray.size_append]; rfl
        have fC8 : ¬ 9223372036854775807 < C7.size + 5 := by omega
        have eT := txS_eq i x y X Y X S C1 C2 C3 C4 C5 C6 C7 C8 eX.symm eY.symm EA ES.out.symm eC1 eC2 eC3 eC4 eC5 eC6 eC7 eC8
        obtain ⟨p, z, hp, hq⟩ := codeS i x y hi hx hy
        rw [natE x y E hE] at hq
        have CP := hid (fun W (h : w.grownBy W none) => parse_closed 60 (txS i x y) p W (by rw [← mkS_size, ← eT]; omega) (GG.out _ h) hp)
        rw [← eT] at CP
        have BA := BW.out.alloc (.cells #[.int .i64 0, .int .i64 0, .string ⟨#[]⟩, .int .i64 0, .slice none 0 0] 27)
        have cxa : (wc.alloc (.cells #[.int .i64 0, .int .i64 0, .string ⟨#[]⟩, .int .i64 0, .slice none 0 0] 27)).cell? ⟨w.heap.size + 1, x, none⟩ = some (.string X) := by rw [BA.cell, ty_cell x hx, eX]
        have cya : (wc.alloc (.cells #[.int .i64 0, .int .i64 0, .string ⟨#[]⟩, .int .i64 0, .slice none 0 0] 27)).cell? ⟨w.heap.size + 1, y, none⟩ = some (.string Y) := by rw [BA.cell, ty_cell y hy, eY]
        clear BA
        have GZ := hid (grown_drew (grown_alloc GW.out (.cells #[.int .i64 0, .int .i64 0, .string ⟨#[]⟩, .int .i64 0, .slice none 0 0] 27)))
        have BZ := hid ((Blk.new wc 27 #[.int .i64 0, .int .i64 0, .string ⟨#[]⟩, .int .i64 0, .slice none 0 0]).drew)
        have NZ : Hid (¬ ((wc.alloc (.cells #[.int .i64 0, .int .i64 0, .string ⟨#[]⟩, .int .i64 0, .slice none 0 0] 27)).drew.heap.size ≤ wc.heap.size)) := hid (by show ¬ ((wc.alloc _).heap.size ≤ wc.heap.size); rw [World.size_alloc]; omega)
        clear eT hp EA sC1 sC2 sC3 sC4 sC5 sC6 sC7 sC8 zX zY zS  hi5 d5 hE HT hi0 hx0 hy0 BD ES
        generalize okF i x E = B at *
        go_upto_region 23 with fail
        go_cut [14, 15, 16] from 55 to 114 (fun c14 c15 c16 W => R23 w p c14 c15 c16 W)
        case first =>
          have SS : Hid (∀ W, wc.grownBy W none → (fun V => V.cell? ⟨w.heap.size + 1, x, none⟩ = some (.string X) ∧ V.cell? ⟨w.heap.size + 1, y, none⟩ = some (.string Y)) W) := hid (fun W hW => by
            have B := BW.out.kept hW (by simp)
            exact ⟨by rw [B.cell, ty_cell x hx, eX], by rw [B.cell, ty_cell y hy, eY]⟩)
          clear cx cy cxa cya 
          obtain ⟨x4, x5⟩ := SS.out wc (grown_refl _ _)
          go_region_held3 (fun V => V.cell? ⟨w.heap.size + 1, x, none⟩ = some (.string X) ∧ V.cell? ⟨w.heap.size + 1, y, none⟩ = some (.string Y)) (first | assumption | exact SS.out _ (grown_drew (grown_refl _ _)) | exact SS.out _ (grown_drew (grown_alloc (grown_refl _ _) _)) | exact SS.out _ (grown_alloc Ga.out _) | go_keep) (first
            | (go_at_call 9; refine (CP.out _ (by first | exact GD.out | exact GZ.out)).mono ?_; rintro e w1 ⟨ps, cp, rfl, hk, hg⟩; have Ga : Hid (wc.grownBy w1 none) := (by first | exact un_drew hg | exact un_drewA hg); have SK4 := SS.out w1 Ga.out; (first | (have Z1 := BZ.out.kept hg (by simp); have z0 := Z1.cell 0; have z1 := Z1.cell 1; have z2 := Z1.cell 2; have z3 := Z1.cell 3; have z4 := Z1.cell 4; have f0 := Z1.frozen 0; have f1 := Z1.frozen 1; have f2 := Z1.frozen 2; have f3 := Z1.frozen 3; have f4 := Z1.frozen 4; simp at z0 z1 z2 z3 z4; have SK6 := SS.out (set5 w1 wc.heap.size 0 (.int .i64 p.kind) (.int .i64 p.ty) (.string p.txt) (.int .i64 p.num) (.slice ps p.kids.length cp)) (grown_set5_new Ga.out _ _ _ _ _ _ (Nat.le_refl _)); have RR := hid (show R23 w p (.pointer (some ⟨wc.heap.size, 0, none⟩)) (.int .i64 0) (.int .i64 0) (set5 w1 wc.heap.size 0 (.int .i64 p.kind) (.int .i64 p.ty) (.string p.txt) (.int .i64 p.num) (.slice ps p.kids.length cp)) from ⟨_, ps, cp, rfl, rfl, rfl, grown_set5_new (grown_none GZ.out hg) _ _ _ _ _ _ GW.out.size, by have h := Z1.set5 0 (.int .i64 p.kind) (.int .i64 p.ty) (.string p.txt) (.int .i64 p.num) (.slice ps p.kids.length cp); simpa [put5] using h, (hk.keptB (grown_set5 (grown_refl w1 (some wc.heap.size)) 0 _ _ _ _ _) (NZ.out)).mono (fun _ _ _ => trivial)⟩); clear Z1) | (have SK6 := SS.out (w1.alloc (.cells #[.int .i64 p.kind, .int .i64 p.ty, .string p.txt, .int .i64 p.num, .slice ps p.kids.length cp] 27)) (grown_alloc Ga.out _); have SK7 := SS.out (w1.alloc (.cells #[.int .i64 0, .int .i64 0, .string ⟨#[]⟩, .int .i64 0, .slice none 0 0] 27)) (grown_alloc Ga.out _); have RR := hid (show R23 w p (.pointer (some ⟨w1.heap.size, 0, none⟩)) (.int .i64 0) (.int .i64 0) (w1.alloc (.cells #[.int .i64 p.kind, .int .i64 p.ty, .string p.txt, .int .i64 p.num, .slice ps p.kids.length cp] 27)) from ⟨_, ps, cp, rfl, rfl, rfl, grown_alloc (grown_none GD.out hg) _, Blk.new w1 27 _, (hk.mono (fun _ _ _ => trivial)).kept (grown_alloc (grown_refl _ none) _)⟩))); clear CP hk hg))
          all_goals
            (try go_wp2_with fail)
            go_meet
            exact RR.out
        case rest =>
          obtain ⟨b, ps, cp, rfl, rfl, rfl, hg, hB, hk⟩ := hcut
          have G1 := hid hg
          have v0 := hB.cell 0
          have v1 := hB.cell 1
          have v2 := hB.cell 2
          have v3 := hB.cell 3
          have v4 := hB.cell 4
          simp at v0 v1 v2 v3 v4
          cases B
          case false =>
            have hq : codeOf (Ck.checkT 60 p) = some (z, 122) := hq
            have C14 := hid (check_closed 60 p z 122 _ _ ps cp (GG.out _ G1.out) hk hq)
            clear hq hB hg hk CP eC1 eC2 eC3 eC4 eC5 eC6 eC7 eC8 fC1 fC2 fC3 fC4 fC5 fC6 fC7 fC8 cx cy cxa cya  GZ BZ NZ GD GW
            go_wp2_with (first
              | (go_at_call 14; refine C14.out.mono ?_; rintro e w2 ⟨kd, ty, tx, nm, qs, ln, cq, rfl, hg⟩; have G2 := hid (grown_alloc (grown_none G1.out hg) (.cells #[.int .i64 kd, .int .i64 ty, .string tx, .int .i64 nm, .slice qs ln cq] 27)); have C15 := hid (awake_any _ (GG.out _ G2.out)); clear C14 G1 hg)
              | (go_at_call 15; refine C15.out.mono ?_; rintro e w3 ⟨rfl, hg⟩; have G3 := hid (grown_none G2.out hg); clear C15 hg))
            go_ret
            exact ⟨rfl, G3.out⟩
          case true =>
            have hq : codeOf (Ck.checkT 60 p) = some (z, 0) := hq
            have C14 := hid (check_closed 60 p z 0 _ _ ps cp (GG.out _ G1.out) hk hq)
            clear hq hB hg hk CP eC1 eC2 eC3 eC4 eC5 eC6 eC7 eC8 fC1 fC2 fC3 fC4 fC5 fC6 fC7 fC8 cx cy cxa cya  GZ BZ NZ GD GW
            go_wp2_with (first
              | (go_at_call 14; refine C14.out.mono ?_; rintro e w2 ⟨kd, ty, tx, nm, qs, ln, cq, rfl, hg⟩; have G2 := hid (grown_alloc (grown_none G1.out hg) (.cells #[.int .i64 kd, .int .i64 ty, .string tx, .int .i64 nm, .slice qs ln cq] 27)); have C15 := hid (awake_any _ (GG.out _ G2.out)); clear C14 G1 hg)
              | (go_at_call 15; refine C15.out.mono ?_; rintro e w3 ⟨rfl, hg⟩; have G3 := hid (grown_none G2.out hg); clear C15 hg))
            go_ret
            exact ⟨rfl, G3.out⟩
end Sc
end Go.Proofs.YtajoncmmdeahnaaGreatDoor
