/-
  Slices that read as lists; slices.Equal. slices.ContainsFunc at the two functions that page hands it; which pages may be. Which pages may be: Check.
-/
import Derived.Test.YtbhmmcelndmijaaGreatMem
import Derived.Test.YtbhmmcelndmijaaGreatProg
import Derived.Deep.QuietTactic
import Derived.BigQuiet
namespace Go.Proofs.YtbhmmcelndmijaaGreat.Pa
open Go.RowKit
/-- A slice reads as this list, a cell an element. -/
def RowV {α : Type} (enc : α → Value) (w : World) (v : Value) (l : List α) : Prop := ∃ (pa : Option Addr) (cap g o : Nat), v = .slice pa l.length cap ∧ (0 < l.length → pa = some ⟨g, o, none⟩) ∧ ∀ i, (h : i < l.length) → w.cell? ⟨g, o + i, none⟩ = some (enc l[i])
theorem RowV.below {α : Type} {enc : α → Value} {w w' : World} {v : Value} {l : List α} (h : RowV enc w v l) {n : Nat} (hb : Below n w w') (hn : ∀ g o c, v = .slice (some ⟨g, o, none⟩) l.length c → 0 < l.length → g < n) : RowV enc w' v l := by
  obtain ⟨pa, cap, g, o, rfl, hp, hc⟩ := h
  refine ⟨pa, cap, g, o, rfl, hp, fun i hi => ?_⟩
  have hpa := hp (by omega)
  subst hpa
  exact (hb.cell (p := ⟨g, o + i, none⟩) (hn g o cap rfl (by omega))).trans (hc i hi)
theorem RowV.kept {α : Type} {enc : α → Value} {w w' : World} {v : Value} {l : List α} (h : RowV enc w v l) (hg : w.grownBy w' none) : RowV enc w' v l := by
  obtain ⟨pa, cap, g, o, rfl, hp, hc⟩ := h
  exact ⟨pa, cap, g, o, rfl, hp, fun i hi => ((grown_below hg).cell (p := ⟨g, o + i, none⟩) (World.block_lt_of_cell? _ _ (hc i hi))).trans (hc i hi)⟩
theorem RowV.nil {α : Type} (enc : α → Value) (w : World) : RowV enc w (.slice none 0 0) [] := ⟨none, 0, 0, 0, rfl, fun h => absurd h (Nat.lt_irrefl _), fun _ h => absurd h (Nat.not_lt_zero _)⟩
theorem grown_drewN {w w' : World} {row : Option Nat} (h : w.grownBy w' row) (n : Nat) : w.grownBy (w'.drewN n) row := ⟨h.os, h.tape, h.output, h.size, h.block⟩
theorem cell_kept {w w' : World} {a : Addr} {v : Value} (hg : w.grownBy w' none) (hc : w.cell? a = some v) : w'.cell? a = some v := ((grown_below hg).cell (p := a) (World.block_lt_of_cell? _ _ hc)).trans hc
def eqS (l m : List ByteArray) : Bool := l.map ByteArray.toList == m.map ByteArray.toList
theorem toList_inj {a b : ByteArray} (h : a.toList = b.toList) : a = b := by
  rw [ByteArray.toList_eq, ByteArray.toList_eq] at h
  cases a; cases b
  simp at h
  subst h
  rfl
theorem eqS_iff (l m : List ByteArray) : eqS l m = true ↔ l = m := by
  unfold eqS
  rw [beq_iff_eq]
  constructor
  · intro h
    exact (List.map_inj_right (fun _ _ => toList_inj)).mp h
  · intro h; rw [h]
theorem eqS_at {l m : List ByteArray} (hl : l.length = m.length) (h : ∀ j, (h1 : j < l.length) → (h2 : j < m.length) → (l[j].toList == m[j].toList) = true) : eqS l m = true := by
  rw [eqS_iff]
  exact List.ext_getElem hl fun i h1 h2 => toList_inj (by simpa using h i h1 h2)
theorem eqS_not {l m : List ByteArray} {k : Nat} (h1 : k < l.length) (h2 : k < m.length) (h : (l[k].toList == m[k].toList) = false) : eqS l m = false := by
  cases e : eqS l m with
  | false => rfl
  | true =>
    rw [eqS_iff] at e
    subst e
    simp at h
theorem eqS_len {l m : List ByteArray} (h : l.length ≠ m.length) : eqS l m = false := by
  cases e : eqS l m with
  | false => rfl
  | true => rw [eqS_iff] at e; subst e; exact absurd rfl h
def eqI (l m : List Int) : Bool := l == m
theorem eqI_iff (l m : List Int) : eqI l m = true ↔ l = m := by
  unfold eqI
  rw [beq_iff_eq]
theorem eqI_at {l m : List Int} (hl : l.length = m.length) (h : ∀ j, (h1 : j < l.length) → (h2 : j < m.length) → (l[j] == m[j]) = true) : eqI l m = true := by
  rw [eqI_iff]
  exact List.ext_getElem hl fun i h1 h2 => by simpa using h i h1 h2
theorem eqI_not {l m : List Int} {k : Nat} (h1 : k < l.length) (h2 : k < m.length) (h : (l[k] == m[k]) = false) : eqI l m = false := by
  cases e : eqI l m with
  | false => rfl
  | true =>
    rw [eqI_iff] at e
    subst e
    simp at h
theorem eqI_len {l m : List Int} (h : l.length ≠ m.length) : eqI l m = false := by
  cases e : eqI l m with
  | false => rfl
  | true => rw [eqI_iff] at e; subst e; exact absurd rfl h
end Go.Proofs.YtbhmmcelndmijaaGreat.Pa
namespace Go.Proofs.YtbhmmcelndmijaaGreat.Pa
open Go.RowKit
/-- A place that is not below 0 just where b. -/
def IdxPost (e : Ending) (b : Bool) : Prop := ∃ i : Int, e = .returned (.int .i64 i) ∧ decide (0 ≤ i) = b
def longB (s : ByteArray) : Bool := decide (8192 < (s.size : Int))
def outB (n : Int) : Bool := decide (n < 0) || decide (2147483647 < n)
set_option maxRecDepth 100000 in
set_option maxHeartbeats 400000 in
theorem tooLong_any (s : ByteArray) (w : World) : Calls Tryz.prog 100 #[.string s] w fun e w' => e = .returned (.bool (longB s)) ∧ w' = w := by
  unfold longB
  go_enter Tryz.func100, Tryz.ntmps100
  go_wp2
  go_ret
  exact ⟨rfl, rfl⟩
set_option maxRecDepth 100000 in
set_option maxHeartbeats 400000 in
theorem noPlace_any (n : Int) (w : World) : Calls Tryz.prog 102 #[.int .i64 n] w fun e w' => e = .returned (.bool (outB n)) ∧ w' = w := by
  unfold outB
  by_cases h : n < 0
  · go_enter Tryz.func102, Tryz.ntmps102
    go_wp2
    go_ret
    simp [h]
  · go_enter Tryz.func102, Tryz.ntmps102
    go_wp2
    go_ret
    simp
    omega
theorem any_false {α : Type} {p : α → Bool} {l : List α} (h : ∀ j, (hj : j < l.length) → p l[j] = false) : l.any p = false := by
  rw [List.any_eq_false]
  intro x hx
  obtain ⟨j, hj, rfl⟩ := List.getElem_of_mem hx
  simp [h j hj]
theorem any_true {α : Type} {p : α → Bool} {l : List α} {k : Nat} (hk : k < l.length) (h : p l[k] = true) : l.any p = true := by
  rw [List.any_eq_true]
  exact ⟨l[k], List.getElem_mem hk, h⟩
set_option maxRecDepth 100000 in
set_option maxHeartbeats 1000000 in
theorem idxS_any (a : Value) (l : List ByteArray) (w : World) (ha : RowV Value.string w a l) (hl : l.length ≤ 9223372036854775807) :
    Calls Tryz.prog 121 #[a, .func (.func 100) #[] #[]] w fun e w' => IdxPost e (l.any longB) ∧ w.grownBy w' none := by
  obtain ⟨pa, ca, ga, oa, rfl, hpa, hca⟩ := ha
  have HA : Hid (∀ i, (h : i < l.length) → w.cell? ⟨ga, oa + i, none⟩ = some (Value.string l[i])) := hca
  have PA : Hid (0 < l.length → pa = some ⟨ga, oa, none⟩) := hpa
  clear hca hpa
  obtain ⟨x, hx⟩ : ∃ x, l.any longB = x := ⟨_, rfl⟩
  have EX : Hid (l.any longB = x) := hx
  rw [hx]
  clear hx
  have hll : (l.length : Int) ≤ 9223372036854775807 := by omega
  go_enter Tryz.func121, Tryz.ntmps121
  go_wp2
  go_loopw [8] (fun i wr => ∃ k : Nat, k ≤ l.length ∧ i = .int .i64 k ∧ w.grownBy wr none ∧ Hid (∀ j, (h1 : j < l.length) → j < k → longB l[j] = false)) (fun i _ => l.length - (intOf i).toNat)
  case atStart => exact ⟨0, Nat.zero_le _, rfl, grown_refl _ _, fun j _ h => absurd h (Nat.not_lt_zero _)⟩
  case round =>
    obtain ⟨k, hk, rfl, hg, HK⟩ := hrel
    have HG : Hid (w.grownBy wr none) := hg
    clear hg
    have k0 : (0 : Int) ≤ k := by omega
    by_cases hlt : k < l.length
    · have hp := PA.out (by omega)
      subst hp
      have c0 := cell_kept HG.out (HA.out k hlt)
      have k1 : (k : Int) < l.length := by omega
      clear HA
      have C : Hid (∀ W, Calls Tryz.prog 100 #[Value.string l[k]] W fun e w' => e = .returned (.bool (longB l[k])) ∧ w' = W) := fun W => tooLong_any l[k] W
      by_cases he : longB l[k] = true
      · have ex : x = true := by rw [← EX.out]; exact any_true hlt he
        subst ex
        rw [he] at C
        clear HK he
        generalize l[k] = s at *
        go_wp2_with (go_at_call 100; refine (C.out _).mono ?_; rintro e w1 ⟨rfl, rfl⟩)
        go_ret
        exact ⟨⟨_, rfl, decide_eq_true k0⟩, HG.out⟩
      · have he' : longB l[k] = false := by simpa using he
        have next : Hid (∀ j, (h1 : j < l.length) → j < k + 1 → longB l[j] = false) := fun j h1 hj => by
          by_cases e : j = k
          · subst e; exact he'
          · exact HK.out j h1 (by omega)
        rw [he'] at C
        clear HK he he'
        generalize l[k] = s at *
        go_wp2_with (go_at_call 100; refine (C.out _).mono ?_; rintro e w1 ⟨rfl, rfl⟩)
        go_round
        case rel => exact ⟨k + 1, by omega, by go_num, HG.out, next⟩
        case measure => simp [intOf]; omega
    · obtain rfl : k = l.length := by omega
      have ex : x = false := by rw [← EX.out]; exact any_false (fun j h1 => HK.out j h1 h1)
      subst ex
      clear HA HK
      go_wp2
      go_ret
      exact ⟨⟨_, rfl, rfl⟩, HG.out⟩
set_option maxRecDepth 100000 in
set_option maxHeartbeats 400000 in
theorem conS_any (a : Value) (l : List ByteArray) (w : World) (ha : RowV Value.string w a l) (hl : l.length ≤ 9223372036854775807) :
    Calls Tryz.prog 99 #[a, .func (.func 100) #[] #[]] w fun e w' => e = .returned (.bool (l.any longB)) ∧ w.grownBy w' none := by
  have C : Hid (Calls Tryz.prog 121 #[a, .func (.func 100) #[] #[]] w fun e w' => IdxPost e (l.any longB) ∧ w.grownBy w' none) := idxS_any a l w ha hl
  obtain ⟨pa, ca, ga, oa, rfl, hpa, hca⟩ := ha
  clear hpa hca
  generalize l.any longB = x at *
  go_enter Tryz.func99, Tryz.ntmps99
  go_wp2_with (go_at_call 121; refine C.out.mono ?_; rintro e w1 ⟨⟨i, rfl, hi⟩, hg⟩)
  go_ret
  exact ⟨rfl, hg⟩
set_option maxRecDepth 100000 in
set_option maxHeartbeats 1000000 in
theorem idxI_any (a : Value) (l : List Int) (w : World) (ha : RowV (Value.int .i64) w a l) (hl : l.length ≤ 9223372036854775807) :
    Calls Tryz.prog 122 #[a, .func (.func 102) #[] #[]] w fun e w' => IdxPost e (l.any outB) ∧ w.grownBy w' none := by
  obtain ⟨pa, ca, ga, oa, rfl, hpa, hca⟩ := ha
  have HA : Hid (∀ i, (h : i < l.length) → w.cell? ⟨ga, oa + i, none⟩ = some ((Value.int .i64) l[i])) := hca
  have PA : Hid (0 < l.length → pa = some ⟨ga, oa, none⟩) := hpa
  clear hca hpa
  obtain ⟨x, hx⟩ : ∃ x, l.any outB = x := ⟨_, rfl⟩
  have EX : Hid (l.any outB = x) := hx
  rw [hx]
  clear hx
  have hll : (l.length : Int) ≤ 9223372036854775807 := by omega
  go_enter Tryz.func122, Tryz.ntmps122
  go_wp2
  go_loopw [8] (fun i wr => ∃ k : Nat, k ≤ l.length ∧ i = .int .i64 k ∧ w.grownBy wr none ∧ Hid (∀ j, (h1 : j < l.length) → j < k → outB l[j] = false)) (fun i _ => l.length - (intOf i).toNat)
  case atStart => exact ⟨0, Nat.zero_le _, rfl, grown_refl _ _, fun j _ h => absurd h (Nat.not_lt_zero _)⟩
  case round =>
    obtain ⟨k, hk, rfl, hg, HK⟩ := hrel
    have HG : Hid (w.grownBy wr none) := hg
    clear hg
    have k0 : (0 : Int) ≤ k := by omega
    by_cases hlt : k < l.length
    · have hp := PA.out (by omega)
      subst hp
      have c0 := cell_kept HG.out (HA.out k hlt)
      have k1 : (k : Int) < l.length := by omega
      clear HA
      have C : Hid (∀ W, Calls Tryz.prog 102 #[(Value.int .i64) l[k]] W fun e w' => e = .returned (.bool (outB l[k])) ∧ w' = W) := fun W => noPlace_any l[k] W
      by_cases he : outB l[k] = true
      · have ex : x = true := by rw [← EX.out]; exact any_true hlt he
        subst ex
        rw [he] at C
        clear HK he
        generalize l[k] = s at *
        go_wp2_with (go_at_call 102; refine (C.out _).mono ?_; rintro e w1 ⟨rfl, rfl⟩)
        go_ret
        exact ⟨⟨_, rfl, decide_eq_true k0⟩, HG.out⟩
      · have he' : outB l[k] = false := by simpa using he
        have next : Hid (∀ j, (h1 : j < l.length) → j < k + 1 → outB l[j] = false) := fun j h1 hj => by
          by_cases e : j = k
          · subst e; exact he'
          · exact HK.out j h1 (by omega)
        rw [he'] at C
        clear HK he he'
        generalize l[k] = s at *
        go_wp2_with (go_at_call 102; refine (C.out _).mono ?_; rintro e w1 ⟨rfl, rfl⟩)
        go_round
        case rel => exact ⟨k + 1, by omega, by go_num, HG.out, next⟩
        case measure => simp [intOf]; omega
    · obtain rfl : k = l.length := by omega
      have ex : x = false := by rw [← EX.out]; exact any_false (fun j h1 => HK.out j h1 h1)
      subst ex
      clear HA HK
      go_wp2
      go_ret
      exact ⟨⟨_, rfl, rfl⟩, HG.out⟩
set_option maxRecDepth 100000 in
set_option maxHeartbeats 400000 in
theorem conI_any (a : Value) (l : List Int) (w : World) (ha : RowV (Value.int .i64) w a l) (hl : l.length ≤ 9223372036854775807) :
    Calls Tryz.prog 101 #[a, .func (.func 102) #[] #[]] w fun e w' => e = .returned (.bool (l.any outB)) ∧ w.grownBy w' none := by
  have C : Hid (Calls Tryz.prog 122 #[a, .func (.func 102) #[] #[]] w fun e w' => IdxPost e (l.any outB) ∧ w.grownBy w' none) := idxI_any a l w ha hl
  obtain ⟨pa, ca, ga, oa, rfl, hpa, hca⟩ := ha
  clear hpa hca
  generalize l.any outB = x at *
  go_enter Tryz.func101, Tryz.ntmps101
  go_wp2_with (go_at_call 122; refine C.out.mono ?_; rintro e w1 ⟨⟨i, rfl, hi⟩, hg⟩)
  go_ret
  exact ⟨rfl, hg⟩
end Go.Proofs.YtbhmmcelndmijaaGreat.Pa
namespace Go.Proofs.YtbhmmcelndmijaaGreat.Pa
open Go.RowKit
theorem less_flip : ∀ (s t : List UInt8), Op.bytesLess s t = true → Op.bytesLess t s = false ∧ ¬ t = s
  | [], [], h => by simp [Op.bytesLess] at h
  | _ :: _, [], h => by simp [Op.bytesLess] at h
  | [], _ :: _, _ => by simp [Op.bytesLess]
  | a :: x, b :: y, h => by
    have ih := less_flip x y
    simp only [Op.bytesLess, Bool.or_eq_true, decide_eq_true_eq, Bool.and_eq_true, beq_iff_eq] at h
    rcases h with h | ⟨rfl, h⟩
    · have h1 : ¬ b < a := fun e => by
        rw [UInt8.lt_iff_toNat_lt] at h e; omega
      have h2 : ¬ b = a := fun e => by
        subst e
        rw [UInt8.lt_iff_toNat_lt] at h; omega
      simp [Op.bytesLess, h1, h2]
    · obtain ⟨h1, h2⟩ := ih h
      have h3 : ¬ a < a := fun e => by rw [UInt8.lt_iff_toNat_lt] at e; omega
      simp [Op.bytesLess, h1, h2, h3]
theorem less_else : ∀ (s t : List UInt8), Op.bytesLess s t = false → Op.bytesLess t s = true ∨ t = s
  | [], [], _ => Or.inr rfl
  | _ :: _, [], _ => Or.inl (by simp [Op.bytesLess])
  | [], _ :: _, h => by simp [Op.bytesLess] at h
  | a :: x, b :: y, h => by
    have ih := less_else x y
    simp only [Op.bytesLess, Bool.or_eq_false_iff, decide_eq_false_iff_not] at h
    obtain ⟨h1, h2⟩ := h
    by_cases e : a = b
    · subst e
      have h3 : Op.bytesLess x y = false := by simpa using h2
      rcases ih h3 with h4 | rfl
      · left; simp [Op.bytesLess, h4]
      · right; rfl
    · left
      have h5 : b < a := by
        have h6 : ¬ a.toNat = b.toNat := fun x => e (UInt8.toNat_inj.mp x)
        rw [UInt8.lt_iff_toNat_lt] at h1 ⊢
        omega
      simp [Op.bytesLess, h5]
structure Pg where
  leaf : Bool
  keys : List ByteArray
  vals : List ByteArray
  kids : List Int
/-- Each key is above the one ahead, and none is too long. -/
def riseB : ByteArray → List ByteArray → Bool
  | _, [] => true
  | a, k :: r => Op.bytesLess a.toList k.toList && (!decide (64 < (k.size : Int)) && riseB k r)
def mayK (l : List ByteArray) : Bool := !decide (8 < (l.length : Int)) && riseB ⟨#[]⟩ l
def restB (p : Pg) : Bool := if p.leaf then decide ((p.vals.length : Int) = p.keys.length) && (decide ((p.kids.length : Int) = 0) && !p.vals.any longB) else decide (0 < (p.keys.length : Int)) && (decide ((p.kids.length : Int) = p.keys.length + 1) && (decide ((p.vals.length : Int) = 0) && !p.kids.any outB))
def mayP (p : Pg) : Bool := mayK p.keys && restB p
def chk (p : Pg) : Int := if mayP p then 0 else 6
/-- A page as a value: its three slices read as its lists. -/
def PgV (w : World) (v : Value) (p : Pg) : Prop := ∃ a b c, v = .agg #[.bool p.leaf, a, b, c] ∧ RowV Value.string w a p.keys ∧ RowV Value.string w b p.vals ∧ RowV (Value.int .i64) w c p.kids
def Pg.fits (p : Pg) : Prop := p.keys.length ≤ 9223372036854775807 ∧ p.vals.length ≤ 9223372036854775807 ∧ p.kids.length ≤ 9223372036854775807
theorem PgV.kept {w w' : World} {v : Value} {p : Pg} (h : PgV w v p) (hg : w.grownBy w' none) : PgV w' v p := by
  obtain ⟨a, b, c, rfl, h1, h2, h3⟩ := h
  exact ⟨a, b, c, rfl, h1.kept hg, h2.kept hg, h3.kept hg⟩
set_option maxRecDepth 100000 in
set_option maxHeartbeats 1000000 in
theorem keysMayBe_any (a : Value) (l : List ByteArray) (w : World) (ha : RowV Value.string w a l) (hl : l.length ≤ 9223372036854775807) :
    Calls Tryz.prog 71 #[a] w fun e w' => e = .returned (.bool (mayK l)) ∧ w.grownBy w' none := by
  obtain ⟨pa, ca, ga, oa, rfl, hpa, hca⟩ := ha
  have HA : Hid (∀ i, (h : i < l.length) → w.cell? ⟨ga, oa + i, none⟩ = some (.string l[i])) := hca
  have PA : Hid (0 < l.length → pa = some ⟨ga, oa, none⟩) := hpa
  clear hca hpa
  have hll : (l.length : Int) ≤ 9223372036854775807 := by omega
  by_cases h8 : 8 < (l.length : Int)
  · have e : mayK l = false := by simp [mayK, h8]
    rw [e]
    clear e
    go_enter Tryz.func71, Tryz.ntmps71
    go_wp2
    go_ret
    exact ⟨rfl, grown_refl _ _⟩
  · have e : mayK l = riseB ⟨#[]⟩ l := by simp [mayK, h8]
    rw [e]
    clear e
    obtain ⟨x, hx⟩ : ∃ x, riseB ⟨#[]⟩ l = x := ⟨_, rfl⟩
    rw [hx]
    have EX : Hid (riseB ⟨#[]⟩ l = x) := hx
    clear hx
    go_enter Tryz.func71, Tryz.ntmps71
    go_wp2
    go_loopw [3, 11] (fun p i wr => ∃ (k : Nat) (s : ByteArray), k ≤ l.length ∧ p = .string s ∧ i = .int .i64 k ∧ w.grownBy wr none ∧ Hid (riseB s (l.drop k) = x)) (fun _ i _ => l.length - (intOf i).toNat)
    case atStart => exact ⟨0, _, Nat.zero_le _, rfl, rfl, grown_refl _ _, EX.out⟩
    case round =>
      obtain ⟨k, s, hk, rfl, rfl, hg, HK⟩ := hrel
      have HG : Hid (w.grownBy wr none) := hg
      clear hg
      have k0 : (0 : Int) ≤ k := by omega
      by_cases hlt : k < l.length
      · have hp := PA.out (by omega)
        subst hp
        have c0 := cell_kept HG.out (HA.out k hlt)
        have k1 : (k : Int) < l.length := by omega
        have hr := HK.out
        rw [List.drop_eq_getElem_cons hlt] at hr
        unfold riseB at hr
        clear HA HK EX
        generalize l[k] = t at *
        by_cases hb : Op.bytesLess s.toList t.toList = true
        · obtain ⟨b1, b0⟩ := less_flip _ _ hb
          have b2 : (t.toList == s.toList) = false := by simpa using b0
          clear b0
          by_cases h64 : 64 < (t.size : Int)
          · have ex : x = false := by rw [← hr, hb]; simp [h64]
            subst ex
            clear hr
            go_wp2
            go_ret
            exact ⟨rfl, HG.out⟩
          · have HR : Hid (riseB t (l.drop (k + 1)) = x) := by rw [← hr, hb]; simp [h64, Hid]
            clear hr
            go_wp2
            go_round
            case rel => exact ⟨k + 1, t, by omega, rfl, by go_num, HG.out, HR⟩
            case measure => simp [intOf]; omega
        · have hb' : Op.bytesLess s.toList t.toList = false := by simpa using hb
          have ex : x = false := by rw [← hr, hb']; rfl
          subst ex
          clear hr hb
          rcases less_else _ _ hb' with b1 | b2
          · go_wp2
            go_ret
            exact ⟨rfl, HG.out⟩
          · have b3 : (t.toList == s.toList) = true := by simpa using b2
            clear b2
            go_wp2
            go_ret
            exact ⟨rfl, HG.out⟩
      · obtain rfl : k = l.length := by omega
        have ex : x = true := by rw [← HK.out, List.drop_length]; rfl
        subst ex
        clear HA HK EX
        go_wp2
        go_ret
        exact ⟨rfl, HG.out⟩
theorem int_len (a b : Nat) (h : (a : Int) = b) : a = b := by omega
set_option maxRecDepth 100000 in
set_option maxHeartbeats 2000000 in
theorem restMayBe_any (v : Value) (p : Pg) (w : World) (h : PgV w v p) (hf : p.fits) (hk : p.keys.length ≤ 8) : Calls Tryz.prog 72 #[v] w fun e w' => e = .returned (.bool (restB p)) ∧ w.grownBy w' none := by
  obtain ⟨a, b, c, rfl, ha, hb, hc⟩ := h
  obtain ⟨leaf, keys, vals, kids⟩ := p
  obtain ⟨f1, f2, f3⟩ := hf
  simp only at ha hb hc f1 f2 f3 hk
  have HB : Hid (RowV Value.string w b vals) := hb
  have HC : Hid (RowV (Value.int .i64) w c kids) := hc
  obtain ⟨pa, ca, ga, oa, rfl, -, -⟩ := ha
  obtain ⟨pb, cb, gb, ob, rfl, -, -⟩ := hb
  obtain ⟨pc, cc, gc, oc, rfl, -, -⟩ := hc
  have CB : Hid (∀ W, w.grownBy W none → Calls Tryz.prog 99 #[.slice pb vals.length cb, .func (.func 100) #[] #[]] W fun e w' => e = .returned (.bool (vals.any longB)) ∧ W.grownBy w' none) := fun W hW => conS_any _ vals W (HB.out.kept hW) f2
  have CC : Hid (∀ W, w.grownBy W none → Calls Tryz.prog 101 #[.slice pc kids.length cc, .func (.func 102) #[] #[]] W fun e w' => e = .returned (.bool (kids.any outB)) ∧ W.grownBy w' none) := fun W hW => conI_any _ kids W (HC.out.kept hW) f3
  have g1 : (keys.length : Int) ≤ 8 := by omega
  clear HB HC f1 hk
  cases leaf with
  | true =>
    clear CC
    have e : restB ⟨true, keys, vals, kids⟩ = (decide ((vals.length : Int) = keys.length) && (decide ((kids.length : Int) = 0) && !vals.any longB)) := rfl
    rw [e]
    clear e
    generalize vals.any longB = x at *
    generalize keys.length = n1 at *
    generalize vals.length = n2 at *
    generalize kids.length = n3 at *
    by_cases h1 : (n2 : Int) = n1
    · have d1 : decide ((n2 : Int) = n1) = true := decide_eq_true h1
      by_cases h2 : (n3 : Int) = 0
      · have d2 : decide ((n3 : Int) = 0) = true := decide_eq_true h2
        rw [d1, d2]
        simp only [Bool.true_and]
        cases x
        · go_enter Tryz.func72, Tryz.ntmps72
          go_wp2_with (go_at_call 99; refine (CB.out _ (grown_alloc (grown_refl _ _) _)).mono ?_; rintro e w1 ⟨rfl, hg⟩)
          go_ret
          exact ⟨rfl, grown_none (grown_alloc (grown_refl _ _) _) hg⟩
        · go_enter Tryz.func72, Tryz.ntmps72
          go_wp2_with (go_at_call 99; refine (CB.out _ (grown_alloc (grown_refl _ _) _)).mono ?_; rintro e w1 ⟨rfl, hg⟩)
          go_ret
          exact ⟨rfl, grown_none (grown_alloc (grown_refl _ _) _) hg⟩
      · have d2 : decide ((n3 : Int) = 0) = false := decide_eq_false h2
        rw [d1, d2]
        simp only [Bool.true_and, Bool.false_and]
        go_enter Tryz.func72, Tryz.ntmps72
        go_wp2
        go_ret
        exact ⟨rfl, grown_alloc (grown_refl _ _) _⟩
    · have d1 : decide ((n2 : Int) = n1) = false := decide_eq_false h1
      rw [d1]
      simp only [Bool.false_and]
      go_enter Tryz.func72, Tryz.ntmps72
      go_wp2
      go_ret
      exact ⟨rfl, grown_alloc (grown_refl _ _) _⟩
  | false =>
    clear CB
    have e : restB ⟨false, keys, vals, kids⟩ = (decide (0 < (keys.length : Int)) && (decide ((kids.length : Int) = keys.length + 1) && (decide ((vals.length : Int) = 0) && !kids.any outB))) := rfl
    rw [e]
    clear e
    generalize kids.any outB = x at *
    generalize keys.length = n1 at *
    generalize vals.length = n2 at *
    generalize kids.length = n3 at *
    by_cases h1 : 0 < (n1 : Int)
    · have d1 : decide (0 < (n1 : Int)) = true := decide_eq_true h1
      by_cases h2 : (n3 : Int) = n1 + 1
      · have d2 : decide ((n3 : Int) = n1 + 1) = true := decide_eq_true h2
        by_cases h3 : (n2 : Int) = 0
        · have d3 : decide ((n2 : Int) = 0) = true := decide_eq_true h3
          rw [d1, d2, d3]
          simp only [Bool.true_and]
          cases x
          · go_enter Tryz.func72, Tryz.ntmps72
            go_wp2_with (go_at_call 101; refine (CC.out _ (grown_alloc (grown_refl _ _) _)).mono ?_; rintro e w1 ⟨rfl, hg⟩)
            go_ret
            exact ⟨rfl, grown_none (grown_alloc (grown_refl _ _) _) hg⟩
          · go_enter Tryz.func72, Tryz.ntmps72
            go_wp2_with (go_at_call 101; refine (CC.out _ (grown_alloc (grown_refl _ _) _)).mono ?_; rintro e w1 ⟨rfl, hg⟩)
            go_ret
            exact ⟨rfl, grown_none (grown_alloc (grown_refl _ _) _) hg⟩
        · have d3 : decide ((n2 : Int) = 0) = false := decide_eq_false h3
          rw [d1, d2, d3]
          simp only [Bool.true_and, Bool.false_and]
          go_enter Tryz.func72, Tryz.ntmps72
          go_wp2
          go_ret
          exact ⟨rfl, grown_alloc (grown_refl _ _) _⟩
      · have d2 : decide ((n3 : Int) = n1 + 1) = false := decide_eq_false h2
        rw [d1, d2]
        simp only [Bool.true_and, Bool.false_and]
        go_enter Tryz.func72, Tryz.ntmps72
        go_wp2
        go_ret
        exact ⟨rfl, grown_alloc (grown_refl _ _) _⟩
    · have d1 : decide (0 < (n1 : Int)) = false := decide_eq_false h1
      rw [d1]
      simp only [Bool.false_and]
      go_enter Tryz.func72, Tryz.ntmps72
      go_wp2
      go_ret
      exact ⟨rfl, grown_alloc (grown_refl _ _) _⟩
set_option maxRecDepth 100000 in
set_option maxHeartbeats 1000000 in
theorem check_any (v : Value) (p : Pg) (w : World) (h : PgV w v p) (hf : p.fits) : Calls Tryz.prog 50 #[v] w fun e w' => e = .returned (.int .i64 (chk p)) ∧ w.grownBy w' none := by
  have H : Hid (PgV w v p) := h
  have C : Hid (mayK p.keys = true → ∀ W, w.grownBy W none → Calls Tryz.prog 72 #[v] W fun e w' => e = .returned (.bool (restB p)) ∧ W.grownBy w' none) := fun hk W hW => restMayBe_any v p W (H.out.kept hW) hf (by unfold mayK at hk; simp at hk; omega)
  obtain ⟨a, b, c, rfl, ha, hb, hc⟩ := h
  have D : Hid (∀ W, w.grownBy W none → Calls Tryz.prog 71 #[a] W fun e w' => e = .returned (.bool (mayK p.keys)) ∧ W.grownBy w' none) := fun W hW => keysMayBe_any a p.keys W (ha.kept hW) hf.1
  obtain ⟨pa, ca, ga, oa, rfl, -, -⟩ := ha
  obtain ⟨pb, cb, gb, ob, rfl, -, -⟩ := hb
  obtain ⟨pc, cc, gc, oc, rfl, -, -⟩ := hc
  have e : chk p = if (mayK p.keys && restB p) = true then 0 else 6 := rfl
  rw [e]
  clear e H
  generalize p.keys.length = n1 at *
  generalize p.vals.length = n2 at *
  generalize p.kids.length = n3 at *
  generalize p.leaf = lf at *
  generalize mayK p.keys = x at *
  generalize restB p = y at *
  cases x with
  | false =>
    go_enter Tryz.func50, Tryz.ntmps50
    go_wp2_with (go_at_call 71; refine (D.out _ (grown_alloc (grown_refl _ _) _)).mono ?_; rintro e w1 ⟨rfl, hg⟩)
    go_ret
    exact ⟨rfl, grown_none (grown_alloc (grown_refl _ _) _) hg⟩
  | true =>
    have C2 : Hid (∀ W, w.grownBy W none → Calls Tryz.prog 72 #[.agg #[.bool lf, .slice pa n1 ca, .slice pb n2 cb, .slice pc n3 cc]] W fun e w' => e = .returned (.bool y) ∧ W.grownBy w' none) := C.out rfl
    clear C
    have B0 : Hid (∀ W, (w.alloc (.cells #[.bool lf, .slice pa n1 ca, .slice pb n2 cb, .slice pc n3 cc] 70)).grownBy W none → Blk W w.heap.size 70 #[.bool lf, .slice pa n1 ca, .slice pb n2 cb, .slice pc n3 cc]) := fun W hW => (Blk.new w 70 _).kept hW (by simp)
    cases y with
    | true =>
      go_enter Tryz.func50, Tryz.ntmps50
      go_wp2_with (first | (go_at_call 71; refine (D.out _ (grown_alloc (grown_refl _ _) _)).mono ?_; rintro e w1 ⟨rfl, hg⟩; have B1 := B0.out _ hg; have HG : Hid (w.grownBy w1 none) := (grown_none (grown_alloc (grown_refl _ _) _) hg); clear D hg B0; have q0 := B1.cell 0; have q1 := B1.cell 1; have q2 := B1.cell 2; have q3 := B1.cell 3; simp at q0 q1 q2 q3) | (go_at_call 72; refine (C2.out _ HG.out).mono ?_; rintro e w2 ⟨rfl, hg⟩))
      go_ret
      exact ⟨rfl, grown_none HG.out hg⟩
    | false =>
      go_enter Tryz.func50, Tryz.ntmps50
      go_wp2_with (first | (go_at_call 71; refine (D.out _ (grown_alloc (grown_refl _ _) _)).mono ?_; rintro e w1 ⟨rfl, hg⟩; have B1 := B0.out _ hg; have HG : Hid (w.grownBy w1 none) := (grown_none (grown_alloc (grown_refl _ _) _) hg); clear D hg B0; have q0 := B1.cell 0; have q1 := B1.cell 1; have q2 := B1.cell 2; have q3 := B1.cell 3; simp at q0 q1 q2 q3) | (go_at_call 72; refine (C2.out _ HG.out).mono ?_; rintro e w2 ⟨rfl, hg⟩))
      go_ret
      exact ⟨rfl, grown_none HG.out hg⟩
end Go.Proofs.YtbhmmcelndmijaaGreat.Pa
