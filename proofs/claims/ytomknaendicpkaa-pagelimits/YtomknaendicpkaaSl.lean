/-
  Slices that read as lists; slices.Equal.
-/
import Derived.Test.YtomknaendicpkaaMem
import Derived.Test.YtomknaendicpkaaProg
import Derived.Deep.QuietTactic
import Derived.BigQuiet
namespace Go.Proofs.Ytomknaendicpkaa
open Go.RowKit
/-- A slice reads as this list, a cell an element. -/
def RowV {α : Type} (enc : α → Value) (w : World) (v : Value) (l : List α) : Prop := ∃ (pa : Option Addr) (cap g o : Nat), v = .slice pa l.length cap ∧ (0 < l.length → pa = some ⟨g, o, none⟩) ∧ ∀ i, (h : i < l.length) → w.cell? ⟨g, o + i, none⟩ = some (enc l[i])
theorem RowV.below {α : Type} {enc : α → Value} {w w' : World} {v : Value} {l : List α} (h : RowV enc w v l) {n : Nat} (hb : Below n w w') (hn : ∀ g o c, v = .slice (some ⟨g, o, none⟩) l.length c → 0 < l.length → g < n) : RowV enc w' v l := by
  obtain ⟨pa, cap, g, o, rfl, hp, hc⟩ := h
  refine ⟨pa, cap, g, o, rfl, hp, fun i hi => ?_⟩
  have hpa := hp (by omega)
  subst hpa
  exact (hb.cell (p := ⟨g, o + i, none⟩) (hn g o cap rfl (by omega))).trans (hc i hi)
theorem RowV.kept {α : Type} {enc : α → Value} {w w' : World} {v : Value} {l : List α} (h : RowV enc w v l) (hg : w.grownBy w' none) : RowV enc w' v l := by
  obtain ⟨pa, cap, g, o, rfl, hp, hc⟩ := h
  exact ⟨pa, cap, g, o, rfl, hp, fun i hi => ((grown_below hg).cell (p := ⟨g, o + i, none⟩) (World.block_lt_of_cell? _ _ (hc i hi))).trans (hc i hi)⟩
theorem RowV.nil {α : Type} (enc : α → Value) (w : World) : RowV enc w (.slice none 0 0) [] := ⟨none, 0, 0, 0, rfl, fun h => absurd h (Nat.lt_irrefl _), fun _ h => absurd h (Nat.not_lt_zero _)⟩
theorem grown_drewN {w w' : World} {row : Option Nat} (h : w.grownBy w' row) (n : Nat) : w.grownBy (w'.drewN n) row := ⟨h.os, h.tape, h.output, h.size, h.block⟩
theorem cell_kept {w w' : World} {a : Addr} {v : Value} (hg : w.grownBy w' none) (hc : w.cell? a = some v) : w'.cell? a = some v := ((grown_below hg).cell (p := a) (World.block_lt_of_cell? _ _ hc)).trans hc
def eqS (l m : List ByteArray) : Bool := l.map ByteArray.toList == m.map ByteArray.toList
theorem toList_inj {a b : ByteArray} (h : a.toList = b.toList) : a = b := by
  rw [ByteArray.toList_eq, ByteArray.toList_eq] at h
  cases a; cases b
  simp at h
  subst h
  rfl
theorem eqS_iff (l m : List ByteArray) : eqS l m = true ↔ l = m := by
  unfold eqS
  rw [beq_iff_eq]
  constructor
  · intro h
    exact (List.map_inj_right (fun _ _ => toList_inj)).mp h
  · intro h; rw [h]
theorem eqS_at {l m : List ByteArray} (hl : l.length = m.length) (h : ∀ j, (h1 : j < l.length) → (h2 : j < m.length) → (l[j].toList == m[j].toList) = true) : eqS l m = true := by
  rw [eqS_iff]
  exact List.ext_getElem hl fun i h1 h2 => toList_inj (by simpa using h i h1 h2)
theorem eqS_not {l m : List ByteArray} {k : Nat} (h1 : k < l.length) (h2 : k < m.length) (h : (l[k].toList == m[k].toList) = false) : eqS l m = false := by
  cases e : eqS l m with
  | false => rfl
  | true =>
    rw [eqS_iff] at e
    subst e
    simp at h
theorem eqS_len {l m : List ByteArray} (h : l.length ≠ m.length) : eqS l m = false := by
  cases e : eqS l m with
  | false => rfl
  | true => rw [eqS_iff] at e; subst e; exact absurd rfl h
set_option maxRecDepth 100000 in
set_option maxHeartbeats 1000000 in
theorem equalS_any (a b : Value) (l m : List ByteArray) (w : World) (ha : RowV Value.string w a l) (hb : RowV Value.string w b m) (hl : l.length ≤ 9223372036854775807) :
    Calls Try.prog 32 #[a, b] w fun e w' => e = .returned (.bool (eqS l m)) ∧ w.grownBy w' none := by
  obtain ⟨pa, ca, ga, oa, rfl, hpa, hca⟩ := ha
  obtain ⟨pb, cb, gb, ob, rfl, hpb, hcb⟩ := hb
  have HA : Hid (∀ i, (h : i < l.length) → w.cell? ⟨ga, oa + i, none⟩ = some (.string l[i])) := hca
  have HB : Hid (∀ i, (h : i < m.length) → w.cell? ⟨gb, ob + i, none⟩ = some (.string m[i])) := hcb
  have PA : Hid (0 < l.length → pa = some ⟨ga, oa, none⟩) := hpa
  have PB : Hid (0 < m.length → pb = some ⟨gb, ob, none⟩) := hpb
  clear hca hcb hpa hpb
  by_cases hlm : l.length = m.length
  · obtain ⟨x, hx⟩ : ∃ x, eqS l m = x := ⟨_, rfl⟩
    have EX : Hid (eqS l m = x) := hx
    rw [hx]
    clear hx
    obtain ⟨n, hn⟩ : ∃ n, l.length = n := ⟨_, rfl⟩
    have HN : Hid (l.length = n) := hn
    have HM : Hid (m.length = n) := hlm.symm.trans hn
    rw [← hlm, hn]
    rw [hn] at hl
    clear hlm hn
    have hll : (n : Int) ≤ 9223372036854775807 := by omega
    go_enter Try.func32, Try.ntmps32
    go_wp2
    go_loopw [13] (fun i wr => ∃ k : Nat, k ≤ n ∧ i = .int .i64 k ∧ w.grownBy wr none ∧ Hid (∀ j, (h1 : j < l.length) → (h2 : j < m.length) → j < k → (l[j].toList == m[j].toList) = true)) (fun i _ => n - (intOf i).toNat)
    case atStart => exact ⟨0, Nat.zero_le _, rfl, grown_refl _ _, fun j _ _ h => absurd h (Nat.not_lt_zero _)⟩
    case round =>
      obtain ⟨k, hk, rfl, hg, HK⟩ := hrel
      have HG : Hid (w.grownBy wr none) := hg
      clear hg
      have k0 : (0 : Int) ≤ k := by omega
      by_cases hlt : k < n
      · have h1 : k < l.length := by rw [HN.out]; exact hlt
        have h2 : k < m.length := by rw [HM.out]; exact hlt
        have hp := PA.out (by omega)
        have hq := PB.out (by omega)
        subst hp; subst hq
        have c0 := cell_kept HG.out (HA.out k h1)
        have c1 := cell_kept HG.out (HB.out k h2)
        have k1 : (k : Int) < n := by omega
        have kd : decide ((k : Int) < n) = true := decide_eq_true k1
        clear HA HB
        by_cases he : (l[k].toList == m[k].toList) = true
        · have next : Hid (∀ j, (h1 : j < l.length) → (h2 : j < m.length) → j < k + 1 → (l[j].toList == m[j].toList) = true) := fun j h1 h2 hj => by
            by_cases e : j = k
            · subst e; exact he
            · exact HK.out j h1 h2 (by omega)
          clear HK
          generalize l[k] = s at *
          generalize m[k] = t at *
          go_wp2
          go_quiet (fail)
          go_wp2
          go_round
          case rel => exact ⟨k + 1, by omega, by go_num, grown_drewN HG.out _, next⟩
          case measure => simp [intOf]; omega
        · have he' : (l[k].toList == m[k].toList) = false := by simpa using he
          have ex : x = false := by rw [← EX.out]; exact eqS_not h1 h2 he'
          subst ex
          clear HK he
          generalize l[k] = s at *
          generalize m[k] = t at *
          go_wp2
          go_quiet (fail)
          go_wp2
          go_ret
          exact ⟨rfl, grown_drewN HG.out _⟩
      · obtain rfl : k = n := by omega
        have ex : x = true := by rw [← EX.out]; exact eqS_at (HN.out.trans HM.out.symm) (fun j h1 h2 => HK.out j h1 h2 (by have := HN.out; omega))
        subst ex
        clear HA HB HK
        go_wp2
        go_ret
        exact ⟨rfl, HG.out⟩
  · rw [eqS_len hlm]
    have hne : ¬ ((l.length : Int) = (m.length : Int)) := by omega
    go_enter Try.func32, Try.ntmps32
    go_wp2
    go_ret
    exact ⟨rfl, grown_refl _ _⟩
def eqI (l m : List Int) : Bool := l == m
theorem eqI_iff (l m : List Int) : eqI l m = true ↔ l = m := by
  unfold eqI
  rw [beq_iff_eq]
theorem eqI_at {l m : List Int} (hl : l.length = m.length) (h : ∀ j, (h1 : j < l.length) → (h2 : j < m.length) → (l[j] == m[j]) = true) : eqI l m = true := by
  rw [eqI_iff]
  exact List.ext_getElem hl fun i h1 h2 => by simpa using h i h1 h2
theorem eqI_not {l m : List Int} {k : Nat} (h1 : k < l.length) (h2 : k < m.length) (h : (l[k] == m[k]) = false) : eqI l m = false := by
  cases e : eqI l m with
  | false => rfl
  | true =>
    rw [eqI_iff] at e
    subst e
    simp at h
theorem eqI_len {l m : List Int} (h : l.length ≠ m.length) : eqI l m = false := by
  cases e : eqI l m with
  | false => rfl
  | true => rw [eqI_iff] at e; subst e; exact absurd rfl h
set_option maxRecDepth 100000 in
set_option maxHeartbeats 1000000 in
theorem equalI_any (a b : Value) (l m : List Int) (w : World) (ha : RowV (Value.int .i64) w a l) (hb : RowV (Value.int .i64) w b m) (hl : l.length ≤ 9223372036854775807) :
    Calls Try.prog 33 #[a, b] w fun e w' => e = .returned (.bool (eqI l m)) ∧ w.grownBy w' none := by
  obtain ⟨pa, ca, ga, oa, rfl, hpa, hca⟩ := ha
  obtain ⟨pb, cb, gb, ob, rfl, hpb, hcb⟩ := hb
  have HA : Hid (∀ i, (h : i < l.length) → w.cell? ⟨ga, oa + i, none⟩ = some (.int .i64 l[i])) := hca
  have HB : Hid (∀ i, (h : i < m.length) → w.cell? ⟨gb, ob + i, none⟩ = some (.int .i64 m[i])) := hcb
  have PA : Hid (0 < l.length → pa = some ⟨ga, oa, none⟩) := hpa
  have PB : Hid (0 < m.length → pb = some ⟨gb, ob, none⟩) := hpb
  clear hca hcb hpa hpb
  by_cases hlm : l.length = m.length
  · obtain ⟨x, hx⟩ : ∃ x, eqI l m = x := ⟨_, rfl⟩
    have EX : Hid (eqI l m = x) := hx
    rw [hx]
    clear hx
    obtain ⟨n, hn⟩ : ∃ n, l.length = n := ⟨_, rfl⟩
    have HN : Hid (l.length = n) := hn
    have HM : Hid (m.length = n) := hlm.symm.trans hn
    rw [← hlm, hn]
    rw [hn] at hl
    clear hlm hn
    have hll : (n : Int) ≤ 9223372036854775807 := by omega
    go_enter Try.func33, Try.ntmps33
    go_wp2
    go_loopw [13] (fun i wr => ∃ k : Nat, k ≤ n ∧ i = .int .i64 k ∧ w.grownBy wr none ∧ Hid (∀ j, (h1 : j < l.length) → (h2 : j < m.length) → j < k → (l[j] == m[j]) = true)) (fun i _ => n - (intOf i).toNat)
    case atStart => exact ⟨0, Nat.zero_le _, rfl, grown_refl _ _, fun j _ _ h => absurd h (Nat.not_lt_zero _)⟩
    case round =>
      obtain ⟨k, hk, rfl, hg, HK⟩ := hrel
      have HG : Hid (w.grownBy wr none) := hg
      clear hg
      have k0 : (0 : Int) ≤ k := by omega
      by_cases hlt : k < n
      · have h1 : k < l.length := by rw [HN.out]; exact hlt
        have h2 : k < m.length := by rw [HM.out]; exact hlt
        have hp := PA.out (by omega)
        have hq := PB.out (by omega)
        subst hp; subst hq
        have c0 := cell_kept HG.out (HA.out k h1)
        have c1 := cell_kept HG.out (HB.out k h2)
        have k1 : (k : Int) < n := by omega
        have kd : decide ((k : Int) < n) = true := decide_eq_true k1
        clear HA HB
        by_cases he : (l[k] == m[k]) = true
        · have next : Hid (∀ j, (h1 : j < l.length) → (h2 : j < m.length) → j < k + 1 → (l[j] == m[j]) = true) := fun j h1 h2 hj => by
            by_cases e : j = k
            · subst e; exact he
            · exact HK.out j h1 h2 (by omega)
          clear HK
          generalize l[k] = s at *
          generalize m[k] = t at *
          go_wp2
          go_quiet (fail)
          go_wp2
          go_round
          case rel => exact ⟨k + 1, by omega, by go_num, grown_drewN HG.out _, next⟩
          case measure => simp [intOf]; omega
        · have he' : (l[k] == m[k]) = false := by simpa using he
          have ex : x = false := by rw [← EX.out]; exact eqI_not h1 h2 he'
          subst ex
          clear HK he
          generalize l[k] = s at *
          generalize m[k] = t at *
          go_wp2
          go_quiet (fail)
          go_wp2
          go_ret
          exact ⟨rfl, grown_drewN HG.out _⟩
      · obtain rfl : k = n := by omega
        have ex : x = true := by rw [← EX.out]; exact eqI_at (HN.out.trans HM.out.symm) (fun j h1 h2 => HK.out j h1 h2 (by have := HN.out; omega))
        subst ex
        clear HA HB HK
        go_wp2
        go_ret
        exact ⟨rfl, HG.out⟩
  · rw [eqI_len hlm]
    have hne : ¬ ((l.length : Int) = (m.length : Int)) := by omega
    go_enter Try.func33, Try.ntmps33
    go_wp2
    go_ret
    exact ⟨rfl, grown_refl _ _⟩
end Go.Proofs.Ytomknaendicpkaa
