/-
  The checker: fits, and what signs ask of types. The checker: between.
-/
import Derived.Test.YtajoncmmdeahnaaGreatDoorKCg
import Derived.Deep.RegionLaw
namespace Go.Proofs.YtajoncmmdeahnaaGreatDoor
open Go.RowKit
namespace Ck
/-- It answers a number, or throws. -/
def AnP (b : Bool) (m : Nat) (t : Int) (w : World) (e : Ending) (w' : World) : Prop := (if b = true then e = .returned (.int .i64 t) else e = .panicked (RjV m)) ∧ w.grownBy w' none
def UnP (b : Bool) (m : Nat) (w : World) (e : Ending) (w' : World) : Prop := (if b = true then e = .returned (.tuple #[]) else e = .panicked (RjV m)) ∧ w.grownBy w' none
theorem kid_at {w : World} {P : Nat → Prop} {p : Option Addr} {c : Nat} {ks : List Nd} (h : KsV w P (.slice p ks.length c) ks) (i : Nat) (hi : i < ks.length) : ∃ g, p = some ⟨g, 0, none⟩ ∧ w.cell? ⟨g, 5 * i, none⟩ = some (.int .i64 (ks[i]).kind) ∧ w.cell? ⟨g, 5 * i + 1, none⟩ = some (.int .i64 (ks[i]).ty) := by
  obtain ⟨g, (⟨h1, h2⟩ | ⟨_, _, cap, h1, _⟩), h3⟩ := h
  · omega
  · injection h1 with h1
    obtain ⟨q, c0, c1, _⟩ := (h3.at i hi).cells
    rw [Nat.zero_add] at c0 c1
    exact ⟨g, h1, c0, c1⟩
theorem kidT_at {ks : List Nd} {i : Nat} (hi : i < ks.length) : kidT ks i = (ks[i]).ty := by
  unfold kidT
  rw [List.getElem?_eq_getElem hi]
theorem keep_al {w : World} {g o : Nat} {v : Value} (h : w.cell? ⟨g, o, none⟩ = some v) (ob : Obj) : (w.alloc ob).cell? ⟨g, o, none⟩ = some v := (grown_alloc (grown_refl w none) ob).cell h (by simp)
set_option maxRecDepth 100000 in
set_option maxHeartbeats 1000000 in
theorem fits_wrong (k t : Int) (s : ByteArray) (n : Int) (p : Option Addr) (l c : Nat) (u : Int) (w : World) (hl : l ≠ 1) : Calls Tryz.prog 135 #[.agg #[.int .i64 k, .int .i64 t, .string s, .int .i64 n, .slice p l c], .int .i64 u] w (UnP true 122 w) := by
  have e1 : ((l : Int) == 1) = false := by rw [beq_eq_false_iff_ne]; omega
  clear hl
  go_enter Tryz.func135, Tryz.ntmps135
  go_wp2_with fail
  go_end0
  exact ⟨rfl, grown_alloc (grown_refl w none) _⟩
set_option maxRecDepth 100000 in
set_option maxHeartbeats 1000000 in
theorem fits_one (k t : Int) (s : ByteArray) (n : Int) (g c : Nat) (u t0 : Int) (w : World) (h1 : w.cell? ⟨g, 1, none⟩ = some (.int .i64 t0)) : Calls Tryz.prog 135 #[.agg #[.int .i64 k, .int .i64 t, .string s, .int .i64 n, .slice (some ⟨g, 0, none⟩) 1 c], .int .i64 u] w (UnP (t0 == u) 122 w) := by
  have d1 := keep_al h1 (.cells #[.int .i64 k, .int .i64 t, .string s, .int .i64 n, .slice (some ⟨g, 0, none⟩) 1 c] 27)
  have hg := cell_lt h1
  have hne : g ≠ w.heap.size := by omega
  have C97 : Hid (∀ W, Calls Tryz.prog 97 #[.int .i64 (122 : Nat)] W fun e w' => e = .panicked (RjV 122) ∧ w' = W) := fun W => reject_any 122 W
  cases hb : (t0 == u) with
  | true =>
    have e1 : (t0 != u) = false := by unfold bne; rw [hb]; rfl
    clear hb C97
    go_enter Tryz.func135, Tryz.ntmps135
    go_wp2_with fail
    go_end0
    exact ⟨rfl, grown_alloc (grown_refl w none) _⟩
  | false =>
    have e1 : (t0 != u) = true := by unfold bne; rw [hb]; rfl
    clear hb
    go_enter Tryz.func135, Tryz.ntmps135
    go_wp2_with (go_at_call 97; refine (C97.out _).mono ?_; rintro e w9 ⟨rfl, hw⟩; replace hw := hw.symm; subst hw; clear C97)
    exact ⟨rfl, rfl, grown_alloc (grown_refl w none) _⟩
theorem fits_any (n : Nd) (p : Option Addr) (c : Nat) (u : Int) (P : Nat → Prop) {X : Xc} {F : Fn} {st : Cs} (w : World) (hC : CkA w X F st) (hk : KsV w P (.slice p n.kids.length c) n.kids) :
    Calls Tryz.prog 135 #[.agg #[.int .i64 n.kind, .int .i64 n.ty, .string n.txt, .int .i64 n.num, .slice p n.kids.length c], .int .i64 u] w (CkP uK X F w (fitsC n u st)) := by
  unfold fitsC
  by_cases h1 : n.kids.length = 1
  · obtain ⟨g, rfl, _, c1⟩ := kid_at hk 0 (by omega)
    rw [h1]
    have C := fits_one n.kind n.ty n.txt n.num g c u _ w c1
    rw [← kidT_at (ks := n.kids) (i := 0) (by omega)] at C
    refine C.mono ?_
    rintro e w' ⟨h, hg⟩
    by_cases hb : kidT n.kids 0 = u
    · rw [if_neg (fun h => h.2 hb)]
      rw [if_pos (by rw [beq_iff_eq]; exact hb)] at h
      exact ⟨_, h, rfl, hC.kept hg, FrC.nil hg⟩
    · rw [if_pos ⟨rfl, hb⟩]
      rw [if_neg (by rw [beq_iff_eq]; exact hb)] at h
      exact ⟨h, FrC.nil hg⟩
  · rw [if_neg (fun h => h1 h.1)]
    refine (fits_wrong n.kind n.ty n.txt n.num p n.kids.length c u w h1).mono ?_
    rintro e w' ⟨h, hg⟩
    rw [if_pos rfl] at h
    exact ⟨_, h, rfl, hC.kept hg, FrC.nil hg⟩
set_option maxRecDepth 100000 in
theorem wrong214 (k t : Int) (s : ByteArray) (n : Int) (p : Option Addr) (l c : Nat) (w : World) (hl : l ≠ 1) : Calls Tryz.prog 214 #[.agg #[.int .i64 k, .int .i64 t, .string s, .int .i64 n, .slice p l c]] w (AnP false 125 0 w) := by
  have e1 : ((l : Int) != 1) = true := by simp only [bne_iff_ne]; omega
  have C97 : Hid (∀ W, Calls Tryz.prog 97 #[.int .i64 (125 : Nat)] W fun e w' => e = .panicked (RjV 125) ∧ w' = W) := fun W => reject_any 125 W
  clear hl
  go_enter Tryz.func214, Tryz.ntmps214
  go_wp2_with (go_at_call 97; refine (C97.out _).mono ?_; rintro e w9 ⟨rfl, hw⟩; replace hw := hw.symm; subst hw; clear C97)
  exact ⟨rfl, rfl, grown_alloc (grown_refl w none) _⟩
set_option maxRecDepth 100000 in
theorem wrong215 (k t : Int) (s : ByteArray) (n : Int) (p : Option Addr) (l c : Nat) (w : World) (hl : l ≠ 2) : Calls Tryz.prog 215 #[.agg #[.int .i64 k, .int .i64 t, .string s, .int .i64 n, .slice p l c]] w (AnP false 125 0 w) := by
  have e1 : ((l : Int) != 2) = true := by simp only [bne_iff_ne]; omega
  have C97 : Hid (∀ W, Calls Tryz.prog 97 #[.int .i64 (125 : Nat)] W fun e w' => e = .panicked (RjV 125) ∧ w' = W) := fun W => reject_any 125 W
  clear hl
  go_enter Tryz.func215, Tryz.ntmps215
  go_wp2_with (go_at_call 97; refine (C97.out _).mono ?_; rintro e w9 ⟨rfl, hw⟩; replace hw := hw.symm; subst hw; clear C97)
  exact ⟨rfl, rfl, grown_alloc (grown_refl w none) _⟩
set_option maxRecDepth 100000 in
set_option maxHeartbeats 1000000 in
theorem ahead_minus (k t : Int) (n : Int) (g c : Nat) (t0 : Int) (w : World) (h1 : w.cell? ⟨g, 1, none⟩ = some (.int .i64 t0)) : Calls Tryz.prog 214 #[.agg #[.int .i64 k, .int .i64 t, .string ⟨#[45]⟩, .int .i64 n, .slice (some ⟨g, 0, none⟩) 1 c]] w (AnP (numT t0) 122 t0 w) := by
  have d1 := keep_al h1 (.cells #[.int .i64 k, .int .i64 t, .string ⟨#[45]⟩, .int .i64 n, .slice (some ⟨g, 0, none⟩) 1 c] 27)
  have hg := cell_lt h1
  have hne : g ≠ w.heap.size := by omega
  have C246 : Hid (∀ W, Calls Tryz.prog 246 #[.int .i64 t0] W fun e w' => e = .returned (.bool (numT t0)) ∧ w' = W) := fun W => isNumber_any t0 W
  generalize numT t0 = b at *
  have C245 : Hid (∀ W, Calls Tryz.prog 245 #[.bool b] W fun e w' => (if b = true then e = .returned (.tuple #[]) else e = .panicked (RjV 122)) ∧ w' = W) := fun W => need_any b W
  cases b
  all_goals
    go_enter Tryz.func214, Tryz.ntmps214
    go_wp2_with (first
      | (go_at_call 246; refine (C246.out _).mono ?_; rintro e w9 ⟨rfl, hw⟩; replace hw := hw.symm; subst hw; clear C246)
      | (go_at_call 245; refine (C245.out _).mono ?_; rintro e w9 ⟨h9, hw⟩; replace hw := hw.symm; subst hw; clear C245; (try simp only [reduceIte, Bool.false_eq_true] at h9); subst h9))
    first
      | exact ⟨rfl, rfl, grown_alloc (grown_refl w none) _⟩
      | (go_ret; exact ⟨rfl, grown_alloc (grown_refl w none) _⟩)
set_option maxRecDepth 100000 in
set_option maxHeartbeats 1000000 in
theorem ahead_not (k t : Int) (n : Int) (g c : Nat) (t0 : Int) (w : World) (h1 : w.cell? ⟨g, 1, none⟩ = some (.int .i64 t0)) : Calls Tryz.prog 214 #[.agg #[.int .i64 k, .int .i64 t, .string ⟨#[33]⟩, .int .i64 n, .slice (some ⟨g, 0, none⟩) 1 c]] w (AnP (t0 == 3) 122 t0 w) := by
  have d1 := keep_al h1 (.cells #[.int .i64 k, .int .i64 t, .string ⟨#[33]⟩, .int .i64 n, .slice (some ⟨g, 0, none⟩) 1 c] 27)
  have hg := cell_lt h1
  have hne : g ≠ w.heap.size := by omega
  have C245 : Hid (∀ W, Calls Tryz.prog 245 #[.bool (t0 == 3)] W fun e w' => (if (t0 == 3) = true then e = .returned (.tuple #[]) else e = .panicked (RjV 122)) ∧ w' = W) := fun W => need_any (t0 == 3) W
  cases hb : (t0 == 3)
  all_goals
    rw [hb] at C245
    go_enter Tryz.func214, Tryz.ntmps214
    go_wp2_with (go_at_call 245; refine (C245.out _).mono ?_; rintro e w9 ⟨h9, hw⟩; replace hw := hw.symm; subst hw; clear C245; (try simp only [reduceIte, Bool.false_eq_true] at h9); subst h9)
    first
      | exact ⟨rfl, rfl, grown_alloc (grown_refl w none) _⟩
      | (go_ret; exact ⟨rfl, grown_alloc (grown_refl w none) _⟩)
set_option maxRecDepth 100000 in
set_option maxHeartbeats 1000000 in
theorem ahead_none (k t : Int) (s : ByteArray) (n : Int) (g c : Nat) (t0 : Int) (w : World) (h1 : w.cell? ⟨g, 1, none⟩ = some (.int .i64 t0)) (n1 : (s.toList == [45]) = false) (n2 : (s.toList == [33]) = false) : Calls Tryz.prog 214 #[.agg #[.int .i64 k, .int .i64 t, .string s, .int .i64 n, .slice (some ⟨g, 0, none⟩) 1 c]] w (AnP false 125 0 w) := by
  have d1 := keep_al h1 (.cells #[.int .i64 k, .int .i64 t, .string s, .int .i64 n, .slice (some ⟨g, 0, none⟩) 1 c] 27)
  have hg := cell_lt h1
  have hne : g ≠ w.heap.size := by omega
  have C97 : Hid (∀ W, Calls Tryz.prog 97 #[.int .i64 (125 : Nat)] W fun e w' => e = .panicked (RjV 125) ∧ w' = W) := fun W => reject_any 125 W
  go_enter Tryz.func214, Tryz.ntmps214
  go_wp2_with (go_at_call 97; refine (C97.out _).mono ?_; rintro e w9 ⟨rfl, hw⟩; replace hw := hw.symm; subst hw; clear C97)
  exact ⟨rfl, rfl, grown_alloc (grown_refl w none) _⟩
set_option maxRecDepth 100000 in
theorem conv_wrong (k t : Int) (s : ByteArray) (n : Int) (p : Option Addr) (l c : Nat) (w : World) (hl : l ≠ 1 ∨ numT t = false) : Calls Tryz.prog 216 #[.agg #[.int .i64 k, .int .i64 t, .string s, .int .i64 n, .slice p l c]] w (AnP false 125 0 w) := by
  have C97 : Hid (∀ W, Calls Tryz.prog 97 #[.int .i64 (125 : Nat)] W fun e w' => e = .panicked (RjV 125) ∧ w' = W) := fun W => reject_any 125 W
  have C246 : Hid (∀ W, Calls Tryz.prog 246 #[.int .i64 t] W fun e w' => e = .returned (.bool (numT t)) ∧ w' = W) := fun W => isNumber_any t W
  by_cases h1 : l = 1
  · have h2 : numT t = false := hl.elim (fun h => absurd h1 h) id
    rw [h2] at C246
    subst h1
    go_enter Tryz.func216, Tryz.ntmps216
    go_wp2_with (first
      | (go_at_call 246; refine (C246.out _).mono ?_; rintro e w9 ⟨rfl, hw⟩; replace hw := hw.symm; subst hw; clear C246)
      | (go_at_call 97; refine (C97.out _).mono ?_; rintro e w9 ⟨rfl, hw⟩; replace hw := hw.symm; subst hw; clear C97))
    exact ⟨rfl, rfl, grown_alloc (grown_refl w none) _⟩
  · have e1 : ((l : Int) != 1) = true := by simp only [bne_iff_ne]; omega
    clear hl C246 h1
    go_enter Tryz.func216, Tryz.ntmps216
    go_wp2_with (go_at_call 97; refine (C97.out _).mono ?_; rintro e w9 ⟨rfl, hw⟩; replace hw := hw.symm; subst hw; clear C97)
    exact ⟨rfl, rfl, grown_alloc (grown_refl w none) _⟩
set_option maxRecDepth 100000 in
theorem conv_one (k t : Int) (s : ByteArray) (n : Int) (g c : Nat) (t0 : Int) (w : World) (ht : numT t = true) (h1 : w.cell? ⟨g, 1, none⟩ = some (.int .i64 t0)) : Calls Tryz.prog 216 #[.agg #[.int .i64 k, .int .i64 t, .string s, .int .i64 n, .slice (some ⟨g, 0, none⟩) 1 c]] w (AnP (numT t0) 122 t w) := by
  have d1 := keep_al h1 (.cells #[.int .i64 k, .int .i64 t, .string s, .int .i64 n, .slice (some ⟨g, 0, none⟩) 1 c] 27)
  have hg := cell_lt h1
  have hne : g ≠ w.heap.size := by omega
  have CA : Hid (∀ W, Calls Tryz.prog 246 #[.int .i64 t] W fun e w' => e = .returned (.bool true) ∧ w' = W) := fun W => by rw [← ht]; exact isNumber_any t W
  have C246 : Hid (∀ W, Calls Tryz.prog 246 #[.int .i64 t0] W fun e w' => e = .returned (.bool (numT t0)) ∧ w' = W) := fun W => isNumber_any t0 W
  generalize numT t0 = b at *
  have C245 : Hid (∀ W, Calls Tryz.prog 245 #[.bool b] W fun e w' => (if b = true then e = .returned (.tuple #[]) else e = .panicked (RjV 122)) ∧ w' = W) := fun W => need_any b W
  cases b
  all_goals
    go_enter Tryz.func216, Tryz.ntmps216
    go_wp2_with (first
      | (go_at_call 246; refine (CA.out _).mono ?_; rintro e w9 ⟨rfl, hw⟩; replace hw := hw.symm; subst hw; clear CA)
      | (go_at_call 246; refine (C246.out _).mono ?_; rintro e w9 ⟨rfl, hw⟩; replace hw := hw.symm; subst hw; clear C246)
      | (go_at_call 245; refine (C245.out _).mono ?_; rintro e w9 ⟨h9, hw⟩; replace hw := hw.symm; subst hw; clear C245; (try simp only [reduceIte, Bool.false_eq_true] at h9); subst h9))
    first
      | exact ⟨rfl, rfl, grown_alloc (grown_refl w none) _⟩
      | (go_ret; exact ⟨rfl, grown_alloc (grown_refl w none) _⟩)
end Ck
end Go.Proofs.YtajoncmmdeahnaaGreatDoor
namespace Go.Proofs.YtajoncmmdeahnaaGreatDoor
open Go.RowKit
namespace Ck
/-- What a sign between two asks of their types, and what it answers. -/
def sgB (j : Nat) (t0 t1 : Int) : Bool := match j with
  | 1 => (t0 == t1) && numT t0
  | 2 => (t0 == t1) && (t0 == 1)
  | 3 => (t0 == t1) && numT t0
  | 4 => (t0 == t1)
  | 5 => (t0 == t1) && (t0 == 3)
  | _ => false
def sgT (j : Nat) (t0 : Int) : Int := match j with
  | 1 => t0
  | 2 => t0
  | _ => 3
set_option maxRecDepth 100000 in
set_option maxHeartbeats 8000000 in
theorem bet_any (k t : Int) (s : ByteArray) (n : Int) (g c : Nat) (t0 t1 : Int) (w : World) (h1 : w.cell? ⟨g, 1, none⟩ = some (.int .i64 t0)) (h6 : w.cell? ⟨g, 6, none⟩ = some (.int .i64 t1)) : Calls Tryz.prog 215 #[.agg #[.int .i64 k, .int .i64 t, .string s, .int .i64 n, .slice (some ⟨g, 0, none⟩) 2 c]] w (AnP (sgB (sgK s.data.toList) t0 t1) (if sgK s.data.toList = 0 then 125 else 122) (sgT (sgK s.data.toList) t0) w) := by
  have d1 := keep_al h1 (.cells #[.int .i64 k, .int .i64 t, .string s, .int .i64 n, .slice (some ⟨g, 0, none⟩) 2 c] 27)
  have d6 := keep_al h6 (.cells #[.int .i64 k, .int .i64 t, .string s, .int .i64 n, .slice (some ⟨g, 0, none⟩) 2 c] 27)
  have hg := cell_lt h1
  have hne : g ≠ w.heap.size := by omega
  have C246 : Hid (∀ W, Calls Tryz.prog 246 #[.int .i64 t0] W fun e w' => e = .returned (.bool (numT t0)) ∧ w' = W) := fun W => isNumber_any t0 W
  have C97 : Hid (∀ W, Calls Tryz.prog 97 #[.int .i64 (125 : Nat)] W fun e w' => e = .panicked (RjV 125) ∧ w' = W) := fun W => reject_any 125 W
  have C245 : Hid (∀ W (x : Bool), Calls Tryz.prog 245 #[.bool x] W fun e w' => (if x = true then e = .returned (.tuple #[]) else e = .panicked (RjV 122)) ∧ w' = W) := fun W x => need_any x W
  obtain ⟨al, hal⟩ : ∃ al, (t0 == t1) = al := ⟨_, rfl⟩
  obtain ⟨nb, hnb⟩ : ∃ nb, numT t0 = nb := ⟨_, rfl⟩
  have HB := hid (And.intro hal hnb)
  rw [hnb] at C246
  clear hnb
  obtain ⟨Q, hQ⟩ : ∃ Q, AnP (sgB (sgK s.data.toList) t0 t1) (if sgK s.data.toList = 0 then 125 else 122) (sgT (sgK s.data.toList) t0) w = Q := ⟨_, rfl⟩
  have HQ := hid (And.intro hQ trivial)
  rw [hQ]
  clear hQ
  go_enter Tryz.func215, Tryz.ntmps215
  go_wp2_with fail
  go_region
  have GG := hid (grown_drew (grown_alloc (grown_refl w none) (.cells #[.int .i64 k, .int .i64 t, .string s, .int .i64 n, .slice (some ⟨g, 0, none⟩) 2 c] 27)))
  by_cases e1 : s = ⟨#[43]⟩
  · subst e1
    cases al <;> cases nb
    all_goals
      have e9 := HQ.out.1
      change AnP ((t0 == t1) && numT t0) 122 t0 w = Q at e9
      rw [HB.out.1, HB.out.2] at e9
      have E9 := hid (And.intro e9 trivial)
      clear e9
      go_wp2_with (first
        | (go_at_call 246; refine (C246.out _).mono ?_; rintro e w9 ⟨rfl, hw⟩; replace hw := hw.symm; subst hw; clear C246)
        | (go_at_call 245; refine (C245.out _ _).mono ?_; rintro e w9 ⟨h9, hw⟩; replace hw := hw.symm; subst hw; clear C245; (try simp only [reduceIte, Bool.false_eq_true] at h9); subst h9))
      first
        | (rw [← E9.out.1]; exact ⟨rfl, rfl, GG.out⟩)
        | (rw [← E9.out.1]; exact ⟨rfl, GG.out⟩)
        | (go_ret; rw [← E9.out.1]; exact ⟨rfl, GG.out⟩)
  by_cases e2 : s = ⟨#[45]⟩
  · subst e2
    cases al <;> cases nb
    all_goals
      have e9 := HQ.out.1
      change AnP ((t0 == t1) && numT t0) 122 t0 w = Q at e9
      rw [HB.out.1, HB.out.2] at e9
      have E9 := hid (And.intro e9 trivial)
      clear e9
      go_wp2_with (first
        | (go_at_call 246; refine (C246.out _).mono ?_; rintro e w9 ⟨rfl, hw⟩; replace hw := hw.symm; subst hw; clear C246)
        | (go_at_call 245; refine (C245.out _ _).mono ?_; rintro e w9 ⟨h9, hw⟩; replace hw := hw.symm; subst hw; clear C245; (try simp only [reduceIte, Bool.false_eq_true] at h9); subst h9))
      first
        | (rw [← E9.out.1]; exact ⟨rfl, rfl, GG.out⟩)
        | (rw [← E9.out.1]; exact ⟨rfl, GG.out⟩)
        | (go_ret; rw [← E9.out.1]; exact ⟨rfl, GG.out⟩)
  by_cases e3 : s = ⟨#[42]⟩
  · subst e3
    cases al <;> cases nb
    all_goals
      have e9 := HQ.out.1
      change AnP ((t0 == t1) && numT t0) 122 t0 w = Q at e9
      rw [HB.out.1, HB.out.2] at e9
      have E9 := hid (And.intro e9 trivial)
      clear e9
      go_wp2_with (first
        | (go_at_call 246; refine (C246.out _).mono ?_; rintro e w9 ⟨rfl, hw⟩; replace hw := hw.symm; subst hw; clear C246)
        | (go_at_call 245; refine (C245.out _ _).mono ?_; rintro e w9 ⟨h9, hw⟩; replace hw := hw.symm; subst hw; clear C245; (try simp only [reduceIte, Bool.false_eq_true] at h9); subst h9))
      first
        | (rw [← E9.out.1]; exact ⟨rfl, rfl, GG.out⟩)
        | (rw [← E9.out.1]; exact ⟨rfl, GG.out⟩)
        | (go_ret; rw [← E9.out.1]; exact ⟨rfl, GG.out⟩)
  by_cases e4 : s = ⟨#[47]⟩
  · subst e4
    cases al <;> cases nb
    all_goals
      have e9 := HQ.out.1
      change AnP ((t0 == t1) && numT t0) 122 t0 w = Q at e9
      rw [HB.out.1, HB.out.2] at e9
      have E9 := hid (And.intro e9 trivial)
      clear e9
      go_wp2_with (first
        | (go_at_call 246; refine (C246.out _).mono ?_; rintro e w9 ⟨rfl, hw⟩; replace hw := hw.symm; subst hw; clear C246)
        | (go_at_call 245; refine (C245.out _ _).mono ?_; rintro e w9 ⟨h9, hw⟩; replace hw := hw.symm; subst hw; clear C245; (try simp only [reduceIte, Bool.false_eq_true] at h9); subst h9))
      first
        | (rw [← E9.out.1]; exact ⟨rfl, rfl, GG.out⟩)
        | (rw [← E9.out.1]; exact ⟨rfl, GG.out⟩)
        | (go_ret; rw [← E9.out.1]; exact ⟨rfl, GG.out⟩)
  by_cases e5 : s = ⟨#[37]⟩
  · subst e5
    cases al <;> cases hb : (t0 == 1)
    all_goals
      have e9 := HQ.out.1
      change AnP ((t0 == t1) && (t0 == 1)) 122 t0 w = Q at e9
      rw [HB.out.1, hb] at e9
      have E9 := hid (And.intro e9 trivial)
      clear e9
      go_wp2_with (first
        | (go_at_call 245; refine (C245.out _ _).mono ?_; rintro e w9 ⟨h9, hw⟩; replace hw := hw.symm; subst hw; clear C245; (try simp only [reduceIte, Bool.false_eq_true] at h9); subst h9))
      first
        | (rw [← E9.out.1]; exact ⟨rfl, rfl, GG.out⟩)
        | (rw [← E9.out.1]; exact ⟨rfl, GG.out⟩)
        | (go_ret; rw [← E9.out.1]; exact ⟨rfl, GG.out⟩)
  by_cases e6 : s = ⟨#[60]⟩
  · subst e6
    cases al <;> cases nb
    all_goals
      have e9 := HQ.out.1
      change AnP ((t0 == t1) && numT t0) 122 3 w = Q at e9
      rw [HB.out.1, HB.out.2] at e9
      have E9 := hid (And.intro e9 trivial)
      clear e9
      go_wp2_with (first
        | (go_at_call 246; refine (C246.out _).mono ?_; rintro e w9 ⟨rfl, hw⟩; replace hw := hw.symm; subst hw; clear C246)
        | (go_at_call 245; refine (C245.out _ _).mono ?_; rintro e w9 ⟨h9, hw⟩; replace hw := hw.symm; subst hw; clear C245; (try simp only [reduceIte, Bool.false_eq_true] at h9); subst h9))
      first
        | (rw [← E9.out.1]; exact ⟨rfl, rfl, GG.out⟩)
        | (rw [← E9.out.1]; exact ⟨rfl, GG.out⟩)
        | (go_ret; rw [← E9.out.1]; exact ⟨rfl, GG.out⟩)
  by_cases e7 : s = ⟨#[60, 61]⟩
  · subst e7
    cases al <;> cases nb
    all_goals
      have e9 := HQ.out.1
      change AnP ((t0 == t1) && numT t0) 122 3 w = Q at e9
      rw [HB.out.1, HB.out.2] at e9
      have E9 := hid (And.intro e9 trivial)
      clear e9
      go_wp2_with (first
        | (go_at_call 246; refine (C246.out _).mono ?_; rintro e w9 ⟨rfl, hw⟩; replace hw := hw.symm; subst hw; clear C246)
        | (go_at_call 245; refine (C245.out _ _).mono ?_; rintro e w9 ⟨h9, hw⟩; replace hw := hw.symm; subst hw; clear C245; (try simp only [reduceIte, Bool.false_eq_true] at h9); subst h9))
      first
        | (rw [← E9.out.1]; exact ⟨rfl, rfl, GG.out⟩)
        | (rw [← E9.out.1]; exact ⟨rfl, GG.out⟩)
        | (go_ret; rw [← E9.out.1]; exact ⟨rfl, GG.out⟩)
  by_cases e8 : s = ⟨#[62]⟩
  · subst e8
    cases al <;> cases nb
    all_goals
      have e9 := HQ.out.1
      change AnP ((t0 == t1) && numT t0) 122 3 w = Q at e9
      rw [HB.out.1, HB.out.2] at e9
      have E9 := hid (And.intro e9 trivial)
      clear e9
      go_wp2_with (first
        | (go_at_call 246; refine (C246.out _).mono ?_; rintro e w9 ⟨rfl, hw⟩; replace hw := hw.symm; subst hw; clear C246)
        | (go_at_call 245; refine (C245.out _ _).mono ?_; rintro e w9 ⟨h9, hw⟩; replace hw := hw.symm; subst hw; clear C245; (try simp only [reduceIte, Bool.false_eq_true] at h9); subst h9))
      first
        | (rw [← E9.out.1]; exact ⟨rfl, rfl, GG.out⟩)
        | (rw [← E9.out.1]; exact ⟨rfl, GG.out⟩)
        | (go_ret; rw [← E9.out.1]; exact ⟨rfl, GG.out⟩)
  by_cases e9 : s = ⟨#[62, 61]⟩
  · subst e9
    cases al <;> cases nb
    all_goals
      have e9 := HQ.out.1
      change AnP ((t0 == t1) && numT t0) 122 3 w = Q at e9
      rw [HB.out.1, HB.out.2] at e9
      have E9 := hid (And.intro e9 trivial)
      clear e9
      go_wp2_with (first
        | (go_at_call 246; refine (C246.out _).mono ?_; rintro e w9 ⟨rfl, hw⟩; replace hw := hw.symm; subst hw; clear C246)
        | (go_at_call 245; refine (C245.out _ _).mono ?_; rintro e w9 ⟨h9, hw⟩; replace hw := hw.symm; subst hw; clear C245; (try simp only [reduceIte, Bool.false_eq_true] at h9); subst h9))
      first
        | (rw [← E9.out.1]; exact ⟨rfl, rfl, GG.out⟩)
        | (rw [← E9.out.1]; exact ⟨rfl, GG.out⟩)
        | (go_ret; rw [← E9.out.1]; exact ⟨rfl, GG.out⟩)
  by_cases e10 : s = ⟨#[61, 61]⟩
  · subst e10
    cases al
    all_goals
      have e9 := HQ.out.1
      change AnP (t0 == t1) 122 3 w = Q at e9
      rw [HB.out.1] at e9
      have E9 := hid (And.intro e9 trivial)
      clear e9
      go_wp2_with (first
        | (go_at_call 245; refine (C245.out _ _).mono ?_; rintro e w9 ⟨h9, hw⟩; replace hw := hw.symm; subst hw; clear C245; (try simp only [reduceIte, Bool.false_eq_true] at h9); subst h9))
      first
        | (rw [← E9.out.1]; exact ⟨rfl, rfl, GG.out⟩)
        | (rw [← E9.out.1]; exact ⟨rfl, GG.out⟩)
        | (go_ret; rw [← E9.out.1]; exact ⟨rfl, GG.out⟩)
  by_cases e11 : s = ⟨#[33, 61]⟩
  · subst e11
    cases al
    all_goals
      have e9 := HQ.out.1
      change AnP (t0 == t1) 122 3 w = Q at e9
      rw [HB.out.1] at e9
      have E9 := hid (And.intro e9 trivial)
      clear e9
      go_wp2_with (first
        | (go_at_call 245; refine (C245.out _ _).mono ?_; rintro e w9 ⟨h9, hw⟩; replace hw := hw.symm; subst hw; clear C245; (try simp only [reduceIte, Bool.false_eq_true] at h9); subst h9))
      first
        | (rw [← E9.out.1]; exact ⟨rfl, rfl, GG.out⟩)
        | (rw [← E9.out.1]; exact ⟨rfl, GG.out⟩)
        | (go_ret; rw [← E9.out.1]; exact ⟨rfl, GG.out⟩)
  by_cases e12 : s = ⟨#[38, 38]⟩
  · subst e12
    cases al <;> cases hb : (t0 == 3)
    all_goals
      have e9 := HQ.out.1
      change AnP ((t0 == t1) && (t0 == 3)) 122 3 w = Q at e9
      rw [HB.out.1, hb] at e9
      have E9 := hid (And.intro e9 trivial)
      clear e9
      go_wp2_with (first
        | (go_at_call 245; refine (C245.out _ _).mono ?_; rintro e w9 ⟨h9, hw⟩; replace hw := hw.symm; subst hw; clear C245; (try simp only [reduceIte, Bool.false_eq_true] at h9); subst h9))
      first
        | (rw [← E9.out.1]; exact ⟨rfl, rfl, GG.out⟩)
        | (rw [← E9.out.1]; exact ⟨rfl, GG.out⟩)
        | (go_ret; rw [← E9.out.1]; exact ⟨rfl, GG.out⟩)
  by_cases e13 : s = ⟨#[124, 124]⟩
  · subst e13
    cases al <;> cases hb : (t0 == 3)
    all_goals
      have e9 := HQ.out.1
      change AnP ((t0 == t1) && (t0 == 3)) 122 3 w = Q at e9
      rw [HB.out.1, hb] at e9
      have E9 := hid (And.intro e9 trivial)
      clear e9
      go_wp2_with (first
        | (go_at_call 245; refine (C245.out _ _).mono ?_; rintro e w9 ⟨h9, hw⟩; replace hw := hw.symm; subst hw; clear C245; (try simp only [reduceIte, Bool.false_eq_true] at h9); subst h9))
      first
        | (rw [← E9.out.1]; exact ⟨rfl, rfl, GG.out⟩)
        | (rw [← E9.out.1]; exact ⟨rfl, GG.out⟩)
        | (go_ret; rw [← E9.out.1]; exact ⟨rfl, GG.out⟩)
  have f1 : (s.toList == [43]) = false := by rw [beq_eq_false_iff_ne]; intro h; exact e1 ((Lw.bytes_ext (by rw [← ByteArray.toList_eq, h])))
  have f2 : (s.toList == [45]) = false := by rw [beq_eq_false_iff_ne]; intro h; exact e2 ((Lw.bytes_ext (by rw [← ByteArray.toList_eq, h])))
  have f3 : (s.toList == [42]) = false := by rw [beq_eq_false_iff_ne]; intro h; exact e3 ((Lw.bytes_ext (by rw [← ByteArray.toList_eq, h])))
  have f4 : (s.toList == [47]) = false := by rw [beq_eq_false_iff_ne]; intro h; exact e4 ((Lw.bytes_ext (by rw [← ByteArray.toList_eq, h])))
  have f5 : (s.toList == [37]) = false := by rw [beq_eq_false_iff_ne]; intro h; exact e5 ((Lw.bytes_ext (by rw [← ByteArray.toList_eq, h])))
  have f6 : (s.toList == [60]) = false := by rw [beq_eq_false_iff_ne]; intro h; exact e6 ((Lw.bytes_ext (by rw [← ByteArray.toList_eq, h])))
  have f7 : (s.toList == [60, 61]) = false := by rw [beq_eq_false_iff_ne]; intro h; exact e7 ((Lw.bytes_ext (by rw [← ByteArray.toList_eq, h])))
  have f8 : (s.toList == [62]) = false := by rw [beq_eq_false_iff_ne]; intro h; exact e8 ((Lw.bytes_ext (by rw [← ByteArray.toList_eq, h])))
  have f9 : (s.toList == [62, 61]) = false := by rw [beq_eq_false_iff_ne]; intro h; exact e9 ((Lw.bytes_ext (by rw [← ByteArray.toList_eq, h])))
  have f10 : (s.toList == [61, 61]) = false := by rw [beq_eq_false_iff_ne]; intro h; exact e10 ((Lw.bytes_ext (by rw [← ByteArray.toList_eq, h])))
  have f11 : (s.toList == [33, 61]) = false := by rw [beq_eq_false_iff_ne]; intro h; exact e11 ((Lw.bytes_ext (by rw [← ByteArray.toList_eq, h])))
  have f12 : (s.toList == [38, 38]) = false := by rw [beq_eq_false_iff_ne]; intro h; exact e12 ((Lw.bytes_ext (by rw [← ByteArray.toList_eq, h])))
  have f13 : (s.toList == [124, 124]) = false := by rw [beq_eq_false_iff_ne]; intro h; exact e13 ((Lw.bytes_ext (by rw [← ByteArray.toList_eq, h])))
  have e0 : sgK s.data.toList = 0 := by
    rw [← ByteArray.toList_eq]
    unfold sgK
    rw [f1, f2, f3, f4, f5, f6, f7, f8, f9, f10, f11, f12, f13]
    rfl
  have q9 := HQ.out.1
  rw [e0] at q9
  have E9 := hid (And.intro q9 trivial)
  clear q9 e0 e1 e2 e3 e4 e5 e6 e7 e8 e9 e10 e11 e12 e13
  go_wp2_with (go_at_call 97; refine (C97.out _).mono ?_; rintro e w9 ⟨rfl, hw⟩; replace hw := hw.symm; subst hw; clear C97)
  first
    | (rw [← E9.out.1]; exact ⟨rfl, rfl, GG.out⟩)
    | (rw [← E9.out.1]; exact ⟨rfl, GG.out⟩)
end Ck
end Go.Proofs.YtajoncmmdeahnaaGreatDoor
