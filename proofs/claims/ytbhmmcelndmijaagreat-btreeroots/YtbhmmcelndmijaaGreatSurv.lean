/-
  survivors: which loose changes a loss of power leaves, one by one.
-/
import Derived.RangeFuncNested
import Derived.RangeFuncBound
import Derived.RangeFuncCalls
import Derived.RangeFuncLeaves
import Derived.Shelf.Abstract
import Derived.Shelf.RegionOpen
import Derived.WalkKit
import Derived.OwnWalkIn
import Derived.TacticsInMore
import Derived.LoopNIn
import Derived.LoopIn
import Derived.Test.YtbhmmcelndmijaaGreatKCopy
namespace Go.Proofs.YtbhmmcelndmijaaGreat
open Go.RowKit Go.Maps Go.Shelf
attribute [local go_sem] Oper.semAt_some
/-- A change that is within its bounds. -/
structure OkC (c : Chg) : Prop where
  kind : c.kind ≤ 4
  name : c.name.size ≤ 1000
  to : c.to.size ≤ 1000
  bytes : c.bytes.size ≤ 10000
  low : c.kind = 4 → 0 ≤ c.n
  high : c.n ≤ 9223372036854775807
abbrev OkChg := { c : Chg // OkC c }
/-- Is change i kept? -/
def keptB (keep : Int) (i : Nat) : Bool := decide (i < 62) && (bits .and .i64 (keep / 2 ^ i) 1 == 1)
/-- What is left of a change of which so many bytes alone were put. -/
def tearV (c : Chg) (torn : Int) : Chg := { c with bytes := c.bytes.extract 0 (min torn.toNat c.bytes.size) }
theorem tearV_ok {c : Chg} (torn : Int) (h : OkC c) : OkC (tearV c torn) :=
  ⟨h.kind, h.name, h.to, by have := h.bytes; show (c.bytes.extract 0 _).size ≤ 10000; rw [ByteArray.size_extract]; omega, h.low, h.high⟩
/-- The survivors of the first k changes, and whether one may still be torn. -/
def stTo (keep torn : Int) (L : Nat → OkChg) : Nat → List OkChg × Bool
  | 0 => ([], true)
  | k + 1 => if keptB keep k then ((stTo keep torn L k).1 ++ [L k], (stTo keep torn L k).2)
    else if (stTo keep torn L k).2 then (if torn ≤ 0 ∨ 1 < (L k).1.kind then ((stTo keep torn L k).1, false) else ((stTo keep torn L k).1 ++ [⟨tearV (L k).1 torn, tearV_ok torn (L k).2⟩], false))
    else stTo keep torn L k
theorem stTo_len (keep torn : Int) (L : Nat → OkChg) : ∀ k, (stTo keep torn L k).1.length ≤ k
  | 0 => Nat.le_refl _
  | k + 1 => by
    have ih := stTo_len keep torn L k
    unfold stTo
    split
    · rw [List.length_append]; show _ + 1 ≤ _; omega
    · split
      · split
        · show (stTo keep torn L k).1.length ≤ _; omega
        · rw [List.length_append]; show _ + 1 ≤ _; omega
      · omega
theorem looseL_at : ∀ (l : List Chg) (k i : Nat) (h : k < l.length), i < 5 → (looseL l)[k * 5 + i]? = (l[k]).cells[i]?
  | [], k, i, h, _ => absurd h (Nat.not_lt_zero _)
  | c :: r, 0, i, _, hi => by
    unfold looseL
    rw [List.flatMap_cons, Nat.zero_mul, Nat.zero_add, List.getElem?_append_left (by show i < 5; exact hi)]
    rfl
  | c :: r, k + 1, i, h, hi => by
    have ih := looseL_at r k i (by simpa using h) hi
    unfold looseL at ih ⊢
    rw [List.flatMap_cons, List.getElem?_append_right (by show 5 ≤ _; omega), show (k + 1) * 5 + i - c.cells.length = k * 5 + i from by show (k + 1) * 5 + i - 5 = _; omega, ih]
    rfl
/-- Blocks below n are as they were, but for one. -/
structure KeepsBut (n gm : Nat) (W W' : World) : Prop where
  keep : ∀ i, i < n → i ≠ gm → W'.heap[i]? = W.heap[i]?
  size : W.heap.size ≤ W'.heap.size
theorem KeepsBut.refl (n gm : Nat) (W : World) : KeepsBut n gm W W := ⟨fun _ _ _ => rfl, Nat.le_refl _⟩
theorem KeepsBut.trans {n gm : Nat} {A B C : World} (h : KeepsBut n gm A B) (k : KeepsBut n gm B C) : KeepsBut n gm A C := ⟨fun i h1 h2 => (k.keep i h1 h2).trans (h.keep i h1 h2), Nat.le_trans h.size k.size⟩
theorem KeepsBut.cell {n gm : Nat} {A B : World} (h : KeepsBut n gm A B) {b o : Nat} (hb : b < n) (hn : b ≠ gm) : B.cell? ⟨b, o, none⟩ = A.cell? ⟨b, o, none⟩ := World.cell?_of_block (h.keep b hb hn)
theorem KeepsBut.of_grown {n gm : Nat} {A B : World} (h : A.grownBy B none) (hn : n ≤ A.heap.size) : KeepsBut n gm A B := ⟨fun i hi _ => h.block i (Nat.lt_of_lt_of_le hi hn) (by simp), h.size⟩
theorem st_kept {keep torn : Int} {L : Nat → OkChg} {k : Nat} (h : keptB keep k = true) : stTo keep torn L (k + 1) = ((stTo keep torn L k).1 ++ [L k], (stTo keep torn L k).2) := by
  show (if keptB keep k then _ else _) = _
  rw [if_pos h]
theorem st_done {keep torn : Int} {L : Nat → OkChg} {k : Nat} (h : keptB keep k = false) (ht : (stTo keep torn L k).2 = false) : stTo keep torn L (k + 1) = stTo keep torn L k := by
  show (if keptB keep k then _ else _) = _
  rw [h, ht]
  rfl
theorem st_none {keep torn : Int} {L : Nat → OkChg} {k : Nat} (h : keptB keep k = false) (ht : (stTo keep torn L k).2 = true) (hn : torn ≤ 0 ∨ 1 < (L k).1.kind) : stTo keep torn L (k + 1) = ((stTo keep torn L k).1, false) := by
  show (if keptB keep k then _ else if (stTo keep torn L k).2 then (if torn ≤ 0 ∨ 1 < (L k).1.kind then _ else _) else _) = _
  rw [h, ht, if_pos hn]
  rfl
theorem st_torn {keep torn : Int} {L : Nat → OkChg} {k : Nat} (h : keptB keep k = false) (ht : (stTo keep torn L k).2 = true) (hn : ¬ (torn ≤ 0 ∨ 1 < (L k).1.kind)) : stTo keep torn L (k + 1) = ((stTo keep torn L k).1 ++ [⟨tearV (L k).1 torn, tearV_ok torn (L k).2⟩], false) := by
  show (if keptB keep k then _ else if (stTo keep torn L k).2 then (if torn ≤ 0 ∨ 1 < (L k).1.kind then _ else _) else _) = _
  rw [h, ht, if_neg hn]
  rfl
set_option maxRecDepth 100000 in
set_option maxHeartbeats 4000000 in
theorem surv_in (l b Bd Bk Bt g cap n1 gm len : Nat) (keep torn : Int) (loose : List Chg) (L : Nat → OkChg) (hL : ∀ k, (h : k < loose.length) → loose[k] = (L k).1) (hlen : loose.length = len) (hl63 : len ≤ 63) (ht1 : torn ≤ 9223372036854775807) (J Jx : List OkChg → World → Prop)
    (W : World) (hJa : AbidesFrom W.heap.size J) (hY : ∀ pre x W1, J pre W1 → pre.length < 63 → YieldAt Fence.wide (4 - 1) Tryz.prog l #[x.1.val] W1 fun e W' => (e = .returned (.bool true) ∧ J (pre ++ [x]) W' ∧ KeepsBut n1 gm W1 W') ∨ (e = .returned (.bool false) ∧ Jx (pre ++ [x]) W'))
    (hn1 : n1 ≤ W.heap.size) (hbk : Bk < n1 ∧ Bk ≠ gm) (hbt : Bt < n1 ∧ Bt ≠ gm) (hgg : g < n1 ∧ g ≠ gm)
    (hd : W.cell? ⟨Bd, 0, none⟩ = some (.pointer (some ⟨b, 0, none⟩))) (hk : W.cell? ⟨Bk, 0, none⟩ = some (.int .i64 keep)) (ht : W.cell? ⟨Bt, 0, none⟩ = some (.int .i64 torn))
    (h2 : W.cell? ⟨b, 2, none⟩ = some (.slice (some ⟨g, 0, none⟩) len cap)) (hrow : ∀ j, j < len * 5 → W.cell? ⟨g, j, none⟩ = (looseL loose)[j]?) (h0 : J [] W) :
    CallsIn Fence.wide 4 Tryz.prog 125 #[.func (.yield l) #[] #[], .pointer (some ⟨Bd, 0, none⟩), .pointer (some ⟨Bk, 0, none⟩), .pointer (some ⟨Bt, 0, none⟩)] W fun e W' => (∃ v, e = .returned v) ∧ (J (stTo keep torn L len).1 W' ∨ ∃ pre, Jx pre W') := by
  have HJ : Hid (AbidesFrom W.heap.size J) := hJa
  have HY : Hid (∀ pre x W1, J pre W1 → pre.length < 63 → YieldAt Fence.wide (4 - 1) Tryz.prog l #[x.1.val] W1 fun e W' => (e = .returned (.bool true) ∧ J (pre ++ [x]) W' ∧ KeepsBut n1 gm W1 W') ∨ (e = .returned (.bool false) ∧ Jx (pre ++ [x]) W')) := hY
  have HL : Hid (∀ k, (h : k < loose.length) → loose[k] = (L k).1) := hL
  have HR : Hid (∀ j, j < len * 5 → W.cell? ⟨g, j, none⟩ = (looseL loose)[j]?) := hrow
  have HK : Hid (W.cell? ⟨Bk, 0, none⟩ = some (.int .i64 keep)) := hk
  have HT : Hid (W.cell? ⟨Bt, 0, none⟩ = some (.int .i64 torn)) := ht
  have H0 : Hid (J [] W) := h0
  clear hJa hY hL hrow hk ht h0
  have HLen : Hid (loose.length = len) := hlen
  clear hlen
  refine callsIn_of_wp Tryz.func125 rfl trivial ?_ rfl
  simp only [Tryz.ntmps125, List.size_toArray, List.length_cons, List.length_nil, Nat.reduceAdd, Nat.reduceSub, Array.replicate_succ, Array.replicate_zero, List.push_toArray, List.append_toArray, List.nil_append, List.cons_append]
  gi_wp2
  gi_loopw [5, 14] (fun t i wr => ∃ k : Nat, k ≤ len ∧ i = .int .i64 k ∧ t = .bool (stTo keep torn L k).2 ∧ J (stTo keep torn L k).1 wr ∧ KeepsBut n1 gm W wr) (fun _ i _ => len - (intOf i).toNat)
  case atStart => exact ⟨0, Nat.zero_le _, rfl, rfl, H0.out, KeepsBut.refl _ _ _⟩
  case round =>
    obtain ⟨k, hkl, rfl, rfl, hJs, hks⟩ := hrel
    have hsz := hks.size
    have JS : Hid (J (stTo keep torn L k).1 wr) := hJs
    have KS : Hid (KeepsBut n1 gm W wr) := hks
    clear hJs hks
    have k0 : (0 : Int) ≤ (k : Int) := by omega
    by_cases hlt : k < len
    · have hkl' : k < loose.length := by rw [HLen.out]; exact hlt
      have hat : ∀ i, i < 5 → wr.cell? ⟨g, k * 5 + i, none⟩ = ((L k).1.cells)[i]? := fun i hi => by
        rw [KS.out.cell hgg.1 hgg.2, HR.out _ (by omega), looseL_at loose k i hkl' hi, HL.out k hkl']
      have hkk : wr.cell? ⟨Bk, 0, none⟩ = some (.int .i64 keep) := (KS.out.cell hbk.1 hbk.2).trans HK.out
      have htt : wr.cell? ⟨Bt, 0, none⟩ = some (.int .i64 torn) := (KS.out.cell hbt.1 hbt.2).trans HT.out
      have c0 : wr.cell? ⟨g, k * 5, none⟩ = some (.int .i64 (L k).1.kind) := hat 0 (by decide)
      have c1 : wr.cell? ⟨g, k * 5 + 1, none⟩ = some (.string (L k).1.name) := hat 1 (by decide)
      have c2 : wr.cell? ⟨g, k * 5 + 2, none⟩ = some (.string (L k).1.bytes) := hat 2 (by decide)
      have c3 : wr.cell? ⟨g, k * 5 + 3, none⟩ = some (.string (L k).1.to) := hat 3 (by decide)
      have c4 : wr.cell? ⟨g, k * 5 + 4, none⟩ = some (.int .i64 (L k).1.n) := hat 4 (by decide)
      have b1 : Bk < wr.heap.size := by omega
      have b2 : Bt < wr.heap.size := by omega
      have b3 : g < wr.heap.size := by omega
      have k1 : (k : Int) < (len : Int) := by omega
      have hpl := stTo_len keep torn L k
      have JA : Hid (∀ o, J (stTo keep torn L k).1 (wr.alloc o)) := fun o => HJ.out _ wr _ none JS.out (World.grownBy_alloc wr o none) (fun r e => by cases e)
      clear hat HR HL HK HT
      by_cases hkb : keptB keep k = true
      · have hst := st_kept (torn := torn) (L := L) hkb
        have ST : Hid (stTo keep torn L (k + 1) = ((stTo keep torn L k).1 ++ [L k], (stTo keep torn L k).2)) := hst
        have h62 : k < 62 := by unfold keptB at hkb; simp at hkb; exact hkb.1
        have hbit : bits .and .i64 (keep / 2 ^ k) 1 = 1 := by unfold keptB at hkb; simp at hkb; exact hkb.2
        have k62 : (k : Int) < 62 := by omega
        obtain ⟨fn, tmps, assign, body, hy, hR⟩ := HY.out _ (L k) _ (JA.out (.cells #[.int .i64 (L k).1.kind, .string (L k).1.name, .string (L k).1.bytes, .string (L k).1.to, .int .i64 (L k).1.n] 120)) (by omega)
        have hy' : (Instr.yield l #[.agg #[.int .i64 (L k).1.kind, .string (L k).1.name, .string (L k).1.bytes, .string (L k).1.to, .int .i64 (L k).1.n]]).run Tryz.prog (wr.alloc (.cells #[.int .i64 (L k).1.kind, .string (L k).1.name, .string (L k).1.bytes, .string (L k).1.to, .int .i64 (L k).1.n] 120)) = _ := hy
        clear hst hkb hy
        generalize (stTo keep torn L k).1 = pre at *
        generalize (stTo keep torn L k).2 = tb at *
        gi_wp2
        refine hR.mono ?_
        rintro e W3 (⟨rfl, hJ3, hk3⟩ | ⟨rfl, hJx3⟩)
        · gi_wp2
          go_roundw
          case rel => exact ⟨k + 1, by omega, by go_num, by rw [ST.out], by rw [ST.out]; exact hJ3, (KS.out.trans (KeepsBut.of_grown (World.grownBy_alloc wr _ none) (by omega))).trans hk3⟩
          case measure => simp [intOf]; omega
        · gi_wp2
          refine bodyPost_ret (results_none rfl _ _ _) rfl ?_
          exact ⟨⟨_, rfl⟩, Or.inr ⟨_, hJx3⟩⟩
      · have hkf : keptB keep k = false := by simpa using hkb
        have hcase : (k < 62 ∧ (bits .and .i64 (keep / 2 ^ k) 1 == 1) = false) ∨ ¬ k < 62 := by
          by_cases h : k < 62
          · left
            refine ⟨h, ?_⟩
            unfold keptB at hkf
            rw [decide_eq_true h, Bool.true_and] at hkf
            exact hkf
          · exact Or.inr h
        clear hkb
        by_cases htb : (stTo keep torn L k).2 = true
        · by_cases hno : torn ≤ 0 ∨ 1 < (L k).1.kind
          · have ST : Hid (stTo keep torn L (k + 1) = ((stTo keep torn L k).1, false)) := st_none hkf htb hno
            have CT : Hid (∀ w, Calls Tryz.prog 126 #[.agg #[.int .i64 (L k).1.kind, .string (L k).1.name, .string (L k).1.bytes, .string (L k).1.to, .int .i64 (L k).1.n], .int .i64 torn] w fun e w' => e = .returned (.tuple #[.agg #[.int .i64 0, .string ⟨#[]⟩, .string ⟨#[]⟩, .string ⟨#[]⟩, .int .i64 0], .bool false]) ∧ w.grownBy w' none) := fun w => tear_no _ _ _ _ _ _ w hno
            rw [htb]
            clear hno hkf htb
            rcases hcase with ⟨h62, hbit⟩ | h62
            · have k62 : (k : Int) < 62 := by omega
              gi_wp2_with ((refine ⟨trivial, ?_⟩; gi_at_call 126; refine (callsIn_wide.2 (CT.out _)).mono ?_; rintro e w4 ⟨rfl, hg4⟩; have B4 := (Blk.new wr 120 #[.int .i64 (L k).1.kind, .string (L k).1.name, .string (L k).1.bytes, .string (L k).1.to, .int .i64 (L k).1.n]).kept hg4 (by simp); have x0 := B4.cell 0; have x1 := B4.cell 1; have x2 := B4.cell 2; have x3 := B4.cell 3; have x4 := B4.cell 4; simp at x0 x1 x2 x3 x4; have f0 := B4.frozen 0; have f1 := B4.frozen 1; have f2 := B4.frozen 2; have f3 := B4.frozen 3; have f4 := B4.frozen 4; have G4 : Hid (wr.grownBy w4 none) := grown_none (World.grownBy_alloc wr _ none) hg4; clear hg4))
              refine ⟨fun _ h => (by cases h), ?_⟩
              gi_wp2
              go_roundw
              case rel => exact ⟨k + 1, by omega, by go_num, by rw [ST.out], by rw [ST.out]; exact HJ.out _ wr _ none JS.out (grown_set_new (grown_set_new (grown_set_new (grown_set_new (grown_set_new G4.out _ (Nat.le_refl _)) _ (Nat.le_refl _)) _ (Nat.le_refl _)) _ (Nat.le_refl _)) _ (Nat.le_refl _)) (fun r e => by cases e), KS.out.trans (KeepsBut.of_grown (grown_set_new (grown_set_new (grown_set_new (grown_set_new (grown_set_new G4.out _ (Nat.le_refl _)) _ (Nat.le_refl _)) _ (Nat.le_refl _)) _ (Nat.le_refl _)) _ (Nat.le_refl _)) (by omega))⟩
              case measure => simp [intOf]; omega
            · have k62 : ¬ (k : Int) < 62 := by omega
              gi_wp2_with ((refine ⟨trivial, ?_⟩; gi_at_call 126; refine (callsIn_wide.2 (CT.out _)).mono ?_; rintro e w4 ⟨rfl, hg4⟩; have B4 := (Blk.new wr 120 #[.int .i64 (L k).1.kind, .string (L k).1.name, .string (L k).1.bytes, .string (L k).1.to, .int .i64 (L k).1.n]).kept hg4 (by simp); have x0 := B4.cell 0; have x1 := B4.cell 1; have x2 := B4.cell 2; have x3 := B4.cell 3; have x4 := B4.cell 4; simp at x0 x1 x2 x3 x4; have f0 := B4.frozen 0; have f1 := B4.frozen 1; have f2 := B4.frozen 2; have f3 := B4.frozen 3; have f4 := B4.frozen 4; have G4 : Hid (wr.grownBy w4 none) := grown_none (World.grownBy_alloc wr _ none) hg4; clear hg4))
              refine ⟨fun _ h => (by cases h), ?_⟩
              gi_wp2
              go_roundw
              case rel => exact ⟨k + 1, by omega, by go_num, by rw [ST.out], by rw [ST.out]; exact HJ.out _ wr _ none JS.out (grown_set_new (grown_set_new (grown_set_new (grown_set_new (grown_set_new G4.out _ (Nat.le_refl _)) _ (Nat.le_refl _)) _ (Nat.le_refl _)) _ (Nat.le_refl _)) _ (Nat.le_refl _)) (fun r e => by cases e), KS.out.trans (KeepsBut.of_grown (grown_set_new (grown_set_new (grown_set_new (grown_set_new (grown_set_new G4.out _ (Nat.le_refl _)) _ (Nat.le_refl _)) _ (Nat.le_refl _)) _ (Nat.le_refl _)) _ (Nat.le_refl _)) (by omega))⟩
              case measure => simp [intOf]; omega
          · have ST : Hid (stTo keep torn L (k + 1) = ((stTo keep torn L k).1 ++ [⟨tearV (L k).1 torn, tearV_ok torn (L k).2⟩], false)) := st_torn hkf htb hno
            have hpos : 0 < torn := by
              by_cases h : torn ≤ 0
              · exact absurd (Or.inl h) hno
              · omega
            have hk2 : (L k).1.kind = 0 ∨ (L k).1.kind = 1 := by
              by_cases h : 1 < (L k).1.kind
              · exact absurd (Or.inr h) hno
              · omega
            obtain ⟨m, rfl⟩ : ∃ m : Nat, torn = m := ⟨torn.toNat, by omega⟩
            have hbz := (L k).2.bytes
            have CT : Hid (∀ w, Calls Tryz.prog 126 #[.agg #[.int .i64 (L k).1.kind, .string (L k).1.name, .string (L k).1.bytes, .string (L k).1.to, .int .i64 (L k).1.n], .int .i64 m] w fun e w' => e = .returned (.tuple #[.agg #[.int .i64 (L k).1.kind, .string (L k).1.name, .string ((L k).1.bytes.extract 0 (min m (L k).1.bytes.size)), .string (L k).1.to, .int .i64 (L k).1.n], .bool true]) ∧ w.grownBy w' none) := fun w => tear_yes _ _ _ _ _ m w hk2 (by omega) ht1 (by omega)
            have HD : Hid (∀ W1, J (stTo keep m L k).1 W1 → YieldAt Fence.wide (4 - 1) Tryz.prog l #[.agg #[.int .i64 (L k).1.kind, .string (L k).1.name, .string ((L k).1.bytes.extract 0 (min m (L k).1.bytes.size)), .string (L k).1.to, .int .i64 (L k).1.n]] W1 fun e W' => (e = .returned (.bool true) ∧ J ((stTo keep m L k).1 ++ [⟨tearV (L k).1 m, tearV_ok m (L k).2⟩]) W' ∧ KeepsBut n1 gm W1 W') ∨ (e = .returned (.bool false) ∧ Jx ((stTo keep m L k).1 ++ [⟨tearV (L k).1 m, tearV_ok m (L k).2⟩]) W')) := fun W1 h => HY.out _ ⟨tearV (L k).1 m, tearV_ok m (L k).2⟩ W1 h (by omega)
            rw [htb]
            clear hno hkf htb hpos hk2 hbz
            generalize (L k).1.bytes.extract 0 (min m (L k).1.bytes.size) = d at *
            rcases hcase with ⟨h62, hbit⟩ | h62
            · have k62 : (k : Int) < 62 := by omega
              gi_wp2_with ((refine ⟨trivial, ?_⟩; gi_at_call 126; refine (callsIn_wide.2 (CT.out _)).mono ?_; rintro e w4 ⟨rfl, hg4⟩; have B4 := (Blk.new wr 120 #[.int .i64 (L k).1.kind, .string (L k).1.name, .string (L k).1.bytes, .string (L k).1.to, .int .i64 (L k).1.n]).kept hg4 (by simp); have x0 := B4.cell 0; have x1 := B4.cell 1; have x2 := B4.cell 2; have x3 := B4.cell 3; have x4 := B4.cell 4; simp at x0 x1 x2 x3 x4; have f0 := B4.frozen 0; have f1 := B4.frozen 1; have f2 := B4.frozen 2; have f3 := B4.frozen 3; have f4 := B4.frozen 4; have G4 : Hid (wr.grownBy w4 none) := grown_none (World.grownBy_alloc wr _ none) hg4; clear hg4; have J4 : Hid (J (stTo keep m L k).1 (((((w4.setCell ⟨wr.heap.size, 0, none⟩ (.int .i64 (L k).1.kind)).setCell ⟨wr.heap.size, 1, none⟩ (.string (L k).1.name)).setCell ⟨wr.heap.size, 2, none⟩ (.string d)).setCell ⟨wr.heap.size, 3, none⟩ (.string (L k).1.to)).setCell ⟨wr.heap.size, 4, none⟩ (.int .i64 (L k).1.n))) := HJ.out _ wr _ none JS.out (grown_set_new (grown_set_new (grown_set_new (grown_set_new (grown_set_new G4.out _ (Nat.le_refl _)) _ (Nat.le_refl _)) _ (Nat.le_refl _)) _ (Nat.le_refl _)) _ (Nat.le_refl _)) (fun r e => by cases e); have K4 : Hid (KeepsBut n1 gm W (((((w4.setCell ⟨wr.heap.size, 0, none⟩ (.int .i64 (L k).1.kind)).setCell ⟨wr.heap.size, 1, none⟩ (.string (L k).1.name)).setCell ⟨wr.heap.size, 2, none⟩ (.string d)).setCell ⟨wr.heap.size, 3, none⟩ (.string (L k).1.to)).setCell ⟨wr.heap.size, 4, none⟩ (.int .i64 (L k).1.n))) := KS.out.trans (KeepsBut.of_grown (grown_set_new (grown_set_new (grown_set_new (grown_set_new (grown_set_new G4.out _ (Nat.le_refl _)) _ (Nat.le_refl _)) _ (Nat.le_refl _)) _ (Nat.le_refl _)) _ (Nat.le_refl _)) (by omega)); obtain ⟨fn, tmps, assign, body, hy, hR⟩ := HD.out _ J4.out; clear J4))
              refine hR.mono ?_
              rintro e W3 (⟨rfl, hJ3, hk3⟩ | ⟨rfl, hJx3⟩)
              · gi_wp2
                go_roundw
                case rel => exact ⟨k + 1, by omega, by go_num, by rw [ST.out], by rw [ST.out]; exact hJ3, K4.out.trans hk3⟩
                case measure => simp [intOf]; omega
              · gi_wp2
                refine bodyPost_ret (results_none rfl _ _ _) rfl ?_
                exact ⟨⟨_, rfl⟩, Or.inr ⟨_, hJx3⟩⟩
            · have k62 : ¬ (k : Int) < 62 := by omega
              gi_wp2_with ((refine ⟨trivial, ?_⟩; gi_at_call 126; refine (callsIn_wide.2 (CT.out _)).mono ?_; rintro e w4 ⟨rfl, hg4⟩; have B4 := (Blk.new wr 120 #[.int .i64 (L k).1.kind, .string (L k).1.name, .string (L k).1.bytes, .string (L k).1.to, .int .i64 (L k).1.n]).kept hg4 (by simp); have x0 := B4.cell 0; have x1 := B4.cell 1; have x2 := B4.cell 2; have x3 := B4.cell 3; have x4 := B4.cell 4; simp at x0 x1 x2 x3 x4; have f0 := B4.frozen 0; have f1 := B4.frozen 1; have f2 := B4.frozen 2; have f3 := B4.frozen 3; have f4 := B4.frozen 4; have G4 : Hid (wr.grownBy w4 none) := grown_none (World.grownBy_alloc wr _ none) hg4; clear hg4; have J4 : Hid (J (stTo keep m L k).1 (((((w4.setCell ⟨wr.heap.size, 0, none⟩ (.int .i64 (L k).1.kind)).setCell ⟨wr.heap.size, 1, none⟩ (.string (L k).1.name)).setCell ⟨wr.heap.size, 2, none⟩ (.string d)).setCell ⟨wr.heap.size, 3, none⟩ (.string (L k).1.to)).setCell ⟨wr.heap.size, 4, none⟩ (.int .i64 (L k).1.n))) := HJ.out _ wr _ none JS.out (grown_set_new (grown_set_new (grown_set_new (grown_set_new (grown_set_new G4.out _ (Nat.le_refl _)) _ (Nat.le_refl _)) _ (Nat.le_refl _)) _ (Nat.le_refl _)) _ (Nat.le_refl _)) (fun r e => by cases e); have K4 : Hid (KeepsBut n1 gm W (((((w4.setCell ⟨wr.heap.size, 0, none⟩ (.int .i64 (L k).1.kind)).setCell ⟨wr.heap.size, 1, none⟩ (.string (L k).1.name)).setCell ⟨wr.heap.size, 2, none⟩ (.string d)).setCell ⟨wr.heap.size, 3, none⟩ (.string (L k).1.to)).setCell ⟨wr.heap.size, 4, none⟩ (.int .i64 (L k).1.n))) := KS.out.trans (KeepsBut.of_grown (grown_set_new (grown_set_new (grown_set_new (grown_set_new (grown_set_new G4.out _ (Nat.le_refl _)) _ (Nat.le_refl _)) _ (Nat.le_refl _)) _ (Nat.le_refl _)) _ (Nat.le_refl _)) (by omega)); obtain ⟨fn, tmps, assign, body, hy, hR⟩ := HD.out _ J4.out; clear J4))
              refine hR.mono ?_
              rintro e W3 (⟨rfl, hJ3, hk3⟩ | ⟨rfl, hJx3⟩)
              · gi_wp2
                go_roundw
                case rel => exact ⟨k + 1, by omega, by go_num, by rw [ST.out], by rw [ST.out]; exact hJ3, K4.out.trans hk3⟩
                case measure => simp [intOf]; omega
              · gi_wp2
                refine bodyPost_ret (results_none rfl _ _ _) rfl ?_
                exact ⟨⟨_, rfl⟩, Or.inr ⟨_, hJx3⟩⟩
        · have htf : (stTo keep torn L k).2 = false := by simpa using htb
          have ST : Hid (stTo keep torn L (k + 1) = stTo keep torn L k) := st_done hkf htf
          rw [htf]
          have STf : Hid ((stTo keep torn L k).2 = false) := htf
          clear htb htf hkf
          rcases hcase with ⟨h62, hbit⟩ | h62
          · have k62 : (k : Int) < 62 := by omega
            gi_wp2
            refine ⟨fun _ h => (by cases h), ?_⟩
            gi_wp2
            go_roundw
            case rel => exact ⟨k + 1, by omega, by go_num, by rw [ST.out, STf.out], by rw [ST.out]; exact JA.out _, KS.out.trans (KeepsBut.of_grown (World.grownBy_alloc wr _ none) (by omega))⟩
            case measure => simp [intOf]; omega
          · have k62 : ¬ (k : Int) < 62 := by omega
            gi_wp2
            refine ⟨fun _ h => (by cases h), ?_⟩
            gi_wp2
            go_roundw
            case rel => exact ⟨k + 1, by omega, by go_num, by rw [ST.out, STf.out], by rw [ST.out]; exact JA.out _, KS.out.trans (KeepsBut.of_grown (World.grownBy_alloc wr _ none) (by omega))⟩
            case measure => simp [intOf]; omega
    · obtain rfl : k = len := by omega
      have k1 : ¬ (k : Int) < (k : Int) := by omega
      gi_wp2
      go_end0
      exact ⟨⟨_, rfl⟩, Or.inl JS.out⟩
end Go.Proofs.YtbhmmcelndmijaaGreat
