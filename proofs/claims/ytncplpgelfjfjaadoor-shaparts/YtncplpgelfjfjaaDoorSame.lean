/-
  The contracts of sha.Same and sha.Collide: whether two texts are the same; whether two that are not have one digest.
-/
import Derived.Test.YtncplpgelfjfjaaDoorSumAll
import Derived.Deep.RegionHeld3
namespace Go.Proofs.YtncplpgelfjfjaaDoor
open Go.RowKit
/-- What the bytes up to a place have unlike. -/
def unlike (a b : ByteArray) : Nat → UInt8
  | 0 => 0
  | k + 1 => unlike a b k ||| (a.data.getD k 0 ^^^ b.data.getD k 0)
theorem unlike_zero (a b : ByteArray) (k : Nat) : unlike a b k = 0 ↔ ∀ i, i < k → a.data.getD i 0 = b.data.getD i 0 := by
  induction k with
  | zero => exact ⟨fun _ i hi => absurd hi (Nat.not_lt_zero _), fun _ => rfl⟩
  | succ k ih =>
    unfold unlike
    rw [UInt8.or_eq_zero_iff, ih, UInt8.xor_eq_zero_iff]
    constructor
    · rintro ⟨h1, h2⟩ i hi
      by_cases e : i = k
      · rw [e]; exact h2
      · exact h1 i (by omega)
    · intro h
      exact ⟨fun i hi => h i (by omega), h k (by omega)⟩
theorem same_iff (a b : ByteArray) (h : a.size = b.size) : unlike a b a.size = 0 ↔ a = b := by
  rw [unlike_zero]
  constructor
  · intro h1
    apply ByteArray.ext
    apply Array.ext
    · exact h
    · intro i hi1 hi2
      have := h1 i hi1
      rwa [Array.getD_eq_getD_getElem?, Array.getD_eq_getD_getElem?, Array.getElem?_eq_getElem hi1, Array.getElem?_eq_getElem hi2] at this
  · intro e i _
    rw [e]
theorem getD_byte (a : ByteArray) (k : Nat) (h : k < a.size) : a.data.getD k 0 = a[k]'h := by
  rw [Array.getD_eq_getD_getElem?, Array.getElem?_eq_getElem h]
  rfl
theorem unlike_step (a b : ByteArray) (k : Nat) (ha : k < a.size) (hb : k < b.size) (x : Nat) (hx : (unlike a b k).toNat = x) (p q : Nat) (hp : (a[k]'ha).toNat = p) (hq : (b[k]'hb).toNat = q) :
    bits .or .u8 (x : Int) (bits .xor .u8 (p : Int) (q : Int)) = ((unlike a b (k + 1)).toNat : Int) := by
  subst hx; subst hp; subst hq
  rw [u8_xor_nat _ _ (UInt8.toNat_lt _) (UInt8.toNat_lt _), ← UInt8.toNat_xor, u8_or_nat _ _ (UInt8.toNat_lt _) (UInt8.toNat_lt _), ← UInt8.toNat_or]
  show _ = ((unlike a b k ||| (a.data.getD k 0 ^^^ b.data.getD k 0)).toNat : Int)
  rw [getD_byte a k ha, getD_byte b k hb]
set_option maxRecDepth 100000 in
set_option maxHeartbeats 400000 in
theorem same_any (a b : ByteArray) (w : World) (ha : a.size ≤ 1000000) : Calls Tryd.prog 21 #[.string a, .string b] w fun e w' => e = .returned (.bool (decide (a = b))) ∧ w.grownBy w' none := by
  have i0 : (a.size : Int) ≤ 1000000 := by omega
  obtain ⟨r, er⟩ : ∃ r, decide (a = b) = r := ⟨_, rfl⟩
  rw [er]
  have ER : Hid (decide (a = b) = r) := er
  clear er
  by_cases hs : a.size = b.size
  · have hs' : (a.size : Int) = (b.size : Int) := by omega
    go_enter Tryd.func21, Tryd.ntmps21
    go_wp2
    go_loopw [5, 14] (fun u i wr => ∃ k : Nat, k ≤ b.size ∧ i = .int .i64 k ∧ u = .int .u8 ((unlike a b k).toNat : Nat) ∧ w.grownBy wr none) (fun _ i _ => b.size - (intOf i).toNat)
    case atStart => exact ⟨0, Nat.zero_le _, rfl, rfl, grown_refl _ _⟩
    case round =>
      obtain ⟨k, hk, rfl, rfl, h3⟩ := hrel
      have H3 : Hid (w.grownBy wr none) := h3
      clear h3
      by_cases hlt : k < b.size
      · have hlt' : k < a.size := by omega
        obtain ⟨x, ex⟩ : ∃ x : Nat, (unlike a b k).toNat = x := ⟨_, rfl⟩
        obtain ⟨p, ep⟩ : ∃ p : Nat, (a[k]'hlt').toNat = p := ⟨_, rfl⟩
        obtain ⟨q, eq⟩ : ∃ q : Nat, (b[k]'hlt).toNat = q := ⟨_, rfl⟩
        have ES : Hid (bits .or .u8 (x : Int) (bits .xor .u8 (p : Int) (q : Int)) = ((unlike a b (k + 1)).toNat : Int)) := unlike_step a b k hlt' hlt x ex p q ep eq
        have k0 : (0 : Int) ≤ (k : Int) := by omega
        have k1 : (k : Int) < (b.size : Int) := by omega
        have k2 : (k : Int) < (a.size : Int) := by omega
        rw [ex]
        clear ex
        go_wp2
        go_region
        go_wp2
        go_roundw
        case rel =>
          refine ⟨k + 1, by omega, by go_num, ?_, grown_drew H3.out⟩
          rw [← ES.out]
        case measure => simp [intOf]; omega
      · have e : k = b.size := by omega
        subst e
        have E0 : ((unlike a b b.size).toNat = 0) ↔ a = b := by
          rw [← same_iff a b hs, hs]
          exact ⟨fun h => UInt8.toNat_inj.1 h, fun h => by rw [h]; rfl⟩
        generalize (unlike a b b.size).toNat = x at *
        by_cases hab : a = b
        · have hx : x = 0 := E0.2 hab
          subst hx
          have er : r = true := by rw [← ER.out]; exact decide_eq_true hab
          clear E0 hab
          go_wp2
          go_ret
          exact ⟨by rw [er]; rfl, H3.out⟩
        · have hx : ¬ x = 0 := fun h => hab (E0.1 h)
          have hx' : ¬ ((x : Int) = 0) := by omega
          have er : r = false := by rw [← ER.out]; exact decide_eq_false hab
          clear E0 hab
          go_wp2
          go_ret
          exact ⟨by rw [er]; simp; exact hx, H3.out⟩
  · have hs' : ¬ ((a.size : Int) = (b.size : Int)) := by omega
    have hd : decide (a = b) = false := by
      apply decide_eq_false
      intro e
      rw [e] at hs
      exact hs rfl
    have er : r = false := by rw [← ER.out]; exact hd
    clear hd
    go_enter Tryd.func21, Tryd.ntmps21
    go_wp2
    go_ret
    exact ⟨by rw [er]; rfl, grown_refl _ _⟩
theorem calls_at {P : Program} {f : FuncId} {args args' : Array Value} {w : World} {Q : Ending → World → Prop} (e : args' = args) (h : Calls P f args w Q) : Calls P f args' w Q := by
  rw [e]
  exact h
/-- What stands through Collide's statement. -/
def CellS (a b : ByteArray) (w w' : World) : Prop := Blk w' w.heap.size 40 #[.string a, .string b] ∧ Tabs w' ∧ w.grownBy w' none
theorem CellS.step {a b : ByteArray} {w w1 w2 : World} (h : w1.cell? ⟨w.heap.size, 0, none⟩ = some (.string a) ∧ w1.cell? ⟨w.heap.size, 1, none⟩ = some (.string b) ∧ CellS a b w w1) (g : w1.grownBy w2 none) :
    w2.cell? ⟨w.heap.size, 0, none⟩ = some (.string a) ∧ w2.cell? ⟨w.heap.size, 1, none⟩ = some (.string b) ∧ CellS a b w w2 := by
  obtain ⟨_, _, h1, h2, h3⟩ := h
  have h4 := h1.kept g (by simp)
  exact ⟨by rw [h4.cell]; rfl, by rw [h4.cell]; rfl, h4, h2.kept g (by simp) (by simp) (by simp), grown_none h3 g⟩
theorem CellS.tabs {a b : ByteArray} {w w1 : World} (h : w1.cell? ⟨w.heap.size, 0, none⟩ = some (.string a) ∧ w1.cell? ⟨w.heap.size, 1, none⟩ = some (.string b) ∧ CellS a b w w1) : Tabs w1 := h.2.2.2.1
theorem CellS.grown {a b : ByteArray} {w w1 : World} (h : w1.cell? ⟨w.heap.size, 0, none⟩ = some (.string a) ∧ w1.cell? ⟨w.heap.size, 1, none⟩ = some (.string b) ∧ CellS a b w w1) : w.grownBy w1 none := h.2.2.2.2
set_option maxRecDepth 100000 in
set_option maxHeartbeats 400000 in
theorem collide_any (a b : ByteArray) (w : World) (ht : Tabs w) (ha : a.size ≤ 1000000) (hb : b.size ≤ 1000000) :
    Calls Tryd.prog 20 #[.agg #[.string a, .string b]] w fun e w' => e = .returned (.bool (!decide (a = b) && decide (digestS a = digestS b))) ∧ w.grownBy w' none := by
  have hS : CellS a b w (w.alloc (.cells #[.string a, .string b] 40)).drew := ⟨(Blk.new w 40 _).drew, ht.kept (row := none) (grown_drew (grown_alloc (grown_refl _ _) _)) (by simp) (by simp) (by simp), grown_drew (grown_alloc (grown_refl _ _) _)⟩
  have hR : (w.alloc (.cells #[.string a, .string b] 40)).drew.cell? ⟨w.heap.size, 0, none⟩ = some (.string a) ∧ (w.alloc (.cells #[.string a, .string b] 40)).drew.cell? ⟨w.heap.size, 1, none⟩ = some (.string b) ∧ CellS a b w (w.alloc (.cells #[.string a, .string b] 40)).drew := ⟨by rw [hS.1.cell]; rfl, by rw [hS.1.cell]; rfl, hS⟩
  clear hS ht
  obtain ⟨D, eD⟩ : ∃ D, digestS a = D := ⟨_, rfl⟩
  obtain ⟨E, eE⟩ : ∃ E, digestS b = E := ⟨_, rfl⟩
  have hD : D.size ≤ 1000000 := by
    rw [← eD]
    show (dstr _).toArray.size ≤ 1000000
    rw [List.size_toArray, dstr_len]
    decide
  have CA : Hid (∀ w, Tabs w → Calls Tryd.prog 11 #[.string a] w fun e w' => e = .returned (.string D) ∧ w.grownBy w' none) := fun w h => by rw [← eD]; exact sumAll_any a w h (by omega)
  have CB : Hid (∀ w, Tabs w → Calls Tryd.prog 11 #[.string b] w fun e w' => e = .returned (.string E) ∧ w.grownBy w' none) := fun w h => by rw [← eE]; exact sumAll_any b w h (by omega)
  rw [eD, eE]
  clear eD eE
  obtain ⟨r, er⟩ : ∃ r, decide (a = b) = r := ⟨_, rfl⟩
  obtain ⟨t, et⟩ : ∃ t, decide (D = E) = t := ⟨_, rfl⟩
  have CS : Hid (∀ w, Calls Tryd.prog 21 #[.string a, .string b] w fun e w' => e = .returned (.bool r) ∧ w.grownBy w' none) := fun w => by rw [← er]; exact same_any a b w ha
  have CT : Hid (∀ w, Calls Tryd.prog 21 #[.string D, .string E] w fun e w' => e = .returned (.bool t) ∧ w.grownBy w' none) := fun w => by rw [← et]; exact same_any D E w hD
  rw [er, et]
  clear er et
  cases r
  · go_enter Tryd.func20, Tryd.ntmps20
    go_wp2
    go_region_held3 (fun w' => w'.cell? ⟨w.heap.size, 0, none⟩ = some (.string a) ∧ w'.cell? ⟨w.heap.size, 1, none⟩ = some (.string b) ∧ CellS a b w w') (first | assumption | exact CellS.step (by assumption) (by assumption)) (first | (go_at_call 21; refine calls_at (args := #[.string a, .string b]) rfl ?_; refine (CS.out _).mono ?_; rintro e w' ⟨rfl, hg⟩) | (go_at_call 21; refine calls_at (args := #[.string D, .string E]) rfl ?_; refine (CT.out _).mono ?_; rintro e w' ⟨rfl, hg⟩) | (go_at_call 11; refine calls_at (args := #[.string a]) rfl ?_; refine (CA.out _ (CellS.tabs (a := a) (b := b) (w := w) (by assumption))).mono ?_; rintro e w' ⟨rfl, hg⟩) | (go_at_call 11; refine calls_at (args := #[.string b]) rfl ?_; refine (CB.out _ (CellS.tabs (a := a) (b := b) (w := w) (by assumption))).mono ?_; rintro e w' ⟨rfl, hg⟩))
    all_goals
      go_wp2
      go_ret
      exact ⟨rfl, CellS.grown (a := a) (b := b) (by assumption)⟩
  · go_enter Tryd.func20, Tryd.ntmps20
    go_wp2
    refine wp_region_held_drew (S := fun w' => w'.cell? ⟨w.heap.size, 0, none⟩ = some (.string a) ∧ w'.cell? ⟨w.heap.size, 1, none⟩ = some (.string b) ∧ CellS a b w w') (by kernel_rfl) hR (fun hHeld => ?_)
    clear hR
    refine wpAnyH_take (i := 0) (oi := { dst := some 3, op := Op.fieldAddr 40 (Operand.tmp 1) 0, type := 0, pos := "sha.go:185", after := #[], guard := none }) (v := .pointer (some ⟨w.heap.size, 0, none⟩)) rfl (by kernel_rfl) (by kernel_rfl) (by kernel_rfl) (fun _ _ _ h => h) (Or.inl ⟨by rfl, ?_⟩) hHeld ?_
    · intro w hSw
      go_simp
    try simp only [Act.put, List.setIfInBounds_toArray, List.set_cons_zero, List.set_cons_succ]
    refine wpAnyH_take (i := 1) (oi := { dst := some 4, op := Op.load 9 (Operand.tmp 3), type := 9, pos := "sha.go:185", after := #[{ on := 0, ground := Ground.data }], guard := none }) (v := .string a) rfl (by kernel_rfl) (by kernel_rfl) (by kernel_rfl) (fun _ _ _ h => h) (Or.inl ⟨by rfl, ?_⟩) hHeld ?_
    · intro w hSw
      go_simp
    try simp only [Act.put, List.setIfInBounds_toArray, List.set_cons_zero, List.set_cons_succ]
    refine wpAnyH_take (i := 2) (oi := { dst := some 5, op := Op.fieldAddr 40 (Operand.tmp 1) 1, type := 0, pos := "sha.go:185", after := #[], guard := none }) (v := .pointer (some ⟨w.heap.size, 1, none⟩)) rfl (by kernel_rfl) (by kernel_rfl) (by kernel_rfl) (fun _ _ _ h => h) (Or.inl ⟨by rfl, ?_⟩) hHeld ?_
    · intro w hSw
      go_simp
    try simp only [Act.put, List.setIfInBounds_toArray, List.set_cons_zero, List.set_cons_succ]
    refine wpAnyH_take (i := 3) (oi := { dst := some 6, op := Op.load 9 (Operand.tmp 5), type := 9, pos := "sha.go:185", after := #[{ on := 2, ground := Ground.data }], guard := none }) (v := .string b) rfl (by kernel_rfl) (by kernel_rfl) (by kernel_rfl) (fun _ _ _ h => h) (Or.inl ⟨by rfl, ?_⟩) hHeld ?_
    · intro w hSw
      go_simp
    try simp only [Act.put, List.setIfInBounds_toArray, List.set_cons_zero, List.set_cons_succ]
    refine wpAnyH_ready (rs := [4]) (by kernel_rfl) (by simp) ?_
    refine AllReadyH.cons (o := { dst := some 7, op := Op.call { callee := Callee.value (Operand.func 21), args := #[Operand.tmp 4, Operand.tmp 6], argTypes := #[9, 9] }, type := 4, pos := "sha.go:185", after := #[{ on := 1, ground := Ground.data }, { on := 3, ground := Ground.data }], guard := none }) rfl (fun K hK => ?_) AllReadyH.nil
    go_simp
    refine (CS.out _).mono ?_
    rintro e w4 ⟨rfl, hg⟩
    go_wp2_with fail
    refine hK.out _ _ (CellS.step hHeld hg) (fun hHeld4 => ?_)
    clear hK K hHeld hg
    have hHeld := hHeld4
    clear hHeld4
    try simp only [Act.put, List.setIfInBounds_toArray, List.set_cons_zero, List.set_cons_succ]
    refine wpAnyH_take (i := 5) (oi := { dst := some 8, op := Op.unOp UnOp.not 4 (Operand.tmp 7), type := 4, pos := "sha.go:185", after := #[{ on := 4, ground := Ground.data }], guard := none }) (v := .bool false) rfl (by kernel_rfl) (by kernel_rfl) (by kernel_rfl) (fun _ _ _ h => h) (Or.inl ⟨by rfl, ?_⟩) hHeld ?_
    · intro w hSw
      go_simp
    try simp only [Act.put, List.setIfInBounds_toArray, List.set_cons_zero, List.set_cons_succ]
    refine wpAnyH_take (i := 6) (oi := { dst := some 9, op := Op.move (Operand.tmp 8), type := 4, pos := "sha.go:185", after := #[{ on := 5, ground := Ground.data }, { on := 4, ground := Ground.chain }], guard := none }) (v := .bool false) rfl (by kernel_rfl) (by kernel_rfl) (by kernel_rfl) (fun _ _ _ h => h) (Or.inl ⟨by rfl, ?_⟩) hHeld ?_
    · intro w hSw
      go_simp
    try simp only [Act.put, List.setIfInBounds_toArray, List.set_cons_zero, List.set_cons_succ]
    refine wpAnyH_take (i := 7) (oi := { dst := some 10, op := Op.fieldAddr 40 (Operand.tmp 1) 0, type := 0, pos := "sha.go:185", after := #[{ on := 6, ground := Ground.guard }], guard := some (6, true) }) (v := undef) rfl (by kernel_rfl) (by kernel_rfl) (by kernel_rfl) (fun _ _ _ h => h) (Or.inr ⟨by rfl, rfl⟩) hHeld ?_
    try simp only [Act.put, List.setIfInBounds_toArray, List.set_cons_zero, List.set_cons_succ]
    refine wpAnyH_take (i := 8) (oi := { dst := some 11, op := Op.load 9 (Operand.tmp 10), type := 9, pos := "sha.go:185", after := #[{ on := 7, ground := Ground.data }, { on := 6, ground := Ground.guard }], guard := some (6, true) }) (v := undef) rfl (by kernel_rfl) (by kernel_rfl) (by kernel_rfl) (fun _ _ _ h => h) (Or.inr ⟨by rfl, rfl⟩) hHeld ?_
    try simp only [Act.put, List.setIfInBounds_toArray, List.set_cons_zero, List.set_cons_succ]
    refine wpAnyH_take (i := 9) (oi := { dst := some 12, op := Op.call { callee := Callee.value (Operand.func 11), args := #[Operand.tmp 11], argTypes := #[9] }, type := 9, pos := "sha.go:185", after := #[{ on := 8, ground := Ground.data }, { on := 6, ground := Ground.chain }, { on := 6, ground := Ground.guard }], guard := some (6, true) }) (v := undef) rfl (by kernel_rfl) (by kernel_rfl) (by kernel_rfl) (fun _ _ _ h => h) (Or.inr ⟨by rfl, rfl⟩) hHeld ?_
    try simp only [Act.put, List.setIfInBounds_toArray, List.set_cons_zero, List.set_cons_succ]
    refine wpAnyH_take (i := 10) (oi := { dst := some 13, op := Op.fieldAddr 40 (Operand.tmp 1) 1, type := 0, pos := "sha.go:185", after := #[{ on := 6, ground := Ground.guard }], guard := some (6, true) }) (v := undef) rfl (by kernel_rfl) (by kernel_rfl) (by kernel_rfl) (fun _ _ _ h => h) (Or.inr ⟨by rfl, rfl⟩) hHeld ?_
    try simp only [Act.put, List.setIfInBounds_toArray, List.set_cons_zero, List.set_cons_succ]
    refine wpAnyH_take (i := 11) (oi := { dst := some 14, op := Op.load 9 (Operand.tmp 13), type := 9, pos := "sha.go:185", after := #[{ on := 10, ground := Ground.data }, { on := 6, ground := Ground.guard }], guard := some (6, true) }) (v := undef) rfl (by kernel_rfl) (by kernel_rfl) (by kernel_rfl) (fun _ _ _ h => h) (Or.inr ⟨by rfl, rfl⟩) hHeld ?_
    try simp only [Act.put, List.setIfInBounds_toArray, List.set_cons_zero, List.set_cons_succ]
    refine wpAnyH_take (i := 12) (oi := { dst := some 15, op := Op.call { callee := Callee.value (Operand.func 11), args := #[Operand.tmp 14], argTypes := #[9] }, type := 9, pos := "sha.go:185", after := #[{ on := 11, ground := Ground.data }, { on := 9, ground := Ground.chain }, { on := 6, ground := Ground.guard }], guard := some (6, true) }) (v := undef) rfl (by kernel_rfl) (by kernel_rfl) (by kernel_rfl) (fun _ _ _ h => h) (Or.inr ⟨by rfl, rfl⟩) hHeld ?_
    try simp only [Act.put, List.setIfInBounds_toArray, List.set_cons_zero, List.set_cons_succ]
    refine wpAnyH_take (i := 13) (oi := { dst := some 16, op := Op.call { callee := Callee.value (Operand.func 21), args := #[Operand.tmp 12, Operand.tmp 15], argTypes := #[9, 9] }, type := 4, pos := "sha.go:185", after := #[{ on := 9, ground := Ground.data }, { on := 12, ground := Ground.data }, { on := 12, ground := Ground.chain }, { on := 6, ground := Ground.guard }], guard := some (6, true) }) (v := undef) rfl (by kernel_rfl) (by kernel_rfl) (by kernel_rfl) (fun _ _ _ h => h) (Or.inr ⟨by rfl, rfl⟩) hHeld ?_
    try simp only [Act.put, List.setIfInBounds_toArray, List.set_cons_zero, List.set_cons_succ]
    refine wpAnyH_take (i := 14) (oi := { dst := some 17, op := Op.pick (Operand.tmp 9) (Operand.tmp 16) (Operand.const (Value.bool false)), type := 4, pos := "sha.go:185", after := #[{ on := 6, ground := Ground.data }, { on := 13, ground := Ground.data }], guard := none }) (v := .bool false) rfl (by kernel_rfl) (by kernel_rfl) (by kernel_rfl) (fun _ _ _ h => h) (Or.inl ⟨by rfl, ?_⟩) hHeld ?_
    · intro w hSw
      go_simp
    try simp only [Act.put, List.setIfInBounds_toArray, List.set_cons_zero, List.set_cons_succ]
    refine wpAnyH_take (i := 15) (oi := { dst := some 2, op := Op.assign (Operand.tmp 17), type := 4, pos := "sha.go:185", after := #[{ on := 14, ground := Ground.data }, { on := 13, ground := Ground.chain }, { on := 0, ground := Ground.phase }, { on := 1, ground := Ground.phase }, { on := 2, ground := Ground.phase }, { on := 3, ground := Ground.phase }, { on := 4, ground := Ground.phase }, { on := 5, ground := Ground.phase }, { on := 6, ground := Ground.phase }, { on := 7, ground := Ground.phase }, { on := 8, ground := Ground.phase }, { on := 9, ground := Ground.phase }, { on := 10, ground := Ground.phase }, { on := 11, ground := Ground.phase }, { on := 12, ground := Ground.phase }, { on := 13, ground := Ground.phase }, { on := 14, ground := Ground.phase }], guard := none }) (v := .bool false) rfl (by kernel_rfl) (by kernel_rfl) (by kernel_rfl) (fun _ _ _ h => h) (Or.inl ⟨by rfl, ?_⟩) hHeld ?_
    · intro w hSw
      go_simp
    try simp only [Act.put, List.setIfInBounds_toArray, List.set_cons_zero, List.set_cons_succ]
    refine wpAnyH_done (by kernel_rfl) ?_ _
    go_wp2
    go_ret
    exact ⟨by cases t <;> rfl, hHeld.2.2.2.2⟩
end Go.Proofs.YtncplpgelfjfjaaDoor
