/-
  The law ShaTurns walked: of whatever 25 numbers it answers true, and nothing that was there turns, where the three tables hold what the program's text lays in them.
-/
import Derived.Test.YtncplpgelfjfjaaDoorEq25
import Derived.Test.YtncplpgelfjfjaaDoorRefTurn
import Derived.Deep.RegionHeld3
namespace Go.Proofs.YtncplpgelfjfjaaDoor
open Go.RowKit
/-- What stands through the law's last statement. -/
def LawS (F : Nat → BitVec 64) (w w' : World) : Prop := Blk w' w.heap.size 23 (arr .u64 25 (lan F)) ∧ Tabs w' ∧ w.grownBy w' none
def LawR (F : Nat → BitVec 64) (w w' : World) : Prop := w'.rangeAt w.heap.size 0 (arr .u64 25 (lan F)).toList ∧ LawS F w w'
theorem LawS.range {F : Nat → BitVec 64} {w w' : World} (h : LawS F w w') : w'.rangeAt w.heap.size 0 (arr .u64 25 (lan F)).toList := by
  intro j v hv
  rw [Nat.zero_add, h.1.cell]
  rwa [Array.getElem?_toList] at hv
theorem LawS.step {F : Nat → BitVec 64} {w a b : World} (h : LawS F w a) (g : a.grownBy b none) : LawS F w b :=
  ⟨h.1.kept g (by simp), h.2.1.kept g (by simp) (by simp) (by simp), grown_none h.2.2 g⟩
theorem LawR.step {F : Nat → BitVec 64} {w a b : World} (h1 : a.rangeAt w.heap.size 0 (arr .u64 25 (lan F)).toList ∧ LawS F w a) (g : a.grownBy b none) : b.rangeAt w.heap.size 0 (arr .u64 25 (lan F)).toList ∧ LawS F w b :=
  ⟨(h1.2.step g).range, h1.2.step g⟩
theorem yields_row {P : Program} {ops : Array Oper} {S : World → Prop} {op : Oper} {a : Act} (hw : Region.wanted op (yielded ops a.tmps) = true) (ty : TypeId) (x : Operand) (ho : op.op = .load ty x)
    (b o : Nat) (hx : a.eval x = .pointer (some ⟨b, o, none⟩)) (cs : Array Value) (d : TypeDesc) (hS : ∀ w, S w → w.rangeAt b o cs.toList)
    (hu : P.underlying ty = some d) (hd : d.isRow = true) (hi : (P.info? ty).map (·.size) = some cs.toList.length) : YieldsIf P ops S op (.agg cs) a := by
  have h := yieldsIf_load_mid hw ty x ho b o hx cs.toList d hS hu hd hi
  rwa [Array.toArray_toList] at h
theorem LawR.tabs {F : Nat → BitVec 64} {w a : World} (h1 : a.rangeAt w.heap.size 0 (arr .u64 25 (lan F)).toList ∧ LawS F w a) : Tabs a := h1.2.2.1
set_option maxRecDepth 100000 in
set_option maxHeartbeats 400000 in
theorem law3_any (F : Nat → BitVec 64) (w : World) (ht : Tabs w) : Calls Tryd.prog 3 #[.agg (arr .u64 25 (lan F))] w fun e w' => e = .returned (.bool true) ∧ w.grownBy w' none := by
  have HT : Hid (Tabs w) := ht
  clear ht
  have hs : (Tryd.prog.info? 23).map (·.size) = some (arr .u64 25 (lan F)).toList.length := by rw [Array.length_toList, arr_size]; exact size23
  have hu : Tryd.prog.underlying 23 = some (.array 25 22) := Tryd.underlying23
  have hq : Tryd.prog.eqGuardType Tryd.prog.depth 23 = false := by kernel_rfl
  have hE := fun w => eq25_in 9998 (lan (turn F)) w
  have hE' := fun w => eq25 (lan (turn F)) w
  have hS : LawS F w (w.alloc (.cells (arr .u64 25 (lan F)) 23)).drew := ⟨(Blk.new w 23 _).drew, HT.out.kept (row := none) (grown_drew (grown_alloc (grown_refl _ _) _)) (by simp) (by simp) (by simp), grown_drew (grown_alloc (grown_refl _ _) _)⟩
  have hR := And.intro hS.range hS
  clear hS HT
  go_enter Tryd.func3, Tryd.ntmps3
  go_wp2
  refine wp_region_held_drew (S := fun w' => w'.rangeAt w.heap.size 0 (arr .u64 25 (lan F)).toList ∧ LawS F w w') (by kernel_rfl) hR (fun hHeld => ?_)
  clear hR
  refine wpAnyH_ready (rs := [0]) (by kernel_rfl) (by simp) ?_
  refine AllReadyH.cons (o := { dst := some 3, op := Op.call { callee := Callee.value (Operand.func 8), args := #[], argTypes := #[] }, type := 4, pos := "law.go:25", after := #[], guard := none }) rfl (fun K hK => ?_) AllReadyH.nil
  go_simp
  refine (awake_any _ hHeld.2.2.1).mono ?_
  rintro e w0 ⟨rfl, hg⟩
  go_wp2_with fail
  refine hK.out _ _ (LawR.step hHeld hg) (fun hHeld0 => ?_)
  clear hK K hHeld hg
  have hHeld := hHeld0
  clear hHeld0
  try simp only [Act.put, List.setIfInBounds_toArray, List.set_cons_zero, List.set_cons_succ]
  refine wpAnyH_take (i := 1) (oi := { dst := some 4, op := Op.move (Operand.tmp 3), type := 4, pos := "law.go:25", after := #[{ on := 0, ground := Ground.data }, { on := 0, ground := Ground.chain }], guard := none }) (v := .bool true) rfl (by kernel_rfl) (by kernel_rfl) (by kernel_rfl) (fun _ _ _ h => h) (Or.inl ⟨by rfl, ?_⟩) hHeld ?_
  · intro w hSw
    go_simp
  try simp only [Act.put, List.setIfInBounds_toArray, List.set_cons_zero, List.set_cons_succ]
  refine wpAnyH_take (i := 2) (oi := { dst := some 5, op := Op.load 23 (Operand.tmp 1), type := 23, pos := "law.go:25", after := #[{ on := 1, ground := Ground.guard }], guard := some (1, true) }) (v := .agg (arr .u64 25 (lan F))) rfl (by kernel_rfl) (by kernel_rfl) (by kernel_rfl) (fun _ _ _ h => h) (yields_row (by rfl) _ _ rfl _ _ rfl (arr .u64 25 (lan F)) _ (fun _ h => h.1) hu rfl hs) hHeld ?_
  try simp only [Act.put, List.setIfInBounds_toArray, List.set_cons_zero, List.set_cons_succ]
  refine wpAnyH_take (i := 4) (oi := { dst := some 7, op := Op.load 23 (Operand.tmp 1), type := 23, pos := "law.go:25", after := #[{ on := 1, ground := Ground.guard }], guard := some (1, true) }) (v := .agg (arr .u64 25 (lan F))) rfl (by kernel_rfl) (by kernel_rfl) (by kernel_rfl) (fun _ _ _ h => h) (yields_row (by rfl) _ _ rfl _ _ rfl (arr .u64 25 (lan F)) _ (fun _ h => h.1) hu rfl hs) hHeld ?_
  try simp only [Act.put, List.setIfInBounds_toArray, List.set_cons_zero, List.set_cons_succ]
  refine wpAnyH_ready (rs := [3]) (by kernel_rfl) (by simp) ?_
  refine AllReadyH.cons (o := { dst := some 6, op := Op.call { callee := Callee.value (Operand.func 9), args := #[Operand.tmp 5], argTypes := #[23] }, type := 23, pos := "law.go:25", after := #[{ on := 2, ground := Ground.data }, { on := 1, ground := Ground.chain }, { on := 1, ground := Ground.guard }], guard := some (1, true) }) rfl (fun K hK => ?_) AllReadyH.nil
  go_simp
  refine (turn_any F _ hHeld.2.2.1).mono ?_
  rintro e w3 ⟨rfl, hg⟩
  go_wp2_with fail
  refine hK.out _ _ (LawR.step hHeld hg) (fun hHeld3 => ?_)
  clear hK K hHeld hg
  have hHeld := hHeld3
  clear hHeld3
  try simp only [Act.put, List.setIfInBounds_toArray, List.set_cons_zero, List.set_cons_succ]
  refine wpAnyH_ready (rs := [5]) (by kernel_rfl) (by simp) ?_
  refine AllReadyH.cons (o := { dst := some 8, op := Op.call { callee := Callee.value (Operand.func 10), args := #[Operand.tmp 7], argTypes := #[23] }, type := 23, pos := "law.go:25", after := #[{ on := 4, ground := Ground.data }, { on := 3, ground := Ground.chain }, { on := 1, ground := Ground.guard }], guard := some (1, true) }) rfl (fun K hK => ?_) AllReadyH.nil
  go_simp
  refine (refTurn_any F _).mono ?_
  rintro e w5 ⟨rfl, hg⟩
  go_wp2_with fail
  refine hK.out _ _ (LawR.step hHeld hg) (fun hHeld5 => ?_)
  clear hK K hHeld hg
  have hHeld := hHeld5
  clear hHeld5
  try simp only [Act.put, List.setIfInBounds_toArray, List.set_cons_zero, List.set_cons_succ]
  refine wpAnyH_take (i := 6) (oi := { dst := some 9, op := Op.binOp BinOp.eql 23 (Operand.tmp 6) (Operand.tmp 8) 23, type := 4, pos := "law.go:25", after := #[{ on := 3, ground := Ground.data }, { on := 5, ground := Ground.data }, { on := 1, ground := Ground.guard }], guard := some (1, true) }) (v := .bool true) rfl (by kernel_rfl) (by kernel_rfl) (by kernel_rfl) (fun _ _ _ h => h) (Or.inl ⟨by rfl, ?_⟩) hHeld ?_
  · intro w hSw
    go_simp
  try simp only [Act.put, List.setIfInBounds_toArray, List.set_cons_zero, List.set_cons_succ]
  refine wpAnyH_take (i := 7) (oi := { dst := some 10, op := Op.pick (Operand.tmp 4) (Operand.tmp 9) (Operand.const (Value.bool false)), type := 4, pos := "law.go:25", after := #[{ on := 1, ground := Ground.data }, { on := 6, ground := Ground.data }], guard := none }) (v := .bool true) rfl (by kernel_rfl) (by kernel_rfl) (by kernel_rfl) (fun _ _ _ h => h) (Or.inl ⟨by rfl, ?_⟩) hHeld ?_
  · intro w hSw
    go_simp
  try simp only [Act.put, List.setIfInBounds_toArray, List.set_cons_zero, List.set_cons_succ]
  refine wpAnyH_take (i := 8) (oi := { dst := some 2, op := Op.assign (Operand.tmp 10), type := 4, pos := "law.go:25", after := #[{ on := 7, ground := Ground.data }, { on := 5, ground := Ground.chain }, { on := 0, ground := Ground.phase }, { on := 1, ground := Ground.phase }, { on := 2, ground := Ground.phase }, { on := 3, ground := Ground.phase }, { on := 4, ground := Ground.phase }, { on := 5, ground := Ground.phase }, { on := 6, ground := Ground.phase }, { on := 7, ground := Ground.phase }], guard := none }) (v := .bool true) rfl (by kernel_rfl) (by kernel_rfl) (by kernel_rfl) (fun _ _ _ h => h) (Or.inl ⟨by rfl, ?_⟩) hHeld ?_
  · intro w hSw
    go_simp
  try simp only [Act.put, List.setIfInBounds_toArray, List.set_cons_zero, List.set_cons_succ]
  refine wpAnyH_done (by kernel_rfl) ?_ _
  go_wp2
  go_ret
  exact ⟨rfl, hHeld.2.2.2⟩

end Go.Proofs.YtncplpgelfjfjaaDoor
