/-
  Maps whose keys are texts, with values of any kind: what one holds as a function; looked up, stored into, deleted from, gone over.
-/
import Derived.Test.YtajoncmmdeahnaaGreatDoorKCb
import Derived.Maps.OwnSet
import Derived.Maps.RangeWalk
import Derived.Maps.Ext
namespace Go.Proofs.YtajoncmmdeahnaaGreatDoor
open Go.RowKit Go.Maps
namespace Mp
def rawR (v : Value) : Option (DataW Value × List MemPlace) := some (.held v, [])
def keyL (s : ByteArray) : Lit := .string s.data.toList
def same (a b : ByteArray) : Bool := a.data.toList == b.data.toList
theorem same_iff (a b : ByteArray) : same a b = true ↔ a = b := by
  unfold same
  rw [beq_iff_eq]
  refine ⟨fun h => ?_, fun h => by rw [h]⟩
  cases a with | mk x => cases b with | mk y => exact congrArg ByteArray.mk (Array.toList_inj.1 h)
def upd {α : Type} (f : ByteArray → Option α) (s : ByteArray) (v : α) : ByteArray → Option α := fun x => if same x s then some v else f x
def del {α : Type} (f : ByteArray → Option α) (s : ByteArray) : ByteArray → Option α := fun x => if same x s then none else f x
def MapR (w : World) (b n : Nat) (f : ByteArray → Option Value) : Prop := ∃ D : DataW Value, w.ownsMap Tryz.prog 9 rawR b n D ∧ (∀ s, has D (keyL s) = (f s).isSome) ∧ ∀ s z, D.atKey (keyL s) (.held z) = .held ((f s).getD z)
theorem law9 : Keyed Tryz.prog 9 := string_keyed Tryz.underlying9
theorem key_ok {s : ByteArray} (h : s.size ≤ maxLen) : keyOf Tryz.prog 9 (.string s) = some (keyL s) := Go.WideMaps.keyOf_string_mk Tryz.underlying9 h
theorem key_ne {x s : ByteArray} (h : same x s = false) : keyL x ≠ keyL s := fun e => by
  have : x.data.toList = s.data.toList := by injection e
  unfold same at h
  rw [this, beq_self_eq_true] at h
  cases h
theorem key_same {x s : ByteArray} (h : same x s = true) : keyL x = keyL s := by rw [(same_iff x s).1 h]
theorem MapR.made (w : World) : MapR (w.alloc (.map #[] 0)) w.heap.size 0 (fun _ => none) := ⟨.map [], World.ownsMap_made w Tryz.prog 9 rawR, fun _ => rfl, fun _ _ => rfl⟩
theorem MapR.lt {w : World} {b n : Nat} {f : ByteArray → Option Value} (h : MapR w b n f) : b < w.heap.size := by
  obtain ⟨D, h1, _⟩ := h
  exact h1.lt
theorem MapR.kept {w w' : World} {b n : Nat} {f : ByteArray → Option Value} {row : Option Nat} (h : MapR w b n f) (hg : w.grownBy w' row) (hn : some b ≠ row) : MapR w' b n f := by
  obtain ⟨D, h1, h2⟩ := h
  exact ⟨D, h1.kept hg hn, h2⟩
theorem MapR.heap {w w' : World} {b n : Nat} {f : ByteArray → Option Value} (h : MapR w b n f) (hg : w'.heap[b]? = w.heap[b]?) : MapR w' b n f := by
  obtain ⟨D, ⟨es, clock, h0, h1⟩, h2⟩ := h
  exact ⟨D, ⟨es, clock, hg.trans h0, h1⟩, h2⟩
theorem MapR.isMap {w : World} {b n : Nat} {f : ByteArray → Option Value} (h : MapR w b n f) : ∃ es clock, w.heap[b]? = some (.map es clock) := by
  obtain ⟨D, ⟨es, clock, h0, _⟩, _⟩ := h
  exact ⟨es, clock, h0⟩
theorem MapR.ne {w : World} {b n : Nat} {f : ByteArray → Option Value} (h : MapR w b n f) {g : Nat} {t : TypeId} {cs : Array Value} (hg : Blk w g t cs) : g ≠ b := by
  obtain ⟨es, clock, hm⟩ := h.isMap
  rintro rfl
  have h' : w.heap[g]? = some (.cells cs t (0, 0)) := hg
  rw [hm] at h'
  cases h'
theorem MapR.more {w : World} {b n m : Nat} {f : ByteArray → Option Value} (h : MapR w b n f) (hn : n ≤ m) : MapR w b m f := by
  obtain ⟨D, h1, h2⟩ := h
  exact ⟨D, h1.mono hn, h2⟩
theorem MapR.congr {w : World} {b n : Nat} {f g : ByteArray → Option Value} (h : MapR w b n f) (e : ∀ s, f s = g s) : MapR w b n g := by
  have : f = g := funext e
  rw [← this]
  exact h
section
variable {w : World} {b n : Nat} {f : ByteArray → Option Value} {t e : TypeId} {z : Value}
theorem MapR.look (h : MapR w b n f) (ht : Tryz.prog.underlying t = some (.map 9 e)) (hz : (zeroValue e).run Tryz.prog w = .ok z w) (s : ByteArray) (hs : s.size ≤ maxLen) : (Instr.lookup t (.map (some b)) (.string s) true).run Tryz.prog w = .ok (.tuple #[(f s).getD z, .bool (f s).isSome]) w := by
  obtain ⟨D, h1, h2, h3⟩ := h
  obtain ⟨v, ps, hr, hv⟩ := h1.look_ok law9 ht hz (zd := .held z) (zp := []) rfl (key_ok hs)
  rw [h3] at hv
  have hv1 : v = (f s).getD z := by
    have h5 : (DataW.held v : DataW Value) = .held ((f s).getD z) := congrArg Prod.fst (Option.some.inj hv)
    injection h5
  subst hv1
  rw [h2] at hr
  exact hr
theorem MapR.look1 (h : MapR w b n f) (ht : Tryz.prog.underlying t = some (.map 9 e)) (hz : (zeroValue e).run Tryz.prog w = .ok z w) (s : ByteArray) (hs : s.size ≤ maxLen) : (Instr.lookup t (.map (some b)) (.string s) false).run Tryz.prog w = .ok ((f s).getD z) w := by
  obtain ⟨D, h1, h2, h3⟩ := h
  obtain ⟨v, ps, hr, hv⟩ := h1.lookup law9 ht hz (zd := .held z) (zp := []) rfl (key_ok hs)
  rw [h3] at hv
  have hv1 : v = (f s).getD z := by
    have h5 : (DataW.held v : DataW Value) = .held ((f s).getD z) := congrArg Prod.fst (Option.some.inj hv)
    injection h5
  subst hv1
  exact hr
theorem MapR.store (h : MapR w b n f) (ht : Tryz.prog.underlying t = some (.map 9 e)) (hn : n < maxLen) (s : ByteArray) (hs : s.size ≤ maxLen) (v : Value) :
    ∃ w', (Instr.mapUpdate t (.map (some b)) (.string s) v).run Tryz.prog w = .ok () w' ∧ MapR w' b (n + 1) (upd f s v) ∧ w.grownBy w' (some b) := by
  obtain ⟨D, h1, h2, h3⟩ := h
  obtain ⟨w', hr, h4, h5⟩ := h1.update law9 ht hn (key_ok hs) (val := v) (d := .held v) (ps := []) rfl
  have kl : WideAt.IsKeyLit (keyL s) := law9.key (key_ok hs)
  refine ⟨w', hr, ⟨_, h4, fun x => ?_, fun x y => ?_⟩, h5⟩
  · unfold upd
    cases hx : same x s with
    | true => rw [key_same hx, has_put_same h1.isMap kl]; rfl
    | false => rw [has_put_other (key_ne hx), h2]; rfl
  · unfold upd
    cases hx : same x s with
    | true => rw [key_same hx, atKey_put_same h1.isMap kl]; rfl
    | false => rw [atKey_put_other (key_ne hx), h3]; rfl
theorem MapR.drop (h : MapR w b n f) (ht : Tryz.prog.underlying t = some (.map 9 e)) (s : ByteArray) (hs : s.size ≤ maxLen) (ty : TypeId) :
    ∃ w', (Builtin.delete_ #[t, 9] ty #[.map (some b), .string s]).run Tryz.prog w = .ok (.tuple #[]) w' ∧ MapR w' b n (del f s) ∧ w.grownBy w' (some b) := by
  obtain ⟨D, h1, h2, h3⟩ := h
  obtain ⟨w', hr, h4, h5⟩ := h1.drop law9 ht (key_ok hs) ty
  refine ⟨w', hr, ⟨_, h4, fun x => ?_, fun x y => ?_⟩, h5.grown⟩
  · unfold del
    cases hx : same x s with
    | true => rw [key_same hx, has_del_same]; rfl
    | false => rw [has_del_other (key_ne hx), h2]; rfl
  · unfold del
    cases hx : same x s with
    | true => rw [key_same hx, atKey_del_same]; rfl
    | false => rw [atKey_del_other (key_ne hx), h3]; rfl
end
section
variable {ops : Array Oper} {rest : List Oper} {o : Oper} {a : Act} {Q : Exit → Act → World → Prop} {w : World} {b n : Nat} {f : ByteArray → Option Value} {t e : TypeId}
theorem at_store (h : MapR w b n f) (ht : Tryz.prog.underlying t = some (.map 9 e)) (hn : n < maxLen) (s : ByteArray) (hs : s.size ≤ maxLen) (v : Value) (m x y : Operand) (hg : o.guard = none) (hop : o.op = Op.mapUpdate t m x y) (hm : a.eval m = .map (some b)) (hx : a.eval x = .string s) (hy : a.eval y = v)
    (hK : ∀ w', MapR w' b (n + 1) (upd f s v) → w.grownBy w' (some b) → wpList Tryz.prog ops Q rest (a.put o.dst undef) w') : wpList Tryz.prog ops Q (o :: rest) a w := by
  refine wpList_plain hg fun K' hK' => ?_
  obtain ⟨w', hrun, r1, r2⟩ := h.store ht hn s hs v
  unfold Oper.wp
  simp [execOp, hop, hm, hx, hy, hrun, Result.andThen]
  exact hK' _ _ (hK w' r1 r2)
theorem at_drop (h : MapR w b n f) (ht : Tryz.prog.underlying t = some (.map 9 e)) (s : ByteArray) (hs : s.size ≤ maxLen) (m x : Operand) (hg : o.guard = none) (hop : o.op = Op.call { callee := Callee.builtin Builtin.delete, args := #[m, x], argTypes := #[t, 9] }) (hm : a.eval m = .map (some b)) (hx : a.eval x = .string s)
    (hK : ∀ w', MapR w' b n (del f s) → w.grownBy w' (some b) → wpList Tryz.prog ops Q rest (a.put o.dst (.tuple #[])) w') : wpList Tryz.prog ops Q (o :: rest) a w := by
  refine wpList_plain hg fun K' hK' => ?_
  obtain ⟨w', hrun, r1, r2⟩ := h.drop ht s hs o.type
  unfold Oper.wp
  simp [execOp, hop, hm, hx, resolve, invoke, builtin, hrun, Result.andThen]
  exact hK' _ _ (hK w' r1 r2)
end
end Mp
end Go.Proofs.YtajoncmmdeahnaaGreatDoor
