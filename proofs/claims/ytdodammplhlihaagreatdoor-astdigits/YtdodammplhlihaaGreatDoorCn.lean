/-
  Count: how many nodes a tree has.
-/
import Derived.Test.YtdodammplhlihaaGreatDoorCt
namespace Go.Proofs.YtdodammplhlihaaGreatDoor.Tr
open Go.RowKit Go.Maps Go.Shelf
attribute [local go_sem] Oper.semAt_some
theorem blk_other {W W' : World} {row : Option Nat} {i : Nat} {t : TypeId} {cs : Array Value} (h : Blk W i t cs) (hg : W.grownBy W' row) (hr : ∀ r, row = some r → ∃ o : Obj, W.heap[r]? = some o ∧ o.isCells = false) : Blk W' i t cs := h.kept hg (fun e => by
  obtain ⟨o, ho, hc⟩ := hr i e.symm
  have h' : W.heap[i]? = some (.cells cs t (0, 0)) := h
  rw [h'] at ho
  cases ho
  cases hc)
def CntI (w : World) (N n4 : Nat) {α : Type} (pre : List α) (W : World) : Prop := Blk W (N + 1) 3 #[.int .i64 pre.length] ∧ w.grownBy W none ∧ n4 ≤ W.heap.size
theorem cntI_own {w : World} {N n4 : Nat} {α : Type} (h2 : w.heap.size ≤ n4) : OwnFrom n4 (CntI (α := α) w N n4) := fun s W W' row hs hg hr => by
  obtain ⟨a1, a3, a4⟩ := hs
  refine ⟨blk_other a1 hg (fun r e => (hr r e).2), grown_ob' a3 hg (fun r e => ?_), Nat.le_trans a4 hg.size⟩
  have := (hr r e).1
  omega
def CntA (N : Nat) (v fv : Value) {α : Type} (enc : α → Array Value) (x : α) (a' : Act) (_ : World) : Prop :=
  a' = { tmps := #[v, .pointer (some ⟨N, 0, none⟩), .int .i64 0, .pointer (some ⟨N + 1, 0, none⟩), fv, (enc x)[0]!, (enc x)[1]!, undef, undef, undef], defers := [] }
theorem cntA_own {B N : Nat} {v fv : Value} {α : Type} {enc : α → Array Value} (x : α) (a' : Act) : OwnFrom B (fun (_ : Unit) W => CntA N v fv enc x a' W) := fun _ _ _ _ hs _ _ => hs
/-- A box that holds a node, below it the tree. -/
theorem box_node {w w' : World} {P Q : Nat → Prop} {x : Nd} {q : Value} {t : TypeId} {N : Nat} (hk : KsV w P q x.kids) (hg : w.grownBy w' none) (hm : ∀ b, b < w.heap.size → Q b) (hB : Blk w' N t #[.int .i64 x.kind, .int .i64 x.ty, .string x.txt, .int .i64 x.num, q]) : NdAt w' Q N 0 x :=
  NdAt.mk (by rw [hB.cell]; rfl) (by rw [hB.cell]; rfl) (by rw [hB.cell]; rfl) (by rw [hB.cell]; rfl) (by rw [hB.cell]; rfl) (hk.keptP (Kp.of_none P hg) (fun b _ hb => hm b hb))
set_option maxRecDepth 100000 in
set_option maxHeartbeats 2000000 in
theorem countT_any (P0 : Nat → Prop) (x : Nd) (hok : x.ok) (hN : x.cnt ≤ 100000) (v : Value) (w : World) (hv : NdV w P0 v x) : Calls Tryz.prog 26 #[v] w fun e w' => e = .returned (.int .i64 x.cnt) ∧ w.grownBy w' none := by
  obtain ⟨q, rfl, hk⟩ := hv
  obtain ⟨p, cap, eq, _⟩ := hk.form
  have HK := hid hk
  clear hk
  subst eq
  refine (callsIn_wide (n := 5)).1 ?_
  refine callsIn_of_wp_marks Tryz.func26 rfl trivial ?_ rfl
  simp only [Tryz.ntmps26, List.size_toArray, List.length_cons, List.length_nil, Nat.reduceAdd, Nat.reduceSub, Array.replicate_succ, Array.replicate_zero, List.push_toArray, List.append_toArray, List.nil_append, List.cons_append]
  refine wpIn_wide.2 ?_
  go_wp2_with (go_at_call 46; refine (spots_mk _ _).mono ?_; rintro e w3 ⟨rfl, hw3⟩; have hw4 := hw3.symm; clear hw3; subst hw4)
  have B0 := ((Blk.new w 33 #[.int .i64 x.kind, .int .i64 x.ty, .string x.txt, .int .i64 x.num, .slice p x.kids.length cap]).alloc (.cells #[.int .i64 0] 3)).alloc (.cells #[.pointer (some ⟨w.heap.size, 0, none⟩)] 82)
  have B1 := (Blk.new (w.alloc (.cells #[.int .i64 x.kind, .int .i64 x.ty, .string x.txt, .int .i64 x.num, .slice p x.kids.length cap] 33)) 3 #[.int .i64 0]).alloc (.cells #[.pointer (some ⟨w.heap.size, 0, none⟩)] 82)
  have B2 := Blk.new ((w.alloc (.cells #[.int .i64 x.kind, .int .i64 x.ty, .string x.txt, .int .i64 x.num, .slice p x.kids.length cap] 33)).alloc (.cells #[.int .i64 0] 3)) 82 #[.pointer (some ⟨w.heap.size, 0, none⟩)]
  have G3 : w.grownBy (((w.alloc (.cells #[.int .i64 x.kind, .int .i64 x.ty, .string x.txt, .int .i64 x.num, .slice p x.kids.length cap] 33)).alloc (.cells #[.int .i64 0] 3)).alloc (.cells #[.pointer (some ⟨w.heap.size, 0, none⟩)] 82)) none := grown_alloc (grown_alloc (grown_alloc (grown_refl w none) _) _) _
  have S3 : (((w.alloc (.cells #[.int .i64 x.kind, .int .i64 x.ty, .string x.txt, .int .i64 x.num, .slice p x.kids.length cap] 33)).alloc (.cells #[.int .i64 0] 3)).alloc (.cells #[.pointer (some ⟨w.heap.size, 0, none⟩)] 82)).heap.size = w.heap.size + 3 := by simp
  simp only [World.size_alloc] at B1 B2
  generalize ((w.alloc (.cells #[.int .i64 x.kind, .int .i64 x.ty, .string x.txt, .int .i64 x.num, .slice p x.kids.length cap] 33)).alloc (.cells #[.int .i64 0] 3)).alloc (.cells #[.pointer (some ⟨w.heap.size, 0, none⟩)] 82) = w3 at *
  have at3 : NdAt w3 (fun b => b ≤ w.heap.size ∨ b = w.heap.size + 2) w.heap.size 0 x := box_node HK.out G3 (fun b hb => Or.inl (by omega)) B0
  have L3 := spN_len w3 w.heap.size 0 x
  refine (wpIn_wide (n := 5)).1 ?_
  refine wpIn_rangeFunc_ownH rfl (by decide) (gf := 64) (lb := #[.pointer (some ⟨w.heap.size + 1 + 1, 0, none⟩)]) rfl trivial (enters_of Tryz.func64 (by kernel_rfl) rfl)
    (spots_stops (w.heap.size + 1 + 1) w.heap.size (fun b => b ≤ w.heap.size ∨ b = w.heap.size + 2) w3 x hok (by rw [L3]; exact hN) (fun b hb => by omega) (Or.inr (by omega)) (Or.inl (by omega)) (by rw [B2.cell]; rfl) at3)
    (fun h k => KQ.trans h k) (fun W l o o' hl ho _ _ => ?hkb) (Below.refl _ _) (fun _ => rfl) (CntI w w.heap.size w3.heap.size) (fun _ _ _ => False) (cntI_own (by omega)) (fun _ _ _ _ _ h => h.elim) ?hstart (CntA w.heap.size (.agg #[.int .i64 x.kind, .int .i64 x.ty, .string x.txt, .int .i64 x.num, .slice p x.kids.length cap]) (.func (.func 64) #[] #[.pointer (some ⟨w.heap.size + 1 + 1, 0, none⟩)]) (fun i => #[Value.int .i64 i.val, .pointer (some ⟨((spN w3 w.heap.size 0 x)[i.val]).g, ((spN w3 w.heap.size 0 x)[i.val]).o, none⟩)])) (fun x a' => cntA_own x a') ?assign ?body ?done ?stop
  case hkb => exact fun b hb => World.putObj_heap_other (by omega)
  case hstart => exact ⟨B1, G3, Nat.le_refl _⟩
  case assign =>
    rintro l pre y W K hi hK
    gi_wp2
    exact hK _ _ ((KeepsOthers.refl W).from _) (KQ.refl _ _) hi rfl
  case body =>
    rintro l pre y a' W hl ⟨r, hr⟩ ⟨i1, i2, i3⟩ rfl hlt
    have c0 : W.cell? ⟨w.heap.size + 1, 0, none⟩ = some (.int .i64 pre.length) := by rw [i1.cell]; rfl
    have f0 := i1.frozen 0
    have b0 : (pre.length : Int) < 100000 := by omega
    have I1 := hid i1
    have I2 := hid i2
    clear i1 i2 hr
    gi_wp2
    refine ⟨(KeepsOthers.setCell _ _ _).from _, ?_, ?_, ?_, ?_⟩
    · exact fun b hb => heap_setCell_other W ⟨w.heap.size + 1, 0, none⟩ b _ (by show b ≠ w.heap.size + 1; omega)
    · rw [List.length_append]
      exact I1.out.set 0 _
    · exact grown_set_new I2.out _ (by simp)
    · simpa [World.setCell] using i3
  case done =>
    rintro D xs W hD rfl ⟨i1, i2, i3⟩ hK
    have c0 : W.cell? ⟨w.heap.size + 1, 0, none⟩ = some (.int .i64 (List.finRange (spN w3 w.heap.size 0 x).length).length) := by rw [i1.cell]; rfl
    rw [List.length_finRange, L3] at c0
    have I2 := hid i2
    have KD := hid hK
    clear i1 i2 hK
    go_wp2_with fail
    refine ⟨by simp, .inl ⟨_, _, rfl, run_takeDeferred KD.out, ?_⟩⟩
    refine ⟨_, results_tmp rfl _ _ _, rfl, ?_⟩
    exact grown_ob' I2.out (grownBy_putObj' _ D (.deferred none)) (fun r e => by cases e; omega)
  case stop =>
    rintro D c pre W _ _ h _
    exact h.elim
end Go.Proofs.YtdodammplhlihaaGreatDoor.Tr
