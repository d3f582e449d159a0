/-
  slices.Insert and slices.Delete at rows of one's own, by the library's own contracts.
-/
import Derived.Test.YtbhmmcelndmijaaGreatMem
import Derived.Test.YtbhmmcelndmijaaGreatProg
import Derived.Shelf.Spec.SlicesInsertGrow
import Derived.Shelf.Slices.Delete
import Derived.Laws.OwnMore
import Derived.Lib.RowBridge
import Derived.KernelRfl
namespace Go.Proofs.YtbhmmcelndmijaaGreat.Sl
open Go.RowKit Go.Shelf Go.Sort
def renS : Ren := { f := fun n => if n = 22 then 73 else if n = 29 then 90 else if n = 30 then 91 else if n = 36 then 112 else if n = 17 then 127 else if n = 24 then 65 else if n = 21 then 93 else if n = 27 then 94 else if n = 28 then 95 else if n = 35 then 113 else if n = 39 then 128 else n, t := fun n => if n = 24 then 48 else if n = 22 then 44 else n, g := fun n => n }
theorem laysI : Lays2.n22 Tryz.prog renS := by
  constructor <;> first | kernel_rfl | (intro w; kernel_rfl)
theorem laysN : Lays2.n21 Tryz.prog renS := by
  constructor <;> first | kernel_rfl | (intro w; kernel_rfl)
theorem laysD : Lays2.n24 Tryz.prog renS := by
  constructor <;> first | kernel_rfl | (intro w; kernel_rfl)
/-- Cells put one behind the other. -/
def setM (cs : Array Value) : Nat → List Value → Array Value
  | _, [] => cs
  | o, v :: r => setM (cs.setIfInBounds o v) (o + 1) r
theorem setM_size : ∀ (vs : List Value) (o : Nat) (cs : Array Value), (setM cs o vs).size = cs.size
  | [], _, _ => rfl
  | v :: r, o, cs => by rw [setM, setM_size r]; simp
theorem setM_list : ∀ (vs : List Value) (o : Nat) (cs : Array Value), o + vs.length ≤ cs.size → (setM cs o vs).toList = cs.toList.take o ++ vs ++ cs.toList.drop (o + vs.length)
  | [], o, cs, _ => by simp [setM]
  | v :: r, o, cs, h => by
    rw [List.length_cons] at h
    rw [setM, setM_list r (o + 1) _ (by simp; omega), Array.toList_setIfInBounds]
    have ho : o < cs.toList.length := by simp; omega
    rw [List.set_eq_take_append_cons_drop, if_pos ho, List.take_append, List.drop_append]
    have e1 : (cs.toList.take o).length = o := by rw [List.length_take]; omega
    rw [e1, List.take_of_length_le (by omega), show o + 1 - o = 0 + 1 by omega, List.take_succ_cons, List.take_zero, List.drop_eq_nil_of_le (by omega), List.nil_append, show o + 1 + r.length - o = r.length + 1 by omega, List.drop_succ_cons, List.drop_drop, List.length_cons]
    rw [show o + 1 + r.length = o + (r.length + 1) by omega]
    simp
theorem blk_setM {g : Nat} {t : TypeId} : ∀ (vs : List Value) (o : Nat) (w : World) (cs : Array Value), Blk w g t cs → Blk (w.setCells g o vs) g t (setM cs o vs)
  | [], _, _, _, h => h
  | v :: r, o, _, _, h => blk_setM r (o + 1) _ _ (h.set o v)
theorem grown_setM {g : Nat} : ∀ (vs : List Value) (o : Nat) (w0 w : World), w0.grownBy w (some g) → w0.grownBy (w.setCells g o vs) (some g)
  | [], _, _, _, h => h
  | v :: r, o, _, _, h => grown_setM r (o + 1) _ _ (grown_set h o v)
theorem grown_setM_new {g : Nat} {row : Option Nat} : ∀ (vs : List Value) (o : Nat) (w0 w : World), w0.heap.size ≤ g → w0.grownBy w row → w0.grownBy (w.setCells g o vs) row
  | [], _, _, _, _, h => h
  | _ :: r, o, _, _, hg, h => grown_setM_new r (o + 1) _ _ hg (grown_set_new h _ hg)
theorem owns_of_blk {w : World} {base g cap n : Nat} {t : TypeId} {cur : Array Value} {xs : List Value} (hb : Blk w g t cur) (hg : base ≤ g) (hn : n ≤ cap) (hc : cap ≤ maxLen) (hs : cur.size = cap) (hx : cur.toList.take n = xs) (hl : xs.length = n) : w.ownsRow base t 1 (.slice (some ⟨g, 0, none⟩) n cap) n xs :=
  ⟨by rw [hl, Nat.mul_one], Or.inr ⟨g, cap, cur, rfl, hg, hb, hn, hc, by rw [hs, Nat.mul_one], by rw [Nat.mul_one]; exact hx⟩⟩
theorem owns_cases {w : World} {base n : Nat} {t : TypeId} {v : Value} {xs : List Value} (h : w.ownsRow base t 1 v n xs) : (v = .slice none 0 0 ∧ n = 0 ∧ xs = []) ∨ ∃ g cap cur, v = .slice (some ⟨g, 0, none⟩) n cap ∧ base ≤ g ∧ Blk w g t cur ∧ n ≤ cap ∧ cap ≤ maxLen ∧ cur.size = cap ∧ cur.toList.take n = xs ∧ xs.length = n := by
  have hl := h.1
  rw [Nat.mul_one] at hl
  rcases h.2 with ⟨rfl, rfl⟩ | ⟨g, cap, cur, rfl, h1, h2, h3, h4, h5, h6⟩
  · exact Or.inl ⟨rfl, rfl, List.eq_nil_of_length_eq_zero hl⟩
  · rw [Nat.mul_one] at h5 h6
    exact Or.inr ⟨g, cap, cur, rfl, h1, h2, h3, h4, h5, h6, hl⟩
theorem Blk.shape {w : World} {g : Nat} {t : TypeId} {cur : Array Value} (h : Blk w g t cur) : w.shape? g = some (t, cur.size) := by
  have : w.heap[g]? = some (.cells cur t (0, 0)) := h
  unfold World.shape?
  rw [this]
theorem take_get {cur : Array Value} {n : Nat} {xs : List Value} (hx : cur.toList.take n = xs) {j : Nat} {v : Value} (h : xs[j]? = some v) : cur[j]? = some v := by
  rw [← hx, List.getElem?_take] at h
  split at h
  · rw [← Array.getElem?_toList]; exact h
  · cases h
theorem zeros_size (z : Value) (hz : z.cells.size = 1) (n : Nat) : (Builtin.zeroCells z.cells n).size = n := by
  unfold Builtin.zeroCells
  rw [Array.size_map, Array.size_range, hz, Nat.mul_one]
/-- What an insertion leaves. -/
def InsPost (T : TypeId) (base : Nat) (v : Value) (zs : List Value) (w : World) (e : Ending) (w' : World) : Prop := ∃ v', e = .returned v' ∧ w'.ownsRow base T 1 v' zs.length zs ∧ w.grownBy w' v.ownBlock ∧ (v'.ownBlock = v.ownBlock ∨ v'.ownBlock = some w.heap.size)
theorem insstring_any (base i vb : Nat) (v : Value) (xs ys : List Value) (w : World) (h : w.ownsRow base 9 1 v xs.length xs) (hx1 : ∀ u ∈ xs, u.oneCell' = true) (hi : i ≤ xs.length) (hlen : xs.length ≤ 1000000) (hu : Blk w vb 9 ys.toArray) (hy1 : ∀ u ∈ ys, u.oneCell' = true) (hy0 : 0 < ys.length) (hyl : ys.length ≤ 1000000) (vc : Nat) (hne : v.ownBlock ≠ some vb) (hb : base ≤ w.heap.size) :
    Calls Tryz.prog 73 #[v, .int .i64 i, .slice (some ⟨vb, 0, none⟩) ys.length vc] w (InsPost 9 base v (xs.take i ++ ys ++ xs.drop i) w) := by
  have hvs : ∀ j u, ys[j]? = some u → w.cell? ⟨vb, 0 + j, none⟩ = some u := fun j u hj => by
    rw [Nat.zero_add, hu.cell j]
    simpa using hj
  have hzl : (xs.take i ++ ys ++ xs.drop i).length = xs.length + ys.length := by
    rw [List.length_append, List.length_append, List.length_take, List.length_drop]
    omega
  rcases owns_cases h with ⟨rfl, h0, hxs⟩ | ⟨g, cap, cur, rfl, hg, hB, hn, hc, hs, hx, hl⟩
  · have hi0 : i = 0 := by omega
    subst hi0
    subst hxs
    have C := Any2.slices_Insert_string_end_grow (L := laysI) none 0 0 vb 0 ys.length vc [] ys w hy0 (Nat.le_refl _) (by omega) (by omega) rfl rfl (fun _ => rfl) (fun _ e => by cases e) hvs hy1
    refine C.mono fun e w' ⟨he, hw⟩ => ⟨_, he, ?_, ?_, Or.inr rfl⟩
    · rw [hw, hzl]
      have hcap := grownCap_ge w (0 + ys.length) 0 (renS.t 9)
      have hcap2 := grownCap_le_maxLen w (0 + ys.length) 0 (renS.t 9) (by unfold maxLen; omega)
      generalize grownCap w (0 + ys.length) 0 (renS.t 9) = c at *
      have e0 : ([] : List Value).length + ys.length = 0 + ys.length := rfl
      rw [e0]
      refine owns_of_blk (Blk.new w.drew 9 _) (by show base ≤ w.drew.heap.size; exact hb) hcap hcap2 ?_ ?_ ?_
      · rw [Array.size_append, zeros_size _ rfl]
        simp
        omega
      · simp
      · simp
    · rw [hw]
      exact grown_alloc (grown_drew (grown_refl _ _)) _
  · have hcl : xs.length ≤ cur.toList.length := by simp; omega
    have hcells : ∀ j u, xs[j]? = some u → w.cell? ⟨g, 0 + j, none⟩ = some u := fun j u hj => by
      rw [Nat.zero_add, hB.cell j]
      exact take_get hx hj
    have hne' : vb ≠ g := fun e => hne (by rw [e]; rfl)
    by_cases hroom : xs.length + ys.length ≤ cap
    · by_cases hlt : i < xs.length
      · have C := Any2.slices_Insert_string_shift (L := laysI) g 0 xs.length cap i vb 0 ys.length vc xs ys w hlt hy0 hroom (by unfold maxLen at hc; omega) hne' rfl rfl hcells (fun j hj => by rw [Nat.zero_add, hB.cell j, Array.getElem?_eq_getElem (by omega)]; rfl) (fun j _ => hB.frozen _) hvs hx1 hy1 9 9 ys.toArray.size cur.size (Blk.shape hu) (Blk.shape hB) (by omega) (hu.frozen _) (hu.frozen _)
        refine C.mono fun e w' ⟨he, hw⟩ => ⟨_, he, ?_, ?_, Or.inl rfl⟩
        · rw [hw, hzl]
          have B2 := blk_setM ys (0 + i) _ _ (blk_setM (xs.drop i) (0 + (i + ys.length)) _ _ hB.drew)
          have hdl : (xs.drop i).length = xs.length - i := List.length_drop
          refine owns_of_blk B2 hg hroom hc (by rw [setM_size, setM_size, hs]) ?_ hzl
          rw [setM_list _ _ _ (by rw [setM_size]; omega), setM_list _ _ _ (by omega)]
          rw [Nat.zero_add, Nat.zero_add]
          have hc2 : cur.toList.length = cap := by simpa using hs
          have e1 : cur.toList.take i = xs.take i := by rw [← hx, List.take_take, Nat.min_eq_left (by omega)]
          have l1 : (cur.toList.take (i + ys.length)).length = i + ys.length := by rw [List.length_take]; omega
          have e2 : (cur.toList.take (i + ys.length) ++ xs.drop i ++ cur.toList.drop (i + ys.length + (xs.drop i).length)).take i = xs.take i := by
            rw [List.append_assoc, List.take_append, l1, show i - (i + ys.length) = 0 by omega, List.take_zero, List.append_nil, List.take_take, Nat.min_eq_left (by omega), e1]
          have e3 : (cur.toList.take (i + ys.length) ++ xs.drop i ++ cur.toList.drop (i + ys.length + (xs.drop i).length)).drop (i + ys.length) = xs.drop i ++ cur.toList.drop (i + ys.length + (xs.drop i).length) := by
            rw [List.append_assoc, List.drop_append, l1, Nat.sub_self, List.drop_zero, List.drop_eq_nil_of_le (by omega), List.nil_append]
          rw [e2, e3, ← List.append_assoc, List.take_append, hzl, Nat.sub_self, List.take_zero, List.append_nil, List.take_of_length_le (by rw [hzl]; exact Nat.le_refl _)]
        · rw [hw]
          exact grown_setM _ _ _ _ (grown_setM _ _ _ _ (grown_drew (grown_refl _ _)))
      · have hie : i = xs.length := by omega
        subst hie
        have C := Any2.slices_Insert_string_end_room (L := laysI) g 0 xs.length cap vb 0 ys.length vc ys w hy0 hroom (by unfold maxLen at hc; omega) rfl (fun j hj => by rw [hB.cell, Array.getElem?_eq_getElem (by omega)]; rfl) (fun j _ => hB.frozen _) hvs hy1
        refine C.mono fun e w' ⟨he, hw⟩ => ⟨_, he, ?_, ?_, Or.inl rfl⟩
        · rw [hw, hzl]
          have B2 := blk_setM ys (0 + xs.length) _ _ hB
          refine owns_of_blk B2 hg hroom hc (by rw [setM_size, hs]) ?_ hzl
          rw [setM_list _ _ _ (by omega), Nat.zero_add, hx, List.take_length, List.drop_length, List.append_nil, List.take_append, List.length_append, Nat.sub_self, List.take_zero, List.append_nil, List.take_of_length_le (by rw [List.length_append]; exact Nat.le_refl _)]
        · rw [hw]
          exact grown_setM _ _ _ _ (grown_refl _ _)
    · by_cases hlt : i < xs.length
      · have C := Any2.slices_Insert_string_grow (L := laysI) g 0 xs.length cap i vb 0 ys.length vc xs ys w hlt hy0 hn (by omega) (by omega) rfl rfl hcells hvs hx1 hy1
        refine C.mono fun e w' ⟨he, hw⟩ => ⟨_, he, ?_, ?_, Or.inr rfl⟩
        · rw [hw, hzl]
          have hcap := grownCap_ge w (xs.length + ys.length) cap (renS.t 9)
          have hcap2 := grownCap_le_maxLen w (xs.length + ys.length) cap (renS.t 9) (by unfold maxLen; omega)
          generalize grownCap w (xs.length + ys.length) cap (renS.t 9) = c at *
          have hdl : (xs.drop i).length = xs.length - i := List.length_drop
          have htl : (xs.take i).length = i := by rw [List.length_take]; omega
          have hz1 := zeros_size (Value.string ⟨#[]⟩) rfl (xs.length + ys.length - i)
          have hz2 := zeros_size (Value.string ⟨#[]⟩) rfl (c - (xs.length + ys.length))
          obtain ⟨Z, hZ⟩ : ∃ Z, Z = (xs.take i).toArray ++ Builtin.zeroCells (Value.string ⟨#[]⟩).cells (xs.length + ys.length - i) ++ Builtin.zeroCells (Value.string ⟨#[]⟩).cells (c - (xs.length + ys.length)) := ⟨_, rfl⟩
          have hZs : Z.size = c := by rw [hZ, Array.size_append, Array.size_append, hz1, hz2]; simp; omega
          have hZt : Z.toList.take i = xs.take i := by
            rw [hZ, Array.toList_append, Array.toList_append, List.append_assoc, List.take_append, htl, Nat.sub_self, List.take_zero, List.append_nil, List.take_of_length_le (by show (xs.take i).length ≤ i; omega)]
          have B2 := blk_setM (xs.drop i) (i + ys.length) _ _ (Blk.drew (blk_setM ys i _ _ (Blk.drew (Blk.new w 9 Z))))
          rw [hZ] at B2
          refine owns_of_blk B2 hb hcap hcap2 (by rw [setM_size, setM_size, ← hZ, hZs]) ?_ hzl
          rw [← hZ]
          have hZl : Z.toList.length = c := by simpa using hZs
          rw [setM_list _ _ _ (by rw [setM_size]; omega), setM_list _ _ _ (by omega), hZt]
          have l1 : (xs.take i ++ ys).length = i + ys.length := by rw [List.length_append]; omega
          have e2 : (xs.take i ++ ys ++ Z.toList.drop (i + ys.length)).take (i + ys.length) = xs.take i ++ ys := by
            rw [List.take_append, l1, Nat.sub_self, List.take_zero, List.append_nil, List.take_of_length_le (by omega)]
          rw [e2, List.take_append, hzl, Nat.sub_self, List.take_zero, List.append_nil, List.take_of_length_le (by rw [hzl]; exact Nat.le_refl _)]
        · rw [hw]
          exact grown_setM_new _ _ _ _ (Nat.le_refl _) (grown_drew (grown_setM_new _ _ _ _ (Nat.le_refl _) (grown_drew (grown_alloc (grown_refl _ _) _))))
      · have hie : i = xs.length := by omega
        subst hie
        have C := Any2.slices_Insert_string_end_grow (L := laysI) (some ⟨g, 0, none⟩) xs.length cap vb 0 ys.length vc xs ys w hy0 hn (by omega) (by omega) rfl rfl (fun e => by cases e) (fun a ea j u hj => by cases ea; have := hcells j u hj; rw [Addr.add_lit]; exact this) hvs hy1
        refine C.mono fun e w' ⟨he, hw⟩ => ⟨_, he, ?_, ?_, Or.inr rfl⟩
        · rw [hw, hzl]
          have hcap := grownCap_ge w (xs.length + ys.length) cap (renS.t 9)
          have hcap2 := grownCap_le_maxLen w (xs.length + ys.length) cap (renS.t 9) (by unfold maxLen; omega)
          generalize grownCap w (xs.length + ys.length) cap (renS.t 9) = c at *
          refine owns_of_blk (Blk.new w.drew 9 _) (by show base ≤ w.drew.heap.size; exact hb) hcap hcap2 ?_ ?_ hzl
          · rw [Array.size_append, zeros_size _ rfl]
            simp
            omega
          · rw [List.take_length, List.drop_length, List.append_nil, Array.toList_append]
            show ((xs ++ ys).toArray.toList ++ _).take _ = _
            rw [List.take_append, show (xs ++ ys).toArray.toList = xs ++ ys from rfl, List.length_append, Nat.sub_self, List.take_zero, List.append_nil, List.take_of_length_le (by rw [List.length_append]; exact Nat.le_refl _)]
        · rw [hw]
          exact grown_alloc (grown_drew (grown_refl _ _)) _
theorem insint_any (base i vb : Nat) (v : Value) (xs ys : List Value) (w : World) (h : w.ownsRow base 3 1 v xs.length xs) (hx1 : ∀ u ∈ xs, u.oneCell' = true) (hi : i ≤ xs.length) (hlen : xs.length ≤ 1000000) (hu : Blk w vb 3 ys.toArray) (hy1 : ∀ u ∈ ys, u.oneCell' = true) (hy0 : 0 < ys.length) (hyl : ys.length ≤ 1000000) (vc : Nat) (hne : v.ownBlock ≠ some vb) (hb : base ≤ w.heap.size) :
    Calls Tryz.prog 93 #[v, .int .i64 i, .slice (some ⟨vb, 0, none⟩) ys.length vc] w (InsPost 3 base v (xs.take i ++ ys ++ xs.drop i) w) := by
  have hvs : ∀ j u, ys[j]? = some u → w.cell? ⟨vb, 0 + j, none⟩ = some u := fun j u hj => by
    rw [Nat.zero_add, hu.cell j]
    simpa using hj
  have hzl : (xs.take i ++ ys ++ xs.drop i).length = xs.length + ys.length := by
    rw [List.length_append, List.length_append, List.length_take, List.length_drop]
    omega
  rcases owns_cases h with ⟨rfl, h0, hxs⟩ | ⟨g, cap, cur, rfl, hg, hB, hn, hc, hs, hx, hl⟩
  · have hi0 : i = 0 := by omega
    subst hi0
    subst hxs
    have C := Any2.slices_Insert_int_end_grow (L := laysN) none 0 0 vb 0 ys.length vc [] ys w hy0 (Nat.le_refl _) (by omega) (by omega) rfl rfl (fun _ => rfl) (fun _ e => by cases e) hvs hy1
    refine C.mono fun e w' ⟨he, hw⟩ => ⟨_, he, ?_, ?_, Or.inr rfl⟩
    · rw [hw, hzl]
      have hcap := grownCap_ge w (0 + ys.length) 0 (renS.t 3)
      have hcap2 := grownCap_le_maxLen w (0 + ys.length) 0 (renS.t 3) (by unfold maxLen; omega)
      generalize grownCap w (0 + ys.length) 0 (renS.t 3) = c at *
      have e0 : ([] : List Value).length + ys.length = 0 + ys.length := rfl
      rw [e0]
      refine owns_of_blk (Blk.new w.drew 3 _) (by show base ≤ w.drew.heap.size; exact hb) hcap hcap2 ?_ ?_ ?_
      · rw [Array.size_append, zeros_size _ rfl]
        simp
        omega
      · simp
      · simp
    · rw [hw]
      exact grown_alloc (grown_drew (grown_refl _ _)) _
  · have hcl : xs.length ≤ cur.toList.length := by simp; omega
    have hcells : ∀ j u, xs[j]? = some u → w.cell? ⟨g, 0 + j, none⟩ = some u := fun j u hj => by
      rw [Nat.zero_add, hB.cell j]
      exact take_get hx hj
    have hne' : vb ≠ g := fun e => hne (by rw [e]; rfl)
    by_cases hroom : xs.length + ys.length ≤ cap
    · by_cases hlt : i < xs.length
      · have C := Any2.slices_Insert_int_shift (L := laysN) g 0 xs.length cap i vb 0 ys.length vc xs ys w hlt hy0 hroom (by unfold maxLen at hc; omega) hne' rfl rfl hcells (fun j hj => by rw [Nat.zero_add, hB.cell j, Array.getElem?_eq_getElem (by omega)]; rfl) (fun j _ => hB.frozen _) hvs hx1 hy1 3 3 ys.toArray.size cur.size (Blk.shape hu) (Blk.shape hB) (by omega) (hu.frozen _) (hu.frozen _)
        refine C.mono fun e w' ⟨he, hw⟩ => ⟨_, he, ?_, ?_, Or.inl rfl⟩
        · rw [hw, hzl]
          have B2 := blk_setM ys (0 + i) _ _ (blk_setM (xs.drop i) (0 + (i + ys.length)) _ _ hB.drew)
          have hdl : (xs.drop i).length = xs.length - i := List.length_drop
          refine owns_of_blk B2 hg hroom hc (by rw [setM_size, setM_size, hs]) ?_ hzl
          rw [setM_list _ _ _ (by rw [setM_size]; omega), setM_list _ _ _ (by omega)]
          rw [Nat.zero_add, Nat.zero_add]
          have hc2 : cur.toList.length = cap := by simpa using hs
          have e1 : cur.toList.take i = xs.take i := by rw [← hx, List.take_take, Nat.min_eq_left (by omega)]
          have l1 : (cur.toList.take (i + ys.length)).length = i + ys.length := by rw [List.length_take]; omega
          have e2 : (cur.toList.take (i + ys.length) ++ xs.drop i ++ cur.toList.drop (i + ys.length + (xs.drop i).length)).take i = xs.take i := by
            rw [List.append_assoc, List.take_append, l1, show i - (i + ys.length) = 0 by omega, List.take_zero, List.append_nil, List.take_take, Nat.min_eq_left (by omega), e1]
          have e3 : (cur.toList.take (i + ys.length) ++ xs.drop i ++ cur.toList.drop (i + ys.length + (xs.drop i).length)).drop (i + ys.length) = xs.drop i ++ cur.toList.drop (i + ys.length + (xs.drop i).length) := by
            rw [List.append_assoc, List.drop_append, l1, Nat.sub_self, List.drop_zero, List.drop_eq_nil_of_le (by omega), List.nil_append]
          rw [e2, e3, ← List.append_assoc, List.take_append, hzl, Nat.sub_self, List.take_zero, List.append_nil, List.take_of_length_le (by rw [hzl]; exact Nat.le_refl _)]
        · rw [hw]
          exact grown_setM _ _ _ _ (grown_setM _ _ _ _ (grown_drew (grown_refl _ _)))
      · have hie : i = xs.length := by omega
        subst hie
        have C := Any2.slices_Insert_int_end_room (L := laysN) g 0 xs.length cap vb 0 ys.length vc ys w hy0 hroom (by unfold maxLen at hc; omega) rfl (fun j hj => by rw [hB.cell, Array.getElem?_eq_getElem (by omega)]; rfl) (fun j _ => hB.frozen _) hvs hy1
        refine C.mono fun e w' ⟨he, hw⟩ => ⟨_, he, ?_, ?_, Or.inl rfl⟩
        · rw [hw, hzl]
          have B2 := blk_setM ys (0 + xs.length) _ _ hB
          refine owns_of_blk B2 hg hroom hc (by rw [setM_size, hs]) ?_ hzl
          rw [setM_list _ _ _ (by omega), Nat.zero_add, hx, List.take_length, List.drop_length, List.append_nil, List.take_append, List.length_append, Nat.sub_self, List.take_zero, List.append_nil, List.take_of_length_le (by rw [List.length_append]; exact Nat.le_refl _)]
        · rw [hw]
          exact grown_setM _ _ _ _ (grown_refl _ _)
    · by_cases hlt : i < xs.length
      · have C := Any2.slices_Insert_int_grow (L := laysN) g 0 xs.length cap i vb 0 ys.length vc xs ys w hlt hy0 hn (by omega) (by omega) rfl rfl hcells hvs hx1 hy1
        refine C.mono fun e w' ⟨he, hw⟩ => ⟨_, he, ?_, ?_, Or.inr rfl⟩
        · rw [hw, hzl]
          have hcap := grownCap_ge w (xs.length + ys.length) cap (renS.t 3)
          have hcap2 := grownCap_le_maxLen w (xs.length + ys.length) cap (renS.t 3) (by unfold maxLen; omega)
          generalize grownCap w (xs.length + ys.length) cap (renS.t 3) = c at *
          have hdl : (xs.drop i).length = xs.length - i := List.length_drop
          have htl : (xs.take i).length = i := by rw [List.length_take]; omega
          have hz1 := zeros_size (Value.int .i64 0) rfl (xs.length + ys.length - i)
          have hz2 := zeros_size (Value.int .i64 0) rfl (c - (xs.length + ys.length))
          obtain ⟨Z, hZ⟩ : ∃ Z, Z = (xs.take i).toArray ++ Builtin.zeroCells (Value.int .i64 0).cells (xs.length + ys.length - i) ++ Builtin.zeroCells (Value.int .i64 0).cells (c - (xs.length + ys.length)) := ⟨_, rfl⟩
          have hZs : Z.size = c := by rw [hZ, Array.size_append, Array.size_append, hz1, hz2]; simp; omega
          have hZt : Z.toList.take i = xs.take i := by
            rw [hZ, Array.toList_append, Array.toList_append, List.append_assoc, List.take_append, htl, Nat.sub_self, List.take_zero, List.append_nil, List.take_of_length_le (by show (xs.take i).length ≤ i; omega)]
          have B2 := blk_setM (xs.drop i) (i + ys.length) _ _ (Blk.drew (blk_setM ys i _ _ (Blk.drew (Blk.new w 3 Z))))
          rw [hZ] at B2
          refine owns_of_blk B2 hb hcap hcap2 (by rw [setM_size, setM_size, ← hZ, hZs]) ?_ hzl
          rw [← hZ]
          have hZl : Z.toList.length = c := by simpa using hZs
          rw [setM_list _ _ _ (by rw [setM_size]; omega), setM_list _ _ _ (by omega), hZt]
          have l1 : (xs.take i ++ ys).length = i + ys.length := by rw [List.length_append]; omega
          have e2 : (xs.take i ++ ys ++ Z.toList.drop (i + ys.length)).take (i + ys.length) = xs.take i ++ ys := by
            rw [List.take_append, l1, Nat.sub_self, List.take_zero, List.append_nil, List.take_of_length_le (by omega)]
          rw [e2, List.take_append, hzl, Nat.sub_self, List.take_zero, List.append_nil, List.take_of_length_le (by rw [hzl]; exact Nat.le_refl _)]
        · rw [hw]
          exact grown_setM_new _ _ _ _ (Nat.le_refl _) (grown_drew (grown_setM_new _ _ _ _ (Nat.le_refl _) (grown_drew (grown_alloc (grown_refl _ _) _))))
      · have hie : i = xs.length := by omega
        subst hie
        have C := Any2.slices_Insert_int_end_grow (L := laysN) (some ⟨g, 0, none⟩) xs.length cap vb 0 ys.length vc xs ys w hy0 hn (by omega) (by omega) rfl rfl (fun e => by cases e) (fun a ea j u hj => by cases ea; have := hcells j u hj; rw [Addr.add_lit]; exact this) hvs hy1
        refine C.mono fun e w' ⟨he, hw⟩ => ⟨_, he, ?_, ?_, Or.inr rfl⟩
        · rw [hw, hzl]
          have hcap := grownCap_ge w (xs.length + ys.length) cap (renS.t 3)
          have hcap2 := grownCap_le_maxLen w (xs.length + ys.length) cap (renS.t 3) (by unfold maxLen; omega)
          generalize grownCap w (xs.length + ys.length) cap (renS.t 3) = c at *
          refine owns_of_blk (Blk.new w.drew 3 _) (by show base ≤ w.drew.heap.size; exact hb) hcap hcap2 ?_ ?_ hzl
          · rw [Array.size_append, zeros_size _ rfl]
            simp
            omega
          · rw [List.take_length, List.drop_length, List.append_nil, Array.toList_append]
            show ((xs ++ ys).toArray.toList ++ _).take _ = _
            rw [List.take_append, show (xs ++ ys).toArray.toList = xs ++ ys from rfl, List.length_append, Nat.sub_self, List.take_zero, List.append_nil, List.take_of_length_le (by rw [List.length_append]; exact Nat.le_refl _)]
        · rw [hw]
          exact grown_alloc (grown_drew (grown_refl _ _)) _
theorem str_one (l : List ByteArray) : ∀ u ∈ l.map Value.string, u.oneCell' = true := by
  intro u hu
  obtain ⟨x, _, rfl⟩ := List.mem_map.1 hu
  rfl
theorem int_one (l : List Int) : ∀ u ∈ l.map (Value.int .i64), u.oneCell' = true := by
  intro u hu
  obtain ⟨x, _, rfl⟩ := List.mem_map.1 hu
  rfl
theorem enc_str (l : List ByteArray) : (l.map (·.data.toList)).map encStr = l.map Value.string := by
  rw [List.map_map]
  apply List.map_congr_left
  intro s _
  simp [encStr]
theorem delstring_any (base i : Nat) (v : Value) (l : List ByteArray) (w : World) (h : w.ownsRow base 9 1 v l.length (l.map Value.string)) (hi : i < l.length) :
    Calls Tryz.prog 65 #[v, .int .i64 i, .int .i64 (i + 1 : Nat)] w fun e w' => ∃ v', e = .returned v' ∧ w'.ownsRow base 9 1 v' (l.take i ++ l.drop (i + 1)).length ((l.take i ++ l.drop (i + 1)).map Value.string) ∧ w.grownBy w' v.ownBlock ∧ v'.ownBlock = v.ownBlock := by
  have hzl : (l.take i ++ l.drop (i + 1)).length = l.length - 1 := by
    rw [List.length_append, List.length_take, List.length_drop]
    omega
  rcases owns_cases h with ⟨rfl, h0, hxs⟩ | ⟨g, cap, cur, rfl, hg, hB, hn, hc, hs, hx, hl⟩
  · omega
  · have hH : Go.Sort.Holds encStr w g 0 (l.map (·.data.toList)).toArray := by
      have := Lib.holds_of_strings (w := w) (b := g) (off := 0) (n := l.length) (ss := l) (Nat.le_refl _) (fun j hj => by
        rw [Nat.zero_add, hB.cell j]
        refine take_get hx ?_
        rw [List.getElem?_map, List.getElem?_eq_getElem hj, List.getD_eq_getElem?_getD, List.getElem?_eq_getElem hj]
        rfl) (fun j _ => hB.frozen _)
      rw [List.take_length] at this
      exact this
    have hll : (l.map (·.data.toList)).length = l.length := List.length_map ..
    have C := Any.slices_Delete_string (L := laysD) g 0 cap i (i + 1) (l.map (·.data.toList)) w hH (by rw [hll]; exact hn) (by unfold maxLen at hc; omega) (Nat.le_succ _) (by rw [hll]; omega)
    rw [hll] at C
    refine C.mono fun e w' ⟨he, q, hw⟩ => ⟨_, he, ?_, ?_, rfl⟩
    all_goals rw [hw, Lib.putRow_eq_setCells encStr w g 0 _ _ q hH (by simp; omega)]
    · have hm : (List.take i (l.map (fun x : ByteArray => x.data.toList)) ++ List.drop (i + 1) (l.map (fun x : ByteArray => x.data.toList)) ++ List.replicate (i + 1 - i) []).map encStr = (l.take i ++ l.drop (i + 1)).map Value.string ++ [Value.string ⟨#[]⟩] := by
        rw [List.map_append, List.map_append, ← List.map_take, ← List.map_drop, enc_str, enc_str, ← List.map_append, show i + 1 - i = 1 by omega]
        rfl
      rw [hm]
      have B2 := blk_setM ((l.take i ++ l.drop (i + 1)).map Value.string ++ [Value.string ⟨#[]⟩]) 0 (w.drewN q) cur hB
      have hle : ((l.take i ++ l.drop (i + 1)).map Value.string ++ [Value.string ⟨#[]⟩]).length = l.length := by
        rw [List.length_append, List.length_map, hzl]
        show l.length - 1 + 1 = _
        omega
      rw [hzl, show l.length - (i + 1 - i) = l.length - 1 by omega]
      refine owns_of_blk B2 hg (by omega) hc (by rw [setM_size, hs]) ?_ (by rw [List.length_map, hzl])
      rw [setM_list _ _ _ (by omega), List.take_zero, List.nil_append, List.append_assoc, List.take_append, List.length_map, hzl, Nat.sub_self, List.take_zero, List.append_nil, List.take_of_length_le (by rw [List.length_map, hzl]; exact Nat.le_refl _)]
    · exact grown_setM _ _ _ _ ⟨rfl, rfl, rfl, Nat.le_refl _, fun _ _ _ => rfl⟩
end Go.Proofs.YtbhmmcelndmijaaGreat.Sl
