/-
  slices.Replace at rows of one's own.
-/
import Derived.Test.YtbhmmcelndmijaaGreatSli
import Derived.Test.YtbhmmcelndmijaaGreatKAp
import Derived.Shelf.RegionOpen
import Derived.Deep.QuietTactic
import Derived.BigQuiet
namespace Go.Proofs.YtbhmmcelndmijaaGreat.Sl
open Go.RowKit Go.Shelf Go.Sort
theorem size9 : (Tryz.prog.info? 9).map (fun i => i.size) = some 1 := by kernel_rfl
theorem size3 : (Tryz.prog.info? 3).map (fun i => i.size) = some 1 := by kernel_rfl
theorem und48 : Tryz.prog.underlying 48 = some (.slice 9) := by kernel_rfl
theorem und44 : Tryz.prog.underlying 44 = some (.slice 3) := by kernel_rfl
theorem zero9 (w : World) : (zeroValue 9).run Tryz.prog w = .ok (.string ⟨#[]⟩) w := by kernel_rfl
theorem zero3 (w : World) : (zeroValue 3).run Tryz.prog w = .ok (.int .i64 0) w := by kernel_rfl
theorem undI : Tryz.prog.underlying 3 = some (.int .i64) := by kernel_rfl
theorem sizeOf9 (w : World) : (Go.sizeOf 9).run Tryz.prog w = .ok 1 w := by kernel_rfl
theorem sizeOf3 (w : World) : (Go.sizeOf 3).run Tryz.prog w = .ok 1 w := by kernel_rfl
/-- A copy into a row: what it leaves. -/
theorem copy_eq {P : Program} (T E : TypeId) (hT : P.underlying T = some (.slice E)) (hE : (P.info? E).map (fun i => i.size) = some 1) (W : World) (g o1 dLen : Nat) (A : Addr) (sLen : Nat) (vs : List Value) (cur : Array Value) (hB : Blk W g E cur) (hn : vs.length = Nat.min sLen dLen) (hsrc : ∀ j v, vs[j]? = some v → W.cell? (A.add j) = some v) (h1 : ∀ v ∈ vs, v.oneCell' = true) (hr : o1 + vs.length ≤ cur.size) :
    ∃ W', (∀ ty dc sc, (Builtin.copy_ #[T, T] ty #[.slice (some ⟨g, o1, none⟩) dLen dc, .slice (some A) sLen sc]).run P W = .ok (goInt vs.length) W') ∧ Blk W' g E (setM cur o1 vs) ∧ W.grownBy W' (some g) := by
  refine ⟨W.setCells g o1 vs, fun ty dc sc => run_copy_cells W T T ty E g o1 dLen dc A sLen sc vs hT hE hn hsrc (fun j hj => ?_) (fun j _ => hB.frozen _) h1, blk_setM _ _ _ _ hB, grown_setM _ _ _ _ (grown_refl _ _)⟩
  rw [hB.cell, Array.getElem?_eq_getElem (by omega)]
  rfl
/-- clear of the tail of a row. -/
theorem clear_eq {P : Program} (T E : TypeId) (z : Value) (hT : P.underlying T = some (.slice E)) (hz : ∀ w, (zeroValue E).run P w = .ok z w) (hz1 : z.cells = #[z]) (h1 : z.oneCell' = true) (W : World) (g o1 n : Nat) (hn : 0 < n) (cur : Array Value) (hB : Blk W g E cur) (hr : o1 + n ≤ cur.size) :
    ∃ W', (∀ ty c, (Builtin.clear_ #[T] ty #[.slice (some ⟨g, o1, none⟩) n c]).run P W = .ok (.tuple #[]) W') ∧ Blk W' g E (setM cur o1 (List.replicate n z)) ∧ W.grownBy W' (some g) := by
  refine ⟨W.setCells g o1 (List.replicate n z), fun ty c => Lib.run_clear_slice W T E ty z hT hz hz1 h1 g o1 n c hn (fun j hj => ?_) (fun j _ => hB.frozen _), blk_setM _ _ _ _ hB, grown_setM _ _ _ _ (grown_refl _ _)⟩
  rw [hB.cell, Array.getElem?_eq_getElem (by omega)]
  rfl
theorem clear_none {P : Program} (T E : TypeId) (hT : P.underlying T = some (.slice E)) (W : World) (a : Option Addr) (ty : TypeId) (c : Nat) :
    (Builtin.clear_ #[T] ty #[.slice a 0 c]).run P W = .ok (.tuple #[]) W := by
  cases a <;> simp [Builtin.clear_, run_underlying hT]
/-- What is put: nothing, or a row of another block. -/
def Sv (E : TypeId) (w : World) (g : Nat) (pa : Option Addr) (ys : List Value) : Prop := (pa = none ∧ ys = []) ∨ ∃ vb vcur, pa = some ⟨vb, 0, none⟩ ∧ Blk w vb E vcur ∧ vcur.toList.take ys.length = ys ∧ vb ≠ g
theorem Sv.kept {E : TypeId} {w w' : World} {g : Nat} {pa : Option Addr} {ys : List Value} (h : Sv E w g pa ys) (hg : w.grownBy w' none) : Sv E w' g pa ys := by
  rcases h with h | ⟨vb, vcur, h1, h2, h3, h4⟩
  · exact Or.inl h
  · exact Or.inr ⟨vb, vcur, h1, h2.kept hg (by simp), h3, h4⟩
theorem Sv.far {E : TypeId} {w w' : World} {g : Nat} {pa : Option Addr} {ys : List Value} (h : Sv E w g pa ys) (hg : w.grownBy w' (some g)) : Sv E w' g pa ys := by
  rcases h with h | ⟨vb, vcur, h1, h2, h3, h4⟩
  · exact Or.inl h
  · exact Or.inr ⟨vb, vcur, h1, h2.kept hg (fun e => h4 (Option.some.inj e)), h3, h4⟩
theorem Sv.copy {P : Program} (T E : TypeId) (hT : P.underlying T = some (.slice E)) (hE : (P.info? E).map (fun i => i.size) = some 1) (W : World) (g g' o1 dLen cu : Nat) (pa : Option Addr) (ys : List Value) (h : Sv E W g' pa ys) (cur : Array Value) (hB : Blk W g E cur) (hn : ys.length ≤ dLen) (h1 : ∀ v ∈ ys, v.oneCell' = true) (hr : o1 + ys.length ≤ cur.size) :
    ∃ W', (∀ ty dc, (Builtin.copy_ #[T, T] ty #[.slice (some ⟨g, o1, none⟩) dLen dc, .slice pa ys.length cu]).run P W = .ok (goInt ys.length) W') ∧ Blk W' g E (setM cur o1 ys) ∧ W.grownBy W' (some g) := by
  rcases h with ⟨rfl, rfl⟩ | ⟨vb, vcur, rfl, h2, h3, h4⟩
  · exact ⟨W, fun ty dc => run_copy_none W T T ty E _ _ dLen dc 0 cu hT hE (by simp), hB, grown_refl _ _⟩
  · obtain ⟨W1, E1, B1, G1⟩ := copy_eq T E hT hE W g o1 dLen ⟨vb, 0, none⟩ ys.length ys cur hB (by simp only [Nat.min_def]; split <;> omega) (fun k q hk => by rw [Addr.add_lit, Nat.zero_add, h2.cell]; exact take_get h3 hk) h1 hr
    exact ⟨W1, fun ty dc => E1 ty dc cu, B1, G1⟩
theorem Sv.src {P : Program} {T E : TypeId} (hT : P.underlying T = some (.slice E)) {W : World} {g cu : Nat} {pa : Option Addr} {ys : List Value} (h : Sv E W g pa ys) (h1 : ∀ v ∈ ys, v.oneCell' = true) : Src P 1 T (.slice pa ys.length cu) ys.length ys W := by
  rcases h with ⟨rfl, rfl⟩ | ⟨vb, vcur, rfl, h2, h3, h4⟩
  · exact Src.ofNil W hT cu
  · exact Src.ofSlice W hT ⟨vb, 0, none⟩ ys.length cu ys (by omega) (fun j u hj => by rw [Addr.add_lit, Nat.zero_add, h2.cell]; exact take_get h3 hj) h1
/-- What lies in a row behind two copies and a clear. -/
theorem row_mid {cur : Array Value} {n i j m : Nat} {xs ys : List Value} {z : Value} (hx : cur.toList.take n = xs) (hl : xs.length = n) (hy : ys.length = m) (hij : i ≤ j) (hjn : j ≤ n) (hm : i + m ≤ j) (hs : n ≤ cur.size) :
    (setM (setM (setM cur i ys) (i + m) (xs.drop j)) (i + m + (n - j)) (List.replicate (n - (i + m + (n - j))) z)).toList.take (i + m + (n - j)) = xs.take i ++ ys ++ xs.drop j := by
  have hd : (xs.drop j).length = n - j := by rw [List.length_drop, hl]
  rw [setM_list _ _ _ (by rw [setM_size, setM_size, List.length_replicate]; omega), setM_list _ _ _ (by rw [setM_size]; omega), setM_list _ _ _ (by omega)]
  have e1 : cur.toList.take i = xs.take i := by rw [← hx, List.take_take, Nat.min_eq_left (by omega)]
  have l1 : (xs.take i).length = i := by rw [List.length_take]; omega
  rw [e1]
  have e2 : (xs.take i ++ ys ++ cur.toList.drop (i + ys.length)).take (i + m) = xs.take i ++ ys := by
    rw [List.take_append, List.length_append, l1, hy, Nat.sub_self, List.take_zero, List.append_nil, List.take_of_length_le (by rw [List.length_append]; omega)]
  rw [e2]
  have l2 : (xs.take i ++ ys ++ xs.drop j).length = i + m + (n - j) := by rw [List.length_append, List.length_append]; omega
  have e3 : ∀ r : List Value, (xs.take i ++ ys ++ xs.drop j ++ r).take (i + m + (n - j)) = xs.take i ++ ys ++ xs.drop j := fun r => by
    rw [List.take_append, l2, Nat.sub_self, List.take_zero, List.append_nil, List.take_of_length_le (by rw [l2]; exact Nat.le_refl _)]
  rw [e3, List.append_assoc, e3]
theorem row_app {cur : Array Value} {n i m : Nat} {xs ys : List Value} (hx : cur.toList.take n = xs) (hl : xs.length = n) (hy : ys.length = m) (hi : i ≤ n) (hs : i + m ≤ cur.size) :
    (setM cur i ys).toList.take (i + m) = xs.take i ++ ys := by
  rw [setM_list _ _ _ (by omega)]
  have e1 : cur.toList.take i = xs.take i := by rw [← hx, List.take_take, Nat.min_eq_left (by omega)]
  have l1 : (xs.take i).length = i := by rw [List.length_take]; omega
  rw [e1, List.take_append, List.length_append, l1, hy, Nat.sub_self, List.take_zero, List.append_nil, List.take_of_length_le (by rw [List.length_append]; omega)]
theorem row_two {cur : Array Value} {i m k : Nat} {xs ys zs : List Value} (hx : cur.toList.take i = xs) (hl : xs.length = i) (hy : ys.length = m) (hz : zs.length = k) (hs : i + m + k ≤ cur.size) :
    (setM (setM cur i ys) (i + m) zs).toList.take (i + m + k) = xs ++ ys ++ zs := by
  have h1 := row_app (cur := cur) (n := i) (i := i) hx hl hy (Nat.le_refl _) (by omega)
  rw [List.take_of_length_le (Nat.le_of_eq hl)] at h1
  have h2 := row_app (cur := setM cur i ys) (n := i + m) (i := i + m) h1 (by rw [List.length_append]; omega) hz (Nat.le_refl _) (by rw [setM_size]; omega)
  rw [List.take_of_length_le (l := xs ++ ys) (by rw [List.length_append]; omega)] at h2
  exact h2
/-- Two copies, the one behind first. -/
theorem row_exp {cur : Array Value} {n i j m : Nat} {xs ys : List Value} (hx : cur.toList.take n = xs) (hl : xs.length = n) (hy : ys.length = m) (hij : i ≤ j) (hjn : j ≤ n) (hs : i + m + (n - j) ≤ cur.size) :
    (setM (setM cur (i + m) (xs.drop j)) i ys).toList.take (i + m + (n - j)) = xs.take i ++ ys ++ xs.drop j := by
  have hd : (xs.drop j).length = n - j := by rw [List.length_drop, hl]
  rw [setM_list _ _ _ (by rw [setM_size]; omega), setM_list _ _ _ (by omega)]
  have e1 : cur.toList.take i = xs.take i := by rw [← hx, List.take_take, Nat.min_eq_left (by omega)]
  have l1 : (xs.take i).length = i := by rw [List.length_take]; omega
  have l3 : (cur.toList.take (i + m)).length = i + m := by rw [List.length_take]; simp; omega
  have e4 : (cur.toList.take (i + m) ++ xs.drop j ++ cur.toList.drop (i + m + (xs.drop j).length)).take i = xs.take i := by
    rw [List.append_assoc, List.take_append, l3, show i - (i + m) = 0 by omega, List.take_zero, List.append_nil, List.take_take, Nat.min_eq_left (by omega), e1]
  have e5 : (cur.toList.take (i + m) ++ xs.drop j ++ cur.toList.drop (i + m + (xs.drop j).length)).drop (i + ys.length) = xs.drop j ++ cur.toList.drop (i + m + (xs.drop j).length) := by
    rw [List.append_assoc, List.drop_append, l3, hy, Nat.sub_self, List.drop_zero, List.drop_eq_nil_of_le (by omega), List.nil_append]
  rw [e4, e5, ← List.append_assoc]
  have l2 : (xs.take i ++ ys ++ xs.drop j).length = i + m + (n - j) := by rw [List.length_append, List.length_append]; omega
  rw [List.take_append, l2, Nat.sub_self, List.take_zero, List.append_nil, List.take_of_length_le (by rw [l2]; exact Nat.le_refl _)]
set_option maxRecDepth 100000 in
set_option maxHeartbeats 4000000 in
/-- In place, no more than were there, not at the end. -/
theorem repfitI (base i j : Nat) (g c cu : Nat) (pa : Option Addr) (cur : Array Value) (xs ys : List Value) (w : World) (hB : Blk w g 3 cur) (hc : cur.size = c) (hx : cur.toList.take xs.length = xs) (hnc : xs.length ≤ c) (hc63 : c ≤ maxLen) (hg : base ≤ g) (h1x : ∀ u ∈ xs, u.oneCell' = true) (hV : Sv 3 w g pa ys) (h1y : ∀ u ∈ ys, u.oneCell' = true) (hij : i < j) (hj : j < xs.length) (hm : i + ys.length ≤ j) (hl : xs.length ≤ 1000000) :
    Calls Tryz.prog 68 #[.slice (some ⟨g, 0, none⟩) xs.length c, .int .i64 i, .int .i64 j, .slice pa ys.length cu] w (InsPost 3 base (.slice (some ⟨g, 0, none⟩) xs.length c) (xs.take i ++ ys ++ xs.drop j) w) := by
  unfold maxLen at hc63
  obtain ⟨P0, hP0⟩ : ∃ P, P = InsPost 3 base (.slice (some ⟨g, 0, none⟩) xs.length c) (xs.take i ++ ys ++ xs.drop j) w := ⟨_, rfl⟩
  rw [← hP0]
  have HP := hid (And.intro hP0 trivial)
  clear hP0
  have hzl : (xs.take i ++ ys ++ xs.drop j).length = i + ys.length + (xs.length - j) := by
    rw [List.length_append, List.length_append, List.length_take, List.length_drop]
    omega
  have HZL := hid (And.intro hzl trivial)
  clear hzl
  have hd : (xs.drop j).length = xs.length - j := List.length_drop
  have hS := row_mid (z := (.int .i64 0)) hx rfl rfl (by omega) (by omega) hm (by omega)
  have MW : Hid (∀ w0 : World, w.grownBy w0 none → ∃ W1 W2 W3, (∀ ty dc, (Builtin.copy_ #[44, 44] ty #[.slice (some ⟨g, i, none⟩) (i + ys.length + (xs.length - j) - i) dc, .slice pa ys.length cu]).run Tryz.prog w0 = .ok (goInt ys.length) W1) ∧ (∀ ty dc sc, (Builtin.copy_ #[44, 44] ty #[.slice (some ⟨g, i + ys.length, none⟩) (xs.length - j) dc, .slice (some ⟨g, j, none⟩) (xs.length - j) sc]).run Tryz.prog W1.drew = .ok (goInt (xs.length - j : Nat)) W2) ∧
      (∀ ty c' a', (a' = if c = i + ys.length + (xs.length - j) then (0 : Nat) else i + ys.length + (xs.length - j)) → (Builtin.clear_ #[44] ty #[.slice (some ⟨g, a', none⟩) (xs.length - (i + ys.length + (xs.length - j))) c']).run Tryz.prog W2 = .ok (.tuple #[]) W3) ∧ (xs.length - (i + ys.length + (xs.length - j)) = 0 → W3 = W2) ∧ W3.ownsRow base 3 1 (.slice (some ⟨g, 0, none⟩) (i + ys.length + (xs.length - j)) c) (i + ys.length + (xs.length - j)) (xs.take i ++ ys ++ xs.drop j) ∧ w.grownBy W3 (some g)) := by
    intro w0 hw0
    have hB0 : Blk w0 g 3 cur := hB.kept hw0 (by simp)
    obtain ⟨W1, E1, B1, G1⟩ := Sv.copy 44 3 und44 size3 w0 g g i (i + ys.length + (xs.length - j) - i) cu pa ys (hV.kept hw0) cur hB0 (by omega) h1y (by omega)
    obtain ⟨W2, E2, B2, G2⟩ := copy_eq 44 3 und44 size3 W1.drew g (i + ys.length) (xs.length - j) ⟨g, j, none⟩ (xs.length - j) (xs.drop j) (setM cur i ys) B1.drew (by rw [hd]; simp only [Nat.min_def]; split <;> omega) (fun k q hk => by
      rw [Addr.add_lit, B1.drew.cell]
      rw [List.getElem?_drop] at hk
      have hk2 := take_get hx hk
      have hlt : j + k < cur.size := (Array.getElem?_eq_some_iff.1 hk2).1
      rw [← Array.getElem?_toList, setM_list _ _ _ (by omega), List.getElem?_append_right (by rw [List.length_append, List.length_take]; simp; omega), List.getElem?_drop, List.length_append, List.length_take]
      rw [← Array.getElem?_toList] at hk2
      rw [← hk2]
      congr 1
      simp
      omega) (fun u hu => h1x u (List.mem_of_mem_drop hu)) (by rw [setM_size, hd]; omega)
    obtain ⟨W3, E3, B3, G3, X3⟩ : ∃ W3, (∀ ty c' a', (a' = if c = i + ys.length + (xs.length - j) then (0 : Nat) else i + ys.length + (xs.length - j)) → (Builtin.clear_ #[44] ty #[.slice (some ⟨g, a', none⟩) (xs.length - (i + ys.length + (xs.length - j))) c']).run Tryz.prog W2 = .ok (.tuple #[]) W3) ∧ Blk W3 g 3 (setM (setM (setM cur i ys) (i + ys.length) (xs.drop j)) (i + ys.length + (xs.length - j)) (List.replicate (xs.length - (i + ys.length + (xs.length - j))) (.int .i64 0))) ∧ W2.grownBy W3 (some g) ∧ (xs.length - (i + ys.length + (xs.length - j)) = 0 → W3 = W2) := by
      by_cases h0 : xs.length - (i + ys.length + (xs.length - j)) = 0
      · rw [h0]
        exact ⟨W2, fun ty c' a' _ => clear_none 44 3 und44 W2 _ ty c', B2, grown_refl _ _, fun _ => rfl⟩
      · obtain ⟨W3, e3, b3, g3⟩ := clear_eq 44 3 (.int .i64 0) und44 zero3 rfl rfl W2 g (i + ys.length + (xs.length - j)) (xs.length - (i + ys.length + (xs.length - j))) (by omega) _ B2 (by rw [setM_size, setM_size]; omega)
        refine ⟨W3, fun ty c' a' ha => ?_, b3, g3, fun e => absurd e h0⟩
        rw [if_neg (by omega)] at ha
        rw [ha]
        exact e3 ty c'
    rw [hd] at E2
    exact ⟨W1, W2, W3, E1, E2, E3, X3, owns_of_blk B3 hg (by omega) (by unfold maxLen; omega) (by rw [setM_size, setM_size, setM_size, hc]) hS (by rw [List.length_append, List.length_append, List.length_take, List.length_drop]; omega), grown_trans (grown_trans (grown_none (grown_refl _ _) hw0) G1) (grown_trans (grown_drew (grown_refl W1 (some g))) (grown_trans G2 G3))⟩
  clear hS hx hB hV h1x h1y hg hc hd
  generalize hn : xs.length = n at *
  generalize hmm : ys.length = m at *
  have HN := hid (And.intro hn hmm)
  clear hn hmm
  have i1 : ¬ ((i : Int) = (j : Int)) := by omega
  have i2 : ¬ ((j : Int) = (n : Int)) := by omega
  have i3 : ((i : Int) == (j : Int)) = false := by simp; omega
  have i4 : ((j : Int) == (n : Int)) = false := by simp; omega
  have w1 : IntKind.i64.wrap ((i : Int) + (m : Int)) = (i : Int) + (m : Int) := by rw [IntKind.wrap_i64]; omega
  have w2 : IntKind.i64.wrap ((i : Int) + (m : Int) + ((n - j : Nat) : Int)) = (i : Int) + (m : Int) + ((n - j : Nat) : Int) := by rw [IntKind.wrap_i64]; omega
  have i5 : ¬ ((c : Int) < (i : Int) + (m : Int) + ((n - j : Nat) : Int)) := by omega
  have i6 : (i : Int) + (m : Int) ≤ (j : Int) := by omega
  have n1 : ((i : Int) + (m : Int)).toNat = i + m := by omega
  have n2 : ((i : Int) + (m : Int) + ((n - j : Nat) : Int)).toNat = i + m + (n - j) := by omega
  have b0 : (0 : Int) ≤ (i : Int) + (m : Int) := by omega
  have b1 : (0 : Int) ≤ (i : Int) + (m : Int) + ((n - j : Nat) : Int) := by omega
  have b2 : (i : Int) ≤ (n : Int) := by omega
  have b3 : (j : Int) ≤ (n : Int) := by omega
  have b4 : i ≤ c := by omega
  have b5 : j ≤ n := by omega
  have b6 : (i : Int) + (m : Int) + ((n - j : Nat) : Int) ≤ (c : Int) := by omega
  have b7 : i ≤ j := by omega
  have b8 : j ≤ c := by omega
  have b9 : ¬ (c = j) := by omega
  have b10 : ¬ (c = i) := by omega
  have b11 : ¬ (c = i + m) := by omega
  have b12 : (i : Int) + (m : Int) ≤ (i : Int) + (m : Int) + ((n - j : Nat) : Int) := by omega
  go_enter Tryz.func68, Tryz.ntmps68
  go_wp2_with fail
  go_quiet (fail)
  obtain ⟨W1, W2, W3, c1, c2, c3', x3, o3, g3⟩ := MW.out (w.drewN nq) (Pa.grown_drewN (grown_refl w none) nq)
  have c3 := hid c3'
  have O3 := hid o3
  have G3 := hid g3
  have X3 := hid x3
  clear c3' o3 g3 x3 MW
  go_wp2_with fail
  go_region
  clear c1 c2
  by_cases hct : i + m = j
  · have e0 : n - (i + m + (n - j)) = 0 := by omega
    have ew := X3.out e0
    subst ew
    have c4 := fun a ty c' => clear_none (P := Tryz.prog) 44 3 und44 W3 a ty c'
    clear c3 X3
    go_wp2_with fail
    all_goals
      have eT : i + m + (n - j) = n := by omega
      rw [HP.out.1]
      refine ⟨_, rfl, ?_, G3.out, Or.inl rfl⟩
      rw [HZL.out.1]
      have o := O3.out
      rw [eT] at o ⊢
      first
      | exact o
      | (have hcc : c = n := by omega
         rw [hcc] at o
         exact o)
  · have hcn : ¬ c = i + m + (n - j) := by omega
    have c4 := fun ty c' => c3.out ty c' (i + m + (n - j)) (by rw [if_neg hcn])
    clear c3
    go_wp2_with fail
    rw [HP.out.1]
    refine ⟨_, rfl, ?_, G3.out, Or.inl rfl⟩
    rw [HZL.out.1]
    exact O3.out

set_option maxRecDepth 100000 in
set_option maxHeartbeats 4000000 in
/-- At the end, with room. -/
theorem rependI (base i j : Nat) (g c cu : Nat) (pa : Option Addr) (cur : Array Value) (xs ys : List Value) (w : World) (hB : Blk w g 3 cur) (hc : cur.size = c) (hx : cur.toList.take xs.length = xs) (hnc : xs.length ≤ c) (hc63 : c ≤ maxLen) (hg : base ≤ g) (_h1x : ∀ u ∈ xs, u.oneCell' = true) (hV : Sv 3 w g pa ys) (h1y : ∀ u ∈ ys, u.oneCell' = true) (hij : i < j) (hj : j = xs.length) (hm : i + ys.length ≤ c) (hl : xs.length ≤ 1000000) :
    Calls Tryz.prog 68 #[.slice (some ⟨g, 0, none⟩) xs.length c, .int .i64 i, .int .i64 j, .slice pa ys.length cu] w (InsPost 3 base (.slice (some ⟨g, 0, none⟩) xs.length c) (xs.take i ++ ys ++ xs.drop j) w) := by
  have hd0 : xs.drop j = [] := by rw [hj]; exact List.drop_length
  unfold maxLen at hc63
  obtain ⟨P0, hP0⟩ : ∃ P, P = InsPost 3 base (.slice (some ⟨g, 0, none⟩) xs.length c) (xs.take i ++ ys ++ xs.drop j) w := ⟨_, rfl⟩
  rw [← hP0]
  have HP := hid (And.intro hP0 trivial)
  clear hP0
  have hzl : (xs.take i ++ ys ++ xs.drop j).length = i + ys.length + (xs.length - j) := by
    rw [List.length_append, List.length_append, List.length_take, List.length_drop]
    omega
  have HZL := hid (And.intro hzl trivial)
  clear hzl
  obtain ⟨i0, hi0, hz0, hzs, hzb⟩ := info_parts Pa.info3
  have MW : Hid (∃ W1 W2, (∀ ty, (Builtin.append_ #[44, 44] ty #[.slice (some ⟨g, 0, none⟩) i c, .slice pa ys.length cu]).run Tryz.prog w = .ok (.slice (some ⟨g, 0, none⟩) (i + ys.length) c) W1) ∧ (i + ys.length < xs.length → ∀ ty c', (Builtin.clear_ #[44] ty #[.slice (some ⟨g, i + ys.length, none⟩) (xs.length - (i + ys.length)) c']).run Tryz.prog W1 = .ok (.tuple #[]) W2) ∧ (¬ i + ys.length < xs.length → W2 = W1) ∧ W2.ownsRow base 3 1 (.slice (some ⟨g, 0, none⟩) (i + ys.length) c) (i + ys.length) (xs.take i ++ ys ++ xs.drop j) ∧ w.grownBy W2 (some g)) := by
    have E1 : ∀ ty, (Builtin.append_ #[44, 44] ty #[.slice (some ⟨g, 0, none⟩) i c, .slice pa ys.length cu]).run Tryz.prog w = .ok (.slice (some ⟨g, 0, none⟩) (i + ys.length) c) (w.setCells g i ys) := fun ty => by
      have := run_append_room_src (P := Tryz.prog) w 44 44 ty 3 i0 und44 hi0 g 0 i c (.slice pa ys.length cu) ys.length ys (by rw [hzs]; exact Sv.src und44 hV h1y) hm (fun k hk => by rw [hB.cell, hzs, Array.getElem?_eq_getElem (by omega)]; rfl) (fun k _ => hB.frozen _)
      rw [hzs, Nat.mul_one, Nat.zero_add] at this
      exact this
    have B1 := blk_setM ys i _ _ hB
    have G1 := grown_setM ys i _ _ (grown_refl w (some g))
    generalize w.setCells g i ys = W1 at *
    rw [hd0, List.append_nil]
    have hr1 := row_app (i := i) hx rfl (ys := ys) rfl (by omega) (by omega)
    by_cases h0 : i + ys.length < xs.length
    · obtain ⟨W2, e2, b2, g2⟩ := clear_eq 44 3 (.int .i64 0) und44 zero3 rfl rfl W1 g (i + ys.length) (xs.length - (i + ys.length)) (by omega) _ B1 (by rw [setM_size]; omega)
      refine ⟨W1, W2, E1, fun _ => e2, fun h => absurd h0 h, owns_of_blk b2 hg (by omega) (by unfold maxLen; omega) (by rw [setM_size, setM_size, hc]) ?_ (by rw [List.length_append, List.length_take]; omega), grown_trans G1 g2⟩
      rw [setM_list _ _ _ (by rw [setM_size, List.length_replicate]; omega), List.append_assoc, List.take_append, hr1, List.length_append, List.length_take, Nat.min_eq_left (by omega), Nat.sub_self, List.take_zero, List.append_nil, List.take_of_length_le (by rw [List.length_append, List.length_take]; omega)]
    · exact ⟨W1, W1, E1, fun h => absurd h h0, fun _ => rfl, owns_of_blk B1 hg (by omega) (by unfold maxLen; omega) (by rw [setM_size, hc]) hr1 (by rw [List.length_append, List.length_take]; omega), G1⟩
  obtain ⟨W1, W2, e1, e2, e3, o2, g2⟩ := MW.out
  have A1 := hid e1
  have A2 := hid e2
  have A3 := hid e3
  have O2 := hid o2
  have G2 := hid g2
  clear e1 e2 e3 o2 g2 MW hB hx hV _h1x h1y hc hd0 hg
  subst hj
  generalize hn : xs.length = n at *
  generalize hmm : ys.length = m at *
  have HN := hid (And.intro hn hmm)
  clear hn hmm
  have i1 : ¬ ((i : Int) = (n : Int)) := by omega
  have i3 : ((i : Int) == (n : Int)) = false := by simp; omega
  have b2 : (i : Int) ≤ (n : Int) := by omega
  have b4 : i ≤ c := by omega
  have b5 : i ≤ n := by omega
  have b10 : ¬ (c = i) := by omega
  have w1 : IntKind.i64.wrap ((i : Int) + (m : Int)) = (i : Int) + (m : Int) := by rw [IntKind.wrap_i64]; omega
  have hT : i + m + (n - n) = i + m := by omega
  by_cases h0 : i + m < n
  · have c2 := A2.out h0
    have j1 : (i : Int) + (m : Int) < (n : Int) := by omega
    have j2 : ((i : Int) + (m : Int)).toNat = i + m := by omega
    have j3 : (0 : Int) ≤ (i : Int) + (m : Int) := by omega
    have j4 : i + m ≤ n := by omega
    have j5 : (i : Int) + (m : Int) ≤ (n : Int) := by omega
    have j6 : ¬ (c = i + m) := by omega
    clear A2 A3
    go_enter Tryz.func68, Tryz.ntmps68
    go_wp2_with (at_builtin; refine Lib.wpList_append_run _ rfl _ _ _ _ rfl _ _ rfl rfl _ _ (A1.out _) ?_)
    rw [HP.out.1]
    refine ⟨_, rfl, ?_, G2.out, Or.inl rfl⟩
    rw [HZL.out.1, hT]
    exact O2.out
  · have ew := A3.out h0
    subst ew
    have j1 : ¬ ((i : Int) + (m : Int) < (n : Int)) := by omega
    clear A2 A3
    go_enter Tryz.func68, Tryz.ntmps68
    go_wp2_with (at_builtin; refine Lib.wpList_append_run _ rfl _ _ _ _ rfl _ _ rfl rfl _ _ (A1.out _) ?_)
    rw [HP.out.1]
    refine ⟨_, rfl, ?_, G2.out, Or.inl rfl⟩
    rw [HZL.out.1, hT]
    exact O2.out
set_option maxRecDepth 100000 in
set_option maxHeartbeats 4000000 in
/-- In place, no more than were there, not at the end. -/
theorem repfitS (base i j : Nat) (g c cu : Nat) (pa : Option Addr) (cur : Array Value) (xs ys : List Value) (w : World) (hB : Blk w g 9 cur) (hc : cur.size = c) (hx : cur.toList.take xs.length = xs) (hnc : xs.length ≤ c) (hc63 : c ≤ maxLen) (hg : base ≤ g) (h1x : ∀ u ∈ xs, u.oneCell' = true) (hV : Sv 9 w g pa ys) (h1y : ∀ u ∈ ys, u.oneCell' = true) (hij : i < j) (hj : j < xs.length) (hm : i + ys.length ≤ j) (hl : xs.length ≤ 1000000) :
    Calls Tryz.prog 67 #[.slice (some ⟨g, 0, none⟩) xs.length c, .int .i64 i, .int .i64 j, .slice pa ys.length cu] w (InsPost 9 base (.slice (some ⟨g, 0, none⟩) xs.length c) (xs.take i ++ ys ++ xs.drop j) w) := by
  unfold maxLen at hc63
  obtain ⟨P0, hP0⟩ : ∃ P, P = InsPost 9 base (.slice (some ⟨g, 0, none⟩) xs.length c) (xs.take i ++ ys ++ xs.drop j) w := ⟨_, rfl⟩
  rw [← hP0]
  have HP := hid (And.intro hP0 trivial)
  clear hP0
  have hzl : (xs.take i ++ ys ++ xs.drop j).length = i + ys.length + (xs.length - j) := by
    rw [List.length_append, List.length_append, List.length_take, List.length_drop]
    omega
  have HZL := hid (And.intro hzl trivial)
  clear hzl
  have hd : (xs.drop j).length = xs.length - j := List.length_drop
  have hS := row_mid (z := (.string ⟨#[]⟩)) hx rfl rfl (by omega) (by omega) hm (by omega)
  have MW : Hid (∀ w0 : World, w.grownBy w0 none → ∃ W1 W2 W3, (∀ ty dc, (Builtin.copy_ #[48, 48] ty #[.slice (some ⟨g, i, none⟩) (i + ys.length + (xs.length - j) - i) dc, .slice pa ys.length cu]).run Tryz.prog w0 = .ok (goInt ys.length) W1) ∧ (∀ ty dc sc, (Builtin.copy_ #[48, 48] ty #[.slice (some ⟨g, i + ys.length, none⟩) (xs.length - j) dc, .slice (some ⟨g, j, none⟩) (xs.length - j) sc]).run Tryz.prog W1.drew = .ok (goInt (xs.length - j : Nat)) W2) ∧
      (∀ ty c' a', (a' = if c = i + ys.length + (xs.length - j) then (0 : Nat) else i + ys.length + (xs.length - j)) → (Builtin.clear_ #[48] ty #[.slice (some ⟨g, a', none⟩) (xs.length - (i + ys.length + (xs.length - j))) c']).run Tryz.prog W2 = .ok (.tuple #[]) W3) ∧ (xs.length - (i + ys.length + (xs.length - j)) = 0 → W3 = W2) ∧ W3.ownsRow base 9 1 (.slice (some ⟨g, 0, none⟩) (i + ys.length + (xs.length - j)) c) (i + ys.length + (xs.length - j)) (xs.take i ++ ys ++ xs.drop j) ∧ w.grownBy W3 (some g)) := by
    intro w0 hw0
    have hB0 : Blk w0 g 9 cur := hB.kept hw0 (by simp)
    obtain ⟨W1, E1, B1, G1⟩ := Sv.copy 48 9 und48 size9 w0 g g i (i + ys.length + (xs.length - j) - i) cu pa ys (hV.kept hw0) cur hB0 (by omega) h1y (by omega)
    obtain ⟨W2, E2, B2, G2⟩ := copy_eq 48 9 und48 size9 W1.drew g (i + ys.length) (xs.length - j) ⟨g, j, none⟩ (xs.length - j) (xs.drop j) (setM cur i ys) B1.drew (by rw [hd]; simp only [Nat.min_def]; split <;> omega) (fun k q hk => by
      rw [Addr.add_lit, B1.drew.cell]
      rw [List.getElem?_drop] at hk
      have hk2 := take_get hx hk
      have hlt : j + k < cur.size := (Array.getElem?_eq_some_iff.1 hk2).1
      rw [← Array.getElem?_toList, setM_list _ _ _ (by omega), List.getElem?_append_right (by rw [List.length_append, List.length_take]; simp; omega), List.getElem?_drop, List.length_append, List.length_take]
      rw [← Array.getElem?_toList] at hk2
      rw [← hk2]
      congr 1
      simp
      omega) (fun u hu => h1x u (List.mem_of_mem_drop hu)) (by rw [setM_size, hd]; omega)
    obtain ⟨W3, E3, B3, G3, X3⟩ : ∃ W3, (∀ ty c' a', (a' = if c = i + ys.length + (xs.length - j) then (0 : Nat) else i + ys.length + (xs.length - j)) → (Builtin.clear_ #[48] ty #[.slice (some ⟨g, a', none⟩) (xs.length - (i + ys.length + (xs.length - j))) c']).run Tryz.prog W2 = .ok (.tuple #[]) W3) ∧ Blk W3 g 9 (setM (setM (setM cur i ys) (i + ys.length) (xs.drop j)) (i + ys.length + (xs.length - j)) (List.replicate (xs.length - (i + ys.length + (xs.length - j))) (.string ⟨#[]⟩))) ∧ W2.grownBy W3 (some g) ∧ (xs.length - (i + ys.length + (xs.length - j)) = 0 → W3 = W2) := by
      by_cases h0 : xs.length - (i + ys.length + (xs.length - j)) = 0
      · rw [h0]
        exact ⟨W2, fun ty c' a' _ => clear_none 48 9 und48 W2 _ ty c', B2, grown_refl _ _, fun _ => rfl⟩
      · obtain ⟨W3, e3, b3, g3⟩ := clear_eq 48 9 (.string ⟨#[]⟩) und48 zero9 rfl rfl W2 g (i + ys.length + (xs.length - j)) (xs.length - (i + ys.length + (xs.length - j))) (by omega) _ B2 (by rw [setM_size, setM_size]; omega)
        refine ⟨W3, fun ty c' a' ha => ?_, b3, g3, fun e => absurd e h0⟩
        rw [if_neg (by omega)] at ha
        rw [ha]
        exact e3 ty c'
    rw [hd] at E2
    exact ⟨W1, W2, W3, E1, E2, E3, X3, owns_of_blk B3 hg (by omega) (by unfold maxLen; omega) (by rw [setM_size, setM_size, setM_size, hc]) hS (by rw [List.length_append, List.length_append, List.length_take, List.length_drop]; omega), grown_trans (grown_trans (grown_none (grown_refl _ _) hw0) G1) (grown_trans (grown_drew (grown_refl W1 (some g))) (grown_trans G2 G3))⟩
  clear hS hx hB hV h1x h1y hg hc hd
  generalize hn : xs.length = n at *
  generalize hmm : ys.length = m at *
  have HN := hid (And.intro hn hmm)
  clear hn hmm
  have i1 : ¬ ((i : Int) = (j : Int)) := by omega
  have i2 : ¬ ((j : Int) = (n : Int)) := by omega
  have i3 : ((i : Int) == (j : Int)) = false := by simp; omega
  have i4 : ((j : Int) == (n : Int)) = false := by simp; omega
  have w1 : IntKind.i64.wrap ((i : Int) + (m : Int)) = (i : Int) + (m : Int) := by rw [IntKind.wrap_i64]; omega
  have w2 : IntKind.i64.wrap ((i : Int) + (m : Int) + ((n - j : Nat) : Int)) = (i : Int) + (m : Int) + ((n - j : Nat) : Int) := by rw [IntKind.wrap_i64]; omega
  have i5 : ¬ ((c : Int) < (i : Int) + (m : Int) + ((n - j : Nat) : Int)) := by omega
  have i6 : (i : Int) + (m : Int) ≤ (j : Int) := by omega
  have n1 : ((i : Int) + (m : Int)).toNat = i + m := by omega
  have n2 : ((i : Int) + (m : Int) + ((n - j : Nat) : Int)).toNat = i + m + (n - j) := by omega
  have b0 : (0 : Int) ≤ (i : Int) + (m : Int) := by omega
  have b1 : (0 : Int) ≤ (i : Int) + (m : Int) + ((n - j : Nat) : Int) := by omega
  have b2 : (i : Int) ≤ (n : Int) := by omega
  have b3 : (j : Int) ≤ (n : Int) := by omega
  have b4 : i ≤ c := by omega
  have b5 : j ≤ n := by omega
  have b6 : (i : Int) + (m : Int) + ((n - j : Nat) : Int) ≤ (c : Int) := by omega
  have b7 : i ≤ j := by omega
  have b8 : j ≤ c := by omega
  have b9 : ¬ (c = j) := by omega
  have b10 : ¬ (c = i) := by omega
  have b11 : ¬ (c = i + m) := by omega
  have b12 : (i : Int) + (m : Int) ≤ (i : Int) + (m : Int) + ((n - j : Nat) : Int) := by omega
  go_enter Tryz.func67, Tryz.ntmps67
  go_wp2_with fail
  go_quiet (fail)
  obtain ⟨W1, W2, W3, c1, c2, c3', x3, o3, g3⟩ := MW.out (w.drewN nq) (Pa.grown_drewN (grown_refl w none) nq)
  have c3 := hid c3'
  have O3 := hid o3
  have G3 := hid g3
  have X3 := hid x3
  clear c3' o3 g3 x3 MW
  go_wp2_with fail
  go_region
  clear c1 c2
  by_cases hct : i + m = j
  · have e0 : n - (i + m + (n - j)) = 0 := by omega
    have ew := X3.out e0
    subst ew
    have c4 := fun a ty c' => clear_none (P := Tryz.prog) 48 9 und48 W3 a ty c'
    clear c3 X3
    go_wp2_with fail
    all_goals
      have eT : i + m + (n - j) = n := by omega
      rw [HP.out.1]
      refine ⟨_, rfl, ?_, G3.out, Or.inl rfl⟩
      rw [HZL.out.1]
      have o := O3.out
      rw [eT] at o ⊢
      first
      | exact o
      | (have hcc : c = n := by omega
         rw [hcc] at o
         exact o)
  · have hcn : ¬ c = i + m + (n - j) := by omega
    have c4 := fun ty c' => c3.out ty c' (i + m + (n - j)) (by rw [if_neg hcn])
    clear c3
    go_wp2_with fail
    rw [HP.out.1]
    refine ⟨_, rfl, ?_, G3.out, Or.inl rfl⟩
    rw [HZL.out.1]
    exact O3.out

set_option maxRecDepth 100000 in
set_option maxHeartbeats 4000000 in
/-- At the end, with room. -/
theorem rependS (base i j : Nat) (g c cu : Nat) (pa : Option Addr) (cur : Array Value) (xs ys : List Value) (w : World) (hB : Blk w g 9 cur) (hc : cur.size = c) (hx : cur.toList.take xs.length = xs) (hnc : xs.length ≤ c) (hc63 : c ≤ maxLen) (hg : base ≤ g) (_h1x : ∀ u ∈ xs, u.oneCell' = true) (hV : Sv 9 w g pa ys) (h1y : ∀ u ∈ ys, u.oneCell' = true) (hij : i < j) (hj : j = xs.length) (hm : i + ys.length ≤ c) (hl : xs.length ≤ 1000000) :
    Calls Tryz.prog 67 #[.slice (some ⟨g, 0, none⟩) xs.length c, .int .i64 i, .int .i64 j, .slice pa ys.length cu] w (InsPost 9 base (.slice (some ⟨g, 0, none⟩) xs.length c) (xs.take i ++ ys ++ xs.drop j) w) := by
  have hd0 : xs.drop j = [] := by rw [hj]; exact List.drop_length
  unfold maxLen at hc63
  obtain ⟨P0, hP0⟩ : ∃ P, P = InsPost 9 base (.slice (some ⟨g, 0, none⟩) xs.length c) (xs.take i ++ ys ++ xs.drop j) w := ⟨_, rfl⟩
  rw [← hP0]
  have HP := hid (And.intro hP0 trivial)
  clear hP0
  have hzl : (xs.take i ++ ys ++ xs.drop j).length = i + ys.length + (xs.length - j) := by
    rw [List.length_append, List.length_append, List.length_take, List.length_drop]
    omega
  have HZL := hid (And.intro hzl trivial)
  clear hzl
  obtain ⟨i0, hi0, hz0, hzs, hzb⟩ := info_parts Pa.info9
  have MW : Hid (∃ W1 W2, (∀ ty, (Builtin.append_ #[48, 48] ty #[.slice (some ⟨g, 0, none⟩) i c, .slice pa ys.length cu]).run Tryz.prog w = .ok (.slice (some ⟨g, 0, none⟩) (i + ys.length) c) W1) ∧ (i + ys.length < xs.length → ∀ ty c', (Builtin.clear_ #[48] ty #[.slice (some ⟨g, i + ys.length, none⟩) (xs.length - (i + ys.length)) c']).run Tryz.prog W1 = .ok (.tuple #[]) W2) ∧ (¬ i + ys.length < xs.length → W2 = W1) ∧ W2.ownsRow base 9 1 (.slice (some ⟨g, 0, none⟩) (i + ys.length) c) (i + ys.length) (xs.take i ++ ys ++ xs.drop j) ∧ w.grownBy W2 (some g)) := by
    have E1 : ∀ ty, (Builtin.append_ #[48, 48] ty #[.slice (some ⟨g, 0, none⟩) i c, .slice pa ys.length cu]).run Tryz.prog w = .ok (.slice (some ⟨g, 0, none⟩) (i + ys.length) c) (w.setCells g i ys) := fun ty => by
      have := run_append_room_src (P := Tryz.prog) w 48 48 ty 9 i0 und48 hi0 g 0 i c (.slice pa ys.length cu) ys.length ys (by rw [hzs]; exact Sv.src und48 hV h1y) hm (fun k hk => by rw [hB.cell, hzs, Array.getElem?_eq_getElem (by omega)]; rfl) (fun k _ => hB.frozen _)
      rw [hzs, Nat.mul_one, Nat.zero_add] at this
      exact this
    have B1 := blk_setM ys i _ _ hB
    have G1 := grown_setM ys i _ _ (grown_refl w (some g))
    generalize w.setCells g i ys = W1 at *
    rw [hd0, List.append_nil]
    have hr1 := row_app (i := i) hx rfl (ys := ys) rfl (by omega) (by omega)
    by_cases h0 : i + ys.length < xs.length
    · obtain ⟨W2, e2, b2, g2⟩ := clear_eq 48 9 (.string ⟨#[]⟩) und48 zero9 rfl rfl W1 g (i + ys.length) (xs.length - (i + ys.length)) (by omega) _ B1 (by rw [setM_size]; omega)
      refine ⟨W1, W2, E1, fun _ => e2, fun h => absurd h0 h, owns_of_blk b2 hg (by omega) (by unfold maxLen; omega) (by rw [setM_size, setM_size, hc]) ?_ (by rw [List.length_append, List.length_take]; omega), grown_trans G1 g2⟩
      rw [setM_list _ _ _ (by rw [setM_size, List.length_replicate]; omega), List.append_assoc, List.take_append, hr1, List.length_append, List.length_take, Nat.min_eq_left (by omega), Nat.sub_self, List.take_zero, List.append_nil, List.take_of_length_le (by rw [List.length_append, List.length_take]; omega)]
    · exact ⟨W1, W1, E1, fun h => absurd h h0, fun _ => rfl, owns_of_blk B1 hg (by omega) (by unfold maxLen; omega) (by rw [setM_size, hc]) hr1 (by rw [List.length_append, List.length_take]; omega), G1⟩
  obtain ⟨W1, W2, e1, e2, e3, o2, g2⟩ := MW.out
  have A1 := hid e1
  have A2 := hid e2
  have A3 := hid e3
  have O2 := hid o2
  have G2 := hid g2
  clear e1 e2 e3 o2 g2 MW hB hx hV _h1x h1y hc hd0 hg
  subst hj
  generalize hn : xs.length = n at *
  generalize hmm : ys.length = m at *
  have HN := hid (And.intro hn hmm)
  clear hn hmm
  have i1 : ¬ ((i : Int) = (n : Int)) := by omega
  have i3 : ((i : Int) == (n : Int)) = false := by simp; omega
  have b2 : (i : Int) ≤ (n : Int) := by omega
  have b4 : i ≤ c := by omega
  have b5 : i ≤ n := by omega
  have b10 : ¬ (c = i) := by omega
  have w1 : IntKind.i64.wrap ((i : Int) + (m : Int)) = (i : Int) + (m : Int) := by rw [IntKind.wrap_i64]; omega
  have hT : i + m + (n - n) = i + m := by omega
  by_cases h0 : i + m < n
  · have c2 := A2.out h0
    have j1 : (i : Int) + (m : Int) < (n : Int) := by omega
    have j2 : ((i : Int) + (m : Int)).toNat = i + m := by omega
    have j3 : (0 : Int) ≤ (i : Int) + (m : Int) := by omega
    have j4 : i + m ≤ n := by omega
    have j5 : (i : Int) + (m : Int) ≤ (n : Int) := by omega
    have j6 : ¬ (c = i + m) := by omega
    clear A2 A3
    go_enter Tryz.func67, Tryz.ntmps67
    go_wp2_with (at_builtin; refine Lib.wpList_append_run _ rfl _ _ _ _ rfl _ _ rfl rfl _ _ (A1.out _) ?_)
    rw [HP.out.1]
    refine ⟨_, rfl, ?_, G2.out, Or.inl rfl⟩
    rw [HZL.out.1, hT]
    exact O2.out
  · have ew := A3.out h0
    subst ew
    have j1 : ¬ ((i : Int) + (m : Int) < (n : Int)) := by omega
    clear A2 A3
    go_enter Tryz.func67, Tryz.ntmps67
    go_wp2_with (at_builtin; refine Lib.wpList_append_run _ rfl _ _ _ _ rfl _ _ rfl rfl _ _ (A1.out _) ?_)
    rw [HP.out.1]
    refine ⟨_, rfl, ?_, G2.out, Or.inl rfl⟩
    rw [HZL.out.1, hT]
    exact O2.out
set_option maxRecDepth 100000 in
set_option maxHeartbeats 4000000 in
/-- At the end, without room. -/
theorem rependgI (base i j : Nat) (g c cu : Nat) (pa : Option Addr) (cur : Array Value) (xs ys : List Value) (w : World) (hB : Blk w g 3 cur) (hc : cur.size = c) (hx : cur.toList.take xs.length = xs) (hnc : xs.length ≤ c) (hc63 : c ≤ maxLen) (hg : base ≤ g) (_h1x : ∀ u ∈ xs, u.oneCell' = true) (_hV : Sv 3 w g pa ys) (h1y : ∀ u ∈ ys, u.oneCell' = true) (b2 : Nat) (hu : w.ownsRow b2 3 1 (.slice pa ys.length cu) ys.length ys) (hij : i < j) (hj : j = xs.length) (hm : c < i + ys.length) (hl : xs.length ≤ 1000000) (hly : ys.length ≤ 1000000) (hbase : base ≤ w.heap.size) :
    Calls Tryz.prog 68 #[.slice (some ⟨g, 0, none⟩) xs.length c, .int .i64 i, .int .i64 j, .slice pa ys.length cu] w (InsPost 3 base (.slice (some ⟨g, 0, none⟩) xs.length c) (xs.take i ++ ys ++ xs.drop j) w) := by
  have hd0 : xs.drop j = [] := by rw [hj]; exact List.drop_length
  unfold maxLen at hc63
  obtain ⟨P0, hP0⟩ : ∃ P, P = InsPost 3 base (.slice (some ⟨g, 0, none⟩) xs.length c) (xs.take i ++ ys ++ xs.drop j) w := ⟨_, rfl⟩
  rw [← hP0]
  have HP := hid (And.intro hP0 trivial)
  clear hP0
  have hzl : (xs.take i ++ ys ++ xs.drop j).length = i + ys.length + (xs.length - j) := by
    rw [List.length_append, List.length_append, List.length_take, List.length_drop]
    omega
  have HZL := hid (And.intro hzl trivial)
  clear hzl
  obtain ⟨i0, hi0, hz0, hzs, hzb⟩ := info_parts Pa.info3
  have hf : w.ownsRow base 3 1 (.slice (some ⟨g, 0, none⟩) i c) i (xs.take i) := owns_of_blk hB hg (by omega) (by unfold maxLen; omega) hc (by rw [← hx, List.take_take, Nat.min_eq_left (by omega)]) (by rw [List.length_take]; omega)
  have MW : Hid (∃ p2 c2 W1, (∀ ty, (Builtin.append_ #[44, 44] ty #[.slice (some ⟨g, 0, none⟩) i c, .slice pa ys.length cu]).run Tryz.prog w = .ok (.slice p2 (i + ys.length) c2) W1) ∧ W1.ownsRow base 3 1 (.slice p2 (i + ys.length) c2) (i + ys.length) (xs.take i ++ ys ++ xs.drop j) ∧ w.grownBy W1 (some g) ∧ ((Value.slice p2 (i + ys.length) c2).ownBlock = some g ∨ (Value.slice p2 (i + ys.length) c2).ownBlock = some w.heap.size)) := by
    obtain ⟨v', w', hr, ho, hgr, hx'⟩ := append_where (P := Tryz.prog) (w := w) base 44 0 3 i0 (.int .i64 0) _ und44 hi0 hz0 hzs hzb rfl _ i (xs.take i) hf b2 _ ys.length ys hu h1y (by omega) (by decide) hbase
    obtain ⟨p2, c2, rfl⟩ := Pa.owns_slice ho
    rw [hd0, List.append_nil]
    refine ⟨p2, c2, w', fun ty => ?_, ho, hgr, hx'⟩
    exact hr
  obtain ⟨p2, c2, W1, e1, o2, g2, x2⟩ := MW.out
  have A1 := hid e1
  have O2 := hid o2
  have G2 := hid g2
  have X2 := hid x2
  clear e1 o2 g2 x2 MW hB hx _hV _h1x h1y hc hd0 hg hu hf
  subst hj
  generalize hn : xs.length = n at *
  generalize hmm : ys.length = m at *
  have HN := hid (And.intro hn hmm)
  clear hn hmm
  have i1 : ¬ ((i : Int) = (n : Int)) := by omega
  have i3 : ((i : Int) == (n : Int)) = false := by simp; omega
  have b2 : (i : Int) ≤ (n : Int) := by omega
  have b4 : i ≤ c := by omega
  have b5 : i ≤ n := by omega
  have w1 : IntKind.i64.wrap ((i : Int) + (m : Int)) = (i : Int) + (m : Int) := by rw [IntKind.wrap_i64]; omega
  have hT : i + m + (n - n) = i + m := by omega
  have j1 : ¬ ((i : Int) + (m : Int) < (n : Int)) := by omega
  go_enter Tryz.func68, Tryz.ntmps68
  go_wp2_with (at_builtin; refine Lib.wpList_append_run _ rfl _ _ _ _ rfl _ _ rfl rfl _ _ (A1.out _) ?_)
  rw [HP.out.1]
  refine ⟨_, rfl, ?_, G2.out, X2.out⟩
  rw [HZL.out.1, hT]
  exact O2.out
set_option maxRecDepth 100000 in
set_option maxHeartbeats 4000000 in
/-- Not at the end, without room. -/
theorem repmidgI (base i j : Nat) (g c cu : Nat) (pa : Option Addr) (cur : Array Value) (xs ys : List Value) (w : World) (hB : Blk w g 3 cur) (_hc : cur.size = c) (hx : cur.toList.take xs.length = xs) (hnc : xs.length ≤ c) (hc63 : c ≤ maxLen) (_hg : base ≤ g) (h1x : ∀ u ∈ xs, u.oneCell' = true) (hV : Sv 3 w g pa ys) (h1y : ∀ u ∈ ys, u.oneCell' = true) (hij : i < j) (hj : j < xs.length) (hm : c < i + ys.length + (xs.length - j)) (hl : xs.length ≤ 1000000) (hly : ys.length ≤ 1000000) (hbase : base ≤ w.heap.size) :
    Calls Tryz.prog 68 #[.slice (some ⟨g, 0, none⟩) xs.length c, .int .i64 i, .int .i64 j, .slice pa ys.length cu] w (InsPost 3 base (.slice (some ⟨g, 0, none⟩) xs.length c) (xs.take i ++ ys ++ xs.drop j) w) := by
  unfold maxLen at hc63
  obtain ⟨P0, hP0⟩ : ∃ P, P = InsPost 3 base (.slice (some ⟨g, 0, none⟩) xs.length c) (xs.take i ++ ys ++ xs.drop j) w := ⟨_, rfl⟩
  rw [← hP0]
  have HP := hid (And.intro hP0 trivial)
  clear hP0
  have hzl : (xs.take i ++ ys ++ xs.drop j).length = i + ys.length + (xs.length - j) := by
    rw [List.length_append, List.length_append, List.length_take, List.length_drop]
    omega
  have HZL := hid (And.intro hzl trivial)
  clear hzl
  have hd : (xs.drop j).length = xs.length - j := List.length_drop
  have hgw := hB.lt
  have MW : Hid (∀ w0 : World, w.grownBy w0 none → w0.heap.size = w.heap.size → ∃ G W1 W2 W3, (i + ys.length + (xs.length - j) ≤ G ∧ G ≤ 9223372036854775807) ∧ (∀ ty, (Builtin.append_ #[44, 3] ty #[.slice (some ⟨g, 0, none⟩) i c, .int .i64 ((i : Int) + (ys.length : Int) + ((xs.length - j : Nat) : Int) - (i : Int))]).run Tryz.prog w0 = .ok (.slice (some ⟨w.heap.size, 0, none⟩) (i + ys.length + (xs.length - j)) G) W1) ∧ (∀ ty dc, (Builtin.copy_ #[44, 44] ty #[.slice (some ⟨w.heap.size, i, none⟩) (i + ys.length + (xs.length - j) - i) dc, .slice pa ys.length cu]).run Tryz.prog W1 = .ok (goInt ys.length) W2) ∧ (∀ ty dc sc, (Builtin.copy_ #[44, 44] ty #[.slice (some ⟨w.heap.size, i + ys.length, none⟩) (xs.length - j) dc, .slice (some ⟨g, j, none⟩) (xs.length - j) sc]).run Tryz.prog W2.drew = .ok (goInt (xs.length - j : Nat)) W3) ∧
      W3.ownsRow base 3 1 (.slice (some ⟨w.heap.size, 0, none⟩) (i + ys.length + (xs.length - j)) G) (i + ys.length + (xs.length - j)) (xs.take i ++ ys ++ xs.drop j) ∧ w.grownBy W3 (some g)) := by
    intro w0 hw0 hsz
    obtain ⟨i0, hi0, hz0, hzs, hzb⟩ := info_parts Pa.info3
    have hB0 : Blk w0 g 3 cur := hB.kept hw0 (by simp)
    have hold : (Builtin.firstCells i0.size i (.slice (some ⟨g, 0, none⟩) i c)).run Tryz.prog w0.drew = .ok (xs.take i).toArray w0.drew := by
      rw [hzs]
      exact run_firstCells_some w0.drew 1 i ⟨g, 0, none⟩ i c (xs.take i) (by rw [List.length_take]; omega) (fun k v hk => by
        rw [Addr.add_lit, Nat.zero_add, hB0.drew.cell]
        rw [List.getElem?_take] at hk
        split at hk
        · exact take_get hx hk
        · cases hk)
    have hik : i + (ys.length + (xs.length - j)) = i + ys.length + (xs.length - j) := by omega
    have hkk : (i : Int) + (ys.length : Int) + ((xs.length - j : Nat) : Int) - (i : Int) = ((ys.length + (xs.length - j) : Nat) : Int) := by omega
    have E1 : ∀ ty, (Builtin.append_ #[44, 3] ty #[.slice (some ⟨g, 0, none⟩) i c, .int .i64 ((i : Int) + (ys.length : Int) + ((xs.length - j : Nat) : Int) - (i : Int))]).run Tryz.prog w0 = .ok (.slice (some ⟨w0.heap.size, 0, none⟩) (i + ys.length + (xs.length - j)) (grownCap w0 (i + ys.length + (xs.length - j)) c 3)) (w0.drew.alloc (.cells ((xs.take i).toArray ++ Builtin.zeroCells ((.int .i64 0) : Value).cells (ys.length + (xs.length - j)) ++ Builtin.zeroCells ((.int .i64 0) : Value).cells (grownCap w0 (i + ys.length + (xs.length - j)) c 3 - (i + ys.length + (xs.length - j)))) 3)) := fun ty => by
      have h := Lib.run_append_grow_zeros w0 44 3 ty 3 i0 _ .i64 .i64 und44 undI hi0 hz0 (some ⟨g, 0, none⟩) i c (xs.take i) hold (ys.length + (xs.length - j)) (by omega) (by omega) (by omega) (by omega) (by rw [hzb]; omega) (by rw [hzb, hik]; exact growslice_fits hm (by omega))
      rw [hik] at h
      rw [hkk]
      exact h
    have hG1 := grownCap_ge w0 (i + ys.length + (xs.length - j)) c 3
    have hG2 := grownCap_le_maxLen w0 (i + ys.length + (xs.length - j)) c 3 (by unfold maxLen; omega)
    generalize grownCap w0 (i + ys.length + (xs.length - j)) c 3 = G at *
    have hz1 := zeros_size ((.int .i64 0) : Value) rfl (ys.length + (xs.length - j))
    have hz2 := zeros_size ((.int .i64 0) : Value) rfl (G - (i + ys.length + (xs.length - j)))
    have htl : (xs.take i).length = i := by rw [List.length_take]; omega
    obtain ⟨Z, hZ⟩ : ∃ Z, Z = (xs.take i).toArray ++ Builtin.zeroCells ((.int .i64 0) : Value).cells (ys.length + (xs.length - j)) ++ Builtin.zeroCells ((.int .i64 0) : Value).cells (G - (i + ys.length + (xs.length - j))) := ⟨_, rfl⟩
    rw [← hZ] at E1
    have hZs : Z.size = G := by rw [hZ, Array.size_append, Array.size_append, hz1, hz2]; simp; omega
    have hZt : Z.toList.take i = xs.take i := by
      rw [hZ, Array.toList_append, Array.toList_append, List.append_assoc, List.take_append, htl, Nat.sub_self, List.take_zero, List.append_nil, List.take_of_length_le (by show (xs.take i).length ≤ i; omega)]
    have B1 := Blk.new w0.drew 3 Z
    have G1 : w0.grownBy (w0.drew.alloc (.cells Z 3)) none := grown_alloc (grown_drew (grown_refl _ _)) _
    have hs0 : w0.drew.heap.size = w.heap.size := hsz
    rw [hs0] at B1
    rw [hsz] at E1
    generalize w0.drew.alloc (.cells Z 3) = W1 at *
    clear hz1 hz2 hZ
    obtain ⟨W2, E2, B2, G2⟩ := Sv.copy 44 3 und44 size3 W1 w.heap.size g i (i + ys.length + (xs.length - j) - i) cu pa ys ((hV.kept hw0).kept G1) Z B1 (by omega) h1y (by omega)
    have hB2 : Blk W2.drew g 3 cur := ((hB0.kept G1 (by simp)).kept G2 (fun e => by have := Option.some.inj e; omega)).drew
    obtain ⟨W3, E3, B3, G3⟩ := copy_eq 44 3 und44 size3 W2.drew w.heap.size (i + ys.length) (xs.length - j) ⟨g, j, none⟩ (xs.length - j) (xs.drop j) (setM Z i ys) B2.drew (by rw [hd]; simp only [Nat.min_def]; split <;> omega) (fun k q hk => by
      rw [Addr.add_lit, hB2.cell]
      rw [List.getElem?_drop] at hk
      exact take_get hx hk) (fun u hu => h1x u (List.mem_of_mem_drop hu)) (by rw [setM_size, hd]; omega)
    rw [hd] at E3
    refine ⟨G, W1, W2, W3, ⟨hG1, hG2⟩, E1, E2, E3, owns_of_blk B3 hbase hG1 (by unfold maxLen; unfold maxLen at hG2; omega) (by rw [setM_size, setM_size, hZs]) (row_two hZt htl rfl hd (by omega)) (by rw [List.length_append, List.length_append, List.length_take, List.length_drop]; omega), ?_⟩
    exact grown_through (grown_through (grown_none (grown_refl _ _) (grown_none hw0 G1)) G2 (Nat.le_refl _)) (grown_trans (grown_drew (grown_refl _ _)) G3) (Nat.le_refl _)
  clear hB hx hV h1x h1y hd hbase
  generalize hn : xs.length = n at *
  generalize hmm : ys.length = m at *
  have HN := hid (And.intro hn hmm)
  clear hn hmm
  have i1 : ¬ ((i : Int) = (j : Int)) := by omega
  have i2 : ¬ ((j : Int) = (n : Int)) := by omega
  have i3 : ((i : Int) == (j : Int)) = false := by simp; omega
  have i4 : ((j : Int) == (n : Int)) = false := by simp; omega
  have w1 : IntKind.i64.wrap ((i : Int) + (m : Int)) = (i : Int) + (m : Int) := by rw [IntKind.wrap_i64]; omega
  have w2 : IntKind.i64.wrap ((i : Int) + (m : Int) + ((n - j : Nat) : Int)) = (i : Int) + (m : Int) + ((n - j : Nat) : Int) := by rw [IntKind.wrap_i64]; omega
  have w3 : IntKind.i64.wrap ((i : Int) + (m : Int) + ((n - j : Nat) : Int) - (i : Int)) = (i : Int) + (m : Int) + ((n - j : Nat) : Int) - (i : Int) := by rw [IntKind.wrap_i64]; omega
  have i5 : (c : Int) < (i : Int) + (m : Int) + ((n - j : Nat) : Int) := by omega
  have n1 : ((i : Int) + (m : Int)).toNat = i + m := by omega
  have b0 : (0 : Int) ≤ (i : Int) + (m : Int) := by omega
  have b1 : (0 : Int) ≤ (i : Int) + (m : Int) + ((n - j : Nat) : Int) := by omega
  have b2 : (i : Int) ≤ (n : Int) := by omega
  have b3 : (j : Int) ≤ (n : Int) := by omega
  have b4 : i ≤ c := by omega
  have b5 : j ≤ n := by omega
  have b7 : i ≤ j := by omega
  have b8 : j ≤ c := by omega
  have b9 : ¬ (c = j) := by omega
  have b10 : ¬ (c = i) := by omega
  have b12 : (i : Int) + (m : Int) ≤ (i : Int) + (m : Int) + ((n - j : Nat) : Int) := by omega
  have b13 : (i : Int) ≤ (i : Int) + (m : Int) + ((n - j : Nat) : Int) := by omega
  have hgn : ¬ (g = w.heap.size) := by omega
  go_enter Tryz.func68, Tryz.ntmps68
  go_wp2_with fail
  go_quiet (fail)
  obtain ⟨G, W1, W2, W3, hG', c1', c2, c3, o3, g3⟩ := MW.out (w.drewN nq) (Pa.grown_drewN (grown_refl w none) nq) rfl
  have hG1 := hG'.1
  have hG2 := hG'.2
  have c1 := hid c1'
  have O3 := hid o3
  have G3 := hid g3
  have d1 : ¬ (G = i) := by omega
  have d2 : ¬ (G = i + m) := by omega
  clear c1' o3 g3 MW hG'
  go_wp2_with (at_builtin; refine Lib.wpList_append_run _ rfl _ _ _ _ rfl _ _ rfl rfl _ _ (c1.out _) ?_)
  clear c1
  go_region
  go_wp2_with fail
  rw [HP.out.1]
  refine ⟨_, rfl, ?_, G3.out, Or.inr rfl⟩
  rw [HZL.out.1]
  exact O3.out
set_option maxRecDepth 100000 in
set_option maxHeartbeats 4000000 in
/-- Not at the end, in place, more than were there. -/
theorem repexpI (base i j : Nat) (g c cu : Nat) (pa : Option Addr) (cur : Array Value) (xs ys : List Value) (w : World) (hB : Blk w g 3 cur) (hc : cur.size = c) (hx : cur.toList.take xs.length = xs) (hnc : xs.length ≤ c) (hc63 : c ≤ maxLen) (hg : base ≤ g) (h1x : ∀ u ∈ xs, u.oneCell' = true) (hV : Sv 3 w g pa ys) (h1y : ∀ u ∈ ys, u.oneCell' = true) (hij : i < j) (hj : j < xs.length) (hm : i + ys.length + (xs.length - j) ≤ c) (hm2 : j < i + ys.length) (hl : xs.length ≤ 1000000) (hly : ys.length ≤ 1000000) :
    Calls Tryz.prog 68 #[.slice (some ⟨g, 0, none⟩) xs.length c, .int .i64 i, .int .i64 j, .slice pa ys.length cu] w (InsPost 3 base (.slice (some ⟨g, 0, none⟩) xs.length c) (xs.take i ++ ys ++ xs.drop j) w) := by
  unfold maxLen at hc63
  obtain ⟨P0, hP0⟩ : ∃ P, P = InsPost 3 base (.slice (some ⟨g, 0, none⟩) xs.length c) (xs.take i ++ ys ++ xs.drop j) w := ⟨_, rfl⟩
  rw [← hP0]
  have HP := hid (And.intro hP0 trivial)
  clear hP0
  have hzl : (xs.take i ++ ys ++ xs.drop j).length = i + ys.length + (xs.length - j) := by
    rw [List.length_append, List.length_append, List.length_take, List.length_drop]
    omega
  have HZL := hid (And.intro hzl trivial)
  clear hzl
  have hd : (xs.drop j).length = xs.length - j := List.length_drop
  have hS := row_exp (i := i) (j := j) hx rfl (ys := ys) rfl (by omega) (by omega) (by omega)
  obtain ⟨vb, vcur, rfl, hV1, hV2, hne⟩ : ∃ vb vcur, pa = some ⟨vb, 0, none⟩ ∧ Blk w vb 3 vcur ∧ vcur.toList.take ys.length = ys ∧ vb ≠ g := by
    rcases hV with ⟨_, h⟩ | h
    · rw [h] at hm2
      simp at hm2
      omega
    · exact h
  have hvs : vcur.size ≠ 0 := by
    intro e
    have hv : vcur.toList = [] := by
      have := Array.length_toList (xs := vcur)
      rw [e] at this
      exact List.eq_nil_of_length_eq_zero this
    rw [hv] at hV2
    rw [← hV2] at hm2
    simp at hm2
    omega
  have MW : Hid (∀ w0 : World, w.grownBy w0 none → (∀ la ca, (callFunc 94 #[.slice (some ⟨g, i + ys.length, none⟩) la ca, .slice (some ⟨vb, 0, none⟩) ys.length cu]).run Tryz.prog w0 = .ok (.value (.bool false)) w0) ∧ ∃ W1 W2, (∀ ty dc sc, (Builtin.copy_ #[44, 44] ty #[.slice (some ⟨g, i + ys.length, none⟩) (xs.length - j) dc, .slice (some ⟨g, j, none⟩) (xs.length - j) sc]).run Tryz.prog w0.drew = .ok (goInt (xs.length - j : Nat)) W1) ∧ (∀ ty dc, (Builtin.copy_ #[44, 44] ty #[.slice (some ⟨g, i, none⟩) (i + ys.length + (xs.length - j) - i) dc, .slice (some ⟨vb, 0, none⟩) ys.length cu]).run Tryz.prog W1 = .ok (goInt ys.length) W2) ∧
      W2.ownsRow base 3 1 (.slice (some ⟨g, 0, none⟩) (i + ys.length + (xs.length - j)) c) (i + ys.length + (xs.length - j)) (xs.take i ++ ys ++ xs.drop j) ∧ w.grownBy W2 (some g)) := by
    intro w0 hw0
    have hB0 : Blk w0 g 3 cur := hB.kept hw0 (by simp)
    have hV0 : Blk w0 vb 3 vcur := hV1.kept hw0 (by simp)
    refine ⟨fun la ca => ?_, ?_⟩
    · have h := run_callFunc_extern (w := w0) (args := #[.slice (some ⟨g, i + ys.length, none⟩) la ca, .slice (some ⟨vb, 0, none⟩) ys.length cu]) laysN.f27 (by kernel_rfl) (by kernel_rfl) (by kernel_rfl) (e := Extern.SlicesOverlaps.overlaps #[44, 44] #[4]) (by kernel_rfl)
      rw [Lib.run_overlaps_apart w0 44 4 3 und44 1 sizeOf3 ⟨g, i + ys.length, none⟩ ⟨vb, 0, none⟩ la ca ys.length cu (fun e => hne e.symm) 3 3 cur.size vcur.size (Blk.shape hB0) (Blk.shape hV0) hvs (hB0.frozen _) (hB0.frozen _)] at h
      exact h
    · obtain ⟨W1, E1, B1, G1⟩ := copy_eq 44 3 und44 size3 w0.drew g (i + ys.length) (xs.length - j) ⟨g, j, none⟩ (xs.length - j) (xs.drop j) cur hB0.drew (by rw [hd]; simp only [Nat.min_def]; split <;> omega) (fun k q hk => by
        rw [Addr.add_lit, hB0.drew.cell]
        rw [List.getElem?_drop] at hk
        exact take_get hx hk) (fun u hu => h1x u (List.mem_of_mem_drop hu)) (by rw [hd]; omega)
      obtain ⟨W2, E2, B2, G2⟩ := Sv.copy 44 3 und44 size3 W1 g g i (i + ys.length + (xs.length - j) - i) cu (some ⟨vb, 0, none⟩) ys (Or.inr ⟨vb, vcur, rfl, hV0.drew.kept G1 (fun e => hne (Option.some.inj e)), hV2, hne⟩) _ B1 (by omega) h1y (by rw [setM_size]; omega)
      rw [hd] at E1
      exact ⟨W1, W2, E1, E2, owns_of_blk B2 hg hm (by unfold maxLen; omega) (by rw [setM_size, setM_size, hc]) hS (by rw [List.length_append, List.length_append, List.length_take, List.length_drop]; omega), grown_trans (grown_trans (grown_drew (grown_none (grown_refl _ _) hw0)) G1) G2⟩
  clear hB hx hV1 hV2 h1x h1y hc hd hg hS hvs hne
  generalize hn : xs.length = n at *
  generalize hmm : ys.length = m at *
  have HN := hid (And.intro hn hmm)
  clear hn hmm
  have i1 : ¬ ((i : Int) = (j : Int)) := by omega
  have i2 : ¬ ((j : Int) = (n : Int)) := by omega
  have i3 : ((i : Int) == (j : Int)) = false := by simp; omega
  have i4 : ((j : Int) == (n : Int)) = false := by simp; omega
  have w1 : IntKind.i64.wrap ((i : Int) + (m : Int)) = (i : Int) + (m : Int) := by rw [IntKind.wrap_i64]; omega
  have w2 : IntKind.i64.wrap ((i : Int) + (m : Int) + ((n - j : Nat) : Int)) = (i : Int) + (m : Int) + ((n - j : Nat) : Int) := by rw [IntKind.wrap_i64]; omega
  have i5 : ¬ ((c : Int) < (i : Int) + (m : Int) + ((n - j : Nat) : Int)) := by omega
  have i6 : ¬ ((i : Int) + (m : Int) ≤ (j : Int)) := by omega
  have n1 : ((i : Int) + (m : Int)).toNat = i + m := by omega
  have n2 : ((i : Int) + (m : Int) + ((n - j : Nat) : Int)).toNat = i + m + (n - j) := by omega
  have b0 : (0 : Int) ≤ (i : Int) + (m : Int) := by omega
  have b1 : (0 : Int) ≤ (i : Int) + (m : Int) + ((n - j : Nat) : Int) := by omega
  have b2 : (i : Int) ≤ (n : Int) := by omega
  have b3 : (j : Int) ≤ (n : Int) := by omega
  have b4 : i ≤ c := by omega
  have b5 : j ≤ n := by omega
  have b6 : (i : Int) + (m : Int) + ((n - j : Nat) : Int) ≤ (c : Int) := by omega
  have b7 : i ≤ j := by omega
  have b8 : j ≤ c := by omega
  have b9 : ¬ (c = j) := by omega
  have b10 : ¬ (c = i) := by omega
  have b11 : ¬ (c = i + m) := by omega
  have b12 : (i : Int) + (m : Int) ≤ (i : Int) + (m : Int) + ((n - j : Nat) : Int) := by omega
  have b13 : (i : Int) ≤ (i : Int) + (m : Int) + ((n - j : Nat) : Int) := by omega
  go_enter Tryz.func68, Tryz.ntmps68
  go_wp2_with fail
  go_quiet (fail)
  obtain ⟨c0, W1, W2, c1, c2, o3, g3⟩ := MW.out (w.drewN nq) (Pa.grown_drewN (grown_refl w none) nq)
  have O3 := hid o3
  have G3 := hid g3
  clear o3 g3 MW
  generalize w.drewN nq = w0 at *
  go_wp2_with (simp only [c0])
  go_region
  clear c1
  go_wp2_with fail
  rw [HP.out.1]
  refine ⟨_, rfl, ?_, G3.out, Or.inl rfl⟩
  rw [HZL.out.1]
  exact O3.out
theorem insstring_row (base i vb : Nat) (v : Value) (xs ys : List Value) (w : World) (h : w.ownsRow base 9 1 v xs.length xs) (hx1 : ∀ u ∈ xs, u.oneCell' = true) (hi : i ≤ xs.length) (hlen : xs.length ≤ 1000000) (vcur : Array Value) (hu : Blk w vb 9 vcur) (hvt : ∀ (j : Nat) (u : Value), ys[j]? = some u → vcur[j]? = some u) (hy1 : ∀ u ∈ ys, u.oneCell' = true) (hy0 : 0 < ys.length) (hyl : ys.length ≤ 1000000) (vc : Nat) (hne : v.ownBlock ≠ some vb) (hb : base ≤ w.heap.size) :
    Calls Tryz.prog 73 #[v, .int .i64 i, .slice (some ⟨vb, 0, none⟩) ys.length vc] w (InsPost 9 base v (xs.take i ++ ys ++ xs.drop i) w) := by
  have hvs : ∀ j u, ys[j]? = some u → w.cell? ⟨vb, 0 + j, none⟩ = some u := fun j u hj => by
    rw [Nat.zero_add, hu.cell j]
    exact hvt j u hj
  have hzl : (xs.take i ++ ys ++ xs.drop i).length = xs.length + ys.length := by
    rw [List.length_append, List.length_append, List.length_take, List.length_drop]
    omega
  rcases owns_cases h with ⟨rfl, h0, hxs⟩ | ⟨g, cap, cur, rfl, hg, hB, hn, hc, hs, hx, hl⟩
  · have hi0 : i = 0 := by omega
    subst hi0
    subst hxs
    have C := Any2.slices_Insert_string_end_grow (L := laysI) none 0 0 vb 0 ys.length vc [] ys w hy0 (Nat.le_refl _) (by omega) (by omega) rfl rfl (fun _ => rfl) (fun _ e => by cases e) hvs hy1
    refine C.mono fun e w' ⟨he, hw⟩ => ⟨_, he, ?_, ?_, Or.inr rfl⟩
    · rw [hw, hzl]
      have hcap := grownCap_ge w (0 + ys.length) 0 (renS.t 9)
      have hcap2 := grownCap_le_maxLen w (0 + ys.length) 0 (renS.t 9) (by unfold maxLen; omega)
      generalize grownCap w (0 + ys.length) 0 (renS.t 9) = c at *
      have e0 : ([] : List Value).length + ys.length = 0 + ys.length := rfl
      rw [e0]
      refine owns_of_blk (Blk.new w.drew 9 _) (by show base ≤ w.drew.heap.size; exact hb) hcap hcap2 ?_ ?_ ?_
      · rw [Array.size_append, zeros_size _ rfl]
        simp
        omega
      · simp
      · simp
    · rw [hw]
      exact grown_alloc (grown_drew (grown_refl _ _)) _
  · have hcl : xs.length ≤ cur.toList.length := by simp; omega
    have hcells : ∀ j u, xs[j]? = some u → w.cell? ⟨g, 0 + j, none⟩ = some u := fun j u hj => by
      rw [Nat.zero_add, hB.cell j]
      exact take_get hx hj
    have hne' : vb ≠ g := fun e => hne (by rw [e]; rfl)
    by_cases hroom : xs.length + ys.length ≤ cap
    · by_cases hlt : i < xs.length
      · have C := Any2.slices_Insert_string_shift (L := laysI) g 0 xs.length cap i vb 0 ys.length vc xs ys w hlt hy0 hroom (by unfold maxLen at hc; omega) hne' rfl rfl hcells (fun j hj => by rw [Nat.zero_add, hB.cell j, Array.getElem?_eq_getElem (by omega)]; rfl) (fun j _ => hB.frozen _) hvs hx1 hy1 9 9 vcur.size cur.size (Blk.shape hu) (Blk.shape hB) (by omega) (hu.frozen _) (hu.frozen _)
        refine C.mono fun e w' ⟨he, hw⟩ => ⟨_, he, ?_, ?_, Or.inl rfl⟩
        · rw [hw, hzl]
          have B2 := blk_setM ys (0 + i) _ _ (blk_setM (xs.drop i) (0 + (i + ys.length)) _ _ hB.drew)
          have hdl : (xs.drop i).length = xs.length - i := List.length_drop
          refine owns_of_blk B2 hg hroom hc (by rw [setM_size, setM_size, hs]) ?_ hzl
          rw [setM_list _ _ _ (by rw [setM_size]; omega), setM_list _ _ _ (by omega)]
          rw [Nat.zero_add, Nat.zero_add]
          have hc2 : cur.toList.length = cap := by simpa using hs
          have e1 : cur.toList.take i = xs.take i := by rw [← hx, List.take_take, Nat.min_eq_left (by omega)]
          have l1 : (cur.toList.take (i + ys.length)).length = i + ys.length := by rw [List.length_take]; omega
          have e2 : (cur.toList.take (i + ys.length) ++ xs.drop i ++ cur.toList.drop (i + ys.length + (xs.drop i).length)).take i = xs.take i := by
            rw [List.append_assoc, List.take_append, l1, show i - (i + ys.length) = 0 by omega, List.take_zero, List.append_nil, List.take_take, Nat.min_eq_left (by omega), e1]
          have e3 : (cur.toList.take (i + ys.length) ++ xs.drop i ++ cur.toList.drop (i + ys.length + (xs.drop i).length)).drop (i + ys.length) = xs.drop i ++ cur.toList.drop (i + ys.length + (xs.drop i).length) := by
            rw [List.append_assoc, List.drop_append, l1, Nat.sub_self, List.drop_zero, List.drop_eq_nil_of_le (by omega), List.nil_append]
          rw [e2, e3, ← List.append_assoc, List.take_append, hzl, Nat.sub_self, List.take_zero, List.append_nil, List.take_of_length_le (by rw [hzl]; exact Nat.le_refl _)]
        · rw [hw]
          exact grown_setM _ _ _ _ (grown_setM _ _ _ _ (grown_drew (grown_refl _ _)))
      · have hie : i = xs.length := by omega
        subst hie
        have C := Any2.slices_Insert_string_end_room (L := laysI) g 0 xs.length cap vb 0 ys.length vc ys w hy0 hroom (by unfold maxLen at hc; omega) rfl (fun j hj => by rw [hB.cell, Array.getElem?_eq_getElem (by omega)]; rfl) (fun j _ => hB.frozen _) hvs hy1
        refine C.mono fun e w' ⟨he, hw⟩ => ⟨_, he, ?_, ?_, Or.inl rfl⟩
        · rw [hw, hzl]
          have B2 := blk_setM ys (0 + xs.length) _ _ hB
          refine owns_of_blk B2 hg hroom hc (by rw [setM_size, hs]) ?_ hzl
          rw [setM_list _ _ _ (by omega), Nat.zero_add, hx, List.take_length, List.drop_length, List.append_nil, List.take_append, List.length_append, Nat.sub_self, List.take_zero, List.append_nil, List.take_of_length_le (by rw [List.length_append]; exact Nat.le_refl _)]
        · rw [hw]
          exact grown_setM _ _ _ _ (grown_refl _ _)
    · by_cases hlt : i < xs.length
      · have C := Any2.slices_Insert_string_grow (L := laysI) g 0 xs.length cap i vb 0 ys.length vc xs ys w hlt hy0 hn (by omega) (by omega) rfl rfl hcells hvs hx1 hy1
        refine C.mono fun e w' ⟨he, hw⟩ => ⟨_, he, ?_, ?_, Or.inr rfl⟩
        · rw [hw, hzl]
          have hcap := grownCap_ge w (xs.length + ys.length) cap (renS.t 9)
          have hcap2 := grownCap_le_maxLen w (xs.length + ys.length) cap (renS.t 9) (by unfold maxLen; omega)
          generalize grownCap w (xs.length + ys.length) cap (renS.t 9) = c at *
          have hdl : (xs.drop i).length = xs.length - i := List.length_drop
          have htl : (xs.take i).length = i := by rw [List.length_take]; omega
          have hz1 := zeros_size (Value.string ⟨#[]⟩) rfl (xs.length + ys.length - i)
          have hz2 := zeros_size (Value.string ⟨#[]⟩) rfl (c - (xs.length + ys.length))
          obtain ⟨Z, hZ⟩ : ∃ Z, Z = (xs.take i).toArray ++ Builtin.zeroCells (Value.string ⟨#[]⟩).cells (xs.length + ys.length - i) ++ Builtin.zeroCells (Value.string ⟨#[]⟩).cells (c - (xs.length + ys.length)) := ⟨_, rfl⟩
          have hZs : Z.size = c := by rw [hZ, Array.size_append, Array.size_append, hz1, hz2]; simp; omega
          have hZt : Z.toList.take i = xs.take i := by
            rw [hZ, Array.toList_append, Array.toList_append, List.append_assoc, List.take_append, htl, Nat.sub_self, List.take_zero, List.append_nil, List.take_of_length_le (by show (xs.take i).length ≤ i; omega)]
          have B2 := blk_setM (xs.drop i) (i + ys.length) _ _ (Blk.drew (blk_setM ys i _ _ (Blk.drew (Blk.new w 9 Z))))
          rw [hZ] at B2
          refine owns_of_blk B2 hb hcap hcap2 (by rw [setM_size, setM_size, ← hZ, hZs]) ?_ hzl
          rw [← hZ]
          have hZl : Z.toList.length = c := by simpa using hZs
          rw [setM_list _ _ _ (by rw [setM_size]; omega), setM_list _ _ _ (by omega), hZt]
          have l1 : (xs.take i ++ ys).length = i + ys.length := by rw [List.length_append]; omega
          have e2 : (xs.take i ++ ys ++ Z.toList.drop (i + ys.length)).take (i + ys.length) = xs.take i ++ ys := by
            rw [List.take_append, l1, Nat.sub_self, List.take_zero, List.append_nil, List.take_of_length_le (by omega)]
          rw [e2, List.take_append, hzl, Nat.sub_self, List.take_zero, List.append_nil, List.take_of_length_le (by rw [hzl]; exact Nat.le_refl _)]
        · rw [hw]
          exact grown_setM_new _ _ _ _ (Nat.le_refl _) (grown_drew (grown_setM_new _ _ _ _ (Nat.le_refl _) (grown_drew (grown_alloc (grown_refl _ _) _))))
      · have hie : i = xs.length := by omega
        subst hie
        have C := Any2.slices_Insert_string_end_grow (L := laysI) (some ⟨g, 0, none⟩) xs.length cap vb 0 ys.length vc xs ys w hy0 hn (by omega) (by omega) rfl rfl (fun e => by cases e) (fun a ea j u hj => by cases ea; have := hcells j u hj; rw [Addr.add_lit]; exact this) hvs hy1
        refine C.mono fun e w' ⟨he, hw⟩ => ⟨_, he, ?_, ?_, Or.inr rfl⟩
        · rw [hw, hzl]
          have hcap := grownCap_ge w (xs.length + ys.length) cap (renS.t 9)
          have hcap2 := grownCap_le_maxLen w (xs.length + ys.length) cap (renS.t 9) (by unfold maxLen; omega)
          generalize grownCap w (xs.length + ys.length) cap (renS.t 9) = c at *
          refine owns_of_blk (Blk.new w.drew 9 _) (by show base ≤ w.drew.heap.size; exact hb) hcap hcap2 ?_ ?_ hzl
          · rw [Array.size_append, zeros_size _ rfl]
            simp
            omega
          · rw [List.take_length, List.drop_length, List.append_nil, Array.toList_append]
            show ((xs ++ ys).toArray.toList ++ _).take _ = _
            rw [List.take_append, show (xs ++ ys).toArray.toList = xs ++ ys from rfl, List.length_append, Nat.sub_self, List.take_zero, List.append_nil, List.take_of_length_le (by rw [List.length_append]; exact Nat.le_refl _)]
        · rw [hw]
          exact grown_alloc (grown_drew (grown_refl _ _)) _
/-- Replace at ints. -/
theorem rep_ints (base b2 i j : Nat) (v u : Value) (xs ys : List Value) (w : World) (h : w.ownsRow base 3 1 v xs.length xs) (h1x : ∀ q ∈ xs, q.oneCell' = true) (hu : w.ownsRow b2 3 1 u ys.length ys) (h1y : ∀ q ∈ ys, q.oneCell' = true) (hf : Pa.Far v u) (hij : i < j) (hj : j ≤ xs.length) (hl : xs.length ≤ 1000000) (hly : ys.length ≤ 1000000) (hb : base ≤ w.heap.size) :
    Calls Tryz.prog 68 #[v, .int .i64 i, .int .i64 j, u] w (InsPost 3 base v (xs.take i ++ ys ++ xs.drop j) w) := by
  rcases owns_cases h with ⟨rfl, h0, hxs⟩ | ⟨g, c, cur, rfl, hg, hB, hn, hc, hs, hx, _⟩
  · omega
  obtain ⟨pa, cu, rfl⟩ := Pa.owns_slice hu
  have hV : Sv 3 w g pa ys := by
    rcases owns_cases hu with ⟨e, h0, hys⟩ | ⟨g2, c2, cur2, e, _, hB2, _, _, _, hx2, _⟩
    · injection e with e1
      exact Or.inl ⟨e1, hys⟩
    · injection e with e1
      subst e1
      exact Or.inr ⟨g2, cur2, rfl, hB2, hx2, fun e => hf g rfl (by rw [← e]; rfl)⟩
  by_cases hjn : j = xs.length
  · by_cases hr : i + ys.length ≤ c
    · exact rependI base i j g c cu pa cur xs ys w hB hs hx hn hc hg h1x hV h1y hij hjn hr hl
    · exact rependgI base i j g c cu pa cur xs ys w hB hs hx hn hc hg h1x hV h1y b2 hu hij hjn (by omega) hl hly hb
  · by_cases hr : i + ys.length + (xs.length - j) ≤ c
    · by_cases hm : i + ys.length ≤ j
      · exact repfitI base i j g c cu pa cur xs ys w hB hs hx hn hc hg h1x hV h1y hij (by omega) hm hl
      · exact repexpI base i j g c cu pa cur xs ys w hB hs hx hn hc hg h1x hV h1y hij (by omega) hr (by omega) hl hly
    · exact repmidgI base i j g c cu pa cur xs ys w hB hs hx hn hc hg h1x hV h1y hij (by omega) (by omega) hl hly hb
/-- Replace at texts, by no more than were there. -/
theorem rep_strs (base b2 i j : Nat) (v u : Value) (xs ys : List Value) (w : World) (h : w.ownsRow base 9 1 v xs.length xs) (h1x : ∀ q ∈ xs, q.oneCell' = true) (hu : w.ownsRow b2 9 1 u ys.length ys) (h1y : ∀ q ∈ ys, q.oneCell' = true) (hf : Pa.Far v u) (hij : i < j) (hj : j ≤ xs.length) (hl : xs.length ≤ 1000000) (hm : i + ys.length ≤ j) :
    Calls Tryz.prog 67 #[v, .int .i64 i, .int .i64 j, u] w (InsPost 9 base v (xs.take i ++ ys ++ xs.drop j) w) := by
  rcases owns_cases h with ⟨rfl, h0, hxs⟩ | ⟨g, c, cur, rfl, hg, hB, hn, hc, hs, hx, _⟩
  · omega
  obtain ⟨pa, cu, rfl⟩ := Pa.owns_slice hu
  have hV : Sv 9 w g pa ys := by
    rcases owns_cases hu with ⟨e, h0, hys⟩ | ⟨g2, c2, cur2, e, _, hB2, _, _, _, hx2, _⟩
    · injection e with e1
      exact Or.inl ⟨e1, hys⟩
    · injection e with e1
      subst e1
      exact Or.inr ⟨g2, cur2, rfl, hB2, hx2, fun e => hf g rfl (by rw [← e]; rfl)⟩
  by_cases hjn : j = xs.length
  · exact rependS base i j g c cu pa cur xs ys w hB hs hx hn hc hg h1x hV h1y hij hjn (by omega) hl
  · exact repfitS base i j g c cu pa cur xs ys w hB hs hx hn hc hg h1x hV h1y hij (by omega) hm hl
set_option maxRecDepth 100000 in
set_option maxHeartbeats 1000000 in
theorem ins_nothing (p : Option Addr) (n c i cu : Nat) (pa : Option Addr) (w : World) (hi : i ≤ n) (hn : n ≤ c) :
    Calls Tryz.prog 73 #[.slice p n c, .int .i64 i, .slice pa 0 cu] w fun e w' => e = .returned (.slice p n c) ∧ w' = w := by
  have b1 : (i : Int) ≤ (n : Int) := by omega
  have b2 : i ≤ c := by omega
  cases p
  all_goals
    go_enter Tryz.func73, Tryz.ntmps73
    go_wp2
    all_goals (go_ret; exact ⟨rfl, rfl⟩)
set_option maxRecDepth 100000 in
set_option maxHeartbeats 1000000 in
/-- Replace at texts, of none: an insertion. -/
theorem rep_by_ins (p pa : Option Addr) (n c m cu i : Nat) (w : World) (hi : i ≤ n) (hn : n ≤ c) (Q : Ending → World → Prop) (hC : Calls Tryz.prog 73 #[.slice p n c, .int .i64 i, .slice pa m cu] w fun e w' => (∃ v, e = .returned v) ∧ Q e w') :
    Calls Tryz.prog 67 #[.slice p n c, .int .i64 i, .int .i64 i, .slice pa m cu] w Q := by
  have b1 : (i : Int) ≤ (n : Int) := by omega
  have b2 : i ≤ c := by omega
  have CC := hid hC
  clear hC
  cases p
  all_goals
    go_enter Tryz.func67, Tryz.ntmps67
    go_wp2_with (go_at_call 73; refine CC.out.mono ?_; rintro e w2 ⟨⟨v, rfl⟩, hq⟩; have HQ := hid hq; clear hq CC)
    all_goals exact HQ.out
/-- Replace at texts of none. -/
theorem rep_strs_none (base b2 i : Nat) (v u : Value) (xs ys : List Value) (w : World) (h : w.ownsRow base 9 1 v xs.length xs) (h1x : ∀ q ∈ xs, q.oneCell' = true) (hu : w.ownsRow b2 9 1 u ys.length ys) (h1y : ∀ q ∈ ys, q.oneCell' = true) (hf : Pa.Far v u) (hi : i ≤ xs.length) (hl : xs.length ≤ 1000000) (hly : ys.length ≤ 1000000) (hb : base ≤ w.heap.size) :
    Calls Tryz.prog 67 #[v, .int .i64 i, .int .i64 i, u] w (InsPost 9 base v (xs.take i ++ ys ++ xs.drop i) w) := by
  obtain ⟨p, c, rfl⟩ := Pa.owns_slice h
  obtain ⟨pa, cu, rfl⟩ := Pa.owns_slice hu
  have hnc : xs.length ≤ c := by
    rcases owns_cases h with ⟨e, h0, hxs⟩ | ⟨g, c', cur, e, hg, hB, hn, hc, hs, hx, _⟩
    · injection e with e1 e2 e3
      omega
    · injection e with e1 e2 e3
      omega
  refine rep_by_ins p pa xs.length c ys.length cu i w hi hnc _ ?_
  rcases owns_cases hu with ⟨e, h0, hys⟩ | ⟨g2, c2, cur2, e, _, hB2, _, _, hs2, hx2, hl2⟩
  · subst hys
    refine (ins_nothing p xs.length c i cu pa w hi hnc).mono ?_
    rintro e w' ⟨rfl, hw⟩
    subst hw
    refine ⟨⟨_, rfl⟩, _, rfl, ?_, grown_refl _ _, Or.inl rfl⟩
    rw [List.append_nil, List.take_append_drop]
    exact h
  · injection e with e1 e2 e3
    subst e1
    subst e3
    by_cases hy0 : ys.length = 0
    · have hys : ys = [] := List.eq_nil_of_length_eq_zero hy0
      subst hys
      refine (ins_nothing p xs.length c i cu _ w hi hnc).mono ?_
      rintro e w' ⟨rfl, hw⟩
      subst hw
      refine ⟨⟨_, rfl⟩, _, rfl, ?_, grown_refl _ _, Or.inl rfl⟩
      rw [List.append_nil, List.take_append_drop]
      exact h
    · refine (insstring_row base i g2 _ xs ys w h h1x hi hl cur2 hB2 (fun k q hk => take_get hx2 hk) h1y (by omega) hly cu (fun e => hf g2 e rfl) hb).mono ?_
      rintro e w' ⟨v', rfl, h1, h2, h3⟩
      exact ⟨⟨_, rfl⟩, v', rfl, h1, h2, h3⟩
end Go.Proofs.YtbhmmcelndmijaaGreat.Sl
