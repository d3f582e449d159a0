/-
  halves: the digits ahead of the point, and those behind it.
-/
import Derived.Test.YtajoncmmdeahnaaGreatDoorKDCz
import Derived.Lib.OthersKept
import Derived.RangeFuncNested
import Derived.Deep.RegionWith
import Derived.Maps.AppendAt
import Derived.Laws.AppendOwn
namespace Go.Proofs.YtajoncmmdeahnaaGreatDoor.Dg
open Go.RowKit
def byL (l : List UInt8) : List Value := l.map fun c => .int .u8 c.toNat
theorem add_off (g j : Nat) : (⟨g, 0, none⟩ : Addr).add j = ⟨g, j, none⟩ := by
  by_cases e0 : j = 0
  · subst e0; simp [Addr.add]
  · simp [Addr.add, e0]
theorem cell_of_row (w : World) (g j : Nat) (cur : Array Value) (e : TypeId) (fz : Nat × Nat) (hg : w.heap[g]? = some (.cells cur e fz)) : w.cell? ⟨g, j, none⟩ = cur[j]? := by
  simp [World.cell?, hg]
theorem owned_str (l : List UInt8) (w : World) (base : Nat) (v : Value) (h : w.ownsRow base 5 1 v l.length (byL l)) : (convert 24 9 v).run Tryz.prog w = .ok (.string (mkS l)) w := by
  rcases h.2 with ⟨rfl, h0⟩ | ⟨g, cap, cur, rfl, _, hg, _, _, _, hcur⟩
  · have : l = [] := List.eq_nil_of_length_eq_zero h0
    subst this
    rw [run_convert_bytes_string w 24 9 5 none 0 0 Tryz.underlying24 Tryz.underlying5 Tryz.underlying9]
    rfl
  · exact run_convert_bytes_back (P := Tryz.prog) w 24 9 5 ⟨g, 0, none⟩ cap l Tryz.underlying24 Tryz.underlying5 Tryz.underlying9 (fun j hj => by
      rw [add_off, cell_of_row w g j cur 5 (0, 0) hg, ← Array.getElem?_toList]
      have h2 := congrArg (fun l : List Value => l[j]?) hcur
      unfold byL at h2
      simp only [List.getElem?_take, List.getElem?_map, List.getElem?_eq_getElem hj] at h2
      rw [if_pos (by omega)] at h2
      rw [h2]
      rfl)
theorem grown_iter {w : World} {k p p' : Nat} {s : ByteArray} (_ : w.heap[k]? = some (.stringIter s p)) : w.grownBy (w.iterAt k s p') (some k) :=
  ⟨rfl, rfl, rfl, by rw [Lib.iterAt_size]; exact Nat.le_refl _, fun i _ hn => Lib.iterAt_other w k i s p' (fun e => hn (by rw [e]))⟩
theorem info5 : (Tryz.prog.info? 5).map (fun i => (i.zero, i.size, i.bytes)) = some (some (.int .u8 0), 1, 1) := by kernel_rfl
theorem row_kept {w w' : World} {base : Nat} {v : Value} {n : Nat} {xs : List Value} {row : Option Nat} (h : w.ownsRow base 5 1 v n xs) (hg : w.grownBy w' row) (hr : ∀ r, row = some r → v.ownBlock ≠ some r) : w'.ownsRow base 5 1 v n xs := by
  refine h.kept hg ?_
  cases hv : v.ownBlock with
  | none => exact Or.inl rfl
  | some g => exact Or.inr (fun e => hr g e.symm hv)
theorem grown_ob {a b c : World} {ob : Option Nat} {row : Option Nat} (h : a.grownBy b row) (g : b.grownBy c ob) (hk : ∀ x, ob = some x → a.heap.size ≤ x) : a.grownBy c row :=
  ⟨g.os.trans h.os, g.tape.trans h.tape, g.output.trans h.output, Nat.le_trans h.size g.size, fun i hi hn => (g.block i (Nat.lt_of_lt_of_le hi h.size) (fun e => by have := hk i e.symm; omega)).trans (h.block i hi hn)⟩
theorem grown_pre {a b c : World} {row : Option Nat} (h : a.grownBy b none) (g : b.grownBy c row) : a.grownBy c row :=
  ⟨g.os.trans h.os, g.tape.trans h.tape, g.output.trans h.output, Nat.le_trans h.size g.size, fun i hi hn => (g.block i (Nat.lt_of_lt_of_le hi h.size) hn).trans (h.block i hi (by simp))⟩
def itPos (w : World) (k : Nat) : Nat := match w.heap[k]? with
  | some (.stringIter _ p) => p
  | _ => 0
def HvI (w : World) (s : ByteArray) (A B : List UInt8) (k : Nat) (vW vP : Value) (pt : Bool) (wr : World) : Prop :=
  wr.heap[w.heap.size]? = some (.stringIter s k) ∧ w.grownBy wr none ∧
  ((k ≤ A.length ∧ pt = false ∧ vP = .slice none 0 0 ∧ wr.ownsRow (w.heap.size + 1) 5 1 vW (A.take k).length (byL (A.take k)))
   ∨ (A.length < k ∧ k ≤ A.length + 1 + B.length ∧ pt = true ∧ wr.ownsRow (w.heap.size + 1) 5 1 vW A.length (byL A) ∧ ∃ b2, w.heap.size + 1 ≤ b2 ∧ b2 ≤ wr.heap.size ∧ (∀ g, vW.ownBlock = some g → g < b2) ∧ wr.ownsRow b2 5 1 vP (B.take (k - A.length - 1)).length (byL (B.take (k - A.length - 1)))))
set_option maxRecDepth 100000 in
set_option maxHeartbeats 4000000 in
theorem halves_any (A B : List UInt8) (w : World) (hA : ∀ c ∈ A, isD c) (hB : ∀ c ∈ B, isD c) (hl : A.length + B.length ≤ 50) : Calls Tryz.prog 169 #[.string (mkS (A ++ 46 :: B))] w fun e w' => e = .returned (.tuple #[.string (mkS A), .string (mkS B)]) ∧ w.grownBy w' none := by
  obtain ⟨i5, hi5, hz0, hz1, hz2⟩ := info_parts info5
  have ll : (A ++ 46 :: B).length = A.length + 1 + B.length := by simp; omega
  obtain ⟨s, hs⟩ : ∃ s, mkS (A ++ 46 :: B) = s := ⟨_, rfl⟩
  have sz : s.size = A.length + 1 + B.length := by rw [← hs, mkS_size, ll]
  have GA : Hid (∀ k (h : k < s.size) (h' : k < A.length), s[k]'h = A[k]'h') := fun k h h' => by
    subst hs
    rw [mkS_get, List.getElem_append_left h']
  have GP : Hid (∀ h : A.length < s.size, s[A.length]'h = 46) := fun h => by
    subst hs
    rw [mkS_get]; simp
  have GBy : Hid (∀ k (h : k < s.size) (h1 : A.length < k) (h' : k - A.length - 1 < B.length), s[k]'h = B[k - A.length - 1]'h') := fun k h h1 h' => by
    subst hs
    rw [mkS_get, List.getElem_append_right (by omega), List.getElem_cons, dif_neg (by omega)]
  have HA := hid hA
  have HB := hid hB
  rw [hs]
  have HL := hid (And.intro hl sz)
  clear hs hA hB hl sz ll
  go_enter Tryz.func169, Tryz.ntmps169
  go_wp2
  go_loopw [4, 5, 6] (fun vW vP pt wr => ∃ (k : Nat) (b : Bool), pt = .bool b ∧ HvI w s A B k vW vP b wr) (fun _ _ _ wr => s.size - itPos wr w.heap.size)
  case atStart => exact ⟨0, false, rfl, World.alloc_heap_new w _, grown_alloc (grown_refl w none) _, Or.inl ⟨Nat.zero_le _, rfl, rfl, World.ownsRow_nil _ _ _ _⟩⟩
  case round =>
    obtain ⟨k, b, rfl, hit, hgr, (⟨k1, rfl, rfl, hW⟩ | ⟨k1, k2, rfl, hW, b2, q1, q2, q3, hP⟩)⟩ := hrel
    · have hks : k < s.size := by have := HL.out.2; omega
      by_cases hkA : k < A.length
      · have ec := GA.out k hks hkA
        have hd := HA.out _ (List.getElem_mem hkA)
        rw [← ec] at hd
        have NX := Lib.run_next_ascii_at (P := Tryz.prog) wr w.heap.size s k 0 hit hks (by have := hd.2; omega)
        have hg1 := grown_iter (p' := k + 1) hit
        have hit1 := Lib.iterAt_heap wr w.heap.size s k (k + 1) hit
        have hW1 := row_kept hW hg1 (fun r e => by cases e; intro h; have := (hW.lt _ h).1; omega)
        have eb : byL (A.take k) ++ [.int .u8 (s[k]'hks).toNat] = byL (A.take (k + 1)) := by
          rw [ec]; unfold byL; rw [List.take_succ_eq_append_getElem hkA, List.map_append]; rfl
        have el : (A.take k).length + 1 = (A.take (k + 1)).length := by rw [List.length_take, List.length_take]; omega
        have lk : (A.take k).length ≤ 50 := by rw [List.length_take]; have := HL.out.1; omega
        obtain ⟨c, hc⟩ : ∃ c : Nat, (s[k]'hks).toNat = c := ⟨_, rfl⟩
        rw [hc] at NX eb
        have c0 : (48 : Int) ≤ c := by have := hd.1; omega
        have c1 : (c : Int) ≤ 57 := by have := hd.2; omega
        have c2 : ((c : Int) == 46) = false := by simp; omega
        have c3 : ¬ (c : Int) < 48 := by omega
        have c4 : ¬ (57 : Int) < c := by omega
        have IT1 := hid hit1
        have OW := hid hW1
        have G1 := hid hg1
        have GR := hid hgr
        have EB := hid eb
        have EL := hid el
        have HM := hid (show itPos wr w.heap.size = k by unfold itPos; rw [hit])
        have hwr : w.heap.size < wr.heap.size := (Array.getElem?_eq_some_iff.1 hit).1
        clear ec hd hit hg1 hit1 hW hW1 eb el hgr hc
        generalize hV : wr.iterAt w.heap.size s (k + 1) = wi at *
        clear hV
        have hwi : w.heap.size < wi.heap.size := Nat.lt_of_lt_of_le hwr G1.out.size
        go_wp2_with (at_builtin; refine wpList_append_own _ rfl _ _ 24 rfl (w.heap.size + 1) 5 i5 _ 1 1 Tryz.underlying24 hi5 hz0 hz1 hz2 rfl (by decide) _ _ _ rfl (row_kept OW.out (grown_alloc (grown_refl wi none) _) (fun r e => by cases e)) ⟨wi.heap.size, 0, none⟩ 1 1 [.int .u8 c] rfl rfl (cell_one_new _ _ _) (by simp [Value.oneCell']) (by unfold maxLen; omega) (by omega) (by simp; omega) ?_; intro v9 w9 hown hg9 _; have O9 := hid hown; have G9 := hid hg9; clear hown hg9)
        have hit9 : w9.heap[w.heap.size]? = some (.stringIter s (k + 1)) := (G9.out.block _ (by rw [World.size_alloc]; omega) (fun e => by have := (OW.out.lt _ e.symm).1; omega)).trans (((grown_alloc (grown_refl wi none) (.cells #[.int .u8 c] 5)).block _ hwi (by simp)).trans IT1.out)
        have gr9 : w.grownBy w9 none := grown_ob (grown_ob (grown_ob GR.out G1.out (fun x e => by cases e; exact Nat.le_refl _)) (grown_alloc (grown_refl wi none) (.cells #[.int .u8 c] 5)) (fun x e => by cases e)) G9.out (fun x e => by have := (OW.out.lt _ e).1; omega)
        refine ⟨⟨k + 1, false, rfl, ?_, ?_, Or.inl ⟨by omega, rfl, rfl, ?_⟩⟩, ?_⟩
        · exact hit9
        · exact gr9
        · rw [← EL.out, ← EB.out]; exact O9.out
        · rw [HM.out, show itPos w9 w.heap.size = k + 1 by unfold itPos; rw [hit9]]; omega
      · have hkk : k = A.length := by omega
        subst hkk
        have ec := GP.out hks
        have NX := Lib.run_next_ascii_at (P := Tryz.prog) wr w.heap.size s A.length 0 hit hks (by rw [ec]; decide)
        rw [ec] at NX
        have hg1 := grown_iter (p' := A.length + 1) hit
        have hit1 := Lib.iterAt_heap wr w.heap.size s A.length (A.length + 1) hit
        have hW1 := row_kept hW hg1 (fun r e => by cases e; intro h; have := (hW.lt _ h).1; omega)
        rw [List.take_length] at hW1
        have IT1 := hid hit1
        have OW := hid hW1
        have G1 := hid hg1
        have GR := hid hgr
        have HM := hid (show itPos wr w.heap.size = A.length by unfold itPos; rw [hit])
        have hwr : w.heap.size < wr.heap.size := (Array.getElem?_eq_some_iff.1 hit).1
        clear ec hit hg1 hit1 hW hW1 hgr hkA k1
        generalize hV : wr.iterAt w.heap.size s (A.length + 1) = wi at *
        clear hV
        have hwi : w.heap.size < wi.heap.size := Nat.lt_of_lt_of_le hwr G1.out.size
        go_wp2
        refine ⟨⟨A.length + 1, true, rfl, IT1.out, grown_ob GR.out G1.out (fun x e => by cases e; exact Nat.le_refl _), Or.inr ⟨by omega, by omega, rfl, OW.out, wi.heap.size, by omega, Nat.le_refl _, fun g e => (OW.out.lt _ e).2, ?_⟩⟩, ?_⟩
        · rw [show A.length + 1 - A.length - 1 = 0 by omega]; exact World.ownsRow_nil _ _ _ _
        · rw [HM.out, show itPos wi w.heap.size = A.length + 1 by unfold itPos; rw [IT1.out]]; omega
    · by_cases hks : k < s.size
      · have hkB : k - A.length - 1 < B.length := by have := HL.out.2; omega
        have ec := GBy.out k hks k1 hkB
        have hd := HB.out _ (List.getElem_mem hkB)
        rw [← ec] at hd
        have NX := Lib.run_next_ascii_at (P := Tryz.prog) wr w.heap.size s k 0 hit hks (by have := hd.2; omega)
        have hg1 := grown_iter (p' := k + 1) hit
        have hit1 := Lib.iterAt_heap wr w.heap.size s k (k + 1) hit
        have hW1 := row_kept hW hg1 (fun r e => by cases e; intro h; have := (hW.lt _ h).1; omega)
        have hP1 := row_kept hP hg1 (fun r e => by cases e; intro h; have := (hP.lt _ h).1; omega)
        have eb : byL (B.take (k - A.length - 1)) ++ [.int .u8 (s[k]'hks).toNat] = byL (B.take (k + 1 - A.length - 1)) := by
          rw [ec, show k + 1 - A.length - 1 = k - A.length - 1 + 1 by omega]; unfold byL; rw [List.take_succ_eq_append_getElem hkB, List.map_append]; rfl
        have el : (B.take (k - A.length - 1)).length + 1 = (B.take (k + 1 - A.length - 1)).length := by rw [List.length_take, List.length_take]; omega
        have lk : (B.take (k - A.length - 1)).length ≤ 50 := by rw [List.length_take]; have := HL.out.1; omega
        obtain ⟨c, hc⟩ : ∃ c : Nat, (s[k]'hks).toNat = c := ⟨_, rfl⟩
        rw [hc] at NX eb
        have c0 : (48 : Int) ≤ c := by have := hd.1; omega
        have c1 : (c : Int) ≤ 57 := by have := hd.2; omega
        have c2 : ((c : Int) == 46) = false := by simp; omega
        have c3 : ¬ (c : Int) < 48 := by omega
        have c4 : ¬ (57 : Int) < c := by omega
        have IT1 := hid hit1
        have OW := hid hW1
        have OP := hid hP1
        have G1 := hid hg1
        have GR := hid hgr
        have EB := hid eb
        have EL := hid el
        have Q3 := hid q3
        have HM := hid (show itPos wr w.heap.size = k by unfold itPos; rw [hit])
        have hwr : w.heap.size < wr.heap.size := (Array.getElem?_eq_some_iff.1 hit).1
        have LT := hid (And.intro k1 hkB)
        have q2' : b2 ≤ wr.heap.size := q2
        clear ec hd hit hg1 hit1 hW hW1 hP hP1 eb el hgr hc q3
        generalize hV : wr.iterAt w.heap.size s (k + 1) = wi at *
        clear hV
        have hwi : w.heap.size < wi.heap.size := Nat.lt_of_lt_of_le hwr G1.out.size
        have hwi2 : b2 ≤ wi.heap.size := Nat.le_trans q2' G1.out.size
        generalize B.take (k - A.length - 1) = TB at *
        go_wp2_with (at_builtin; refine wpList_append_own _ rfl _ _ 24 rfl b2 5 i5 _ 1 1 Tryz.underlying24 hi5 hz0 hz1 hz2 rfl (by decide) _ _ _ rfl (row_kept OP.out (grown_alloc (grown_refl wi none) _) (fun r e => by cases e)) ⟨wi.heap.size, 0, none⟩ 1 1 [.int .u8 c] rfl rfl (cell_one_new _ _ _) (by simp [Value.oneCell']) (by unfold maxLen; omega) (by omega) (by simp; omega) ?_; intro v9 w9 hown hg9 _; have O9 := hid hown; have G9 := hid hg9; clear hown hg9)
        have hit9 : w9.heap[w.heap.size]? = some (.stringIter s (k + 1)) := (G9.out.block _ (by rw [World.size_alloc]; omega) (fun e => by have := (OP.out.lt _ e.symm).1; omega)).trans (((grown_alloc (grown_refl wi none) (.cells #[.int .u8 c] 5)).block _ hwi (by simp)).trans IT1.out)
        have gr9 : w.grownBy w9 none := grown_ob (grown_ob (grown_ob GR.out G1.out (fun x e => by cases e; exact Nat.le_refl _)) (grown_alloc (grown_refl wi none) (.cells #[.int .u8 c] 5)) (fun x e => by cases e)) G9.out (fun x e => by have := (OP.out.lt _ e).1; omega)
        have gw9 := grown_pre (grown_alloc (grown_refl wi none) (.cells #[.int .u8 c] 5)) G9.out
        have OW9 := row_kept OW.out gw9 (fun r e h => by have h1 := Q3.out _ h; have h2 := (OP.out.lt _ e).1; omega)
        refine ⟨⟨k + 1, true, rfl, hit9, gr9, Or.inr ⟨by have := LT.out; omega, by have := LT.out; omega, rfl, OW9, b2, q1, Nat.le_trans hwi2 gw9.size, Q3.out, ?_⟩⟩, ?_⟩
        · rw [← EL.out, ← EB.out]; exact O9.out
        · rw [HM.out, show itPos w9 w.heap.size = k + 1 by unfold itPos; rw [hit9]]; omega
      · have NX := Lib.run_next_end_at (P := Tryz.prog) wr w.heap.size s k 0 hit hks
        have hkk : k - A.length - 1 = B.length := by have := HL.out.2; omega
        rw [hkk, List.take_length] at hP
        have FW := owned_str A wr.drew _ _ (row_kept hW (grown_drew (grown_refl wr none)) (fun r e => by cases e))
        have FP := owned_str B wr.drew _ _ (row_kept hP (grown_drew (grown_refl wr none)) (fun r e => by cases e))
        have GR := hid hgr
        clear hit hW hP hgr q1 q2 q3 k1 k2 hkk
        go_wp2
        go_region_with (fail)
        all_goals (
          (try go_wp2_with fail)
          exact bodyPost_ret (v := .tuple #[.string (mkS A), .string (mkS B)]) (by simp [results, Tryz.results169, go_sem]) rfl ⟨rfl, grown_drew GR.out⟩)
end Go.Proofs.YtajoncmmdeahnaaGreatDoor.Dg
