/-
  The contracts of the writer: bytes that grow.
-/
import Derived.Test.YtdodammplhlihaaGreatDoorWRead
import Derived.Lib.AppendStr
namespace Go.Proofs.YtdodammplhlihaaGreatDoor.Tr
open Go.RowKit
theorem info5 : (Tryz.prog.info? 5).map (fun i => (i.zero, i.size, i.bytes)) = some (some (.int .u8 0), 1, 1) := by kernel_rfl
theorem bytes_len (s : ByteArray) : s.data.toList.length = s.size := Array.length_toList
def byL (l : List UInt8) : List Value := l.map fun b => Value.int .u8 (b.toNat : Int)
/-- A block of bytes, or a writer's. -/
def Tn (w : World) (k : Nat) : Prop := ∃ cs, w.heap[k]? = some (.cells cs 5 (0, 0)) ∨ w.heap[k]? = some (.cells cs 98 (0, 0))
/-- Nothing but bytes and writers is turned. -/
structure TyK (w w' : World) : Prop where
  size : w.heap.size ≤ w'.heap.size
  keep : ∀ k, k < w.heap.size → ¬ Tn w k → w'.heap[k]? = w.heap[k]?
theorem TyK.of_none {w w' : World} (h : w.grownBy w' none) : TyK w w' := ⟨h.size, fun k hk _ => h.block k hk (by simp)⟩
theorem TyK.of_row {w w' : World} {row : Option Nat} (h : w.grownBy w' row) (hr : ∀ r, row = some r → Tn w r) : TyK w w' := ⟨h.size, fun k hk hn => h.block k hk (fun e => hn (hr k e.symm))⟩
theorem TyK.trans {a b c : World} (h : TyK a b) (k : TyK b c) : TyK a c := ⟨Nat.le_trans h.size k.size, fun i hi hn => by
  have e := h.keep i hi hn
  have hn' : ¬ Tn b i := fun ⟨cs, ht⟩ => hn ⟨cs, by rw [e] at ht; exact ht⟩
  exact (k.keep i (Nat.lt_of_lt_of_le hi h.size) hn').trans e⟩
structure WB (b : Nat) (w w' : World) : Prop where
  bel : Below b w w'
  ty : TyK w w'
theorem WB.trans {n : Nat} {a b c : World} (h : WB n a b) (k : WB n b c) : WB n a c := ⟨h.bel.trans k.bel, h.ty.trans k.ty⟩
/-- A writer's block, and that what it holds are these bytes. -/
def Wr (w : World) (b : Nat) (l : List UInt8) : Prop := ∃ v, Blk w b 98 #[v] ∧ w.ownsRow (b + 1) 5 1 v l.length (byL l)
theorem below_grown {w0 w w' : World} {b : Nat} (h : w0.grownBy w none) (g : Below b w w') (hb : w0.heap.size ≤ b) : w0.grownBy w' none :=
  ⟨g.os.trans h.os, g.tape.trans h.tape, g.output.trans h.output, Nat.le_trans h.size g.size, fun k hk hn => (g.block k (Nat.lt_of_lt_of_le hk hb)).trans (h.block k hk hn)⟩
theorem row5 {w : World} {base n : Nat} {v : Value} {xs : List Value} (h : w.ownsRow base 5 1 v n xs) : ∀ r, v.ownBlock = some r → Tn w r := fun r hr => by
  rcases h.2 with ⟨rfl, _⟩ | ⟨g, cap, cur, rfl, _, hg, _⟩
  · cases hr
  · obtain rfl : g = r := Option.some.inj hr
    exact ⟨cur, Or.inl hg⟩
theorem Wr.kept {w w' : World} {b : Nat} {l : List UInt8} (h : Wr w b l) (g : w.grownBy w' none) : Wr w' b l := by
  obtain ⟨v, h1, h2⟩ := h
  refine ⟨v, h1.kept g (by simp), h2.kept g ?_⟩
  cases hv : v.ownBlock with
  | none => exact Or.inl rfl
  | some b => exact Or.inr (by simp)
set_option maxRecDepth 100000 in
set_option maxHeartbeats 400000 in
theorem newWriter_any (w : World) : Calls Tryz.prog 40 #[] w fun e w' => e = .returned (.pointer (some ⟨w.heap.size, 0, none⟩)) ∧ Wr w' w.heap.size [] ∧ w.grownBy w' none := by
  go_enter Tryz.func40, Tryz.ntmps40
  go_wp2
  go_ret
  exact ⟨rfl, ⟨_, Blk.new _ _ _, World.ownsRow_nil _ _ _ _⟩, grown_alloc (grown_refl _ _) _⟩
theorem byL_append (l : List UInt8) (s : ByteArray) : byL l ++ Lib.strCells s = byL (l ++ s.data.toList) := by
  unfold byL
  rw [List.map_append]
  rfl
set_option maxRecDepth 100000 in
set_option maxHeartbeats 400000 in
theorem wbytes_any (b : Nat) (l : List UInt8) (s : ByteArray) (w : World) (h : Wr w b l) (hl : l.length + s.size ≤ 140737488355328) : Calls Tryz.prog 84 #[.pointer (some ⟨b, 0, none⟩), .string s] w fun e w' => e = .returned (.tuple #[]) ∧ Wr w' b (l ++ s.data.toList) ∧ WB b w w' := by
  obtain ⟨v, h1, h2⟩ := h
  have H1 : Hid (Blk w b 98 #[v]) := h1
  have H2 : Hid (w.ownsRow (b + 1) 5 1 v l.length (byL l)) := h2
  have c0 : w.cell? ⟨b, 0, none⟩ = some v := by rw [h1.cell]; rfl
  have hbl : b < w.heap.size := h1.lt
  obtain ⟨i5, hi5, hz0, hz1, hz2⟩ := info_parts info5
  clear h1 h2
  go_enter Tryz.func84, Tryz.ntmps84
  go_wp2_with (at_builtin; refine Lib.wpList_append_own_string _ rfl _ _ 24 9 rfl (b + 1) 5 i5 Tryz.underlying24 Tryz.underlying9 hi5 hz0 hz1 hz2 _ _ _ rfl H2.out s rfl ?c1 ?c2 ?c3 ?_)
  case c1 => unfold maxLen; omega
  case c2 => exact hl
  case c3 => omega
  intro v' w1 hown hg _
  have hlo := H2.out.lt
  have B1 : Hid (Blk w1 b 98 #[v]) := H1.out.kept hg (fun e => (by have := (hlo b e.symm).1; omega))
  have f1 : w1.frozen? ⟨b, 0, none⟩ = false := B1.out.frozen 0
  have c1 : w1.cell? ⟨b, 0, none⟩ = some v := by rw [B1.out.cell]; rfl
  have BE : Hid (WB b w w1) := ⟨(Below.refl b w).grown hg (by omega) (fun k e => (by have := (hlo k e).1; omega)), TyK.of_row hg (fun r e => row5 H2.out r e)⟩
  rw [byL_append] at hown
  have HO : Hid (w1.ownsRow (b + 1) 5 1 v' (l.length + s.size) (byL (l ++ s.data.toList))) := hown
  have hform := hown.2
  clear hown hg hlo
  have fin : Hid (∀ u, u = v' → Wr (w1.setCell ⟨b, 0, none⟩ u) b (l ++ s.data.toList) ∧ WB b w (w1.setCell ⟨b, 0, none⟩ u)) := fun u hu => by
    subst hu
    have hlen : l.length + s.size = (l ++ s.data.toList).length := by rw [List.length_append, bytes_len]
    have HO' := HO.out
    rw [hlen] at HO'
    have hlo' := HO'.lt
    refine ⟨⟨u, B1.out.set 0 u, HO'.kept (grown_set (grown_refl _ _) 0 u) ?_⟩, ⟨BE.out.bel.setCell (Nat.le_refl _) u, BE.out.ty.trans (TyK.of_row (grown_set (grown_refl w1 (some b)) 0 u) (fun r e => by cases e; exact ⟨_, Or.inr B1.out⟩))⟩⟩
    cases hv : u.ownBlock with
    | none => exact Or.inl rfl
    | some k => exact Or.inr (fun e => by have := (hlo' k hv).1; have := Option.some.inj e; omega)
  rcases hform with ⟨rfl, _⟩ | ⟨g, cap, cur, rfl, _⟩
  · go_wp2
    go_end0
    exact ⟨rfl, fin.out _ rfl⟩
  · go_wp2
    go_end0
    exact ⟨rfl, fin.out _ rfl⟩
theorem numS_list (n k : Nat) : (numS n k).data.toList = numL n k := rfl
theorem numS_size (n k : Nat) : (numS n k).size = k := by rw [← bytes_len, numS_list, numL_len]
theorem below_of {w w' : World} {b : Nat} (h : w.grownBy w' none) (hb : b < w.heap.size) : WB b w w' := ⟨(Below.refl b w).grown h (by omega) (fun k e => by cases e), TyK.of_none h⟩
theorem Wr.lt {w : World} {b : Nat} {l : List UInt8} (h : Wr w b l) : b < w.heap.size := by
  obtain ⟨v, h1, _⟩ := h
  exact h1.lt
set_option maxRecDepth 100000 in
set_option maxHeartbeats 400000 in
theorem wnumber_any (b : Nat) (l : List UInt8) (n : Nat) (k : Int) (w : World) (h : Wr w b l) (hl : l.length ≤ 1000000000) (hn : n < 18446744073709551616) : Calls Tryz.prog 59 #[.pointer (some ⟨b, 0, none⟩), .int .u64 n, .int .i64 k] w fun e w' => e = .returned (.tuple #[]) ∧ Wr w' b (l ++ numL n (asked k)) ∧ WB b w w' := by
  have H : Hid (Wr w b l) := h
  have hbl := h.lt
  have ha : asked k ≤ 8 := by unfold asked; omega
  have C : Hid (∀ w, Calls Tryz.prog 85 #[.int .u64 n, .int .i64 k] w fun e w' => e = .returned (.string (numS n (asked k))) ∧ w.grownBy w' none) := fun w => number_any n k w hn
  have hz := numS_size n (asked k)
  have HL : Hid ((numS n (asked k)).data.toList = numL n (asked k)) := numS_list _ _
  clear h
  generalize numS n (asked k) = S at *
  go_enter Tryz.func59, Tryz.ntmps59
  go_wp2_with (first | (go_at_call 85; refine (C.out _).mono ?_; rintro e w1 ⟨rfl, hg1⟩; have B1 : Hid (Wr w1 b l) := H.out.kept hg1; have G1 : Hid (WB b w w1) := below_of hg1 hbl; clear hg1) | (go_at_call 84; refine (wbytes_any b l S _ B1.out (by omega)).mono ?_; rintro e w2 ⟨rfl, hb2, hg2⟩; have B2 : Hid (Wr w2 b (l ++ numL n (asked k))) := (by rw [← HL.out]; exact hb2); have G2 : Hid (WB b w w2) := G1.out.trans hg2; clear hb2 hg2))
  go_end0
  exact ⟨rfl, B2.out, G2.out⟩
set_option maxRecDepth 100000 in
set_option maxHeartbeats 400000 in
theorem wcount_any (b : Nat) (l : List UInt8) (n : Int) (w : World) (h : Wr w b l) (hl : l.length ≤ 1000000000) (hn : n ≤ 9223372036854775807) : Calls Tryz.prog 86 #[.pointer (some ⟨b, 0, none⟩), .int .i64 n] w fun e w' => e = .returned (.tuple #[]) ∧ Wr w' b (l ++ numL n.toNat 4) ∧ WB b w w' := by
  have H : Hid (Wr w b l) := h
  clear h
  obtain ⟨m, hm⟩ : ∃ m : Nat, n.toNat = m := ⟨_, rfl⟩
  have hmx : max n 0 = (m : Int) := by omega
  have m0 : (m : Int) < 18446744073709551616 := by omega
  have m1 : (0 : Int) ≤ (m : Int) := by omega
  have C : Hid (Calls Tryz.prog 59 #[.pointer (some ⟨b, 0, none⟩), .int .u64 m, .int .i64 4] w fun e w' => e = .returned (.tuple #[]) ∧ Wr w' b (l ++ numL m 4) ∧ WB b w w') := wnumber_any b l m 4 w H.out hl (by omega)
  rw [hm]
  clear hm
  go_enter Tryz.func86, Tryz.ntmps86
  go_wp2_with (go_at_call 59; refine C.out.mono ?_; rintro e w1 ⟨rfl, hb1, hg1⟩)
  go_end0
  exact ⟨rfl, hb1, hg1⟩
set_option maxRecDepth 100000 in
set_option maxHeartbeats 400000 in
theorem wtext_any (b : Nat) (l : List UInt8) (s : ByteArray) (w : World) (h : Wr w b l) (hl : l.length + s.size ≤ 100000000) : Calls Tryz.prog 60 #[.pointer (some ⟨b, 0, none⟩), .string s] w fun e w' => e = .returned (.tuple #[]) ∧ Wr w' b (l ++ numL s.size 4 ++ s.data.toList) ∧ WB b w w' := by
  have H : Hid (Wr w b l) := h
  clear h
  have C : Hid (Calls Tryz.prog 86 #[.pointer (some ⟨b, 0, none⟩), .int .i64 s.size] w fun e w' => e = .returned (.tuple #[]) ∧ Wr w' b (l ++ numL s.size 4) ∧ WB b w w') := wcount_any b l s.size w H.out (by omega) (by omega)
  have hlen : (l ++ numL s.size 4).length = l.length + 4 := by rw [List.length_append, numL_len]
  go_enter Tryz.func60, Tryz.ntmps60
  go_wp2_with (first | (go_at_call 86; refine C.out.mono ?_; rintro e w1 ⟨rfl, hb1, hg1⟩; have B1 : Hid (Wr w1 b (l ++ numL s.size 4)) := hb1; have G1 : Hid (WB b w w1) := hg1; clear hb1 hg1) | (go_at_call 84; refine (wbytes_any b _ s _ B1.out (by omega)).mono ?_; rintro e w2 ⟨rfl, hb2, hg2⟩; have B2 : Hid (Wr w2 b (l ++ numL s.size 4 ++ s.data.toList)) := hb2; have G2 : Hid (WB b w w2) := G1.out.trans hg2; clear hb2 hg2))
  go_end0
  exact ⟨rfl, B2.out, G2.out⟩
theorem owned_str (l : List UInt8) (w : World) (base : Nat) (v : Value) (h : w.ownsRow base 5 1 v l.length (byL l)) : (convert 24 9 v).run Tryz.prog w = .ok (.string ⟨l.toArray⟩) w := by
  rcases h.2 with ⟨rfl, h0⟩ | ⟨g, cap, cur, rfl, _, hg, _, _, _, hcur⟩
  · have : l = [] := List.eq_nil_of_length_eq_zero h0
    subst this
    rw [run_convert_bytes_string w 24 9 5 none 0 0 Tryz.underlying24 Tryz.underlying5 Tryz.underlying9]
    rfl
  · exact run_convert_bytes_back (P := Tryz.prog) w 24 9 5 ⟨g, 0, none⟩ cap l Tryz.underlying24 Tryz.underlying5 Tryz.underlying9 (fun j hj => by
      rw [add_off, cell_of_row w g j cur 5 (0, 0) hg, ← Array.getElem?_toList]
      have h2 := congrArg (fun l : List Value => l[j]?) hcur
      unfold byL at h2
      simp only [List.getElem?_take, List.getElem?_map, List.getElem?_eq_getElem hj] at h2
      rw [if_pos (by omega)] at h2
      rw [h2]
      rfl)
set_option maxRecDepth 100000 in
set_option maxHeartbeats 400000 in
theorem wall_any (b : Nat) (l : List UInt8) (w : World) (h : Wr w b l) : Calls Tryz.prog 42 #[.pointer (some ⟨b, 0, none⟩)] w fun e w' => e = .returned (.string ⟨l.toArray⟩) ∧ w' = w := by
  obtain ⟨v, h1, h2⟩ := h
  have c0 : w.cell? ⟨b, 0, none⟩ = some v := by rw [h1.cell]; rfl
  have R := owned_str l w _ v h2
  clear h1 h2
  generalize (⟨l.toArray⟩ : ByteArray) = S at *
  go_enter Tryz.func42, Tryz.ntmps42
  go_wp2
  go_ret
  exact ⟨rfl, rfl⟩
end Go.Proofs.YtdodammplhlihaaGreatDoor.Tr
