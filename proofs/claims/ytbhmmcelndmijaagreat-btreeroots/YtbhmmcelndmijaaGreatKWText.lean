/-
  The contracts of the writer: bytes that grow. The contracts of the writer: bytes that grow. The contracts of Reader.Count and Reader.Text, and of the laws' own look whether the program is awake.
-/
import Derived.Test.YtbhmmcelndmijaaGreatPWRead
import Derived.Lib.AppendStr
import Derived.Test.YtbhmmcelndmijaaGreatKWRead
namespace Go.Proofs.YtbhmmcelndmijaaGreat.Pa
open Go.RowKit
theorem info5 : (Tryz.prog.info? 5).map (fun i => (i.zero, i.size, i.bytes)) = some (some (.int .u8 0), 1, 1) := by kernel_rfl
theorem bytes_len (s : ByteArray) : s.data.toList.length = s.size := Array.length_toList
def byL (l : List UInt8) : List Value := l.map fun b => Value.int .u8 (b.toNat : Int)
/-- A writer's block, and that what it holds are these bytes. -/
def Wr (w : World) (b : Nat) (l : List UInt8) : Prop := ∃ v, Blk w b 194 #[v] ∧ w.ownsRow (b + 1) 5 1 v l.length (byL l)
theorem below_grown {w0 w w' : World} {b : Nat} (h : w0.grownBy w none) (g : Below b w w') (hb : w0.heap.size ≤ b) : w0.grownBy w' none :=
  ⟨g.os.trans h.os, g.tape.trans h.tape, g.output.trans h.output, Nat.le_trans h.size g.size, fun k hk hn => (g.block k (Nat.lt_of_lt_of_le hk hb)).trans (h.block k hk hn)⟩
theorem Wr.kept {w w' : World} {b : Nat} {l : List UInt8} (h : Wr w b l) (g : w.grownBy w' none) : Wr w' b l := by
  obtain ⟨v, h1, h2⟩ := h
  refine ⟨v, h1.kept g (by simp), h2.kept g ?_⟩
  cases hv : v.ownBlock with
  | none => exact Or.inl rfl
  | some b => exact Or.inr (by simp)
set_option maxRecDepth 100000 in
set_option maxHeartbeats 400000 in
theorem newWriter_any (w : World) : Calls Tryz.prog 114 #[] w fun e w' => e = .returned (.pointer (some ⟨w.heap.size, 0, none⟩)) ∧ Wr w' w.heap.size [] ∧ w.grownBy w' none := by
  go_enter Tryz.func114, Tryz.ntmps114
  go_wp2
  go_ret
  exact ⟨rfl, ⟨_, Blk.new _ _ _, World.ownsRow_nil _ _ _ _⟩, grown_alloc (grown_refl _ _) _⟩
theorem byL_append (l : List UInt8) (s : ByteArray) : byL l ++ Lib.strCells s = byL (l ++ s.data.toList) := by
  unfold byL
  rw [List.map_append]
  rfl
set_option maxRecDepth 100000 in
set_option maxHeartbeats 400000 in
theorem wbytes_any (b : Nat) (l : List UInt8) (s : ByteArray) (w : World) (h : Wr w b l) (hl : l.length + s.size ≤ 140737488355328) : Calls Tryz.prog 129 #[.pointer (some ⟨b, 0, none⟩), .string s] w fun e w' => e = .returned (.tuple #[]) ∧ Wr w' b (l ++ s.data.toList) ∧ Below b w w' := by
  obtain ⟨v, h1, h2⟩ := h
  have H1 : Hid (Blk w b 194 #[v]) := h1
  have H2 : Hid (w.ownsRow (b + 1) 5 1 v l.length (byL l)) := h2
  have c0 : w.cell? ⟨b, 0, none⟩ = some v := by rw [h1.cell]; rfl
  have hbl : b < w.heap.size := h1.lt
  obtain ⟨i5, hi5, hz0, hz1, hz2⟩ := info_parts info5
  clear h1 h2
  go_enter Tryz.func129, Tryz.ntmps129
  go_wp2_with (at_builtin; refine Lib.wpList_append_own_string _ rfl _ _ 85 9 rfl (b + 1) 5 i5 Tryz.underlying85 Tryz.underlying9 hi5 hz0 hz1 hz2 _ _ _ rfl H2.out s rfl ?c1 ?c2 ?c3 ?_)
  case c1 => unfold maxLen; omega
  case c2 => exact hl
  case c3 => omega
  intro v' w1 hown hg _
  have hlo := H2.out.lt
  have B1 : Hid (Blk w1 b 194 #[v]) := H1.out.kept hg (fun e => (by have := (hlo b e.symm).1; omega))
  have f1 : w1.frozen? ⟨b, 0, none⟩ = false := B1.out.frozen 0
  have c1 : w1.cell? ⟨b, 0, none⟩ = some v := by rw [B1.out.cell]; rfl
  have BE : Hid (Below b w w1) := (Below.refl b w).grown hg (by omega) (fun k e => (by have := (hlo k e).1; omega))
  rw [byL_append] at hown
  have HO : Hid (w1.ownsRow (b + 1) 5 1 v' (l.length + s.size) (byL (l ++ s.data.toList))) := hown
  have hform := hown.2
  clear hown hg hlo
  have fin : Hid (∀ u, u = v' → Wr (w1.setCell ⟨b, 0, none⟩ u) b (l ++ s.data.toList) ∧ Below b w (w1.setCell ⟨b, 0, none⟩ u)) := fun u hu => by
    subst hu
    have hlen : l.length + s.size = (l ++ s.data.toList).length := by rw [List.length_append, bytes_len]
    have HO' := HO.out
    rw [hlen] at HO'
    have hlo' := HO'.lt
    refine ⟨⟨u, B1.out.set 0 u, HO'.kept (grown_set (grown_refl _ _) 0 u) ?_⟩, BE.out.setCell (Nat.le_refl _) u⟩
    cases hv : u.ownBlock with
    | none => exact Or.inl rfl
    | some k => exact Or.inr (fun e => by have := (hlo' k hv).1; have := Option.some.inj e; omega)
  rcases hform with ⟨rfl, _⟩ | ⟨g, cap, cur, rfl, _⟩
  · go_wp2
    go_end0
    exact ⟨rfl, fin.out _ rfl⟩
  · go_wp2
    go_end0
    exact ⟨rfl, fin.out _ rfl⟩
theorem numS_list (n k : Nat) : (numS n k).data.toList = numL n k := rfl
theorem numS_size (n k : Nat) : (numS n k).size = k := by rw [← bytes_len, numS_list, numL_len]
theorem below_of {w w' : World} {b : Nat} (h : w.grownBy w' none) (hb : b < w.heap.size) : Below b w w' := (Below.refl b w).grown h (by omega) (fun k e => by cases e)
theorem Wr.lt {w : World} {b : Nat} {l : List UInt8} (h : Wr w b l) : b < w.heap.size := by
  obtain ⟨v, h1, _⟩ := h
  exact h1.lt
set_option maxRecDepth 100000 in
set_option maxHeartbeats 400000 in
theorem wnumber_any (b : Nat) (l : List UInt8) (n : Nat) (k : Int) (w : World) (h : Wr w b l) (hl : l.length ≤ 1000000000) (hn : n < 18446744073709551616) : Calls Tryz.prog 116 #[.pointer (some ⟨b, 0, none⟩), .int .u64 n, .int .i64 k] w fun e w' => e = .returned (.tuple #[]) ∧ Wr w' b (l ++ numL n (asked k)) ∧ Below b w w' := by
  have H : Hid (Wr w b l) := h
  have hbl := h.lt
  have ha : asked k ≤ 8 := by unfold asked; omega
  have C : Hid (∀ w, Calls Tryz.prog 130 #[.int .u64 n, .int .i64 k] w fun e w' => e = .returned (.string (numS n (asked k))) ∧ w.grownBy w' none) := fun w => number_any n k w hn
  have hz := numS_size n (asked k)
  have HL : Hid ((numS n (asked k)).data.toList = numL n (asked k)) := numS_list _ _
  clear h
  generalize numS n (asked k) = S at *
  go_enter Tryz.func116, Tryz.ntmps116
  go_wp2_with (first | (go_at_call 130; refine (C.out _).mono ?_; rintro e w1 ⟨rfl, hg1⟩; have B1 : Hid (Wr w1 b l) := H.out.kept hg1; have G1 : Hid (Below b w w1) := below_of hg1 hbl; clear hg1) | (go_at_call 129; refine (wbytes_any b l S _ B1.out (by omega)).mono ?_; rintro e w2 ⟨rfl, hb2, hg2⟩; have B2 : Hid (Wr w2 b (l ++ numL n (asked k))) := (by rw [← HL.out]; exact hb2); have G2 : Hid (Below b w w2) := G1.out.trans hg2; clear hb2 hg2))
  go_end0
  exact ⟨rfl, B2.out, G2.out⟩
set_option maxRecDepth 100000 in
set_option maxHeartbeats 400000 in
theorem wcount_any (b : Nat) (l : List UInt8) (n : Int) (w : World) (h : Wr w b l) (hl : l.length ≤ 1000000000) (hn : n ≤ 9223372036854775807) : Calls Tryz.prog 118 #[.pointer (some ⟨b, 0, none⟩), .int .i64 n] w fun e w' => e = .returned (.tuple #[]) ∧ Wr w' b (l ++ numL n.toNat 4) ∧ Below b w w' := by
  have H : Hid (Wr w b l) := h
  clear h
  obtain ⟨m, hm⟩ : ∃ m : Nat, n.toNat = m := ⟨_, rfl⟩
  have hmx : max n 0 = (m : Int) := by omega
  have m0 : (m : Int) < 18446744073709551616 := by omega
  have m1 : (0 : Int) ≤ (m : Int) := by omega
  have C : Hid (Calls Tryz.prog 116 #[.pointer (some ⟨b, 0, none⟩), .int .u64 m, .int .i64 4] w fun e w' => e = .returned (.tuple #[]) ∧ Wr w' b (l ++ numL m 4) ∧ Below b w w') := wnumber_any b l m 4 w H.out hl (by omega)
  rw [hm]
  clear hm
  go_enter Tryz.func118, Tryz.ntmps118
  go_wp2_with (go_at_call 116; refine C.out.mono ?_; rintro e w1 ⟨rfl, hb1, hg1⟩)
  go_end0
  exact ⟨rfl, hb1, hg1⟩
set_option maxRecDepth 100000 in
set_option maxHeartbeats 400000 in
theorem wtext_any (b : Nat) (l : List UInt8) (s : ByteArray) (w : World) (h : Wr w b l) (hl : l.length + s.size ≤ 100000000) : Calls Tryz.prog 117 #[.pointer (some ⟨b, 0, none⟩), .string s] w fun e w' => e = .returned (.tuple #[]) ∧ Wr w' b (l ++ numL s.size 4 ++ s.data.toList) ∧ Below b w w' := by
  have H : Hid (Wr w b l) := h
  clear h
  have C : Hid (Calls Tryz.prog 118 #[.pointer (some ⟨b, 0, none⟩), .int .i64 s.size] w fun e w' => e = .returned (.tuple #[]) ∧ Wr w' b (l ++ numL s.size 4) ∧ Below b w w') := wcount_any b l s.size w H.out (by omega) (by omega)
  have hlen : (l ++ numL s.size 4).length = l.length + 4 := by rw [List.length_append, numL_len]
  go_enter Tryz.func117, Tryz.ntmps117
  go_wp2_with (first | (go_at_call 118; refine C.out.mono ?_; rintro e w1 ⟨rfl, hb1, hg1⟩; have B1 : Hid (Wr w1 b (l ++ numL s.size 4)) := hb1; have G1 : Hid (Below b w w1) := hg1; clear hb1 hg1) | (go_at_call 129; refine (wbytes_any b _ s _ B1.out (by omega)).mono ?_; rintro e w2 ⟨rfl, hb2, hg2⟩; have B2 : Hid (Wr w2 b (l ++ numL s.size 4 ++ s.data.toList)) := hb2; have G2 : Hid (Below b w w2) := G1.out.trans hg2; clear hb2 hg2))
  go_end0
  exact ⟨rfl, B2.out, G2.out⟩
theorem owned_str (l : List UInt8) (w : World) (base : Nat) (v : Value) (h : w.ownsRow base 5 1 v l.length (byL l)) : (convert 85 9 v).run Tryz.prog w = .ok (.string ⟨l.toArray⟩) w := by
  rcases h.2 with ⟨rfl, h0⟩ | ⟨g, cap, cur, rfl, _, hg, _, _, _, hcur⟩
  · have : l = [] := List.eq_nil_of_length_eq_zero h0
    subst this
    rw [run_convert_bytes_string w 85 9 5 none 0 0 Tryz.underlying85 Tryz.underlying5 Tryz.underlying9]
    rfl
  · exact run_convert_bytes_back (P := Tryz.prog) w 85 9 5 ⟨g, 0, none⟩ cap l Tryz.underlying85 Tryz.underlying5 Tryz.underlying9 (fun j hj => by
      rw [add_off, cell_of_row w g j cur 5 (0, 0) hg, ← Array.getElem?_toList]
      have h2 := congrArg (fun l : List Value => l[j]?) hcur
      unfold byL at h2
      simp only [List.getElem?_take, List.getElem?_map, List.getElem?_eq_getElem hj] at h2
      rw [if_pos (by omega)] at h2
      rw [h2]
      rfl)
set_option maxRecDepth 100000 in
set_option maxHeartbeats 400000 in
theorem wall_any (b : Nat) (l : List UInt8) (w : World) (h : Wr w b l) : Calls Tryz.prog 119 #[.pointer (some ⟨b, 0, none⟩)] w fun e w' => e = .returned (.string ⟨l.toArray⟩) ∧ w' = w := by
  obtain ⟨v, h1, h2⟩ := h
  have c0 : w.cell? ⟨b, 0, none⟩ = some v := by rw [h1.cell]; rfl
  have R := owned_str l w _ v h2
  clear h1 h2
  generalize (⟨l.toArray⟩ : ByteArray) = S at *
  go_enter Tryz.func119, Tryz.ntmps119
  go_wp2
  go_ret
  exact ⟨rfl, rfl⟩
end Go.Proofs.YtbhmmcelndmijaaGreat.Pa
namespace Go.Proofs.YtbhmmcelndmijaaGreat.Wi
open Go.RowKit
theorem info5 : (Tryz.prog.info? 5).map (fun i => (i.zero, i.size, i.bytes)) = some (some (.int .u8 0), 1, 1) := by kernel_rfl
theorem bytes_len (s : ByteArray) : s.data.toList.length = s.size := Array.length_toList
def byL (l : List UInt8) : List Value := l.map fun b => Value.int .u8 (b.toNat : Int)
/-- A writer's block, and that what it holds are these bytes. -/
def Wr (w : World) (b : Nat) (l : List UInt8) : Prop := ∃ v, Blk w b 80 #[v] ∧ w.ownsRow (b + 1) 5 1 v l.length (byL l)
theorem below_grown {w0 w w' : World} {b : Nat} (h : w0.grownBy w none) (g : Below b w w') (hb : w0.heap.size ≤ b) : w0.grownBy w' none :=
  ⟨g.os.trans h.os, g.tape.trans h.tape, g.output.trans h.output, Nat.le_trans h.size g.size, fun k hk hn => (g.block k (Nat.lt_of_lt_of_le hk hb)).trans (h.block k hk hn)⟩
theorem Wr.kept {w w' : World} {b : Nat} {l : List UInt8} (h : Wr w b l) (g : w.grownBy w' none) : Wr w' b l := by
  obtain ⟨v, h1, h2⟩ := h
  refine ⟨v, h1.kept g (by simp), h2.kept g ?_⟩
  cases hv : v.ownBlock with
  | none => exact Or.inl rfl
  | some b => exact Or.inr (by simp)
theorem byL_append (l : List UInt8) (s : ByteArray) : byL l ++ Lib.strCells s = byL (l ++ s.data.toList) := by
  unfold byL
  rw [List.map_append]
  rfl
theorem numS_list (n k : Nat) : (numS n k).data.toList = numL n k := rfl
theorem numS_size (n k : Nat) : (numS n k).size = k := by rw [← bytes_len, numS_list, numL_len]
theorem below_of {w w' : World} {b : Nat} (h : w.grownBy w' none) (hb : b < w.heap.size) : Below b w w' := (Below.refl b w).grown h (by omega) (fun k e => by cases e)
theorem Wr.lt {w : World} {b : Nat} {l : List UInt8} (h : Wr w b l) : b < w.heap.size := by
  obtain ⟨v, h1, _⟩ := h
  exact h1.lt
theorem owned_str (l : List UInt8) (w : World) (base : Nat) (v : Value) (h : w.ownsRow base 5 1 v l.length (byL l)) : (convert 85 9 v).run Tryz.prog w = .ok (.string ⟨l.toArray⟩) w := by
  rcases h.2 with ⟨rfl, h0⟩ | ⟨g, cap, cur, rfl, _, hg, _, _, _, hcur⟩
  · have : l = [] := List.eq_nil_of_length_eq_zero h0
    subst this
    rw [run_convert_bytes_string w 85 9 5 none 0 0 Tryz.underlying85 Tryz.underlying5 Tryz.underlying9]
    rfl
  · exact run_convert_bytes_back (P := Tryz.prog) w 85 9 5 ⟨g, 0, none⟩ cap l Tryz.underlying85 Tryz.underlying5 Tryz.underlying9 (fun j hj => by
      rw [add_off, cell_of_row w g j cur 5 (0, 0) hg, ← Array.getElem?_toList]
      have h2 := congrArg (fun l : List Value => l[j]?) hcur
      unfold byL at h2
      simp only [List.getElem?_take, List.getElem?_map, List.getElem?_eq_getElem hj] at h2
      rw [if_pos (by omega)] at h2
      rw [h2]
      rfl)
end Go.Proofs.YtbhmmcelndmijaaGreat.Wi
namespace Go.Proofs.YtbhmmcelndmijaaGreat.Wi
open Go.RowKit
/-- The count that stands ahead. -/
def cntR (s : ByteArray) : Nat := leT (takeV s 4) (takeV s 4).size
/-- The error that a count brings: 0 for none. -/
def cntF (s : ByteArray) (e : Nat) (most : Int) : Nat := if takeE s e 4 ≠ 0 then 0 else if most < 0 ∨ most < (cntR s : Int) then 3 else 0
def cntN (s : ByteArray) (e : Nat) (most : Int) : Nat := if takeE s e 4 ≠ 0 then 0 else if most < 0 ∨ most < (cntR s : Int) then 0 else cntR s
def cntS (s : ByteArray) (e : Nat) (most : Int) : ByteArray := failS (takeS s e 4) (takeE s e 4) (cntF s e most)
def cntE (s : ByteArray) (e : Nat) (most : Int) : Nat := failE (takeE s e 4) (cntF s e most)
theorem cntR_lt (s : ByteArray) : cntR s < 4294967296 := by
  have h1 := leT_lt (takeV s 4) (takeV s 4).size
  have h2 : (takeV s 4).size ≤ 4 := by
    unfold takeV
    split
    · exact Nat.zero_le _
    · rw [ByteArray.size_extract]; omega
  have h3 : 2 ^ (8 * (takeV s 4).size) ≤ 2 ^ 32 := Nat.pow_le_pow_right (by omega) (by omega)
  unfold cntR
  omega
set_option maxRecDepth 100000 in
set_option maxHeartbeats 400000 in
theorem count_any (b : Nat) (s : ByteArray) (a e : Nat) (most : Int) (w : World) (h : Blk w b 141 (rd s a e)) (ha : (a : Int) + (s.size : Int) ≤ 281474976710656) (hm : most ≤ 9223372036854775807) : Calls Tryz.prog 105 #[.pointer (some ⟨b, 0, none⟩), .int .i64 most] w fun r w' => r = .returned (.int .i64 (cntN s e most)) ∧ Blk w' b 141 (rd (cntS s e most) (takeA s a 4) (cntE s e most)) ∧ w.grownBy w' (some b) := by
  have C : Hid (Calls Tryz.prog 76 #[.pointer (some ⟨b, 0, none⟩), .int .i64 4] w fun r w' => r = .returned (.int .u64 ((cntR s : Nat) : Int)) ∧ Blk w' b 141 (rd (takeS s e 4) (takeA s a 4) (takeE s e 4)) ∧ w.grownBy w' (some b)) := rnumber_any b s a e 4 w h ha (by omega)
  have hlt := cntR_lt s
  unfold cntS cntE cntN cntF
  generalize cntR s = n at *
  generalize takeS s e 4 = S at *
  generalize takeA s a 4 = A at *
  generalize takeE s e 4 = E at *
  clear h
  have n0 : (n : Int) < 4294967296 := by omega
  have n1 : (0 : Int) ≤ (n : Int) := by omega
  by_cases hE : E ≠ 0
  · rw [if_pos hE, if_pos hE]
    have e1 : failS S E 0 = S := by unfold failS; rw [if_pos (Or.inl rfl)]
    have e2 : failE E 0 = E := by unfold failE; rw [if_pos (Or.inl rfl)]
    rw [e1, e2]
    have hE' : ((E : Int) != 0) = true := by rw [bne_iff_ne]; omega
    clear e1 e2 hE
    go_enter Tryz.func105, Tryz.ntmps105
    go_wp2_with (first | (go_at_call 76; refine C.out.mono ?_; rintro r w1 ⟨rfl, hb1, hg1⟩; have B1 : Hid (Blk w1 b 141 (rd S A E)) := hb1; have G1 : Hid (w.grownBy w1 (some b)) := hg1; clear hb1 hg1) | (go_at_call 81; refine (err_any b _ _ _ _ B1.out).mono ?_; rintro r w' ⟨rfl, hw⟩; have hw2 := hw.symm; clear hw; subst hw2))
    go_ret
    exact ⟨rfl, B1.out, G1.out⟩
  · have hE0 : E = 0 := by omega
    subst hE0
    rw [if_neg hE, if_neg hE]
    clear hE
    by_cases hbad : most < 0 ∨ most < (n : Int)
    · rw [if_pos hbad, if_pos hbad]
      by_cases h0 : most < 0
      · clear hbad
        go_enter Tryz.func105, Tryz.ntmps105
        go_wp2_with (first | (go_at_call 76; refine C.out.mono ?_; rintro r w1 ⟨rfl, hb1, hg1⟩; have B1 : Hid (Blk w1 b 141 (rd S A 0)) := hb1; have G1 : Hid (w.grownBy w1 (some b)) := hg1; clear hb1 hg1) | (go_at_call 81; refine (err_any b _ _ _ _ B1.out).mono ?_; rintro r w' ⟨rfl, hw⟩; have hw2 := hw.symm; clear hw; subst hw2) | (go_at_call 80; refine (fail_any b S A 0 3 _ B1.out).mono ?_; rintro r w2 ⟨rfl, hb2, hg2⟩; have B2 : Hid (Blk w2 b 141 (rd (failS S 0 3) A (failE 0 3))) := hb2; have G2 : Hid (w.grownBy w2 (some b)) := grown_trans G1.out hg2; clear hb2 hg2))
        go_ret
        exact ⟨rfl, B2.out, G2.out⟩
      · have h0' : (0 : Int) ≤ most := by omega
        have h1 : most < (n : Int) := by omega
        clear hbad h0
        go_enter Tryz.func105, Tryz.ntmps105
        go_wp2_with (first | (go_at_call 76; refine C.out.mono ?_; rintro r w1 ⟨rfl, hb1, hg1⟩; have B1 : Hid (Blk w1 b 141 (rd S A 0)) := hb1; have G1 : Hid (w.grownBy w1 (some b)) := hg1; clear hb1 hg1) | (go_at_call 81; refine (err_any b _ _ _ _ B1.out).mono ?_; rintro r w' ⟨rfl, hw⟩; have hw2 := hw.symm; clear hw; subst hw2) | (go_at_call 80; refine (fail_any b S A 0 3 _ B1.out).mono ?_; rintro r w2 ⟨rfl, hb2, hg2⟩; have B2 : Hid (Blk w2 b 141 (rd (failS S 0 3) A (failE 0 3))) := hb2; have G2 : Hid (w.grownBy w2 (some b)) := grown_trans G1.out hg2; clear hb2 hg2))
        go_ret
        exact ⟨rfl, B2.out, G2.out⟩
    · rw [if_neg hbad, if_neg hbad]
      have e1 : failS S 0 0 = S := by unfold failS; rw [if_pos (Or.inl rfl)]
      have e2 : failE 0 0 = 0 := by unfold failE; rw [if_pos (Or.inl rfl)]
      rw [e1, e2]
      have d1 : ¬ (most < 0) := by omega
      have hu2 : IntKind.u64.wrap most = most := by rw [IntKind.wrap_u64]; omega
      have d2 : ¬ (most < (n : Int)) := by omega
      have hw : IntKind.i64.wrap (n : Int) = (n : Int) := by rw [IntKind.wrap_i64]; omega
      clear hbad e1 e2 hm hlt ha n0 n1
      go_enter Tryz.func105, Tryz.ntmps105
      go_wp2_with (first | (go_at_call 76; refine C.out.mono ?_; rintro r w1 ⟨rfl, hb1, hg1⟩; have B1 : Hid (Blk w1 b 141 (rd S A 0)) := hb1; have G1 : Hid (w.grownBy w1 (some b)) := hg1; clear hb1 hg1) | (go_at_call 81; refine (err_any b _ _ _ _ B1.out).mono ?_; rintro r w' ⟨rfl, hw⟩; have hw2 := hw.symm; clear hw; subst hw2))
      go_ret
      exact ⟨rfl, B1.out, G1.out⟩
theorem failS_size (s : ByteArray) (e f : Nat) : (failS s e f).size ≤ s.size := by
  unfold failS
  split
  · exact Nat.le_refl _
  · exact Nat.zero_le _
theorem take_room (s : ByteArray) (a e n : Nat) : takeA s a n + (takeS s e n).size ≤ a + s.size := by
  unfold takeA takeS
  split
  · have := failS_size s e 4; omega
  · rw [ByteArray.size_extract]; omega
theorem cnt_room (s : ByteArray) (a e : Nat) (most : Int) : takeA s a 4 + (cntS s e most).size ≤ a + s.size := by
  have h1 := take_room s a e 4
  have h2 := failS_size (takeS s e 4) (takeE s e 4) (cntF s e most)
  unfold cntS
  omega
/-- The text that stands ahead, and the reader behind it. -/
def txtV (s : ByteArray) (e : Nat) (most : Int) : ByteArray := takeV (cntS s e most) (cntN s e most)
def txtS (s : ByteArray) (e : Nat) (most : Int) : ByteArray := takeS (cntS s e most) (cntE s e most) (cntN s e most)
def txtA (s : ByteArray) (a e : Nat) (most : Int) : Nat := takeA (cntS s e most) (takeA s a 4) (cntN s e most)
def txtE (s : ByteArray) (e : Nat) (most : Int) : Nat := takeE (cntS s e most) (cntE s e most) (cntN s e most)
theorem cntN_lt (s : ByteArray) (e : Nat) (most : Int) : cntN s e most < 4294967296 := by
  have := cntR_lt s
  unfold cntN
  split
  · omega
  · split <;> omega
set_option maxRecDepth 100000 in
set_option maxHeartbeats 400000 in
theorem text_any (b : Nat) (s : ByteArray) (a e : Nat) (most : Int) (w : World) (h : Blk w b 141 (rd s a e)) (ha : (a : Int) + (s.size : Int) ≤ 281474976710656) (hm : most ≤ 9223372036854775807) : Calls Tryz.prog 104 #[.pointer (some ⟨b, 0, none⟩), .int .i64 most] w fun r w' => r = .returned (.string (txtV s e most)) ∧ Blk w' b 141 (rd (txtS s e most) (txtA s a e most) (txtE s e most)) ∧ w.grownBy w' (some b) := by
  have C : Hid (Calls Tryz.prog 105 #[.pointer (some ⟨b, 0, none⟩), .int .i64 most] w fun r w' => r = .returned (.int .i64 (cntN s e most)) ∧ Blk w' b 141 (rd (cntS s e most) (takeA s a 4) (cntE s e most)) ∧ w.grownBy w' (some b)) := count_any b s a e most w h ha hm
  have hr := cnt_room s a e most
  have hn := cntN_lt s e most
  unfold txtV txtS txtA txtE
  generalize cntN s e most = n at *
  generalize cntS s e most = S at *
  generalize takeA s a 4 = A at *
  generalize cntE s e most = E at *
  have CB : Hid (∀ w, Blk w b 141 (rd S A E) → Calls Tryz.prog 123 #[.pointer (some ⟨b, 0, none⟩), .int .i64 n] w fun r w' => r = .returned (.string (takeV S n)) ∧ Blk w' b 141 (rd (takeS S E n) (takeA S A n) (takeE S E n)) ∧ w.grownBy w' (some b)) := fun w h => bytes_any b S A E n w h (by omega) (by omega)
  clear h hr hn
  generalize takeV S n = V at *
  go_enter Tryz.func104, Tryz.ntmps104
  go_wp2_with (first | (go_at_call 105; refine C.out.mono ?_; rintro r w1 ⟨rfl, hb1, hg1⟩; have B1 : Hid (Blk w1 b 141 (rd S A E)) := hb1; have G1 : Hid (w.grownBy w1 (some b)) := hg1; clear hb1 hg1) | (go_at_call 123; refine (CB.out _ B1.out).mono ?_; rintro r w2 ⟨rfl, hb2, hg2⟩; have B2 : Hid (Blk w2 b 141 (rd (takeS S E n) (takeA S A n) (takeE S E n))) := hb2; have G2 : Hid (w.grownBy w2 (some b)) := grown_trans G1.out hg2; clear hb2 hg2))
  go_ret
  exact ⟨rfl, B2.out, G2.out⟩
def abcS : ByteArray := ⟨#[3, 0, 0, 0, 97, 98, 99]⟩
end Go.Proofs.YtbhmmcelndmijaaGreat.Wi
