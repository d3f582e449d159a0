/-
  The contract of Digest.Write: of whatever text, byte by byte: each is laid over the block, and a full block is turned; nothing else that was there turns.
-/
import Derived.Test.YtncplpgelfjfjaaDoorSum
import Derived.Deep.RegionHeld3
namespace Go.Proofs.YtncplpgelfjfjaaDoor
open Go.RowKit
/-- Cells laid one behind the other from a place on. -/
def putAt (cs : Array Value) : Nat → List Value → Array Value
  | _, [] => cs
  | o, v :: r => putAt (cs.setIfInBounds o v) (o + 1) r
theorem putAt_get : ∀ (r : List Value) (cs : Array Value) (o i : Nat), (putAt cs o r)[i]? = if o ≤ i ∧ i < o + r.length ∧ i < cs.size then r[i - o]? else cs[i]?
  | [], cs, o, i => by
    rw [if_neg (by simp; omega)]
    rfl
  | v :: r, cs, o, i => by
    rw [putAt, putAt_get r, Array.size_setIfInBounds, Array.getElem?_setIfInBounds]
    by_cases h1 : o = i
    · subst h1
      rw [if_neg (by omega), if_pos rfl]
      by_cases h2 : o < cs.size
      · rw [if_pos h2, if_pos ⟨by omega, by simp, h2⟩]
        simp
      · rw [if_neg h2, if_neg (by omega), Array.getElem?_eq_none (by omega)]
    · rw [if_neg h1]
      by_cases h2 : o + 1 ≤ i ∧ i < o + 1 + r.length ∧ i < cs.size
      · rw [if_pos h2, if_pos ⟨by omega, by simp; omega, h2.2.2⟩]
        rw [show i - o = (i - (o + 1)) + 1 by omega]
        simp
      · rw [if_neg h2, if_neg (fun h => h2 ⟨by omega, by have := h.2.1; simp at this; omega, h.2.2⟩)]
theorem setCells_blk {b : Nat} {t : TypeId} : ∀ (r : List Value) (o : Nat) (w : World) (cs : Array Value), Blk w b t cs → Blk (w.setCells b o r) b t (putAt cs o r)
  | [], _, _, _, h => h
  | v :: r, o, _, _, h => setCells_blk r (o + 1) _ _ (h.set o v)
theorem setCells_grown {b : Nat} : ∀ (r : List Value) (o : Nat) (w w0 : World), w0.grownBy w (some b) → w0.grownBy (w.setCells b o r) (some b)
  | [], _, _, _, h => h
  | _ :: r, o, _, w0, h => setCells_grown r (o + 1) _ w0 (grown_set h o _)
theorem dig_putAt (F G : Nat → BitVec 64) (p : Nat) : putAt (dig F p) 0 (arr .u64 25 (lan G)).toList = dig G p := by
  apply Array.ext_getElem?
  intro i
  rw [putAt_get, Array.length_toList, arr_size, dig_size]
  by_cases h : i < 25
  · rw [if_pos (by omega), dig_lane _ _ _ h, Array.getElem?_toList, Nat.sub_zero, arr_get _ _ _ _ h, lan_at]
  · rw [if_neg (by omega)]
    by_cases h2 : i = 25
    · subst h2; rw [dig_at, dig_at]
    · rw [Array.getElem?_eq_none (by rw [dig_size]; omega), Array.getElem?_eq_none (by rw [dig_size]; omega)]
theorem store_lanes {ops : Array Oper} {rest : List Oper} {o : Oper} {a : Act} {w : World} {Q : Exit → Act → World → Prop} {d : Nat} {t : TypeId} {F G : Nat → BitVec 64} {p : Nat} (h0 : Blk w d t (dig F p)) (x y : Operand)
    (hgd : o.guard = none) (ho : o.op = .store 23 x y) (hx : a.eval x = .pointer (some ⟨d, 0, none⟩)) (hy : a.eval y = .agg (arr .u64 25 (lan G)))
    (h : ∀ w', Blk w' d t (dig G p) → w.grownBy w' (some d) → wpList Tryd.prog ops Q rest (a.put o.dst undef) w') : wpList Tryd.prog ops Q (o :: rest) a w := by
  refine wpList_store_mid hgd 23 x y ho d 0 _ hx hy ?_ (by rw [arr_size]; exact size23) (arr_one _ _ _) (h _ ?_ (setCells_grown _ _ _ _ (grown_refl _ _)))
  · intro j hj
    rw [arr_size] at hj
    rw [Nat.zero_add, h0.cell, dig_lane _ _ _ hj]
    exact ⟨rfl, h0.frozen j⟩
  · have := setCells_blk (arr .u64 25 (lan G)).toList 0 w _ h0
    rwa [dig_putAt] at this
theorem dig_set25 (F : Nat → BitVec 64) (p p' : Nat) : (dig F p).setIfInBounds 25 (.int .i64 p') = dig F p' := by
  apply Array.ext_getElem?
  intro i
  rw [Array.getElem?_setIfInBounds, dig_size]
  by_cases h : i < 25
  · rw [if_neg (by omega), dig_lane _ _ _ h, dig_lane _ _ _ h]
  · by_cases h2 : i = 25
    · subst h2; rw [if_pos rfl, if_pos (by omega), dig_at]
    · rw [if_neg (by omega), Array.getElem?_eq_none (by rw [dig_size]; omega), Array.getElem?_eq_none (by rw [dig_size]; omega)]
theorem Blk.set25 {w : World} {d : Nat} {t : TypeId} {F : Nat → BitVec 64} {p : Nat} (h : Blk w d t (dig F p)) (p' : Nat) : Blk (w.setCell ⟨d, 25, none⟩ (.int .i64 p')) d t (dig F p') := by
  rw [← dig_set25 F p p']
  exact h.set 25 _
/-- A byte soaked up. -/
def soak1 (x : (Nat → BitVec 64) × Nat) (b : UInt8) : (Nat → BitVec 64) × Nat := if x.2 + 1 = 136 then (turn (layB x.1 b.toNat x.2), 0) else (layB x.1 b.toNat x.2, x.2 + 1)
def soak (x : (Nat → BitVec 64) × Nat) (l : List UInt8) : (Nat → BitVec 64) × Nat := l.foldl soak1 x
theorem soak1_lt (x : (Nat → BitVec 64) × Nat) (b : UInt8) (h : x.2 < 136) : (soak1 x b).2 < 136 := by
  unfold soak1
  split
  · exact Nat.zero_lt_succ _
  · show x.2 + 1 < 136
    omega
theorem soak_lt (x : (Nat → BitVec 64) × Nat) (l : List UInt8) (h : x.2 < 136) : (soak x l).2 < 136 := by
  induction l generalizing x with
  | nil => exact h
  | cons b l ih => exact ih _ (soak1_lt x b h)
theorem soak_take (x : (Nat → BitVec 64) × Nat) (l : List UInt8) (k : Nat) (h : k < l.length) : soak x (l.take (k + 1)) = soak1 (soak x (l.take k)) l[k] := by
  unfold soak
  rw [List.take_succ_eq_append_getElem h, List.foldl_append]
  rfl
theorem bytes_len (s : ByteArray) : s.data.toList.length = s.size := Array.length_toList
set_option maxRecDepth 100000 in
set_option maxHeartbeats 400000 in
theorem write_any (d : Nat) (F : Nat → BitVec 64) (p : Nat) (s : ByteArray) (w : World) (hb : Blk w d 50 (dig F p)) (ht : Tabs w) (hp : p < 136) (hd : 2 < d) (hs : s.size ≤ 1099511627776) :
    Calls Tryd.prog 15 #[.pointer (some ⟨d, 0, none⟩), .string s] w fun e w' => e = .returned (.tuple #[]) ∧ Blk w' d 50 (dig (soak (F, p) s.data.toList).1 (soak (F, p) s.data.toList).2) ∧ w.grownBy w' (some d) := by
  have HB : Hid (Blk w d 50 (dig F p)) := hb
  have HT : Hid (Tabs w) := ht
  clear hb ht
  go_enter Tryd.func15, Tryd.ntmps15
  go_wp2
  go_loopw [9] (fun i wr => ∃ k : Nat, k ≤ s.size ∧ i = .int .i64 k ∧ Blk wr d 50 (dig (soak (F, p) (s.data.toList.take k)).1 (soak (F, p) (s.data.toList.take k)).2) ∧ w.grownBy wr (some d)) (fun i _ => s.size - (intOf i).toNat)
  case atStart => exact ⟨0, by omega, rfl, HB.out, grown_refl _ _⟩
  case round =>
    obtain ⟨k, hk, rfl, h1, h3⟩ := hrel
    by_cases hlt : k < s.size
    · have hP := soak_lt (F, p) (s.data.toList.take k) hp
      have eS := soak_take (F, p) s.data.toList k (by rw [bytes_len]; exact hlt)
      have eb : s.data.toList[k]'(by rw [bytes_len]; exact hlt) = s[k]'hlt := rfl
      rw [eb] at eS
      generalize soak (F, p) (s.data.toList.take k) = x at *
      obtain ⟨G, q⟩ := x
      have T1 : Hid (Tabs wr) := HT.out.kept h3 (by simp; omega) (by simp; omega) (by simp; omega)
      have B1 : Hid (Blk wr d 50 (dig G q)) := h1
      have hq : q < 136 := hP
      have c25 : wr.cell? ⟨d, 25, none⟩ = some (.int .i64 q) := by rw [B1.out.cell, dig_at]
      obtain ⟨b, ebb⟩ : ∃ b : Nat, (s[k]'hlt).toNat = b := ⟨_, rfl⟩
      have hb256 : b < 256 := by rw [← ebb]; exact UInt8.toNat_lt _
      have H3 : Hid (w.grownBy wr (some d)) := h3
      have ES : Hid (soak (F, p) (List.take (k + 1) s.data.toList) = if q + 1 = 136 then (turn (layB G b q), 0) else (layB G b q, q + 1)) := by
        rw [← ebb]
        exact eS
      have i0 : (0 : Int) ≤ (k : Int) := by omega
      have i1 : (k : Int) < (s.size : Int) := by omega
      clear h1 h3 hP eS eb hk
      go_wp2
      go_region_held3 (fun w' => w'.cell? ⟨d, 25, none⟩ = some (.int .i64 q)) (first | assumption | go_keep) (first | (go_at_call 26; refine (lay_any d 50 G q b q _ B1.out.drew hq hb256).mono ?_; rintro e w2 ⟨rfl, hb2, hg2⟩; have c2 : w2.cell? ⟨d, 25, none⟩ = some (.int .i64 q) := by rw [hb2.cell, dig_at]))
      have f2 : w2.frozen? ⟨d, 25, none⟩ = false := hb2.frozen 25
      have B2 : Hid (Blk w2 d 50 (dig (layB G b q) q)) := hb2
      have G2 : Hid (w.grownBy w2 (some d)) := grown_trans (grown_drew H3.out) hg2
      clear hb2 hg2 H3 B1 c25 T1 hb256 ebb
      by_cases hq2 : q + 1 = 136
      · obtain rfl : q = 135 := by omega
        have B3 : Hid (Blk (w2.setCell ⟨d, 25, none⟩ (.int .i64 136)) d 50 (dig (layB G b 135) 136)) := B2.out.set25 136
        have G3 : Hid (w.grownBy (w2.setCell ⟨d, 25, none⟩ (.int .i64 136)) (some d)) := grown_set G2.out 25 _
        have T3 : Hid (Tabs (w2.setCell ⟨d, 25, none⟩ (.int .i64 136))) := HT.out.kept G3.out (by simp; omega) (by simp; omega) (by simp; omega)
        go_wp2_with (first | (refine q_is_load 23 (.tmp 36) rfl ?_; refine load_lanes B3.out _ rfl rfl rfl ?_) | (go_at_call 9; refine (turn_any (layB G b 135) _ T3.out).mono ?_; rintro e w4 ⟨rfl, hg4⟩; have B4 : Hid (Blk w4 d 50 (dig (layB G b 135) 136)) := B3.out.kept hg4 (by simp); have G4 : Hid (w.grownBy w4 (some d)) := grown_none G3.out hg4; clear hg4 B3 G3 T3 B2 G2) | (refine q_is_store 23 (.tmp 40) (.tmp 38) rfl ?_; refine store_lanes B4.out _ _ rfl rfl rfl rfl ?_; intro w5 hb5 hg5; have c5 : w5.cell? ⟨d, 25, none⟩ = some (.int .i64 136) := (by rw [hb5.cell, dig_at]; rfl); have f5 : w5.frozen? ⟨d, 25, none⟩ = false := hb5.frozen 25; have B5 : Hid (Blk w5 d 50 (dig (turn (layB G b 135)) 136)) := hb5; have G5 : Hid (w.grownBy w5 (some d)) := grown_trans G4.out hg5; clear hb5 hg5 G4 B4))
        go_roundw
        case rel =>
          refine ⟨k + 1, by omega, by go_num, ?_, grown_set G5.out 25 _⟩
          rw [ES.out]
          exact B5.out.set25 0
        case measure => simp [intOf]; omega
      · have i2 : (0 : Int) ≤ (q : Int) := by omega
        have i3 : (q : Int) < 135 := by omega
        have hne : ¬ ((q : Int) + 1 = 136) := by omega
        go_wp2
        go_roundw
        case rel =>
          refine ⟨k + 1, by omega, by go_num, ?_, grown_set G2.out 25 _⟩
          rw [ES.out, if_neg hq2]
          exact B2.out.set25 (q + 1)
        case measure => simp [intOf]; omega
    · have e : k = s.size := by omega
      subst e
      have H1 : Hid (Blk wr d 50 (dig (soak (F, p) s.data.toList).1 (soak (F, p) s.data.toList).2)) := by
        rw [← bytes_len, List.take_length] at h1
        exact h1
      have H3 : Hid (w.grownBy wr (some d)) := h3
      clear h1 h3
      go_wp2
      go_end0
      exact ⟨rfl, H1.out, H3.out⟩
end Go.Proofs.YtncplpgelfjfjaaDoor
