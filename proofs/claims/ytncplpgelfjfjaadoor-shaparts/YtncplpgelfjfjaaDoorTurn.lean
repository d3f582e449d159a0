/-
  The contract of sha.Turn: of whatever 25 numbers of 64 bits, it answers those behind 24 rounds, and nothing that was there turns, where the three tables hold what the program's text lays in them.
-/
import Derived.Test.YtncplpgelfjfjaaDoorMix
import Derived.Test.YtncplpgelfjfjaaDoorMove
import Derived.Test.YtncplpgelfjfjaaDoorBend
namespace Go.Proofs.YtncplpgelfjfjaaDoor
open Go.RowKit
def markI (i : Nat) : Int := U (rc i)
/-- The three tables, as the program's text lays them. -/
structure Tabs (w : World) : Prop where
  m : Cel w 0 (arr .u64 24 markI)
  s : Cel w 1 (arr .i64 25 spinI)
  p : Cel w 2 (arr .i64 25 placeI)
theorem Tabs.kept {w w' : World} {row : Option Nat} (h : Tabs w) (g : w.grownBy w' row) (h0 : some 0 ≠ row) (h1 : some 1 ≠ row) (h2 : some 2 ≠ row) : Tabs w' :=
  ⟨h.m.kept g h0, h.s.kept g h1, h.p.kept g h2⟩
theorem Tabs.lt {w : World} (h : Tabs w) : 2 < w.heap.size := h.p.lt
theorem Blk.new2 (w : World) (o : Obj) (t : TypeId) (cs : Array Value) : Blk ((w.alloc o).alloc (.cells cs t)) (w.heap.size + 1) t cs := by
  have h := Blk.new (w.alloc o) t cs
  rwa [show (w.alloc o).heap.size = w.heap.size + 1 by simp] at h
theorem rounds_succ' (F : Nat → BitVec 64) (n : Nat) : rounds F (n + 1) = round (rounds F n) n := rfl
theorem round_upd (F : Nat → BitVec 64) (n i : Nat) : upd (lan (chi (rhopi (theta F)))) 0 (U (chi (rhopi (theta F)) 0 ^^^ rc n)) i = lan (round F n) i := by
  unfold upd
  rw [lan_at, lan_at]
  unfold round
  by_cases e : i = 0
  · rw [if_pos e, if_pos e]
  · rw [if_neg e, if_neg e]
set_option maxRecDepth 100000 in
set_option maxHeartbeats 1000000 in
theorem turn_any (F : Nat → BitVec 64) (w : World) (ht : Tabs w) :
    Calls Tryd.prog 9 #[.agg (arr .u64 25 (lan F))] w fun e w' => e = .returned (.agg (arr .u64 25 (lan (turn F)))) ∧ w.grownBy w' none := by
  have HT : Hid (Tabs w) := ht
  have hz := ht.lt
  have n0 : 0 ≠ w.heap.size := by omega
  have n1 : 1 ≠ w.heap.size := by omega
  have n2 : 2 ≠ w.heap.size := by omega
  clear ht
  go_enter Tryd.func9, Tryd.ntmps9
  go_wp2
  go_loopw [4] (fun i wr => ∃ k : Nat, k ≤ 24 ∧ i = .int .i64 k ∧ Blk wr w.heap.size 23 (arr .u64 25 (lan (rounds F k))) ∧ Blk wr (w.heap.size + 1) 23 (arr .u64 25 (fun _ => 0)) ∧ w.grownBy wr none) (fun i _ => 24 - (intOf i).toNat)
  case atStart => exact ⟨0, by omega, rfl, (Blk.new w 23 _).alloc _, Blk.new2 w _ 23 _, grown_alloc (grown_alloc (grown_refl _ _) _) _⟩
  case round =>
    obtain ⟨k, hk, rfl, h1, h2, h3⟩ := hrel
    by_cases hlt : k < 24
    · have H1 : Hid (Blk wr w.heap.size 23 (arr .u64 25 (lan (rounds F k)))) := h1
      have H2 : Hid (Blk wr (w.heap.size + 1) 23 (arr .u64 25 (fun _ => 0))) := h2
      have H3 : Hid (w.grownBy wr none) := h3
      clear h1 h2 h3
      go_wp2_with fail
      refine (mix_any w.heap.size 23 (rounds F k) wr H1.out).mono ?_
      rintro e w1 ⟨rfl, hb1, hg1⟩
      have G1 : Hid (w.grownBy w1 none) := grown_through H3.out hg1 (Nat.le_refl _)
      have B1 : Hid (Blk w1 w.heap.size 23 (arr .u64 25 (lan (theta (rounds F k))))) := hb1
      have C1 : Hid (Blk w1 (w.heap.size + 1) 23 (arr .u64 25 (fun _ => 0))) := H2.out.kept hg1 (by simp)
      clear hb1 hg1 H1 H2 H3
      go_wp2_with fail
      have T1 := HT.out.kept G1.out (by simp) (by simp) (by simp)
      refine (move_any w.heap.size _ w1 B1.out T1.p T1.s n1 n2).mono ?_
      rintro e w2 ⟨rfl, hb2, hg2⟩
      have G2 : Hid (w.grownBy w2 none) := grown_through G1.out hg2 (Nat.le_refl _)
      have B2 : Hid (Blk w2 w.heap.size 23 (arr .u64 25 (lan (rhopi (theta (rounds F k)))))) := hb2
      have C2 : Hid (Blk w2 (w.heap.size + 1) 23 (arr .u64 25 (fun _ => 0))) := C1.out.kept hg2 (by simp)
      clear hb2 hg2 G1 B1 C1 T1
      go_wp2_with fail
      refine (bend_any w.heap.size 23 _ w2 B2.out).mono ?_
      rintro e w3 ⟨rfl, hb3, hg3⟩
      have G3 : Hid (w.grownBy w3 none) := grown_through G2.out hg3 (Nat.le_refl _)
      have B3 : Hid (Blk w3 w.heap.size 23 (arr .u64 25 (lan (chi (rhopi (theta (rounds F k))))))) := hb3
      have C3 : Hid (Blk w3 (w.heap.size + 1) 23 (arr .u64 25 (fun _ => 0))) := C2.out.kept hg3 (by simp)
      clear hb3 hg3 G2 B2 C2
      have T3 := HT.out.kept G3.out (by simp) (by simp) (by simp)
      have cm := T3.m.ints k hlt
      rw [show markI k = U (rc k) from rfl] at cm
      have ca := B3.out.ints 0 (by omega)
      rw [lan_at] at ca
      have fz := B3.out.frozen 0
      have hX := xorU
      have b0 : (0 : Int) ≤ (k : Int) := by omega
      have a0 : (k : Int) < 24 := by omega
      clear T3
      go_wp2
      go_region
      all_goals
        go_wp2
        go_roundw
        case rel =>
          refine ⟨k + 1, by omega, by go_num, Blk.drew ((B3.out.seti 0 _).congr (fun i _ => ?_)), Blk.drew (C3.out.other _ (by simp)), grown_drew (grown_set_new G3.out _ (Nat.le_refl _))⟩
          rw [rounds_succ']
          exact round_upd _ k i
        case measure => simp [intOf]; omega
    · have e : k = 24 := by omega
      subst e
      have H1 : Hid (Blk wr w.heap.size 23 (arr .u64 25 (lan (turn F)))) := h1
      have H2 : Hid (Blk wr (w.heap.size + 1) 23 (arr .u64 25 (fun _ => 0))) := h2
      have H3 : Hid (w.grownBy wr none) := h3
      clear h1 h2 h3
      go_wp2_with (first | (refine load_blk 23 w.heap.size 23 _ H1.out _ Tryd.underlying23 rfl (by rw [arr_size]; exact size23) _ rfl rfl rfl ?_) | (refine store_blk 23 (w.heap.size + 1) 23 _ (arr .u64 25 (lan (turn F))) H2.out (by rw [arr_size]; exact size23) (by rw [arr_size, arr_size]) (arr_one _ _ _) _ _ rfl rfl rfl rfl ?_; intro w1 hb1 hg1))
      exact bodyPost_ret (v := .agg (arr .u64 25 (lan (turn F)))) (results_cell_row Tryd.results9 _ _ (w.heap.size + 1) 23 _ (0, 0) _ rfl hb1 Tryd.underlying23 rfl (by rw [arr_size]; exact size23)) rfl ⟨rfl, grown_through H3.out hg1 (by omega)⟩
end Go.Proofs.YtncplpgelfjfjaaDoor
