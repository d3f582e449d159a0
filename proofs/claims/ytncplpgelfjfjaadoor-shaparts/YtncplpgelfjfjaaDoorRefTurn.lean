/-
  The contract of cupelref01.Turn: 24 rounds, as the document has them, of whatever 25 numbers of 64 bits.
-/
import Derived.Test.YtncplpgelfjfjaaDoorRound
namespace Go.Proofs.YtncplpgelfjfjaaDoor
open Go.RowKit
set_option maxRecDepth 100000 in
set_option maxHeartbeats 1000000 in
theorem refTurn_any (F : Nat → BitVec 64) (w : World) :
    Calls Tryd.prog 10 #[.agg (arr .u64 25 (lan F))] w fun e w' => e = .returned (.agg (arr .u64 25 (lan (turn F)))) ∧ w.grownBy w' none := by
  go_enter Tryd.func10, Tryd.ntmps10
  go_wp2
  go_loopw [3] (fun i wr => ∃ k : Nat, k ≤ 24 ∧ i = .int .i64 k ∧ Blk wr w.heap.size 23 (arr .u64 25 (lan (rounds F k))) ∧ Blk wr (w.heap.size + 1) 23 (arr .u64 25 (fun _ => 0)) ∧ w.grownBy wr none) (fun i _ => 24 - (intOf i).toNat)
  case atStart => exact ⟨0, by omega, rfl, (Blk.new w 23 _).alloc _, Blk.new2 w _ 23 _, grown_alloc (grown_alloc (grown_refl _ _) _) _⟩
  case round =>
    obtain ⟨k, hk, rfl, h1, h2, h3⟩ := hrel
    have H1 : Hid (Blk wr w.heap.size 23 (arr .u64 25 (lan (rounds F k)))) := h1
    have H2 : Hid (Blk wr (w.heap.size + 1) 23 (arr .u64 25 (fun _ => 0))) := h2
    have H3 : Hid (w.grownBy wr none) := h3
    clear h1 h2 h3
    by_cases hlt : k < 24
    · go_wp2_with (first | (refine is_load 23 (.tmp 1) rfl ?_; refine load_blk 23 w.heap.size 23 _ H1.out _ Tryd.underlying23 rfl (by rw [arr_size]; exact size23) _ rfl rfl rfl ?_) | (go_at_call 25; refine (round_any (rounds F k) k _ hlt).mono ?_; rintro e w1 ⟨rfl, hg1⟩) | (refine is_store 23 (.tmp 1) (.tmp 10) rfl ?_; refine store_blk 23 w.heap.size 23 _ (arr .u64 25 (lan (round (rounds F k) k))) (H1.out.kept hg1 (by simp)) (by rw [arr_size]; exact size23) (by rw [arr_size, arr_size]) (arr_one _ _ _) _ _ rfl rfl rfl rfl ?_; intro w2 hb2 hg2))
      go_roundw
      case rel =>
        exact ⟨k + 1, by omega, by go_num, hb2, (H2.out.kept hg1 (by simp)).kept hg2 (by simp), grown_through (grown_none H3.out hg1) hg2 (Nat.le_refl _)⟩
      case measure => simp [intOf]; omega
    · have e : k = 24 := by omega
      subst e
      go_wp2_with (first | (refine is_load 23 (.tmp 1) rfl ?_; refine load_blk 23 w.heap.size 23 _ H1.out _ Tryd.underlying23 rfl (by rw [arr_size]; exact size23) _ rfl rfl rfl ?_) | (refine is_store 23 (.tmp 2) (.tmp 11) rfl ?_; refine store_blk 23 (w.heap.size + 1) 23 _ (arr .u64 25 (lan (rounds F 24))) H2.out (by rw [arr_size]; exact size23) (by rw [arr_size, arr_size]) (arr_one _ _ _) _ _ rfl rfl rfl rfl ?_; intro w1 hb1 hg1))
      exact bodyPost_ret (v := .agg (arr .u64 25 (lan (turn F)))) (results_cell_row Tryd.results10 _ _ (w.heap.size + 1) 23 _ (0, 0) _ rfl hb1 Tryd.underlying23 rfl (by rw [arr_size]; exact size23)) rfl ⟨rfl, grown_through H3.out hg1 (by omega)⟩
end Go.Proofs.YtncplpgelfjfjaaDoor
