/-
  The contract of sha.moveLanes: the 25 lanes that the pointer leads to are turned and put to their next places; nothing else that was there turns.
-/
import Derived.Test.YtncplpgelfjfjaaDoorKec
import Derived.Test.YtncplpgelfjfjaaDoorRow
import Derived.BigRegion
import Derived.BigQuiet
import Derived.Deep.QuietTactic
import Derived.Deep.RegionHeld3
namespace Go.Proofs.YtncplpgelfjfjaaDoor
open Go.RowKit
def spinI (i : Nat) : Int := ((spinsL.getD i 0 : Nat) : Int)
def placeI (i : Nat) : Int := ((placesL.getD i 0 : Nat) : Int)
/-- The lanes when k of them have been moved. -/
def moved (F : Nat → BitVec 64) (k i : Nat) : BitVec 64 := if fromL.getD i 0 < k then rhopi F i else F i
theorem moved_none (F : Nat → BitVec 64) (i : Nat) : moved F 0 i = F i := by simp [moved]
theorem moved_all (F : Nat → BitVec 64) (i : Nat) (hi : i < 25) : moved F 25 i = rhopi F i := by
  unfold moved; rw [if_pos (from_places i hi).2.2.2.1]
theorem moved_step (F : Nat → BitVec 64) (k : Nat) (hk : k < 25) (i : Nat) (hi : i < 25) :
    upd (lan (moved F k)) (placesL.getD k 0) (U (rotl (F k) (spinsL.getD k 0))) i = lan (moved F (k + 1)) i := by
  unfold upd
  rw [lan_at, lan_at]
  obtain ⟨p1, _, _, _, _⟩ := from_places k hk
  obtain ⟨_, _, q3, _, _⟩ := from_places i hi
  by_cases e : i = placesL.getD k 0
  · rw [if_pos e]
    have : fromL.getD i 0 = k := by rw [e]; exact p1
    unfold moved
    rw [if_pos (by omega), rhopi, this]
  · rw [if_neg e]
    have : fromL.getD i 0 ≠ k := fun h => e (by rw [← h]; exact q3.symm)
    unfold moved
    by_cases e2 : fromL.getD i 0 < k
    · rw [if_pos e2, if_pos (by omega)]
    · rw [if_neg e2, if_neg (by omega)]
theorem size23 : (Tryd.prog.info? 23).map (·.size) = some 25 := by kernel_rfl
set_option maxRecDepth 100000 in
set_option maxHeartbeats 1000000 in
theorem move_any (b : Nat) (F : Nat → BitVec 64) (w : World) (hb : Blk w b 23 (arr .u64 25 (lan F)))
    (hp : Cel w 2 (arr .i64 25 placeI)) (hs : Cel w 1 (arr .i64 25 spinI)) (h1b : 1 ≠ b) (h2b : 2 ≠ b) :
    Calls Tryd.prog 23 #[.pointer (some ⟨b, 0, none⟩)] w fun e w' => e = .returned (.tuple #[]) ∧ Blk w' b 23 (arr .u64 25 (lan (rhopi F))) ∧ w.grownBy w' (some b) := by
  have hbs : b ≠ w.heap.size := by have := hb.lt; omega
  have hbs' : w.heap.size ≠ b := Ne.symm hbs
  have hb1' : b ≠ 1 := Ne.symm h1b
  have hb2' : b ≠ 2 := Ne.symm h2b
  have H0 : Hid (Blk w b 23 (arr .u64 25 (lan F))) := hb
  have HP : Hid (Cel w 2 (arr .i64 25 placeI)) := hp
  have HS : Hid (Cel w 1 (arr .i64 25 spinI)) := hs
  clear hb hp hs
  go_enter Tryd.func23, Tryd.ntmps23
  go_wp2_with (first | (refine load_blk 23 b 23 _ H0.out _ Tryd.underlying23 rfl (by rw [arr_size]; exact size23) _ rfl rfl rfl ?_) | (refine store_blk 23 w.heap.size 23 _ (arr .u64 25 (lan F)) (Blk.new _ _ _) (by rw [arr_size]; exact size23) (by rw [arr_size]; rfl) (arr_one _ _ _) _ _ rfl rfl rfl rfl ?_; intro w1 hb1 hg1))
  have HB1 : Hid (Blk w1 w.heap.size 23 (arr .u64 25 (lan F))) := hb1
  have HG1 : Hid (w.grownBy w1 none) := grown_through (grown_alloc (grown_refl _ _) _) hg1 (Nat.le_refl _)
  clear hb1 hg1
  go_loopw [7] (fun i wr => ∃ k : Nat, k ≤ 25 ∧ i = .int .i64 k ∧ Blk wr b 23 (arr .u64 25 (lan (moved F k))) ∧ Blk wr w.heap.size 23 (arr .u64 25 (lan F)) ∧ w.grownBy wr (some b)) (fun i _ => 25 - (intOf i).toNat)
  case atStart => exact ⟨0, by omega, rfl, (H0.out.kept HG1.out (by simp)).congr (fun i _ => by rw [lan_at, lan_at, moved_none]), HB1.out, grown_none (grown_refl _ _) HG1.out⟩
  case round =>
    clear HB1 HG1
    obtain ⟨k, hk, rfl, h1, h2, h3⟩ := hrel
    by_cases hlt : k < 25
    · obtain ⟨p, ep⟩ : ∃ p, p = placesL.getD k 0 := ⟨_, rfl⟩
      obtain ⟨q, eq⟩ : ∃ q, q = spinsL.getD k 0 := ⟨_, rfl⟩
      obtain ⟨_, pl, _, _, ql⟩ := from_places k hlt
      rw [← ep] at pl
      rw [← eq] at ql
      have o := h2.ints k hlt
      rw [lan_at] at o
      have cp := (HP.out.kept h3 (by simp [h2b])).ints k hlt
      have cq := (HS.out.kept h3 (by simp [h1b])).ints k hlt
      rw [show placeI k = (p : Int) by rw [ep]; rfl] at cp
      rw [show spinI k = (q : Int) by rw [eq]; rfl] at cq
      have cb := h1.ints p pl
      have fz := h1.frozen p
      have a0 : (k : Int) < 25 := by omega
      have b0 : (0 : Int) ≤ (k : Int) := by omega
      have a1 : (p : Int) < 25 := by omega
      have b1 : (0 : Int) ≤ (p : Int) := by omega
      have EP : Hid (p = placesL.getD k 0) := ep
      have EQ : Hid (q = spinsL.getD k 0) := eq
      have H1 : Hid (Blk wr b 23 (arr .u64 25 (lan (moved F k)))) := h1
      have H2 : Hid (Blk wr w.heap.size 23 (arr .u64 25 (lan F))) := h2
      have H3 : Hid (w.grownBy wr (some b)) := h3
      clear h1 h2 h3 ep eq
      go_wp2
      go_region_held3 (fun w' => w'.cell? ⟨2, k, none⟩ = some (.int .i64 p) ∧ w'.cell? ⟨w.heap.size, k, none⟩ = some (.int .u64 (U (F k))) ∧ w'.cell? ⟨1, k, none⟩ = some (.int .i64 q)) (go_keep) (first | (go_at_call 28; refine (rot_any (F k) (q : Int) _ (by omega) (by omega)).mono ?_; rintro e w' ⟨rfl, rfl⟩))
      go_wp2
      go_roundw
      case rel =>
        refine ⟨k + 1, by omega, by go_num, ?_, (H2.out.other _ hbs').drew, grown_drew (grown_set H3.out _ _)⟩
        refine Blk.drew ((H1.out.seti p _).congr ?_)
        intro i hi
        rw [EP.out, EQ.out]
        exact moved_step F k hlt i hi
      case measure => simp [intOf]; omega
    · have e5 : k = 25 := by omega
      subst e5
      have H1 : Hid (Blk wr b 23 (arr .u64 25 (lan (rhopi F)))) := h1.congr (fun i hi => by rw [lan_at, lan_at, moved_all F i hi])
      have H3 : Hid (w.grownBy wr (some b)) := h3
      clear h1 h2 h3
      go_wp2
      go_end0
      exact ⟨rfl, H1.out, H3.out⟩
end Go.Proofs.YtncplpgelfjfjaaDoor
