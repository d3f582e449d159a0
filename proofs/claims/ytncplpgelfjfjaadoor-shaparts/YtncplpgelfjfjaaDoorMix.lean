/-
  The contract of sha.mixColumns: the 25 lanes that the pointer leads to are mixed by their columns; nothing else that was there turns.
-/
import Derived.Test.YtncplpgelfjfjaaDoorKec
import Derived.BigRegion
import Derived.BigQuiet
import Derived.Deep.QuietTactic
import Derived.Deep.RegionHeld3
namespace Go.Proofs.YtncplpgelfjfjaaDoor
open Go.RowKit
theorem i64_in (n : Int) (h : -9223372036854775808 ≤ n ∧ n ≤ 9223372036854775807) : IntKind.i64.wrap n = n := by rw [IntKind.wrap_i64]; omega
set_option maxRecDepth 100000 in
set_option maxHeartbeats 4000000 in
theorem mix_any (b : Nat) (t : TypeId) (F : Nat → BitVec 64) (w : World) (hb : Blk w b t (arr .u64 25 (lan F))) :
    Calls Tryd.prog 22 #[.pointer (some ⟨b, 0, none⟩)] w fun e w' => e = .returned (.tuple #[]) ∧ Blk w' b t (arr .u64 25 (lan (theta F))) ∧ w.grownBy w' (some b) := by
  have hbs : b ≠ w.heap.size := by have := hb.lt; omega
  have hbs' : w.heap.size ≠ b := Ne.symm hbs
  go_enter Tryd.func22, Tryd.ntmps22
  go_wp2
  go_loopw [6] (fun i wr => ∃ k : Nat, k ≤ 5 ∧ i = .int .i64 k ∧ Blk wr b t (arr .u64 25 (lan F)) ∧ Blk wr w.heap.size 53 (arr .u64 5 (fun j => if j < k then U (col F j) else 0)) ∧ w.grownBy wr none) (fun i _ => 5 - (intOf i).toNat)
  case atStart => exact ⟨0, by omega, rfl, hb.alloc _, Blk.new w 53 _, grown_alloc (grown_refl _ _) _⟩
  case round =>
    obtain ⟨k, hk, rfl, h1, h2, h3⟩ := hrel
    by_cases hlt : k < 5
    · have c0 := h1.ints k (by omega)
      have c5 := h1.ints (k + 5) (by omega)
      have c10 := h1.ints (k + 10) (by omega)
      have c15 := h1.ints (k + 15) (by omega)
      have c20 := h1.ints (k + 20) (by omega)
      rw [lan_at] at c0 c5 c10 c15 c20
      have f2 := h2.frozen k
      have c2 := h2.ints k (by omega)
      simp at c2
      have hX := xorU
      have i1 : (k : Int) < 5 := by omega
      have a0 : (k : Int) < 25 := by omega
      have b0 : (0 : Int) ≤ (k : Int) := by omega
      have a5 : (k : Int) + 5 < 25 := by omega
      have b5 : 0 ≤ (k : Int) + 5 := by omega
      have v5 : IntKind.i64.wrap ((k : Int) + 5) = (k : Int) + 5 := i64_in _ (by omega)
      have n5 : ((k : Int) + 5).toNat = k + 5 := by omega
      have a10 : (k : Int) + 10 < 25 := by omega
      have b10 : 0 ≤ (k : Int) + 10 := by omega
      have v10 : IntKind.i64.wrap ((k : Int) + 10) = (k : Int) + 10 := i64_in _ (by omega)
      have n10 : ((k : Int) + 10).toNat = k + 10 := by omega
      have a15 : (k : Int) + 15 < 25 := by omega
      have b15 : 0 ≤ (k : Int) + 15 := by omega
      have v15 : IntKind.i64.wrap ((k : Int) + 15) = (k : Int) + 15 := i64_in _ (by omega)
      have n15 : ((k : Int) + 15).toNat = k + 15 := by omega
      have a20 : (k : Int) + 20 < 25 := by omega
      have b20 : 0 ≤ (k : Int) + 20 := by omega
      have v20 : IntKind.i64.wrap ((k : Int) + 20) = (k : Int) + 20 := i64_in _ (by omega)
      have n20 : ((k : Int) + 20).toNat = k + 20 := by omega
      have H1 : Hid (Blk wr b t (arr .u64 25 (lan F))) := h1
      have H2 : Hid (Blk wr w.heap.size 53 (arr .u64 5 (fun j => if j < k then U (col F j) else 0))) := h2
      have H3 : Hid (w.grownBy wr none) := h3
      clear h1 h2 h3
      go_wp2
      go_region_held3 (fun w' => w'.cell? ⟨b, k, none⟩ = some (.int .u64 (U (F (k)))) ∧ w'.cell? ⟨b, k + 5, none⟩ = some (.int .u64 (U (F (k + 5)))) ∧ w'.cell? ⟨b, k + 10, none⟩ = some (.int .u64 (U (F (k + 10)))) ∧ w'.cell? ⟨b, k + 15, none⟩ = some (.int .u64 (U (F (k + 15)))) ∧ w'.cell? ⟨b, k + 20, none⟩ = some (.int .u64 (U (F (k + 20))))) (go_keep) (fail)
      go_wp2
      go_roundw
      case rel =>
        refine ⟨k + 1, by omega, by go_num, (H1.out.other _ hbs).drew, ?_, grown_drew (grown_set_new H3.out _ (Nat.le_refl _))⟩
        refine (H2.out.seti k (U (col F k))).congr ?_
        intro i hi
        unfold upd
        by_cases e : i = k
        · simp [e]
        · simp only [e, if_false]
          by_cases e2 : i < k
          · rw [if_pos e2, if_pos (by omega)]
          · rw [if_neg e2, if_neg (by omega)]
      case measure => simp [intOf]; omega
    · have e5 : k = 5 := by omega
      subst e5
      have H2 : Blk wr w.heap.size 53 (arr .u64 5 (fun j => U (col F j))) := h2.congr (fun i hi => by rw [if_pos hi])
      clear h2
      have H1 : Hid (Blk wr b t (arr .u64 25 (lan F))) := h1
      have H2 : Hid (Blk wr w.heap.size 53 (arr .u64 5 (fun j => U (col F j)))) := H2
      have H3 : Hid (w.grownBy wr none) := h3
      clear h1 h3
      go_wp2
      go_loopw [45] (fun i w2 => ∃ k : Nat, k ≤ 5 ∧ i = .int .i64 k ∧ Blk w2 b t (arr .u64 25 (lan (mixed F k))) ∧ Blk w2 w.heap.size 53 (arr .u64 5 (fun j => U (col F j))) ∧ w.grownBy w2 (some b)) (fun i _ => 5 - (intOf i).toNat)
      case atStart => exact ⟨0, by omega, rfl, H1.out.congr (fun i _ => by rw [lan_at, lan_at, mixed_none]), H2.out, grown_none (grown_refl _ _) H3.out⟩
      case round =>
        clear H1 H2 H3
        obtain ⟨k, hk, rfl, h1, h2, h3⟩ := hrel
        by_cases hlt : k < 5
        · obtain ⟨m4, e4⟩ : ∃ m, m = (k + 4) % 5 := ⟨_, rfl⟩
          obtain ⟨m1, e1⟩ : ∃ m, m = (k + 1) % 5 := ⟨_, rfl⟩
          have s4 := h2.ints m4 (by omega)
          have s1 := h2.ints m1 (by omega)
          have c0 := h1.ints k (by omega)
          have c5 := h1.ints (k + 5) (by omega)
          have c10 := h1.ints (k + 10) (by omega)
          have c15 := h1.ints (k + 15) (by omega)
          have c20 := h1.ints (k + 20) (by omega)
          rw [lan_at] at c0 c5 c10 c15 c20
          have fz := h1.frozen
          have hX := xorU
          have x4 : ((k : Int) + 4).tmod 5 = (m4 : Int) := by rw [Int.tmod_eq_emod_of_nonneg (by omega)]; omega
          have x1 : ((k : Int) + 1).tmod 5 = (m1 : Int) := by rw [Int.tmod_eq_emod_of_nonneg (by omega)]; omega
          have y4 : (m4 : Int) < 5 := by omega
          have y1 : (m1 : Int) < 5 := by omega
          have z4 : (0 : Int) ≤ (m4 : Int) := by omega
          have z1 : (0 : Int) ≤ (m1 : Int) := by omega
          have v4 : IntKind.i64.wrap ((k : Int) + 4) = (k : Int) + 4 := i64_in _ (by omega)
          have v1 : IntKind.i64.wrap ((k : Int) + 1) = (k : Int) + 1 := i64_in _ (by omega)
          have i1 : (k : Int) < 5 := by omega
          have E4 : Hid (m4 = (k + 4) % 5) := e4
          have E1 : Hid (m1 = (k + 1) % 5) := e1
          clear e4 e1
          have a0 : (k : Int) < 25 := by omega
          have b0 : (0 : Int) ≤ (k : Int) := by omega
          have H1 : Hid (Blk wr b t (arr .u64 25 (lan (mixed F k)))) := h1
          have H2 : Hid (Blk wr w.heap.size 53 (arr .u64 5 (fun j => U (col F j)))) := h2
          have H3 : Hid (w.grownBy wr (some b)) := h3
          clear h1 h2 h3
          go_wp2
          go_region_held3 (fun w' => w'.cell? ⟨w.heap.size, m4, none⟩ = some (.int .u64 (U (col F m4))) ∧ w'.cell? ⟨w.heap.size, m1, none⟩ = some (.int .u64 (U (col F m1)))) (go_keep) (first | (go_at_call 28; refine (rot_any (col F m1) 1 _ (by omega) (by omega)).mono ?_; rintro e w' ⟨rfl, rfl⟩))
          clear s4 s1 x4 x1 y4 y1 z4 z1 v4 v1
          go_wp2
          go_region
          have a5 : (k : Int) + 5 < 25 := by omega
          have b5 : 0 ≤ (k : Int) + 5 := by omega
          have v5 : IntKind.i64.wrap ((k : Int) + 5) = (k : Int) + 5 := i64_in _ (by omega)
          have n5 : ((k : Int) + 5).toNat = k + 5 := by omega
          go_wp2
          go_region
          clear a5 b5 v5 n5
          have a10 : (k : Int) + 10 < 25 := by omega
          have b10 : 0 ≤ (k : Int) + 10 := by omega
          have v10 : IntKind.i64.wrap ((k : Int) + 10) = (k : Int) + 10 := i64_in _ (by omega)
          have n10 : ((k : Int) + 10).toNat = k + 10 := by omega
          go_wp2
          go_region
          clear a10 b10 v10 n10
          have a15 : (k : Int) + 15 < 25 := by omega
          have b15 : 0 ≤ (k : Int) + 15 := by omega
          have v15 : IntKind.i64.wrap ((k : Int) + 15) = (k : Int) + 15 := i64_in _ (by omega)
          have n15 : ((k : Int) + 15).toNat = k + 15 := by omega
          go_wp2
          go_region
          clear a15 b15 v15 n15
          have a20 : (k : Int) + 20 < 25 := by omega
          have b20 : 0 ≤ (k : Int) + 20 := by omega
          have v20 : IntKind.i64.wrap ((k : Int) + 20) = (k : Int) + 20 := i64_in _ (by omega)
          have n20 : ((k : Int) + 20).toNat = k + 20 := by omega
          go_wp2
          go_region
          clear a20 b20 v20 n20
          go_wp2
          go_roundw
          case rel =>
            repeat apply Exists.intro
            refine ⟨⟨k + 1, by omega, by go_num, ?_, ?_, ?_⟩, rfl⟩
            · have hx : col F m4 ^^^ rotl (col F m1) 1 = mixOf F k := by rw [E4.out, E1.out]; rfl
              refine Blk.drew (Blk.drew (Blk.drew (Blk.drew (Blk.drew (Blk.drew ?_)))))
              exact ((((((H1.out.seti k _).seti (k + 5) _).seti (k + 10) _).seti (k + 15) _).seti (k + 20) _).congr (mixed_step F k hlt _ hx))
            · refine Blk.drew (Blk.drew (Blk.drew (Blk.drew (Blk.drew (Blk.drew ?_)))))
              exact (((((H2.out.other _ hbs').other _ hbs').other _ hbs').other _ hbs').other _ hbs')
            · refine grown_drew (grown_drew (grown_drew (grown_drew (grown_drew (grown_drew ?_)))))
              exact grown_set (grown_set (grown_set (grown_set (grown_set H3.out _ _) _ _) _ _) _ _) _ _
          case measure => simp [intOf]; omega
        · have e5 : k = 5 := by omega
          subst e5
          have H1 : Hid (Blk wr b t (arr .u64 25 (lan (theta F)))) := h1.congr (fun i _ => by rw [lan_at, lan_at, mixed_all])
          have H3 : Hid (w.grownBy wr (some b)) := h3
          clear h1 h2 h3
          go_wp2
          go_end0
          exact ⟨rfl, H1.out, H3.out⟩
end Go.Proofs.YtncplpgelfjfjaaDoor
