/-
  The contract of sha.bendRows: the 25 lanes that the pointer leads to are bent by their rows; nothing else that was there turns.
-/
import Derived.Test.YtncplpgelfjfjaaDoorKec
import Derived.Test.YtncplpgelfjfjaaDoorMix
import Derived.BigRegion
import Derived.BigQuiet
import Derived.Deep.QuietTactic
import Derived.Deep.RegionHeld3
namespace Go.Proofs.YtncplpgelfjfjaaDoor
open Go.RowKit
theorem notX (x : BitVec 64) : bits .xor .u64 (if IntKind.u64.signed = true then -1 else IntKind.u64.max) (U x) = U (~~~x) := by
  have h : (if IntKind.u64.signed = true then (-1 : Int) else IntKind.u64.max) = U (BitVec.allOnes 64) := by decide +kernel
  rw [h, xorU, BitVec.xor_comm, BitVec.xor_allOnes]
theorem bent_none (F : Nat → BitVec 64) (i : Nat) : bent F 0 i = F i := by simp [bent]
theorem bent_all (F : Nat → BitVec 64) (i : Nat) (hi : i < 25) : bent F 5 i = chi F i := by
  unfold bent; rw [if_pos (by omega)]
theorem bent_at (F : Nat → BitVec 64) (k c : Nat) : bent F k (5 * k + c) = F (5 * k + c) := by
  unfold bent; rw [if_neg (by omega)]
theorem bent_step (F : Nat → BitVec 64) (k : Nat) (r : Nat) (hr : r = 5 * k) (i : Nat) (_hi : i < 25) :
    upd (upd (upd (upd (upd (lan (bent F k)) r (U (F r ^^^ (~~~ F (r + 1) &&& F (r + 2))))) (r + 1) (U (F (r + 1) ^^^ (~~~ F (r + 2) &&& F (r + 3))))) (r + 2) (U (F (r + 2) ^^^ (~~~ F (r + 3) &&& F (r + 4))))) (r + 3) (U (F (r + 3) ^^^ (~~~ F (r + 4) &&& F r)))) (r + 4) (U (F (r + 4) ^^^ (~~~ F r &&& F (r + 1)))) i = lan (bent F (k + 1)) i := by
  subst hr
  rw [lan_at]
  by_cases e : 5 * k ≤ i ∧ i < 5 * k + 5
  · have hc : bent F (k + 1) i = chi F i := by unfold bent; rw [if_pos (by omega)]
    have hd : i / 5 = k := by omega
    rw [hc]
    unfold chi
    rw [hd]
    obtain h | h | h | h | h : i = 5 * k ∨ i = 5 * k + 1 ∨ i = 5 * k + 2 ∨ i = 5 * k + 3 ∨ i = 5 * k + 4 := by omega
    · have h5 : i % 5 = 0 := by omega
      rw [h5, h]; simp [upd]
    · have h5 : i % 5 = 1 := by omega
      rw [h5, h]; simp [upd]
    · have h5 : i % 5 = 2 := by omega
      rw [h5, h]; simp [upd]
    · have h5 : i % 5 = 3 := by omega
      rw [h5, h]; simp [upd]
    · have h5 : i % 5 = 4 := by omega
      rw [h5, h]; simp [upd]
  · have hc : bent F (k + 1) i = bent F k i := by
      unfold bent
      by_cases e2 : i < 5 * k
      · rw [if_pos e2, if_pos (by omega)]
      · rw [if_neg e2, if_neg (by omega)]
    rw [hc]
    unfold upd
    rw [if_neg (by omega), if_neg (by omega), if_neg (by omega), if_neg (by omega), if_neg (by omega), lan_at]
set_option maxRecDepth 100000 in
set_option maxHeartbeats 4000000 in
theorem bend_any (b : Nat) (t : TypeId) (F : Nat → BitVec 64) (w : World) (hb : Blk w b t (arr .u64 25 (lan F))) :
    Calls Tryd.prog 24 #[.pointer (some ⟨b, 0, none⟩)] w fun e w' => e = .returned (.tuple #[]) ∧ Blk w' b t (arr .u64 25 (lan (chi F))) ∧ w.grownBy w' (some b) := by
  have H0 : Hid (Blk w b t (arr .u64 25 (lan F))) := hb
  clear hb
  go_enter Tryd.func24, Tryd.ntmps24
  go_wp2
  go_loopw [9] (fun i wr => ∃ k : Nat, k ≤ 5 ∧ i = .int .i64 k ∧ Blk wr b t (arr .u64 25 (lan (bent F k))) ∧ w.grownBy wr (some b)) (fun i _ => 5 - (intOf i).toNat)
  case atStart => exact ⟨0, by omega, rfl, H0.out.congr (fun i _ => by rw [lan_at, lan_at, bent_none]), grown_refl _ _⟩
  case round =>
    clear H0
    obtain ⟨k, hk, rfl, h1, h3⟩ := hrel
    by_cases hlt : k < 5
    · obtain ⟨r, er⟩ : ∃ r, r = 5 * k := ⟨_, rfl⟩
      have c0 := h1.ints (r + 0) (by omega)
      rw [lan_at, er, bent_at F k 0, ← er] at c0
      have c1 := h1.ints (r + 1) (by omega)
      rw [lan_at, er, bent_at F k 1, ← er] at c1
      have c2 := h1.ints (r + 2) (by omega)
      rw [lan_at, er, bent_at F k 2, ← er] at c2
      have c3 := h1.ints (r + 3) (by omega)
      rw [lan_at, er, bent_at F k 3, ← er] at c3
      have c4 := h1.ints (r + 4) (by omega)
      rw [lan_at, er, bent_at F k 4, ← er] at c4
      have fz := h1.frozen
      rw [Nat.add_zero] at c0
      have hX := xorU
      have i0 : (0 : Int) ≤ (k : Int) := by omega
      have i5 : (k : Int) < 5 := by omega
      have rl : (r : Int) < 21 := by omega
      have HR : Hid (5 * (k : Int) = (r : Int)) := by unfold Hid; omega
      have H1 : Hid (Blk wr b t (arr .u64 25 (lan (bent F k)))) := h1
      have H3 : Hid (w.grownBy wr (some b)) := h3
      have ER : Hid (r = 5 * k) := er
      clear h1 h3 er
      go_wp2
      rw [HR.out]
      have a0 : (r : Int) < 25 := by omega
      have b0 : (0 : Int) ≤ (r : Int) := by omega
      have a1 : (r : Int) + 1 < 25 := by omega
      have b1 : 0 ≤ (r : Int) + 1 := by omega
      have v1 : IntKind.i64.wrap ((r : Int) + 1) = (r : Int) + 1 := i64_in _ (by omega)
      have n1 : ((r : Int) + 1).toNat = r + 1 := by omega
      have a2 : (r : Int) + 2 < 25 := by omega
      have b2 : 0 ≤ (r : Int) + 2 := by omega
      have v2 : IntKind.i64.wrap ((r : Int) + 2) = (r : Int) + 2 := i64_in _ (by omega)
      have n2 : ((r : Int) + 2).toNat = r + 2 := by omega
      have a3 : (r : Int) + 3 < 25 := by omega
      have b3 : 0 ≤ (r : Int) + 3 := by omega
      have v3 : IntKind.i64.wrap ((r : Int) + 3) = (r : Int) + 3 := i64_in _ (by omega)
      have n3 : ((r : Int) + 3).toNat = r + 3 := by omega
      have a4 : (r : Int) + 4 < 25 := by omega
      have b4 : 0 ≤ (r : Int) + 4 := by omega
      have v4 : IntKind.i64.wrap ((r : Int) + 4) = (r : Int) + 4 := i64_in _ (by omega)
      have n4 : ((r : Int) + 4).toNat = r + 4 := by omega
      go_region_held3 (fun w' => w'.cell? ⟨b, r, none⟩ = some (.int .u64 (U (F (r)))) ∧ w'.cell? ⟨b, r + 1, none⟩ = some (.int .u64 (U (F (r + 1)))) ∧ w'.cell? ⟨b, r + 2, none⟩ = some (.int .u64 (U (F (r + 2)))) ∧ w'.cell? ⟨b, r + 3, none⟩ = some (.int .u64 (U (F (r + 3)))) ∧ w'.cell? ⟨b, r + 4, none⟩ = some (.int .u64 (U (F (r + 4))))) (go_keep) (fail)
      clear a1 b1 v1 n1 a2 b2 v2 n2 a3 b3 v3 n3 a4 b4 v4 n4
      have hA := andU
      have hN := notX
      go_wp2
      go_region
      have a1 : (r : Int) + 1 < 25 := by omega
      have b1 : 0 ≤ (r : Int) + 1 := by omega
      have v1 : IntKind.i64.wrap ((r : Int) + 1) = (r : Int) + 1 := i64_in _ (by omega)
      have n1 : ((r : Int) + 1).toNat = r + 1 := by omega
      go_wp2
      go_region
      clear a1 b1 v1 n1
      have a2 : (r : Int) + 2 < 25 := by omega
      have b2 : 0 ≤ (r : Int) + 2 := by omega
      have v2 : IntKind.i64.wrap ((r : Int) + 2) = (r : Int) + 2 := i64_in _ (by omega)
      have n2 : ((r : Int) + 2).toNat = r + 2 := by omega
      go_wp2
      go_region
      clear a2 b2 v2 n2
      have a3 : (r : Int) + 3 < 25 := by omega
      have b3 : 0 ≤ (r : Int) + 3 := by omega
      have v3 : IntKind.i64.wrap ((r : Int) + 3) = (r : Int) + 3 := i64_in _ (by omega)
      have n3 : ((r : Int) + 3).toNat = r + 3 := by omega
      go_wp2
      go_region
      clear a3 b3 v3 n3
      have a4 : (r : Int) + 4 < 25 := by omega
      have b4 : 0 ≤ (r : Int) + 4 := by omega
      have v4 : IntKind.i64.wrap ((r : Int) + 4) = (r : Int) + 4 := i64_in _ (by omega)
      have n4 : ((r : Int) + 4).toNat = r + 4 := by omega
      go_wp2
      go_region
      clear a4 b4 v4 n4
      go_wp2
      go_roundw
      case rel =>
        refine ⟨k + 1, by omega, by go_num, ?_, ?_⟩
        · refine Blk.drew (Blk.drew (Blk.drew (Blk.drew (Blk.drew (Blk.drew ?_)))))
          exact (((((H1.out.seti r _).seti (r + 1) _).seti (r + 2) _).seti (r + 3) _).seti (r + 4) _).congr (bent_step F k r ER.out)
        · refine grown_drew (grown_drew (grown_drew (grown_drew (grown_drew (grown_drew ?_)))))
          exact grown_set (grown_set (grown_set (grown_set (grown_set H3.out _ _) _ _) _ _) _ _) _ _
      case measure => simp [intOf]; omega
    · have e5 : k = 5 := by omega
      subst e5
      have H1 : Hid (Blk wr b t (arr .u64 25 (lan (chi F)))) := h1.congr (fun i hi => by rw [lan_at, lan_at, bent_all F i hi])
      have H3 : Hid (w.grownBy wr (some b)) := h3
      clear h1 h3
      go_wp2
      go_end0
      exact ⟨rfl, H1.out, H3.out⟩
end Go.Proofs.YtncplpgelfjfjaaDoor
