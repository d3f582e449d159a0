/-
  The contracts of sha.Sum at whatever text, and of the cut to a text that is not too long.
-/
import Derived.Test.YtncplpgelfjfjaaDoorWrite
import Derived.Test.YtncplpgelfjfjaaDoorNew
namespace Go.Proofs.YtncplpgelfjfjaaDoor
open Go.RowKit
/-- The digest that stands behind what a sponge soaked up. -/
def closeL (x : (Nat → BitVec 64) × Nat) : List UInt8 := dstr (turn (layB (layB x.1 6 x.2) 128 135))
/-- The digest of bytes. -/
def digestL (l : List UInt8) : List UInt8 := closeL (soak (fun _ => 0, 0) l)
def digestS (s : ByteArray) : ByteArray := ⟨(digestL s.data.toList).toArray⟩
set_option maxRecDepth 100000 in
set_option maxHeartbeats 400000 in
theorem sumAll_any (s : ByteArray) (w : World) (ht : Tabs w) (hs : s.size ≤ 1099511627776) : Calls Tryd.prog 11 #[.string s] w fun e w' => e = .returned (.string (digestS s)) ∧ w.grownBy w' none := by
  have HT : Hid (Tabs w) := ht
  have hlt := ht.lt
  clear ht
  go_enter Tryd.func11, Tryd.ntmps11
  go_wp2_with (first | (go_at_call 14; refine (new_any w).mono ?_; rintro e w1 ⟨rfl, hw1⟩; have G1 : Hid (w.grownBy w1 none) := (by rw [hw1]; exact grown_alloc (grown_refl _ _) _); have B1 : Hid (Blk w1 w.heap.size 50 (dig (fun _ => 0) 0)) := (by rw [hw1]; exact Blk.new _ _ _); clear hw1) | (go_at_call 15; refine (write_any w.heap.size _ _ s _ B1.out (HT.out.kept G1.out (by simp) (by simp) (by simp)) (by omega) hlt hs).mono ?_; rintro e w2 ⟨rfl, hb2, hg2⟩; have B2 : Hid (Blk w2 w.heap.size 50 (dig (soak (fun _ => 0, 0) s.data.toList).1 (soak (fun _ => 0, 0) s.data.toList).2)) := hb2; have G2 : Hid (w.grownBy w2 none) := grown_through G1.out hg2 (Nat.le_refl _); clear hb2 hg2 G1 B1) | (go_at_call 16; refine (sum_any w.heap.size _ _ _ B2.out (HT.out.kept G2.out (by simp) (by simp) (by simp)) (soak_lt _ _ (by decide))).mono ?_; rintro e w3 ⟨rfl, hg3⟩))
  go_ret
  exact ⟨rfl, grown_trans G2.out hg3⟩
/-- The first 1200 bytes at most. -/
def fewS (s : ByteArray) : ByteArray := if 1200 < s.size then s.extract 0 1200 else s
theorem fewS_size (s : ByteArray) : (fewS s).size ≤ 1200 := by
  unfold fewS
  split
  · rw [ByteArray.size_extract]; omega
  · omega
set_option maxRecDepth 100000 in
set_option maxHeartbeats 400000 in
theorem few_any (s : ByteArray) (w : World) : Calls Tryd.prog 12 #[.string s] w fun e w' => e = .returned (.string (fewS s)) ∧ w' = w := by
  by_cases h : 1200 < s.size
  · have e : fewS s = s.extract 0 1200 := by unfold fewS; rw [if_pos h]
    rw [e]
    have h1 : (1200 : Int) < (s.size : Int) := by omega
    go_enter Tryd.func12, Tryd.ntmps12
    go_wp2
    go_ret
    exact ⟨rfl, rfl⟩
  · have e : fewS s = s := by unfold fewS; rw [if_neg h]
    rw [e]
    have h1 : ¬ ((1200 : Int) < (s.size : Int)) := by omega
    go_enter Tryd.func12, Tryd.ntmps12
    go_wp2
    go_ret
    exact ⟨rfl, rfl⟩
end Go.Proofs.YtncplpgelfjfjaaDoor
