/-
  The contracts of sha.Sum at the empty text, and of the laws' own look whether the program is awake.
-/
import Derived.Test.YtncplpgelfjfjaaDoorSum
import Derived.Test.YtncplpgelfjfjaaDoorZero
import Derived.Test.YtncplpgelfjfjaaDoorNew
namespace Go.Proofs.YtncplpgelfjfjaaDoor
open Go.RowKit
def emptyS : ByteArray := ⟨(dstr (turn emptyG)).toArray⟩
set_option maxRecDepth 100000 in
set_option maxHeartbeats 400000 in
theorem sumNone_any (w : World) (ht : Tabs w) : Calls Tryd.prog 11 #[.string ⟨#[]⟩] w fun e w' => e = .returned (.string emptyS) ∧ w.grownBy w' none := by
  have HT : Hid (Tabs w) := ht
  clear ht
  go_enter Tryd.func11, Tryd.ntmps11
  go_wp2_with (first | (go_at_call 14; refine (new_any w).mono ?_; rintro e w1 ⟨rfl, hw1⟩; have G1 : Hid (w.grownBy w1 none) := (by rw [hw1]; exact grown_alloc (grown_refl _ _) _); have B1 : Hid (Blk w1 w.heap.size 50 (dig (fun _ => 0) 0)) := (by rw [hw1]; exact Blk.new _ _ _); clear hw1) | (go_at_call 15; refine (write_none _ _).mono ?_; rintro e w2 ⟨rfl, rfl⟩) | (go_at_call 16; refine (sum_any w.heap.size (fun _ => 0) 0 _ B1.out (HT.out.kept G1.out (by simp) (by simp) (by simp)) (by omega)).mono ?_; rintro e w3 ⟨rfl, hg3⟩))
  go_ret
  exact ⟨rfl, grown_trans G1.out hg3⟩
theorem byte_of {S : ByteArray} {i : Nat} {b : UInt8} (h : i < S.size) (e : S.data[i]? = some b) : ((S[i]'h).toNat : Int) = (b.toNat : Int) := by
  have h2 : S.data[i]? = some (S.data[i]'h) := Array.getElem?_eq_getElem h
  rw [e] at h2
  rw [Option.some.inj h2]
  rfl
theorem empty_len : emptyS.size = 32 := by
  show (dstr (turn emptyG)).toArray.size = 32
  rw [List.size_toArray, dstr_len]
theorem empty_at (i : Nat) (h : i < 32) : emptyS.data[i]? = some (UInt8.ofNat (byteN (zeroAt 24) i)) := by
  show (dstr (turn emptyG)).toArray[i]? = _
  rw [List.getElem?_toArray]
  unfold dstr
  rw [List.getElem?_map, List.getElem?_range h]
  show some (UInt8.ofNat (byteN (turn emptyG) i)) = _
  unfold byteN
  rw [zero_turn (i / 8) (by omega)]
set_option maxRecDepth 100000 in
set_option maxHeartbeats 400000 in
theorem awake_any (w : World) (ht : Tabs w) : Calls Tryd.prog 8 #[] w fun e w' => e = .returned (.bool true) ∧ w.grownBy w' none := by
  have HT : Hid (Tabs w) := ht
  clear ht
  have e0 := empty_at 0 (by omega)
  have e1 := empty_at 1 (by omega)
  have e31 := empty_at 31 (by omega)
  have v0 : UInt8.ofNat (byteN (zeroAt 24) 0) = 0xa7 := by decide +kernel
  have v1 : UInt8.ofNat (byteN (zeroAt 24) 1) = 0xff := by decide +kernel
  have v31 : UInt8.ofNat (byteN (zeroAt 24) 31) = 0x4a := by decide +kernel
  rw [v0] at e0
  rw [v1] at e1
  rw [v31] at e31
  have el := empty_len
  clear v0 v1 v31
  obtain ⟨S, ES⟩ : ∃ S, emptyS = S := ⟨_, rfl⟩
  have C : Hid (Calls Tryd.prog 11 #[.string ⟨#[]⟩] w fun e w' => e = .returned (.string S) ∧ w.grownBy w' none) := by
    rw [← ES]
    exact sumNone_any w HT.out
  rw [ES] at e0 e1 e31 el
  clear ES HT
  have f0 : ((S[0]'(by omega)).toNat : Int) = 167 := byte_of (by omega) e0
  have f1 : ((S[1]'(by omega)).toNat : Int) = 255 := byte_of (by omega) e1
  have f31 : ((S[31]'(by omega)).toNat : Int) = 74 := byte_of (by omega) e31
  clear e0 e1 e31
  go_enter Tryd.func8, Tryd.ntmps8
  go_wp2_with (go_at_call 11; refine C.out.mono ?_; rintro e w1 ⟨rfl, hg1⟩; have G1 : Hid (w.grownBy w1 none) := hg1; clear hg1)
  go_ret
  exact ⟨rfl, G1.out⟩
end Go.Proofs.YtncplpgelfjfjaaDoor
