/-
  What a sponge holds, and the contract of Digest.lay: a byte is laid over the one at a place of the block.
-/
import Derived.Test.YtncplpgelfjfjaaDoorTurn
import Derived.Deep.MidRow
namespace Go.Proofs.YtncplpgelfjfjaaDoor
open Go.RowKit
/-- A byte laid over the lane of its place. -/
def layB (F : Nat → BitVec 64) (b at' : Nat) : Nat → BitVec 64 := fun i => if i = at' / 8 then F i ^^^ (BitVec.ofNat 64 b <<< (8 * (at' % 8))) else F i
/-- What a sponge's block holds: 25 lanes, and how many bytes came since the last turn. -/
def dig (F : Nat → BitVec 64) (at' : Nat) : Array Value := (arr .u64 25 (lan F)).push (.int .i64 at')
theorem dig_size (F : Nat → BitVec 64) (p : Nat) : (dig F p).size = 26 := by simp [dig, arr_size]
theorem dig_lane (F : Nat → BitVec 64) (p i : Nat) (h : i < 25) : (dig F p)[i]? = some (.int .u64 (U (F i))) := by
  unfold dig
  rw [Array.getElem?_push, if_neg (by rw [arr_size]; omega), arr_get _ _ _ _ h, lan_at]
theorem dig_at (F : Nat → BitVec 64) (p : Nat) : (dig F p)[25]? = some (.int .i64 p) := by
  unfold dig
  rw [Array.getElem?_push, if_pos (by rw [arr_size])]
theorem dig_set (F : Nat → BitVec 64) (p l : Nat) (v : BitVec 64) (h : l < 25) : (dig F p).setIfInBounds l (.int .u64 (U v)) = dig (fun i => if i = l then v else F i) p := by
  apply Array.ext_getElem?
  intro i
  rw [Array.getElem?_setIfInBounds, dig_size]
  by_cases e : l = i
  · subst e
    rw [if_pos rfl, if_pos (by omega), dig_lane _ _ _ h, if_pos rfl]
  · rw [if_neg e]
    by_cases h2 : i < 25
    · rw [dig_lane _ _ _ h2, dig_lane _ _ _ h2, if_neg (fun x => e x.symm)]
    · by_cases h3 : i = 25
      · subst h3; rw [dig_at, dig_at]
      · rw [Array.getElem?_eq_none (by rw [dig_size]; omega), Array.getElem?_eq_none (by rw [dig_size]; omega)]
theorem U_byte (b : Nat) (h : b < 256) : U (BitVec.ofNat 64 b) = (b : Int) := by
  unfold U
  rw [BitVec.toNat_ofNat, Nat.mod_eq_of_lt (by omega)]
theorem lay_val (x : BitVec 64) (b k : Nat) (h : b < 256) : bits .xor .u64 (U x) (IntKind.u64.wrap ((b : Int) * 2 ^ k)) = U (x ^^^ (BitVec.ofNat 64 b <<< k)) := by
  rw [← U_byte b h, shlU, xorU]
set_option maxRecDepth 100000 in
set_option maxHeartbeats 400000 in
theorem lay_any (d : Nat) (t : TypeId) (F : Nat → BitVec 64) (p b q : Nat) (w : World) (hb : Blk w d t (dig F p)) (hq : q < 136) (hbb : b < 256) :
    Calls Tryd.prog 26 #[.pointer (some ⟨d, 0, none⟩), .int .u8 b, .int .i64 q] w fun e w' => e = .returned (.tuple #[]) ∧ Blk w' d t (dig (layB F b q) p) ∧ w.grownBy w' (some d) := by
  obtain ⟨l, el⟩ : ∃ l, l = q / 8 := ⟨_, rfl⟩
  obtain ⟨s, es⟩ : ∃ s, s = 8 * (q % 8) := ⟨_, rfl⟩
  have c : w.cell? ⟨d, l, none⟩ = some (.int .u64 (U (F l))) := by rw [hb.cell, dig_lane F p l (by omega)]
  have f := hb.frozen l
  have i0 : (0 : Int) ≤ (q : Int) := by omega
  have i1 : (q : Int) < 136 := by omega
  have i2 : (0 : Int) ≤ (b : Int) := by omega
  have i3 : (b : Int) < 256 := by omega
  have x1 : IntKind.i64.wrap ((q : Int) / 8) = (l : Int) := by rw [i64_in _ (by omega)]; omega
  have x2 : (q : Int).tmod 8 = ((q % 8 : Nat) : Int) := by rw [Int.tmod_eq_emod_of_nonneg (by omega)]; omega
  have a0 : (l : Int) < 25 := by omega
  have b0 : (0 : Int) ≤ (l : Int) := by omega
  have EL : Hid (l = q / 8) := el
  have HB : Hid (Blk w d t (dig F p)) := hb
  have hl : l < 25 := by omega
  clear el es hb
  go_enter Tryd.func26, Tryd.ntmps26
  go_wp2
  go_region
  go_end0
  rw [lay_val _ _ _ hbb]
  refine ⟨rfl, Blk.drew ?_, grown_drew (grown_set (grown_refl _ _) _ _)⟩
  have h := HB.out.set l (.int .u64 (U (F l ^^^ (BitVec.ofNat 64 b <<< (8 * (q % 8))))))
  rw [dig_set F p l _ hl] at h
  have e : layB F b q = fun i => if i = l then F l ^^^ (BitVec.ofNat 64 b <<< (8 * (q % 8))) else F i := by
    funext i
    unfold layB
    rw [← EL.out]
    by_cases h : i = l
    · rw [if_pos h, if_pos h, h]
    · rw [if_neg h, if_neg h]
  rw [e]
  exact h
end Go.Proofs.YtncplpgelfjfjaaDoor
