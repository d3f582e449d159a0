/-
  The document's way to a digest: the text is filled up to whole blocks, and each block is laid and turned: it comes to what the sponge that soaks byte by byte has when it is closed.
-/
import Derived.Test.YtncplpgelfjfjaaDoorSumAll
namespace Go.Proofs.YtncplpgelfjfjaaDoor
open Go.RowKit
def lay1 (x : (Nat → BitVec 64) × Nat) (b : UInt8) : (Nat → BitVec 64) × Nat := (layB x.1 b.toNat x.2, x.2 + 1)
/-- Bytes laid over a block from its beginning on, with no turn. -/
def layers (F : Nat → BitVec 64) (l : List UInt8) : Nat → BitVec 64 := (l.foldl lay1 (F, 0)).1
theorem lay1_count (l : List UInt8) (x : (Nat → BitVec 64) × Nat) : (l.foldl lay1 x).2 = x.2 + l.length := by
  induction l generalizing x with
  | nil => rfl
  | cons b l ih =>
    rw [List.foldl_cons, ih, List.length_cons]
    show x.2 + 1 + l.length = _
    omega
theorem layers_snoc (F : Nat → BitVec 64) (l : List UInt8) (b : UInt8) : layers F (l ++ [b]) = layB (layers F l) b.toNat l.length := by
  unfold layers
  rw [List.foldl_append]
  show layB (l.foldl lay1 (F, 0)).1 b.toNat (l.foldl lay1 (F, 0)).2 = _
  rw [lay1_count, Nat.zero_add]
theorem layers_take (F : Nat → BitVec 64) (l : List UInt8) (i : Nat) (h : i < l.length) : layers F (l.take (i + 1)) = layB (layers F (l.take i)) l[i].toNat i := by
  rw [List.take_succ_eq_append_getElem h, layers_snoc, List.length_take, Nat.min_eq_left (by omega)]
theorem soak_append (x : (Nat → BitVec 64) × Nat) (l m : List UInt8) : soak x (l ++ m) = soak (soak x l) m := List.foldl_append
theorem soak_cons (x : (Nat → BitVec 64) × Nat) (b : UInt8) (m : List UInt8) : soak x (b :: m) = soak (soak1 x b) m := rfl
theorem soak_nil (x : (Nat → BitVec 64) × Nat) : soak x [] = x := rfl
/-- Fewer bytes than the block has left. -/
theorem soak_few (l : List UInt8) (x : (Nat → BitVec 64) × Nat) (h : x.2 + l.length < 136) : soak x l = l.foldl lay1 x := by
  induction l generalizing x with
  | nil => rfl
  | cons b l ih =>
    rw [List.length_cons] at h
    have e : soak1 x b = lay1 x b := by unfold soak1 lay1; rw [if_neg (by omega)]
    rw [soak_cons, e, List.foldl_cons]
    exact ih _ (by show x.2 + 1 + l.length < 136; omega)
theorem soak_block (F : Nat → BitVec 64) (l : List UInt8) (h : l.length = 136) : soak (F, 0) l = (turn (layers F l), 0) := by
  have hne : l ≠ [] := by intro e; rw [e] at h; cases h
  have e := List.dropLast_concat_getLast hne
  have hl : l.dropLast.length = 135 := by rw [List.length_dropLast, h]
  rw [← e, soak_append, layers_snoc, soak_few l.dropLast (F, 0) (by show 0 + _ < 136; omega), soak_cons, soak_nil]
  unfold soak1
  rw [lay1_count, if_pos (by show 0 + _ + 1 = 136; omega)]
  show (turn (layB (layers F l.dropLast) _ (0 + l.dropLast.length)), 0) = _
  rw [Nat.zero_add]
theorem soak_count (l : List UInt8) (x : (Nat → BitVec 64) × Nat) (h : x.2 < 136) : (soak x l).2 = (x.2 + l.length) % 136 := by
  induction l generalizing x with
  | nil => rw [soak_nil, List.length_nil, Nat.add_zero, Nat.mod_eq_of_lt h]
  | cons b l ih =>
    rw [soak_cons, ih _ (soak1_lt x b h), List.length_cons]
    unfold soak1
    split
    · show (0 + l.length) % 136 = _
      omega
    · show (x.2 + 1 + l.length) % 136 = _
      omega
theorem layB_zero (F : Nat → BitVec 64) (q : Nat) : layB F 0 q = F := by
  funext i
  unfold layB
  split
  · simp
  · rfl
theorem soak_zeros (F : Nat → BitVec 64) (n q : Nat) (h : q + n < 136) : soak (F, q) (List.replicate n 0) = (F, q + n) := by
  induction n generalizing q with
  | zero => rfl
  | succ n ih =>
    rw [List.replicate_succ, soak_cons]
    have e : soak1 (F, q) 0 = (F, q + 1) := by
      unfold soak1
      rw [if_neg (by show ¬ (q + 1 = 136); omega)]
      show (layB F 0 q, q + 1) = _
      rw [layB_zero]
    rw [e, ih (q + 1) (by omega), Nat.add_assoc, Nat.add_comm 1 n]
theorem layB_both (F : Nat → BitVec 64) : layB (layB F 6 135) 128 135 = layB F 134 135 := by
  funext i
  unfold layB
  by_cases h : i = 135 / 8
  · rw [if_pos h, if_pos h, if_pos h, BitVec.xor_assoc]
    congr 1
  · rw [if_neg h, if_neg h, if_neg h]
/-- The text filled up to whole blocks, its last byte not yet marked. -/
def fillL (l : List UInt8) : List UInt8 := l ++ 6 :: List.replicate (135 - l.length % 136) 0
/-- The last byte marked. -/
def markL (l : List UInt8) : List UInt8 := l.dropLast ++ [l.getLastD 0 + 128]
theorem fill_len (l : List UInt8) : (fillL l).length % 136 = 0 := by
  unfold fillL
  rw [List.length_append, List.length_cons, List.length_replicate]
  omega
theorem mark_fill (l : List UInt8) : markL (fillL l) = if l.length % 136 = 135 then l ++ [134] else l ++ 6 :: (List.replicate (134 - l.length % 136) 0 ++ [128]) := by
  unfold markL fillL
  split
  · rename_i h
    rw [h]
    rw [show (135 - 135 : Nat) = 0 from rfl, List.replicate_zero, List.dropLast_concat, List.getLastD_concat]
    rfl
  · rename_i h
    obtain ⟨z, hz⟩ : ∃ z, 135 - l.length % 136 = z + 1 := ⟨134 - l.length % 136, by omega⟩
    rw [hz, show 134 - l.length % 136 = z by omega, List.replicate_succ']
    have e : l ++ 6 :: (List.replicate z 0 ++ [0]) = (l ++ 6 :: List.replicate z 0) ++ [0] := by simp
    rw [e, List.dropLast_concat, List.getLastD_concat]
    simp
/-- What the document turns is what the sponge has when it is closed. -/
theorem soak_closed (l : List UInt8) : soak (fun _ => 0, 0) (markL (fillL l)) = (turn (layB (layB (soak (fun _ => 0, 0) l).1 6 (soak (fun _ => 0, 0) l).2) 128 135), 0) := by
  have hc := soak_count l (fun _ => 0, 0) (by decide)
  rw [show ((fun _ => 0, 0) : (Nat → BitVec 64) × Nat).2 = 0 from rfl, Nat.zero_add] at hc
  rw [mark_fill]
  split
  · rename_i h
    rw [soak_append, soak_cons, soak_nil]
    rw [h] at hc
    unfold soak1
    rw [hc, if_pos rfl, layB_both]
    rfl
  · rename_i h
    have hlt : l.length % 136 < 135 := by omega
    rw [soak_append, soak_cons, soak_append]
    generalize l.length % 136 = p at *
    have e1 : soak1 (soak (fun _ => 0, 0) l) 6 = (layB (soak (fun _ => 0, 0) l).1 6 p, p + 1) := by
      unfold soak1
      rw [hc, if_neg (by omega)]
      rfl
    rw [e1, soak_zeros _ _ _ (by omega), soak_cons, soak_nil, show p + 1 + (134 - p) = 135 by omega, hc]
    rfl
theorem digest_of_pad (l : List UInt8) : dstr (soak (fun _ => 0, 0) (markL (fillL l))).1 = digestL l := by
  rw [soak_closed]
  rfl
end Go.Proofs.YtncplpgelfjfjaaDoor
