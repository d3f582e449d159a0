/-
  Bytes copied into a digest's place: as many as there is room for; the others stay noughts.
-/
import Derived.Test.YtiokjdjlopeliaaRef
import Derived.Lib.BufferWrite
namespace Go.Proofs.Ytiokjdjlopeliaa
open Go.RowKit
/-- A text cut to 32 bytes, or filled up with noughts. -/
def hashL (s : ByteArray) : List UInt8 := (s.data.toList ++ List.replicate 32 0).take 32
def hashS (s : ByteArray) : ByteArray := ⟨(hashL s).toArray⟩
theorem hashL_len (s : ByteArray) : (hashL s).length = 32 := by
  unfold hashL
  rw [List.length_take, List.length_append, List.length_replicate]
  omega
theorem zero32 : (#[.int .u8 0, .int .u8 0, .int .u8 0, .int .u8 0, .int .u8 0, .int .u8 0, .int .u8 0, .int .u8 0, .int .u8 0, .int .u8 0, .int .u8 0, .int .u8 0, .int .u8 0, .int .u8 0, .int .u8 0, .int .u8 0, .int .u8 0, .int .u8 0, .int .u8 0, .int .u8 0, .int .u8 0, .int .u8 0, .int .u8 0, .int .u8 0, .int .u8 0, .int .u8 0, .int .u8 0, .int .u8 0, .int .u8 0, .int .u8 0, .int .u8 0, .int .u8 0] : Array Value) = (byL (List.replicate 32 0)).toArray := by rfl
theorem byL_one (l : List UInt8) : ∀ v ∈ byL l, v.oneCell' = true := by
  intro v hv
  unfold byL at hv
  obtain ⟨b, _, rfl⟩ := List.mem_map.1 hv
  rfl
theorem byL_len (l : List UInt8) : (byL l).length = l.length := List.length_map _
theorem hash_copy (s : ByteArray) (w : World) (g : Nat) (t : TypeId) (hg : Blk w g t (byL (List.replicate 32 0)).toArray) :
    (Builtin.copy_ #[35, 9] 3 #[.slice (some ⟨g, 0, none⟩) 32 32, .string s]).run Try.prog w = .ok (goInt (Nat.min s.size 32)) (w.setRow g (byL (hashL s)).toArray) := by
  obtain ⟨i, hi, hz0, hz1, hz2⟩ := info_parts info5
  obtain ⟨m, hm⟩ : ∃ m, Nat.min s.size 32 = m := ⟨_, rfl⟩
  have hmd : m = if s.size ≤ 32 then s.size else 32 := by
    rw [← hm]
    split
    · exact Nat.min_eq_left (by assumption)
    · exact Nat.min_eq_right (by omega)
  have hm32 : m ≤ 32 := by rw [hmd]; split <;> omega
  have hms : m ≤ s.size := by rw [hmd]; split <;> omega
  have hlen : (byL (s.data.toList.take m)).length = m := by
    rw [byL_len, List.length_take, bytes_len]
    exact Nat.min_eq_left hms
  have hst := run_storeCells_at Try.prog g 0 t (byL (s.data.toList.take m)) 0 (byL (List.replicate 32 0)).toArray w hg (by rw [hlen, List.size_toArray, byL_len, List.length_replicate]; omega) (byL_one _)
  have hcells : ((byL (List.replicate 32 0)).toArray.toList.take 0 ++ byL (s.data.toList.take m) ++ (byL (List.replicate 32 0)).toArray.toList.drop (0 + m)) = byL (hashL s) := by
    rw [List.take_zero, List.nil_append, List.toList_toArray, Nat.zero_add]
    unfold byL hashL
    rw [← List.map_drop, ← List.map_append, List.take_append, List.drop_replicate, List.take_replicate, bytes_len]
    congr 2
    · by_cases h : s.size ≤ 32
      · rw [hmd, if_pos h, List.take_of_length_le (by rw [bytes_len]; exact Nat.le_refl _), List.take_of_length_le (by rw [bytes_len]; exact h)]
      · rw [hmd, if_neg h]
    · congr 1
      by_cases h : s.size ≤ 32
      · rw [hmd, if_pos h]; omega
      · rw [hmd, if_neg h]; omega
  rw [hlen] at hst
  simp only [Nat.add_zero] at hst hcells
  rw [hcells] at hst
  have htk : List.take m (List.map (fun b : UInt8 => Value.int IntKind.u8 (b.toNat : Int)) s.data.toList) = byL (s.data.toList.take m) := by
    unfold byL
    rw [List.map_take]
  simp [Builtin.copy_, run_underlying Try.underlying35, Builtin.lenOf, Builtin.firstCells, sizeOf, typeInfo, hi, hm]
  rw [htk, hst]
  rfl
theorem cells_str (l : List UInt8) (w : World) (g : Nat) (t : TypeId) (n cap : Nat) (hn : l.length = n) (h : Blk w g t (byL l).toArray) : (convert 35 9 (.slice (some ⟨g, 0, none⟩) n cap)).run Try.prog w = .ok (.string ⟨l.toArray⟩) w := by
  have e := run_convert_bytes_back (P := Try.prog) w 35 9 5 ⟨g, 0, none⟩ cap l Try.underlying35 Try.underlying5 Try.underlying9 (fun j hj => by
    rw [add_off, h.cell, List.getElem?_toArray]
    unfold byL
    rw [List.getElem?_map, List.getElem?_eq_getElem hj]
    rfl)
  rw [hn] at e
  exact e
theorem setRow_blk {w : World} {g : Nat} {t : TypeId} {old : Array Value} (hg : Blk w g t old) (cells : Array Value) : Blk (w.setRow g cells) g t cells := setRow_heap w g old cells t (0, 0) hg
theorem setRow_grown (w : World) (g : Nat) (cells : Array Value) : w.grownBy (w.setRow g cells) (some g) :=
  ⟨rfl, rfl, rfl, by simp, fun k _ hn => setRow_other w g k cells (fun e => hn (by rw [e]))⟩
/-- The world behind the copy, as far as it matters. -/
theorem hash_world (s : ByteArray) (w : World) : ∃ w1, (Builtin.copy_ #[35, 9] 3 #[.slice (some ⟨w.heap.size, 0, none⟩) 32 32, .string s]).run Try.prog (w.alloc (.cells #[.int .u8 0, .int .u8 0, .int .u8 0, .int .u8 0, .int .u8 0, .int .u8 0, .int .u8 0, .int .u8 0, .int .u8 0, .int .u8 0, .int .u8 0, .int .u8 0, .int .u8 0, .int .u8 0, .int .u8 0, .int .u8 0, .int .u8 0, .int .u8 0, .int .u8 0, .int .u8 0, .int .u8 0, .int .u8 0, .int .u8 0, .int .u8 0, .int .u8 0, .int .u8 0, .int .u8 0, .int .u8 0, .int .u8 0, .int .u8 0, .int .u8 0, .int .u8 0] 81)) = .ok (goInt (Nat.min s.size 32)) w1 ∧
    (convert 35 9 (.slice (some ⟨w.heap.size, 0, none⟩) 32 32)).run Try.prog w1 = .ok (.string (hashS s)) w1 ∧ w.grownBy w1 none := by
  rw [zero32]
  have hb := Blk.new w 81 (byL (List.replicate 32 0)).toArray
  refine ⟨_, hash_copy s _ _ 81 hb, cells_str (hashL s) _ _ 81 32 32 (hashL_len s) (setRow_blk hb _), ?_⟩
  exact grown_through (grown_alloc (grown_refl _ _) _) (setRow_grown _ _ _) (Nat.le_refl _)
set_option maxRecDepth 100000 in
set_option maxHeartbeats 400000 in
theorem whash_any (b : Nat) (l : List UInt8) (s : ByteArray) (w : World) (h : Wr w b l) (hl : l.length ≤ 1000000000) : Calls Try.prog 42 #[.pointer (some ⟨b, 0, none⟩), .string s] w fun e w' => e = .returned (.tuple #[]) ∧ Wr w' b (l ++ hashL s) ∧ Below b w w' := by
  have H : Hid (Wr w b l) := h
  have hbl := h.lt
  clear h
  obtain ⟨w1, hr, hs, hg⟩ := hash_world s w
  have hz : (hashS s).size = 32 := by rw [← bytes_len]; exact hashL_len s
  have HL : Hid ((hashS s).data.toList = hashL s) := by
    have e : (hashS s).data.toList = hashL s := rfl
    exact e
  have B1 : Hid (Wr w1 b l) := H.out.kept hg
  have G1 : Hid (Below b w w1) := below_of hg hbl
  clear hg
  generalize hashS s = S at *
  go_enter Try.func42, Try.ntmps42
  go_wp2_with (go_at_call 45; refine (wbytes_any b l S _ B1.out (by omega)).mono ?_; rintro e w2 ⟨rfl, hb2, hg2⟩; have B2 : Hid (Wr w2 b (l ++ hashL s)) := (by rw [← HL.out]; exact hb2); have G2 : Hid (Below b w w2) := G1.out.trans hg2; clear hb2 hg2)
  go_end0
  exact ⟨rfl, B2.out, G2.out⟩
end Go.Proofs.Ytiokjdjlopeliaa
