/-
  The contract of the document's Number. The contracts that the law WirePuts leans on: few, the document's Text and Hash, the writer's Bool. The law WireLowest walked: of whatever number and whatever count of bytes it answers true, and nothing that was there turns. The document's reader, which goes from hand to hand by value. The document's reader: numbers, counts, texts, marks and the end. Marks, digests and the end: the program's reader and the document's. The check: the contracts of the program's Adler and of the document's, for texts of at most 5000 bytes. The contracts of Frame: the program's and the document's.
-/
import Derived.Test.YtbhmmcelndmijaaGreatKWText
import Derived.Laws.ResultCell
import Derived.Laws.Rows
namespace Go.Proofs.YtbhmmcelndmijaaGreat.Wi
open Go.RowKit
theorem append_list (a b : ByteArray) : (a ++ b).data.toList = a.data.toList ++ b.data.toList := by
  rw [ByteArray.data_append, Array.toList_append]
theorem bytes_ext {a b : ByteArray} (h : a.data.toList = b.data.toList) : a = b := ByteArray.ext (Array.toList_inj.1 h)
theorem one_byte (W : World) (b : Nat) (cap : Nat) (n : Int) (m : Nat) (hm : m < 256) (hn : n = (m : Int)) (h : W.cell? ⟨b, 0, none⟩ = some (.int .u8 n)) :
    (convert 85 9 (.slice (some ⟨b, 0, none⟩) 1 cap)).run Tryz.prog W = .ok (.string ⟨#[UInt8.ofNat m]⟩) W := by
  have e := run_convert_bytes_back (P := Tryz.prog) W 85 9 5 ⟨b, 0, none⟩ cap [UInt8.ofNat m] Tryz.underlying85 Tryz.underlying5 Tryz.underlying9 (fun j hj => by
    have hj0 : j = 0 := by simpa using hj
    subst hj0
    rw [add_off, h, hn]
    show some (Value.int .u8 (m : Int)) = some (Value.int .u8 ((UInt8.ofNat m).toNat : Int))
    rw [UInt8.toNat_ofNat', Nat.mod_eq_of_lt hm])
  exact e
theorem div_step (m j : Nat) : m / 2 ^ (8 * j) / 256 = m / 2 ^ (8 * (j + 1)) := by
  rw [Nat.div_div_eq_div_mul, show (256 : Nat) = 2 ^ 8 from rfl, ← Nat.pow_add]
  congr 2
theorem numL_succ (n k : Nat) : numL n (k + 1) = numL n k ++ [UInt8.ofNat (n / 2 ^ (8 * k) % 256)] := by
  unfold numL
  rw [List.range_succ, List.map_append]
  rfl
end Go.Proofs.YtbhmmcelndmijaaGreat.Wi
namespace Go.Proofs.YtbhmmcelndmijaaGreat.Wi
open Go.RowKit
/-- The first 600 bytes at most. -/
def fewS (s : ByteArray) : ByteArray := if 600 < s.size then s.extract 0 600 else s
theorem fewS_size (s : ByteArray) : (fewS s).size ≤ 600 := by
  unfold fewS
  split
  · rw [ByteArray.size_extract]; omega
  · omega
theorem fill_step (s : List UInt8) (j : Nat) : s ++ List.replicate j 0 ++ [0] = s ++ List.replicate (j + 1) 0 := by
  rw [List.replicate_succ', List.append_assoc]
theorem setRow_blk {w : World} {g : Nat} {t : TypeId} {old : Array Value} (hg : Blk w g t old) (cells : Array Value) : Blk (w.setRow g cells) g t cells := setRow_heap w g old cells t (0, 0) hg
theorem setRow_grown (w : World) (g : Nat) (cells : Array Value) : w.grownBy (w.setRow g cells) (some g) :=
  ⟨rfl, rfl, rfl, by simp, fun k _ hn => setRow_other w g k cells (fun e => hn (by rw [e]))⟩
end Go.Proofs.YtbhmmcelndmijaaGreat.Wi
namespace Go.Proofs.YtbhmmcelndmijaaGreat.Wi
open Go.RowKit
theorem extract_all (s : ByteArray) (n : Nat) (h : s.size = n) : s.extract 0 n = s := by
  apply bytes_ext
  rw [ByteArray.data_extract, Array.toList_extract]
  show s.data.toList.extract 0 n = _
  rw [← h, ← bytes_len]
  simp only [List.extract_eq_take_drop, List.drop_zero, Nat.sub_zero, List.take_length]
theorem extract_none (s : ByteArray) (n m : Nat) (h : m ≤ n) : s.extract n m = ⟨#[]⟩ := by
  apply ByteArray.ext
  apply Array.eq_empty_of_size_eq_zero
  show (s.extract n m).size = 0
  rw [ByteArray.size_extract]
  omega
theorem num_at (n k i : Nat) (h : i < k) : ((numS n k).data.getD i 0).toNat = byt n i := by
  have h1 : i < (numL n k).length := by rw [numL_len]; exact h
  have e : (numS n k).data.getD i 0 = (numL n k)[i] := by
    show (numL n k).toArray.getD i 0 = _
    rw [Array.getD_eq_getD_getElem?, List.getElem?_toArray, List.getElem?_eq_getElem h1]
    rfl
  rw [e]
  have := numL_at n k i h1
  omega
theorem le_num (n k : Nat) : ∀ j, j ≤ k → leT (numS n k) j = n % 2 ^ (8 * j)
  | 0, _ => by rw [Nat.mul_zero, Nat.pow_zero, Nat.mod_one]; rfl
  | j + 1, h => by
    show leT (numS n k) j + ((numS n k).data.getD j 0).toNat * 2 ^ (8 * j) = _
    rw [le_num n k j (by omega), num_at n k j (by omega), show 8 * (j + 1) = 8 * j + 8 by omega, Nat.pow_add, Nat.mod_mul]
    unfold byt
    rw [Nat.mul_comm (2 ^ (8 * j))]
end Go.Proofs.YtbhmmcelndmijaaGreat.Wi
namespace Go.Proofs.YtbhmmcelndmijaaGreat.Wi
open Go.RowKit
theorem q_is_store {P : Program} {ops : Array Oper} {rest : List Oper} {o : Oper} {a : Act} {w : World} {Q : Exit → Act → World → Prop} (ty : TypeId) (x y : Operand) (_ho : o.op = .store ty x y) (h : wpList P ops Q (o :: rest) a w) : wpList P ops Q (o :: rest) a w := h
theorem _root_.Go.Proofs.YtbhmmcelndmijaaGreat.Blk.new2 (w : World) (o : Obj) (t : TypeId) (cs : Array Value) : Blk ((w.alloc o).alloc (.cells cs t)) (w.heap.size + 1) t cs := by
  have h := Blk.new (w.alloc o) t cs
  rwa [show (w.alloc o).heap.size = w.heap.size + 1 by simp] at h
/-- Behind an error nothing is left. -/
def Shut (s : ByteArray) (e : Nat) : Prop := e ≠ 0 → s = ⟨#[]⟩
theorem extract_nil (n m : Nat) : (⟨#[]⟩ : ByteArray).extract n m = ⟨#[]⟩ := by
  apply bytes_ext
  rw [ByteArray.data_extract, Array.toList_extract]
  simp
theorem take_shut (s : ByteArray) (e n : Nat) (he : Shut s e) : Shut (takeS s e n) (takeE s e n) := by
  intro h
  unfold takeS takeE at *
  by_cases h1 : s.size < n
  · rw [if_pos h1] at h
    rw [if_pos h1]
    unfold failS
    split
    · next q => exact he (by omega)
    · rfl
  · rw [if_neg h1] at h
    rw [if_neg h1, he h]
    exact extract_nil _ _
theorem fail_shut (s : ByteArray) (e f : Nat) (he : Shut s e) : Shut (failS s e f) (failE e f) := by
  intro h
  unfold failS failE at *
  by_cases h1 : f = 0 ∨ e ≠ 0
  · rw [if_pos h1] at h
    rw [if_pos h1]
    exact he h
  · rw [if_neg h1]
end Go.Proofs.YtbhmmcelndmijaaGreat.Wi
namespace Go.Proofs.YtbhmmcelndmijaaGreat.Wi
open Go.RowKit
theorem le_down (V : ByteArray) (k X c : Nat) (hk : k < V.size) (hV : V.size ≤ 8) (hc : (V[k]'hk).toNat = c) (h : X * 2 ^ (8 * (k + 1)) + leT V (k + 1) = leT V V.size) : (X * 256 + c) * 2 ^ (8 * k) + leT V k = leT V V.size ∧ X < 2 ^ 56 := by
  have e1 : (X * 256 + c) * 2 ^ (8 * k) + leT V k = leT V V.size := by
    rw [← h]
    show _ = X * 2 ^ (8 * (k + 1)) + (leT V k + (V.data.getD k 0).toNat * 2 ^ (8 * k))
    rw [getD_byte V k hk, hc, show 8 * (k + 1) = 8 * k + 8 by omega, Nat.pow_add, Nat.add_mul, Nat.mul_assoc, show (2 : Nat) ^ 8 = 256 from rfl, Nat.mul_comm 256]
    omega
  refine ⟨e1, ?_⟩
  have h1 := leT_lt V V.size
  have h2 : 2 ^ (8 * V.size) ≤ 2 ^ 64 := Nat.pow_le_pow_right (by omega) (by omega)
  have h3 : X * 256 + c ≤ (X * 256 + c) * 2 ^ (8 * k) := Nat.le_mul_of_pos_right _ (Nat.pow_pos (by decide))
  omega
theorem takeV_le (s : ByteArray) (n : Nat) : (takeV s n).size ≤ n := by
  unfold takeV
  split
  · exact Nat.zero_le _
  · rw [ByteArray.size_extract]; omega
theorem cntR_none (s : ByteArray) (e : Nat) (he : Shut s e) (h : takeE s e 4 ≠ 0) : cntR s = 0 := by
  have h1 : s.size < 4 := by
    by_cases h1 : s.size < 4
    · exact h1
    · unfold takeE at h
      rw [if_neg h1] at h
      rw [he h]
      decide
  unfold cntR
  have e4 : takeV s 4 = ⟨#[]⟩ := by unfold takeV; rw [if_pos h1]
  rw [e4]
  rfl
theorem cnt_shut (s : ByteArray) (e : Nat) (most : Int) (he : Shut s e) : Shut (cntS s e most) (cntE s e most) := fail_shut _ _ _ (take_shut _ _ _ he)
end Go.Proofs.YtbhmmcelndmijaaGreat.Wi
namespace Go.Proofs.YtbhmmcelndmijaaGreat.Wi
open Go.RowKit
def bolN (s : ByteArray) : Nat := leT (takeV s 1) (takeV s 1).size
def bolF (s : ByteArray) : Nat := if 1 < bolN s then 6 else 0
def bolS (s : ByteArray) (e : Nat) : ByteArray := failS (takeS s e 1) (takeE s e 1) (bolF s)
def bolE (s : ByteArray) (e : Nat) : Nat := failE (takeE s e 1) (bolF s)
theorem bolN_lt (s : ByteArray) : bolN s < 256 := by
  have h1 := leT_lt (takeV s 1) (takeV s 1).size
  have h2 := takeV_le s 1
  have h3 : 2 ^ (8 * (takeV s 1).size) ≤ 2 ^ 8 := Nat.pow_le_pow_right (by omega) (by omega)
  unfold bolN
  omega
theorem bolN_none (s : ByteArray) (e : Nat) (he : Shut s e) (h : takeE s e 1 ≠ 0) : bolN s = 0 := by
  have h1 : s.size < 1 := by
    by_cases h1 : s.size < 1
    · exact h1
    · unfold takeE at h
      rw [if_neg h1] at h
      rw [he h]
      decide
  unfold bolN
  have e4 : takeV s 1 = ⟨#[]⟩ := by unfold takeV; rw [if_pos h1]
  rw [e4]
  rfl
theorem bol_shut (s : ByteArray) (e : Nat) (he : Shut s e) : Shut (bolS s e) (bolE s e) := fail_shut _ _ _ (take_shut _ _ _ he)
end Go.Proofs.YtbhmmcelndmijaaGreat.Wi
namespace Go.Proofs.YtbhmmcelndmijaaGreat.Wi
open Go.RowKit
/-- The first sum of the first bytes, not cut down. -/
def ad1 (s : ByteArray) : Nat → Nat
  | 0 => 1
  | k + 1 => ad1 s k + (s.data.getD k 0).toNat
/-- The second sum. -/
def ad2 (s : ByteArray) : Nat → Nat
  | 0 => 0
  | k + 1 => ad2 s k + ad1 s (k + 1)
theorem ad1_le (s : ByteArray) (k : Nat) : ad1 s k ≤ 1 + 255 * k := by
  induction k with
  | zero => exact Nat.le_refl _
  | succ k ih =>
    have hb : (s.data.getD k 0).toNat < 256 := UInt8.toNat_lt _
    show ad1 s k + (s.data.getD k 0).toNat ≤ _
    omega
theorem ad2_sq (s : ByteArray) (k : Nat) : ad2 s k ≤ k + 128 * (k * (k + 1)) := by
  induction k with
  | zero => exact Nat.le_refl _
  | succ k ih =>
    have h := ad1_le s (k + 1)
    have e1 : (k + 1) * (k + 1 + 1) = k * (k + 1) + 2 * (k + 1) := by
      rw [Nat.mul_add, Nat.mul_one, Nat.mul_add, Nat.mul_one, Nat.mul_add, Nat.mul_one, Nat.add_mul, Nat.one_mul]
      omega
    show ad2 s k + ad1 s (k + 1) ≤ _
    rw [e1]
    generalize k * (k + 1) = m at *
    omega
theorem ad2_le (s : ByteArray) (k : Nat) (hk : k ≤ 5000) : ad2 s k ≤ 3250000000 := by
  have h1 := ad2_sq s k
  have h2 : k * (k + 1) ≤ 5000 * 5001 := Nat.mul_le_mul hk (by omega)
  generalize k * (k + 1) = m at *
  omega
/-- The check of bytes. -/
def adl (s : ByteArray) : Nat := ad2 s s.size % 65521 * 65536 + ad1 s s.size % 65521
theorem adl_bits (x y : Nat) : bits .or .u32 ((y : Int) % 65521 * 65536) ((x : Int) % 65521) = ((y % 65521 * 65536 + x % 65521 : Nat) : Int) := by
  have hx : x % 65521 < 65521 := Nat.mod_lt _ (by decide)
  have hy : y % 65521 < 65521 := Nat.mod_lt _ (by decide)
  rw [show (y : Int) % 65521 * 65536 = ((y % 65521 * 65536 : Nat) : Int) by omega, show (x : Int) % 65521 = ((x % 65521 : Nat) : Int) by omega, u32_or_nat _ _ (by omega) (by omega), nat_join 16 _ _ (by omega) (by omega)]
theorem ad1_step (s : ByteArray) (k c : Nat) (h : k < s.size) (hc : (s[k]'h).toNat = c) : ad1 s (k + 1) = ad1 s k + c := by
  show ad1 s k + (s.data.getD k 0).toNat = _
  rw [getD_byte s k h, hc]
theorem ref_sum (p q z c : Nat) (hz : 1 ≤ z) : p + (q + c) + (z - 1) * (q + c) = p + z * q + z * c := by
  obtain ⟨m, rfl⟩ : ∃ m, z = m + 1 := ⟨z - 1, by omega⟩
  rw [Nat.add_sub_cancel, Nat.add_mul, Nat.add_mul, Nat.mul_add]
  omega
theorem ref_step (p q z c y : Nat) (n k : Int) (hz : 1 ≤ z) (hz2 : z ≤ 5000) (hnk : n - k = (z : Int)) (hc : c < 256) (hy : (p + z * q) % 65521 = y) :
    (IntKind.u64.wrap ((y : Int) + IntKind.u64.wrap ((n - k) % 65521 * (c : Int)))).tmod 65521 = (((p + (q + c) + (z - 1) * (q + c)) % 65521 : Nat) : Int) := by
  rw [ref_sum p q z c hz, hnk, show ((z : Int) % 65521) = (z : Int) by omega, ← Int.natCast_mul]
  have hp : z * c ≤ 5000 * 256 := Nat.mul_le_mul hz2 (by omega)
  generalize z * c = m at *
  generalize p + z * q = r at *
  rw [IntKind.wrap_u64, IntKind.wrap_u64, Int.tmod_eq_emod_of_nonneg (by omega)]
  omega
set_option maxRecDepth 100000 in
set_option maxHeartbeats 400000 in
theorem adler_any (s : ByteArray) (w : World) (hs : s.size ≤ 5000) : Calls Tryz.prog 111 #[.string s] w fun e w' => e = .returned (.int .u32 (adl s : Nat)) ∧ w' = w := by
  have s0 : (s.size : Int) ≤ 5000 := by omega
  go_enter Tryz.func111, Tryz.ntmps111
  go_wp2
  go_loop [0, 3, 4] (fun t x y => (t = .string s ∧ x = .int .u32 1 ∧ y = .int .u32 0) ∨ (t = .string ⟨#[]⟩ ∧ x = .int .u32 ((ad1 s s.size % 65521 : Nat) : Int) ∧ y = .int .u32 ((ad2 s s.size % 65521 : Nat) : Int))) (fun t _ _ => match t with | .string t => t.size | _ => 0)
  case atStart => exact Or.inl ⟨rfl, rfl, rfl⟩
  case round =>
    rcases hrel with ⟨rfl, rfl, rfl⟩ | ⟨rfl, rfl, rfl⟩
    · by_cases hz : 0 < s.size
      · have z1 : (0 : Int) < (s.size : Int) := by omega
        have z2 : min (s.size : Int) 5552 = (s.size : Int) := by omega
        go_wp2
        go_loop [3, 4, 14] (fun x y i => ∃ k : Nat, k ≤ s.size ∧ i = .int .i64 k ∧ x = .int .u32 ((ad1 s k : Nat) : Int) ∧ y = .int .u32 ((ad2 s k : Nat) : Int)) (fun _ _ i => s.size - (intOf i).toNat)
        case atStart => exact ⟨0, Nat.zero_le _, rfl, rfl, rfl⟩
        case round =>
          obtain ⟨k, hk, rfl, rfl, rfl⟩ := hrel
          have hx := ad1_le s k
          have hy := ad2_le s k (by omega)
          by_cases hlt : k < s.size
          · obtain ⟨c, ec⟩ : ∃ c : Nat, (s[k]'hlt).toNat = c := ⟨_, rfl⟩
            have c256 : c < 256 := by rw [← ec]; exact UInt8.toNat_lt _
            have e1 := ad1_step s k c hlt ec
            have E1 : Hid (ad1 s (k + 1) = ad1 s k + c) := e1
            clear e1
            obtain ⟨x, ex⟩ : ∃ x, ad1 s k = x := ⟨_, rfl⟩
            obtain ⟨y, ey⟩ : ∃ y, ad2 s k = y := ⟨_, rfl⟩
            rw [ex] at hx
            rw [ey] at hy
            rw [ex, ey]
            have EX : Hid (ad1 s k = x) := ex
            have EY : Hid (ad2 s k = y) := ey
            clear ex ey
            have k0 : (0 : Int) ≤ (k : Int) := by omega
            have k1 : (k : Int) < (s.size : Int) := by omega
            have c0 : (0 : Int) ≤ (c : Int) := by omega
            have c1 : (c : Int) < 256 := by omega
            have x0 : (0 : Int) ≤ (x : Int) := by omega
            have x1 : (x : Int) ≤ 1300000 := by omega
            have y0 : (0 : Int) ≤ (y : Int) := by omega
            have y1 : (y : Int) ≤ 3250000000 := by omega
            clear hx hy
            go_wp2
            go_round
            case rel =>
              refine ⟨k + 1, by omega, rfl, ?_, ?_⟩
              · rw [E1.out, EX.out]; rfl
              · show _ = Value.int IntKind.u32 ((ad2 s k + ad1 s (k + 1) : Nat) : Int)
                rw [E1.out, EX.out, EY.out]; rfl
            case measure => simp [intOf]; omega
          · have e : k = s.size := by omega
            subst e
            go_wp2
            go_round
            case rel => exact Or.inr ⟨rfl, rfl, rfl⟩
            case measure => exact hz
      · have e1 : s.size = 0 := by omega
        have hb := adl_bits (ad1 s s.size) (ad2 s s.size)
        have z1 : ¬ ((0 : Int) < (s.size : Int)) := by omega
        have HE : Hid (adl s = 1) := by show adl s = 1; unfold adl; rw [e1]; simp [ad1, ad2]
        clear e1 hb
        go_wp2
        go_ret
        refine ⟨?_, rfl⟩
        rw [HE.out]
        rfl
    · have hb := adl_bits (ad1 s s.size) (ad2 s s.size)
      have HB : Hid (bits .or .u32 (((ad2 s s.size : Nat) : Int) % 65521 * 65536) (((ad1 s s.size : Nat) : Int) % 65521) = ((ad2 s s.size % 65521 * 65536 + ad1 s s.size % 65521 : Nat) : Int)) := hb
      clear hb
      go_wp2
      go_ret
      refine ⟨?_, rfl⟩
      rw [HB.out]
      rfl
/-- A byte changed changes the check. -/
theorem ad1_same (s t : ByteArray) (k : Nat) (h : ∀ j, j < k → t.data.getD j 0 = s.data.getD j 0) : ad1 t k = ad1 s k := by
  induction k with
  | zero => rfl
  | succ k ih =>
    show ad1 t k + (t.data.getD k 0).toNat = ad1 s k + (s.data.getD k 0).toNat
    rw [ih (fun j hj => h j (by omega)), h k (by omega)]
theorem ad1_other (s t : ByteArray) (i : Nat) (h : ∀ j, j ≠ i → t.data.getD j 0 = s.data.getD j 0) (k : Nat) (hk : i < k) : ad1 t k + (s.data.getD i 0).toNat = ad1 s k + (t.data.getD i 0).toNat := by
  induction k with
  | zero => omega
  | succ k ih =>
    show ad1 t k + (t.data.getD k 0).toNat + _ = ad1 s k + (s.data.getD k 0).toNat + _
    by_cases e : k = i
    · subst e
      rw [ad1_same s t k (fun j hj => h j (by omega))]
      omega
    · have := ih (by omega)
      rw [h k e]
      omega
theorem adl_other (s t : ByteArray) (i : Nat) (hi : i < s.size) (hz : t.size = s.size) (h : ∀ j, j ≠ i → t.data.getD j 0 = s.data.getD j 0) (hn : (t.data.getD i 0).toNat ≠ (s.data.getD i 0).toNat) : adl t ≠ adl s := by
  have h1 := ad1_other s t i h s.size hi
  have b1 : (t.data.getD i 0).toNat < 256 := UInt8.toNat_lt _
  have b2 : (s.data.getD i 0).toNat < 256 := UInt8.toNat_lt _
  unfold adl
  rw [hz]
  generalize ad1 t s.size = a at *
  generalize ad1 s s.size = b at *
  omega
end Go.Proofs.YtbhmmcelndmijaaGreat.Wi
namespace Go.Proofs.YtbhmmcelndmijaaGreat.Wi
open Go.RowKit
/-- A text, framed. -/
def frmS (s : ByteArray) : ByteArray := numS s.size 4 ++ s ++ numS (adl (numS s.size 4 ++ s)) 4
theorem adl_lt (s : ByteArray) : adl s < 4294967296 := by
  unfold adl
  have h1 : ad2 s s.size % 65521 < 65521 := Nat.mod_lt _ (by decide)
  have h2 : ad1 s s.size % 65521 < 65521 := Nat.mod_lt _ (by decide)
  omega
theorem frmS_size (s : ByteArray) : (frmS s).size = s.size + 8 := by
  unfold frmS
  rw [ByteArray.size_append, ByteArray.size_append, numS_size, numS_size]
  omega
set_option maxRecDepth 100000 in
set_option maxHeartbeats 400000 in
theorem frame_any (s : ByteArray) (w : World) (hs : s.size ≤ 4000) : Calls Tryz.prog 120 #[.string s] w fun e w' => e = .returned (.string (frmS s)) ∧ w.grownBy w' none := by
  have CN : Hid (∀ w, Calls Tryz.prog 130 #[.int .u64 s.size, .int .i64 4] w fun e w' => e = .returned (.string (numS s.size 4)) ∧ w.grownBy w' none) := fun w => number_any s.size 4 w (by omega)
  have hz := numS_size s.size 4
  have hM : (numS s.size 4 ++ s).size ≤ 5000 := by rw [ByteArray.size_append, hz]; omega
  have CA : Hid (∀ w, Calls Tryz.prog 111 #[.string (numS s.size 4 ++ s)] w fun e w' => e = .returned (.int .u32 (adl (numS s.size 4 ++ s) : Nat)) ∧ w' = w) := fun w => adler_any _ w hM
  have hlt := adl_lt (numS s.size 4 ++ s)
  have CM : Hid (∀ w, Calls Tryz.prog 130 #[.int .u64 (adl (numS s.size 4 ++ s) : Nat), .int .i64 4] w fun e w' => e = .returned (.string (numS (adl (numS s.size 4 ++ s)) 4)) ∧ w.grownBy w' none) := fun w => number_any _ 4 w (by omega)
  have hz2 := numS_size (adl (numS s.size 4 ++ s)) 4
  unfold frmS
  generalize numS (adl (numS s.size 4 ++ s)) 4 = R at *
  generalize adl (numS s.size 4 ++ s) = c at *
  generalize numS s.size 4 = S at *
  have i0 : (s.size : Int) ≤ 4000 := by omega
  have i1 : (S.size : Int) = 4 := by omega
  have i2 : (R.size : Int) = 4 := by omega
  have i3 : IntKind.u64.wrap (c : Int) = (c : Int) := by rw [IntKind.wrap_u64]; omega
  clear hs hM hlt
  go_enter Tryz.func120, Tryz.ntmps120
  go_wp2_with (first | (go_at_call 130; refine (CN.out _).mono ?_; clear CN; rintro e w1 ⟨rfl, hg1⟩; have G1 : Hid (w.grownBy w1 none) := hg1; clear hg1) | (go_at_call 111; refine (CA.out _).mono ?_; rintro e w' ⟨rfl, hw⟩; have hw2 := hw.symm; clear hw; subst hw2) | (go_at_call 130; refine (CM.out _).mono ?_; clear CM; rintro e w2 ⟨rfl, hg2⟩; have G2 : Hid (w.grownBy w2 none) := grown_none G1.out hg2; clear hg2))
  go_ret
  exact ⟨rfl, G2.out⟩
end Go.Proofs.YtbhmmcelndmijaaGreat.Wi
