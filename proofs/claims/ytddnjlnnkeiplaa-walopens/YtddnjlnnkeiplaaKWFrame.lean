/-
  Marks, digests and the end: the program's reader and the document's. The check: the contracts of the program's Adler and of the document's, for texts of at most 5000 bytes. The contracts of Frame: the program's and the document's.
-/
import Derived.Test.YtddnjlnnkeiplaaWRefNum
import Derived.Test.YtddnjlnnkeiplaaKWRefRead
namespace Go.Proofs.Ytddnjlnnkeiplaa.Wi
open Go.RowKit
def bolN (s : ByteArray) : Nat := leT (takeV s 1) (takeV s 1).size
def bolF (s : ByteArray) : Nat := if 1 < bolN s then 6 else 0
def bolS (s : ByteArray) (e : Nat) : ByteArray := failS (takeS s e 1) (takeE s e 1) (bolF s)
def bolE (s : ByteArray) (e : Nat) : Nat := failE (takeE s e 1) (bolF s)
theorem bolN_lt (s : ByteArray) : bolN s < 256 := by
  have h1 := leT_lt (takeV s 1) (takeV s 1).size
  have h2 := takeV_le s 1
  have h3 : 2 ^ (8 * (takeV s 1).size) ≤ 2 ^ 8 := Nat.pow_le_pow_right (by omega) (by omega)
  unfold bolN
  omega
theorem bolN_none (s : ByteArray) (e : Nat) (he : Shut s e) (h : takeE s e 1 ≠ 0) : bolN s = 0 := by
  have h1 : s.size < 1 := by
    by_cases h1 : s.size < 1
    · exact h1
    · unfold takeE at h
      rw [if_neg h1] at h
      rw [he h]
      decide
  unfold bolN
  have e4 : takeV s 1 = ⟨#[]⟩ := by unfold takeV; rw [if_pos h1]
  rw [e4]
  rfl
theorem bol_shut (s : ByteArray) (e : Nat) (he : Shut s e) : Shut (bolS s e) (bolE s e) := fail_shut _ _ _ (take_shut _ _ _ he)
end Go.Proofs.Ytddnjlnnkeiplaa.Wi
namespace Go.Proofs.Ytddnjlnnkeiplaa.Wi
open Go.RowKit
/-- The first sum of the first bytes, not cut down. -/
def ad1 (s : ByteArray) : Nat → Nat
  | 0 => 1
  | k + 1 => ad1 s k + (s.data.getD k 0).toNat
/-- The second sum. -/
def ad2 (s : ByteArray) : Nat → Nat
  | 0 => 0
  | k + 1 => ad2 s k + ad1 s (k + 1)
theorem ad1_le (s : ByteArray) (k : Nat) : ad1 s k ≤ 1 + 255 * k := by
  induction k with
  | zero => exact Nat.le_refl _
  | succ k ih =>
    have hb : (s.data.getD k 0).toNat < 256 := UInt8.toNat_lt _
    show ad1 s k + (s.data.getD k 0).toNat ≤ _
    omega
theorem ad2_sq (s : ByteArray) (k : Nat) : ad2 s k ≤ k + 128 * (k * (k + 1)) := by
  induction k with
  | zero => exact Nat.le_refl _
  | succ k ih =>
    have h := ad1_le s (k + 1)
    have e1 : (k + 1) * (k + 1 + 1) = k * (k + 1) + 2 * (k + 1) := by
      rw [Nat.mul_add, Nat.mul_one, Nat.mul_add, Nat.mul_one, Nat.mul_add, Nat.mul_one, Nat.add_mul, Nat.one_mul]
      omega
    show ad2 s k + ad1 s (k + 1) ≤ _
    rw [e1]
    generalize k * (k + 1) = m at *
    omega
theorem ad2_le (s : ByteArray) (k : Nat) (hk : k ≤ 5000) : ad2 s k ≤ 3250000000 := by
  have h1 := ad2_sq s k
  have h2 : k * (k + 1) ≤ 5000 * 5001 := Nat.mul_le_mul hk (by omega)
  generalize k * (k + 1) = m at *
  omega
/-- The check of bytes. -/
def adl (s : ByteArray) : Nat := ad2 s s.size % 65521 * 65536 + ad1 s s.size % 65521
theorem adl_bits (x y : Nat) : bits .or .u32 ((y : Int) % 65521 * 65536) ((x : Int) % 65521) = ((y % 65521 * 65536 + x % 65521 : Nat) : Int) := by
  have hx : x % 65521 < 65521 := Nat.mod_lt _ (by decide)
  have hy : y % 65521 < 65521 := Nat.mod_lt _ (by decide)
  rw [show (y : Int) % 65521 * 65536 = ((y % 65521 * 65536 : Nat) : Int) by omega, show (x : Int) % 65521 = ((x % 65521 : Nat) : Int) by omega, u32_or_nat _ _ (by omega) (by omega), nat_join 16 _ _ (by omega) (by omega)]
theorem ad1_step (s : ByteArray) (k c : Nat) (h : k < s.size) (hc : (s[k]'h).toNat = c) : ad1 s (k + 1) = ad1 s k + c := by
  show ad1 s k + (s.data.getD k 0).toNat = _
  rw [getD_byte s k h, hc]
theorem ref_sum (p q z c : Nat) (hz : 1 ≤ z) : p + (q + c) + (z - 1) * (q + c) = p + z * q + z * c := by
  obtain ⟨m, rfl⟩ : ∃ m, z = m + 1 := ⟨z - 1, by omega⟩
  rw [Nat.add_sub_cancel, Nat.add_mul, Nat.add_mul, Nat.mul_add]
  omega
theorem ref_step (p q z c y : Nat) (n k : Int) (hz : 1 ≤ z) (hz2 : z ≤ 5000) (hnk : n - k = (z : Int)) (hc : c < 256) (hy : (p + z * q) % 65521 = y) :
    (IntKind.u64.wrap ((y : Int) + IntKind.u64.wrap ((n - k) % 65521 * (c : Int)))).tmod 65521 = (((p + (q + c) + (z - 1) * (q + c)) % 65521 : Nat) : Int) := by
  rw [ref_sum p q z c hz, hnk, show ((z : Int) % 65521) = (z : Int) by omega, ← Int.natCast_mul]
  have hp : z * c ≤ 5000 * 256 := Nat.mul_le_mul hz2 (by omega)
  generalize z * c = m at *
  generalize p + z * q = r at *
  rw [IntKind.wrap_u64, IntKind.wrap_u64, Int.tmod_eq_emod_of_nonneg (by omega)]
  omega
set_option maxRecDepth 100000 in
set_option maxHeartbeats 400000 in
theorem refAdler_any (s : ByteArray) (w : World) (hs : s.size ≤ 5000) : Calls Try.prog 54 #[.string s] w fun e w' => e = .returned (.int .u32 (adl s : Nat)) ∧ w' = w := by
  have s0 : (s.size : Int) ≤ 5000 := by omega
  go_enter Try.func54, Try.ntmps54
  go_wp2
  go_loop [3, 4, 5] (fun x y i => ∃ k : Nat, k ≤ s.size ∧ i = .int .i64 k ∧ x = .int .u64 ((ad1 s k % 65521 : Nat) : Int) ∧ y = .int .u64 (((ad2 s k + (s.size - k) * ad1 s k) % 65521 : Nat) : Int)) (fun _ _ i => s.size - (intOf i).toNat)
  case atStart => 
    refine ⟨0, Nat.zero_le _, rfl, rfl, ?_⟩
    show _ = Value.int IntKind.u64 (((0 + (s.size - 0) * 1) % 65521 : Nat) : Int)
    congr 1
    omega
  case round =>
    obtain ⟨k, hk, rfl, rfl, rfl⟩ := hrel
    by_cases hlt : k < s.size
    · obtain ⟨c, ec⟩ : ∃ c : Nat, (s[k]'hlt).toNat = c := ⟨_, rfl⟩
      have c256 : c < 256 := by rw [← ec]; exact UInt8.toNat_lt _
      obtain ⟨x, ex⟩ : ∃ x, ad1 s k % 65521 = x := ⟨_, rfl⟩
      obtain ⟨y, ey⟩ : ∃ y, (ad2 s k + (s.size - k) * ad1 s k) % 65521 = y := ⟨_, rfl⟩
      have hx : x < 65521 := by rw [← ex]; exact Nat.mod_lt _ (by decide)
      have hy : y < 65521 := by rw [← ey]; exact Nat.mod_lt _ (by decide)
      rw [ex, ey]
      have EX : Hid (ad1 s k % 65521 = x) := ex
      have EY : Hid ((ad2 s k + (s.size - k) * ad1 s k) % 65521 = y) := ey
      have EC : Hid ((s[k]'hlt).toNat = c) := ec
      clear ex ey
      have k0 : (0 : Int) ≤ (k : Int) := by omega
      have k1 : (k : Int) < (s.size : Int) := by omega
      have c0 : (0 : Int) ≤ (c : Int) := by omega
      have c1 : (c : Int) < 256 := by omega
      have x0 : (0 : Int) ≤ (x : Int) := by omega
      have x1 : (x : Int) < 65521 := by omega
      have y0 : (0 : Int) ≤ (y : Int) := by omega
      have y1 : (y : Int) < 65521 := by omega
      go_wp2
      go_round
      case rel =>
        have e1 := ad1_step s k c hlt EC.out
        refine ⟨k + 1, by omega, rfl, ?_, ?_⟩
        · rw [e1]
          congr 1
          have := EX.out
          omega
        · show _ = Value.int IntKind.u64 (((ad2 s k + ad1 s (k + 1) + (s.size - (k + 1)) * ad1 s (k + 1)) % 65521 : Nat) : Int)
          rw [e1, show s.size - (k + 1) = (s.size - k) - 1 by omega]
          congr 1
          exact ref_step _ _ _ _ _ _ _ (by omega) (by omega) (by omega) c256 EY.out
      case measure => simp [intOf]; omega
    · have e : k = s.size := by omega
      subst e
      go_wp2
      go_ret
      refine ⟨?_, rfl⟩
      unfold adl
      congr 2
set_option maxRecDepth 100000 in
set_option maxHeartbeats 400000 in
theorem adler_any (s : ByteArray) (w : World) (hs : s.size ≤ 5000) : Calls Try.prog 68 #[.string s] w fun e w' => e = .returned (.int .u32 (adl s : Nat)) ∧ w' = w := by
  have s0 : (s.size : Int) ≤ 5000 := by omega
  go_enter Try.func68, Try.ntmps68
  go_wp2
  go_loop [0, 3, 4] (fun t x y => (t = .string s ∧ x = .int .u32 1 ∧ y = .int .u32 0) ∨ (t = .string ⟨#[]⟩ ∧ x = .int .u32 ((ad1 s s.size % 65521 : Nat) : Int) ∧ y = .int .u32 ((ad2 s s.size % 65521 : Nat) : Int))) (fun t _ _ => match t with | .string t => t.size | _ => 0)
  case atStart => exact Or.inl ⟨rfl, rfl, rfl⟩
  case round =>
    rcases hrel with ⟨rfl, rfl, rfl⟩ | ⟨rfl, rfl, rfl⟩
    · by_cases hz : 0 < s.size
      · have z1 : (0 : Int) < (s.size : Int) := by omega
        have z2 : min (s.size : Int) 5552 = (s.size : Int) := by omega
        go_wp2
        go_loop [3, 4, 14] (fun x y i => ∃ k : Nat, k ≤ s.size ∧ i = .int .i64 k ∧ x = .int .u32 ((ad1 s k : Nat) : Int) ∧ y = .int .u32 ((ad2 s k : Nat) : Int)) (fun _ _ i => s.size - (intOf i).toNat)
        case atStart => exact ⟨0, Nat.zero_le _, rfl, rfl, rfl⟩
        case round =>
          obtain ⟨k, hk, rfl, rfl, rfl⟩ := hrel
          have hx := ad1_le s k
          have hy := ad2_le s k (by omega)
          by_cases hlt : k < s.size
          · obtain ⟨c, ec⟩ : ∃ c : Nat, (s[k]'hlt).toNat = c := ⟨_, rfl⟩
            have c256 : c < 256 := by rw [← ec]; exact UInt8.toNat_lt _
            have e1 := ad1_step s k c hlt ec
            have E1 : Hid (ad1 s (k + 1) = ad1 s k + c) := e1
            clear e1
            obtain ⟨x, ex⟩ : ∃ x, ad1 s k = x := ⟨_, rfl⟩
            obtain ⟨y, ey⟩ : ∃ y, ad2 s k = y := ⟨_, rfl⟩
            rw [ex] at hx
            rw [ey] at hy
            rw [ex, ey]
            have EX : Hid (ad1 s k = x) := ex
            have EY : Hid (ad2 s k = y) := ey
            clear ex ey
            have k0 : (0 : Int) ≤ (k : Int) := by omega
            have k1 : (k : Int) < (s.size : Int) := by omega
            have c0 : (0 : Int) ≤ (c : Int) := by omega
            have c1 : (c : Int) < 256 := by omega
            have x0 : (0 : Int) ≤ (x : Int) := by omega
            have x1 : (x : Int) ≤ 1300000 := by omega
            have y0 : (0 : Int) ≤ (y : Int) := by omega
            have y1 : (y : Int) ≤ 3250000000 := by omega
            clear hx hy
            go_wp2
            go_round
            case rel =>
              refine ⟨k + 1, by omega, rfl, ?_, ?_⟩
              · rw [E1.out, EX.out]; rfl
              · show _ = Value.int IntKind.u32 ((ad2 s k + ad1 s (k + 1) : Nat) : Int)
                rw [E1.out, EX.out, EY.out]; rfl
            case measure => simp [intOf]; omega
          · have e : k = s.size := by omega
            subst e
            go_wp2
            go_round
            case rel => exact Or.inr ⟨rfl, rfl, rfl⟩
            case measure => exact hz
      · have e1 : s.size = 0 := by omega
        have hb := adl_bits (ad1 s s.size) (ad2 s s.size)
        have z1 : ¬ ((0 : Int) < (s.size : Int)) := by omega
        have HE : Hid (adl s = 1) := by show adl s = 1; unfold adl; rw [e1]; simp [ad1, ad2]
        clear e1 hb
        go_wp2
        go_ret
        refine ⟨?_, rfl⟩
        rw [HE.out]
        rfl
    · have hb := adl_bits (ad1 s s.size) (ad2 s s.size)
      have HB : Hid (bits .or .u32 (((ad2 s s.size : Nat) : Int) % 65521 * 65536) (((ad1 s s.size : Nat) : Int) % 65521) = ((ad2 s s.size % 65521 * 65536 + ad1 s s.size % 65521 : Nat) : Int)) := hb
      clear hb
      go_wp2
      go_ret
      refine ⟨?_, rfl⟩
      rw [HB.out]
      rfl
/-- A byte changed changes the check. -/
theorem ad1_same (s t : ByteArray) (k : Nat) (h : ∀ j, j < k → t.data.getD j 0 = s.data.getD j 0) : ad1 t k = ad1 s k := by
  induction k with
  | zero => rfl
  | succ k ih =>
    show ad1 t k + (t.data.getD k 0).toNat = ad1 s k + (s.data.getD k 0).toNat
    rw [ih (fun j hj => h j (by omega)), h k (by omega)]
theorem ad1_other (s t : ByteArray) (i : Nat) (h : ∀ j, j ≠ i → t.data.getD j 0 = s.data.getD j 0) (k : Nat) (hk : i < k) : ad1 t k + (s.data.getD i 0).toNat = ad1 s k + (t.data.getD i 0).toNat := by
  induction k with
  | zero => omega
  | succ k ih =>
    show ad1 t k + (t.data.getD k 0).toNat + _ = ad1 s k + (s.data.getD k 0).toNat + _
    by_cases e : k = i
    · subst e
      rw [ad1_same s t k (fun j hj => h j (by omega))]
      omega
    · have := ih (by omega)
      rw [h k e]
      omega
theorem adl_other (s t : ByteArray) (i : Nat) (hi : i < s.size) (hz : t.size = s.size) (h : ∀ j, j ≠ i → t.data.getD j 0 = s.data.getD j 0) (hn : (t.data.getD i 0).toNat ≠ (s.data.getD i 0).toNat) : adl t ≠ adl s := by
  have h1 := ad1_other s t i h s.size hi
  have b1 : (t.data.getD i 0).toNat < 256 := UInt8.toNat_lt _
  have b2 : (s.data.getD i 0).toNat < 256 := UInt8.toNat_lt _
  unfold adl
  rw [hz]
  generalize ad1 t s.size = a at *
  generalize ad1 s s.size = b at *
  omega
end Go.Proofs.Ytddnjlnnkeiplaa.Wi
namespace Go.Proofs.Ytddnjlnnkeiplaa.Wi
open Go.RowKit
/-- A text, framed. -/
def frmS (s : ByteArray) : ByteArray := numS s.size 4 ++ s ++ numS (adl (numS s.size 4 ++ s)) 4
theorem adl_lt (s : ByteArray) : adl s < 4294967296 := by
  unfold adl
  have h1 : ad2 s s.size % 65521 < 65521 := Nat.mod_lt _ (by decide)
  have h2 : ad1 s s.size % 65521 < 65521 := Nat.mod_lt _ (by decide)
  omega
theorem frmS_size (s : ByteArray) : (frmS s).size = s.size + 8 := by
  unfold frmS
  rw [ByteArray.size_append, ByteArray.size_append, numS_size, numS_size]
  omega
set_option maxRecDepth 100000 in
set_option maxHeartbeats 400000 in
theorem frame_any (s : ByteArray) (w : World) (hs : s.size ≤ 4000) : Calls Try.prog 50 #[.string s] w fun e w' => e = .returned (.string (frmS s)) ∧ w.grownBy w' none := by
  have CN : Hid (∀ w, Calls Try.prog 67 #[.int .u64 s.size, .int .i64 4] w fun e w' => e = .returned (.string (numS s.size 4)) ∧ w.grownBy w' none) := fun w => number_any s.size 4 w (by omega)
  have hz := numS_size s.size 4
  have hM : (numS s.size 4 ++ s).size ≤ 5000 := by rw [ByteArray.size_append, hz]; omega
  have CA : Hid (∀ w, Calls Try.prog 68 #[.string (numS s.size 4 ++ s)] w fun e w' => e = .returned (.int .u32 (adl (numS s.size 4 ++ s) : Nat)) ∧ w' = w) := fun w => adler_any _ w hM
  have hlt := adl_lt (numS s.size 4 ++ s)
  have CM : Hid (∀ w, Calls Try.prog 67 #[.int .u64 (adl (numS s.size 4 ++ s) : Nat), .int .i64 4] w fun e w' => e = .returned (.string (numS (adl (numS s.size 4 ++ s)) 4)) ∧ w.grownBy w' none) := fun w => number_any _ 4 w (by omega)
  have hz2 := numS_size (adl (numS s.size 4 ++ s)) 4
  unfold frmS
  generalize numS (adl (numS s.size 4 ++ s)) 4 = R at *
  generalize adl (numS s.size 4 ++ s) = c at *
  generalize numS s.size 4 = S at *
  have i0 : (s.size : Int) ≤ 4000 := by omega
  have i1 : (S.size : Int) = 4 := by omega
  have i2 : (R.size : Int) = 4 := by omega
  have i3 : IntKind.u64.wrap (c : Int) = (c : Int) := by rw [IntKind.wrap_u64]; omega
  clear hs hM hlt
  go_enter Try.func50, Try.ntmps50
  go_wp2_with (first | (go_at_call 67; refine (CN.out _).mono ?_; clear CN; rintro e w1 ⟨rfl, hg1⟩; have G1 : Hid (w.grownBy w1 none) := hg1; clear hg1) | (go_at_call 68; refine (CA.out _).mono ?_; rintro e w' ⟨rfl, hw⟩; have hw2 := hw.symm; clear hw; subst hw2) | (go_at_call 67; refine (CM.out _).mono ?_; clear CM; rintro e w2 ⟨rfl, hg2⟩; have G2 : Hid (w.grownBy w2 none) := grown_none G1.out hg2; clear hg2))
  go_ret
  exact ⟨rfl, G2.out⟩
set_option maxRecDepth 100000 in
set_option maxHeartbeats 400000 in
theorem refFrame_any (s : ByteArray) (w : World) (hs : s.size ≤ 4000) : Calls Try.prog 28 #[.string s] w fun e w' => e = .returned (.string (frmS s)) ∧ w.grownBy w' none := by
  have hz := numS_size s.size 4
  have CT : Hid (∀ w, Calls Try.prog 52 #[.string s] w fun e w' => e = .returned (.string (numS s.size 4 ++ s)) ∧ w.grownBy w' none) := fun w => refText_any s w (by omega)
  have hM : (numS s.size 4 ++ s).size ≤ 5000 := by rw [ByteArray.size_append, hz]; omega
  have CA : Hid (∀ w, Calls Try.prog 54 #[.string (numS s.size 4 ++ s)] w fun e w' => e = .returned (.int .u32 (adl (numS s.size 4 ++ s) : Nat)) ∧ w' = w) := fun w => refAdler_any _ w hM
  have hlt := adl_lt (numS s.size 4 ++ s)
  have CM : Hid (∀ w, Calls Try.prog 53 #[.int .u64 (adl (numS s.size 4 ++ s) : Nat), .int .i64 4] w fun e w' => e = .returned (.string (numS (adl (numS s.size 4 ++ s)) 4)) ∧ w.grownBy w' none) := fun w => refNumber_any _ 4 w (by omega)
  have hz2 := numS_size (adl (numS s.size 4 ++ s)) 4
  unfold frmS
  generalize numS (adl (numS s.size 4 ++ s)) 4 = R at *
  generalize adl (numS s.size 4 ++ s) = c at *
  have i1 : ((numS s.size 4 ++ s).size : Int) ≤ 5000 := by omega
  generalize numS s.size 4 ++ s = S at *
  have i2 : (R.size : Int) = 4 := by omega
  have i3 : IntKind.u64.wrap (c : Int) = (c : Int) := by rw [IntKind.wrap_u64]; omega
  have CU : Hid (∀ w, Calls Try.prog 52 #[.string s] w fun e w' => e = .returned (.string S) ∧ w.grownBy w' none) := fun w => CT.out w
  clear hs hM hlt hz
  go_enter Try.func28, Try.ntmps28
  go_wp2_with (first | (go_at_call 52; refine (CT.out _).mono ?_; clear CT; rintro e w1 ⟨rfl, hg1⟩; have G1 : Hid (w.grownBy w1 none) := hg1; clear hg1) | (go_at_call 52; refine (CU.out _).mono ?_; clear CU; rintro e w2 ⟨rfl, hg2⟩; have G2 : Hid (w.grownBy w2 none) := grown_none G1.out hg2; clear hg2) | (go_at_call 54; refine (CA.out _).mono ?_; rintro e w' ⟨rfl, hw⟩; have hw2 := hw.symm; clear hw; subst hw2) | (go_at_call 53; refine (CM.out _).mono ?_; clear CM; rintro e w3 ⟨rfl, hg3⟩; have G3 : Hid (w.grownBy w3 none) := grown_none G2.out hg3; clear hg3))
  go_ret
  exact ⟨rfl, G3.out⟩
end Go.Proofs.Ytddnjlnnkeiplaa.Wi
