/-
  The check: the contracts of the program's Adler and of the document's, for texts of at most 5000 bytes. The check of the program, of texts as long as may be: chunk by chunk.
-/
import Derived.Test.YtbhmmcelndmijaaGreatKWLow
namespace Go.Proofs.YtbhmmcelndmijaaGreat.Wi
open Go.RowKit
/-- The first sum of the first bytes, not cut down. -/
def ad1 (s : ByteArray) : Nat → Nat
  | 0 => 1
  | k + 1 => ad1 s k + (s.data.getD k 0).toNat
/-- The second sum. -/
def ad2 (s : ByteArray) : Nat → Nat
  | 0 => 0
  | k + 1 => ad2 s k + ad1 s (k + 1)
theorem ad1_le (s : ByteArray) (k : Nat) : ad1 s k ≤ 1 + 255 * k := by
  induction k with
  | zero => exact Nat.le_refl _
  | succ k ih =>
    have hb : (s.data.getD k 0).toNat < 256 := UInt8.toNat_lt _
    show ad1 s k + (s.data.getD k 0).toNat ≤ _
    omega
theorem ad2_sq (s : ByteArray) (k : Nat) : ad2 s k ≤ k + 128 * (k * (k + 1)) := by
  induction k with
  | zero => exact Nat.le_refl _
  | succ k ih =>
    have h := ad1_le s (k + 1)
    have e1 : (k + 1) * (k + 1 + 1) = k * (k + 1) + 2 * (k + 1) := by
      rw [Nat.mul_add, Nat.mul_one, Nat.mul_add, Nat.mul_one, Nat.mul_add, Nat.mul_one, Nat.add_mul, Nat.one_mul]
      omega
    show ad2 s k + ad1 s (k + 1) ≤ _
    rw [e1]
    generalize k * (k + 1) = m at *
    omega
theorem ad2_le (s : ByteArray) (k : Nat) (hk : k ≤ 5000) : ad2 s k ≤ 3250000000 := by
  have h1 := ad2_sq s k
  have h2 : k * (k + 1) ≤ 5000 * 5001 := Nat.mul_le_mul hk (by omega)
  generalize k * (k + 1) = m at *
  omega
/-- The check of bytes. -/
def adl (s : ByteArray) : Nat := ad2 s s.size % 65521 * 65536 + ad1 s s.size % 65521
theorem adl_bits (x y : Nat) : bits .or .u32 ((y : Int) % 65521 * 65536) ((x : Int) % 65521) = ((y % 65521 * 65536 + x % 65521 : Nat) : Int) := by
  have hx : x % 65521 < 65521 := Nat.mod_lt _ (by decide)
  have hy : y % 65521 < 65521 := Nat.mod_lt _ (by decide)
  rw [show (y : Int) % 65521 * 65536 = ((y % 65521 * 65536 : Nat) : Int) by omega, show (x : Int) % 65521 = ((x % 65521 : Nat) : Int) by omega, u32_or_nat _ _ (by omega) (by omega), nat_join 16 _ _ (by omega) (by omega)]
theorem ad1_step (s : ByteArray) (k c : Nat) (h : k < s.size) (hc : (s[k]'h).toNat = c) : ad1 s (k + 1) = ad1 s k + c := by
  show ad1 s k + (s.data.getD k 0).toNat = _
  rw [getD_byte s k h, hc]
theorem ref_sum (p q z c : Nat) (hz : 1 ≤ z) : p + (q + c) + (z - 1) * (q + c) = p + z * q + z * c := by
  obtain ⟨m, rfl⟩ : ∃ m, z = m + 1 := ⟨z - 1, by omega⟩
  rw [Nat.add_sub_cancel, Nat.add_mul, Nat.add_mul, Nat.mul_add]
  omega
theorem ref_step (p q z c y : Nat) (n k : Int) (hz : 1 ≤ z) (hz2 : z ≤ 5000) (hnk : n - k = (z : Int)) (hc : c < 256) (hy : (p + z * q) % 65521 = y) :
    (IntKind.u64.wrap ((y : Int) + IntKind.u64.wrap ((n - k) % 65521 * (c : Int)))).tmod 65521 = (((p + (q + c) + (z - 1) * (q + c)) % 65521 : Nat) : Int) := by
  rw [ref_sum p q z c hz, hnk, show ((z : Int) % 65521) = (z : Int) by omega, ← Int.natCast_mul]
  have hp : z * c ≤ 5000 * 256 := Nat.mul_le_mul hz2 (by omega)
  generalize z * c = m at *
  generalize p + z * q = r at *
  rw [IntKind.wrap_u64, IntKind.wrap_u64, Int.tmod_eq_emod_of_nonneg (by omega)]
  omega
set_option maxRecDepth 100000 in
set_option maxHeartbeats 400000 in
theorem adler_any (s : ByteArray) (w : World) (hs : s.size ≤ 5000) : Calls Tryz.prog 111 #[.string s] w fun e w' => e = .returned (.int .u32 (adl s : Nat)) ∧ w' = w := by
  have s0 : (s.size : Int) ≤ 5000 := by omega
  go_enter Tryz.func111, Tryz.ntmps111
  go_wp2
  go_loop [0, 3, 4] (fun t x y => (t = .string s ∧ x = .int .u32 1 ∧ y = .int .u32 0) ∨ (t = .string ⟨#[]⟩ ∧ x = .int .u32 ((ad1 s s.size % 65521 : Nat) : Int) ∧ y = .int .u32 ((ad2 s s.size % 65521 : Nat) : Int))) (fun t _ _ => match t with | .string t => t.size | _ => 0)
  case atStart => exact Or.inl ⟨rfl, rfl, rfl⟩
  case round =>
    rcases hrel with ⟨rfl, rfl, rfl⟩ | ⟨rfl, rfl, rfl⟩
    · by_cases hz : 0 < s.size
      · have z1 : (0 : Int) < (s.size : Int) := by omega
        have z2 : min (s.size : Int) 5552 = (s.size : Int) := by omega
        go_wp2
        go_loop [3, 4, 14] (fun x y i => ∃ k : Nat, k ≤ s.size ∧ i = .int .i64 k ∧ x = .int .u32 ((ad1 s k : Nat) : Int) ∧ y = .int .u32 ((ad2 s k : Nat) : Int)) (fun _ _ i => s.size - (intOf i).toNat)
        case atStart => exact ⟨0, Nat.zero_le _, rfl, rfl, rfl⟩
        case round =>
          obtain ⟨k, hk, rfl, rfl, rfl⟩ := hrel
          have hx := ad1_le s k
          have hy := ad2_le s k (by omega)
          by_cases hlt : k < s.size
          · obtain ⟨c, ec⟩ : ∃ c : Nat, (s[k]'hlt).toNat = c := ⟨_, rfl⟩
            have c256 : c < 256 := by rw [← ec]; exact UInt8.toNat_lt _
            have e1 := ad1_step s k c hlt ec
            have E1 : Hid (ad1 s (k + 1) = ad1 s k + c) := e1
            clear e1
            obtain ⟨x, ex⟩ : ∃ x, ad1 s k = x := ⟨_, rfl⟩
            obtain ⟨y, ey⟩ : ∃ y, ad2 s k = y := ⟨_, rfl⟩
            rw [ex] at hx
            rw [ey] at hy
            rw [ex, ey]
            have EX : Hid (ad1 s k = x) := ex
            have EY : Hid (ad2 s k = y) := ey
            clear ex ey
            have k0 : (0 : Int) ≤ (k : Int) := by omega
            have k1 : (k : Int) < (s.size : Int) := by omega
            have c0 : (0 : Int) ≤ (c : Int) := by omega
            have c1 : (c : Int) < 256 := by omega
            have x0 : (0 : Int) ≤ (x : Int) := by omega
            have x1 : (x : Int) ≤ 1300000 := by omega
            have y0 : (0 : Int) ≤ (y : Int) := by omega
            have y1 : (y : Int) ≤ 3250000000 := by omega
            clear hx hy
            go_wp2
            go_round
            case rel =>
              refine ⟨k + 1, by omega, rfl, ?_, ?_⟩
              · rw [E1.out, EX.out]; rfl
              · show _ = Value.int IntKind.u32 ((ad2 s k + ad1 s (k + 1) : Nat) : Int)
                rw [E1.out, EX.out, EY.out]; rfl
            case measure => simp [intOf]; omega
          · have e : k = s.size := by omega
            subst e
            go_wp2
            go_round
            case rel => exact Or.inr ⟨rfl, rfl, rfl⟩
            case measure => exact hz
      · have e1 : s.size = 0 := by omega
        have hb := adl_bits (ad1 s s.size) (ad2 s s.size)
        have z1 : ¬ ((0 : Int) < (s.size : Int)) := by omega
        have HE : Hid (adl s = 1) := by show adl s = 1; unfold adl; rw [e1]; simp [ad1, ad2]
        clear e1 hb
        go_wp2
        go_ret
        refine ⟨?_, rfl⟩
        rw [HE.out]
        rfl
    · have hb := adl_bits (ad1 s s.size) (ad2 s s.size)
      have HB : Hid (bits .or .u32 (((ad2 s s.size : Nat) : Int) % 65521 * 65536) (((ad1 s s.size : Nat) : Int) % 65521) = ((ad2 s s.size % 65521 * 65536 + ad1 s s.size % 65521 : Nat) : Int)) := hb
      clear hb
      go_wp2
      go_ret
      refine ⟨?_, rfl⟩
      rw [HB.out]
      rfl
/-- A byte changed changes the check. -/
theorem ad1_same (s t : ByteArray) (k : Nat) (h : ∀ j, j < k → t.data.getD j 0 = s.data.getD j 0) : ad1 t k = ad1 s k := by
  induction k with
  | zero => rfl
  | succ k ih =>
    show ad1 t k + (t.data.getD k 0).toNat = ad1 s k + (s.data.getD k 0).toNat
    rw [ih (fun j hj => h j (by omega)), h k (by omega)]
theorem ad1_other (s t : ByteArray) (i : Nat) (h : ∀ j, j ≠ i → t.data.getD j 0 = s.data.getD j 0) (k : Nat) (hk : i < k) : ad1 t k + (s.data.getD i 0).toNat = ad1 s k + (t.data.getD i 0).toNat := by
  induction k with
  | zero => omega
  | succ k ih =>
    show ad1 t k + (t.data.getD k 0).toNat + _ = ad1 s k + (s.data.getD k 0).toNat + _
    by_cases e : k = i
    · subst e
      rw [ad1_same s t k (fun j hj => h j (by omega))]
      omega
    · have := ih (by omega)
      rw [h k e]
      omega
theorem adl_other (s t : ByteArray) (i : Nat) (hi : i < s.size) (hz : t.size = s.size) (h : ∀ j, j ≠ i → t.data.getD j 0 = s.data.getD j 0) (hn : (t.data.getD i 0).toNat ≠ (s.data.getD i 0).toNat) : adl t ≠ adl s := by
  have h1 := ad1_other s t i h s.size hi
  have b1 : (t.data.getD i 0).toNat < 256 := UInt8.toNat_lt _
  have b2 : (s.data.getD i 0).toNat < 256 := UInt8.toNat_lt _
  unfold adl
  rw [hz]
  generalize ad1 t s.size = a at *
  generalize ad1 s s.size = b at *
  omega
end Go.Proofs.YtbhmmcelndmijaaGreat.Wi
namespace Go.Proofs.YtbhmmcelndmijaaGreat.Wi
open Go.RowKit
theorem hid' {p : Prop} (h : p) : Hid p := h
/-- The sums within a chunk that begins at p, from what they were. -/
def c1 (s : ByteArray) (p a : Nat) : Nat → Nat
  | 0 => a
  | i + 1 => c1 s p a i + (s.data.getD (p + i) 0).toNat
def c2 (s : ByteArray) (p a b : Nat) : Nat → Nat
  | 0 => b
  | i + 1 => c2 s p a b i + c1 s p a (i + 1)
theorem c1_mod (s : ByteArray) (p a : Nat) (h : a % 65521 = ad1 s p % 65521) : ∀ i, c1 s p a i % 65521 = ad1 s (p + i) % 65521
  | 0 => h
  | i + 1 => by
    have ih := c1_mod s p a h i
    show (c1 s p a i + (s.data.getD (p + i) 0).toNat) % 65521 = (ad1 s (p + i) + (s.data.getD (p + i) 0).toNat) % 65521
    omega
theorem c2_mod (s : ByteArray) (p a b : Nat) (h : a % 65521 = ad1 s p % 65521) (hb : b % 65521 = ad2 s p % 65521) : ∀ i, c2 s p a b i % 65521 = ad2 s (p + i) % 65521
  | 0 => hb
  | i + 1 => by
    have ih := c2_mod s p a b h hb i
    have h1 := c1_mod s p a h (i + 1)
    have h1' : c1 s p a (i + 1) % 65521 = ad1 s (p + i + 1) % 65521 := h1
    show (c2 s p a b i + c1 s p a (i + 1)) % 65521 = (ad2 s (p + i) + ad1 s (p + i + 1)) % 65521
    omega
theorem c1_le (s : ByteArray) (p a : Nat) (h : a ≤ 65520) : ∀ i, c1 s p a i ≤ 65520 + 255 * i
  | 0 => h
  | i + 1 => by
    have ih := c1_le s p a h i
    have hb : (s.data.getD (p + i) 0).toNat < 256 := UInt8.toNat_lt _
    show c1 s p a i + _ ≤ _
    omega
theorem c2_sq (s : ByteArray) (p a b : Nat) (h : a ≤ 65520) (hb : b ≤ 65520) : ∀ i, 2 * c2 s p a b i ≤ 131040 * (i + 1) + 255 * (i * (i + 1))
  | 0 => by show 2 * b ≤ _; omega
  | i + 1 => by
    have ih := c2_sq s p a b h hb i
    have h1 := c1_le s p a h (i + 1)
    have e1 : (i + 1) * (i + 1 + 1) = i * (i + 1) + 2 * (i + 1) := by
      rw [Nat.mul_add, Nat.mul_one, Nat.mul_add, Nat.mul_one, Nat.mul_add, Nat.mul_one, Nat.add_mul, Nat.one_mul]
      omega
    show 2 * (c2 s p a b i + c1 s p a (i + 1)) ≤ _
    rw [e1]
    generalize i * (i + 1) = m at *
    omega
theorem c2_le (s : ByteArray) (p a b : Nat) (h : a ≤ 65520) (hb : b ≤ 65520) (i : Nat) (hi : i ≤ 5551) : c2 s p a b i ≤ 4293208920 := by
  have h1 := c2_sq s p a b h hb i
  have h2 : i * (i + 1) ≤ 5551 * 5552 := Nat.mul_le_mul hi (by omega)
  generalize i * (i + 1) = m at *
  omega
theorem ext_get (s : ByteArray) (p k : Nat) (h : k < (s.extract p s.size).size) : ((s.extract p s.size)[k]'h).toNat = (s.data.getD (p + k) 0).toNat := by
  have h2 : p + k < s.size := by rw [ByteArray.size_extract] at h; omega
  rw [ByteArray.getElem_extract, getD_byte s (p + k) h2]
set_option maxRecDepth 100000 in
set_option maxHeartbeats 1000000 in
theorem adler_big (s : ByteArray) (w : World) (hs : s.size ≤ 1000000000) : Calls Tryz.prog 111 #[.string s] w fun e w' => e = .returned (.int .u32 (adl s : Nat)) ∧ w' = w := by
  have he0 : s = s.extract 0 s.size := by rw [ByteArray.extract_zero_size]
  have HS := hid' hs
  have H0 := hid' (And.intro he0 trivial)
  clear he0 hs
  go_enter Tryz.func111, Tryz.ntmps111
  go_wp2
  go_loop [0, 3, 4] (fun t x y => ∃ p : Nat, p ≤ s.size ∧ t = .string (s.extract p s.size) ∧ x = .int .u32 ((ad1 s p % 65521 : Nat) : Int) ∧ y = .int .u32 ((ad2 s p % 65521 : Nat) : Int)) (fun t _ _ => match t with | .string u => u.size | _ => 0)
  case atStart => exact ⟨0, Nat.zero_le _, by rw [← H0.out.1], rfl, rfl⟩
  case round =>
    obtain ⟨p, hp, rfl, rfl, rfl⟩ := hrel
    have hsz : (s.extract p s.size).size = s.size - p := by rw [ByteArray.size_extract]; omega
    by_cases hz : p < s.size
    · obtain ⟨R, hR⟩ : ∃ R, s.extract p s.size = R := ⟨_, rfl⟩
      have GB : Hid (∀ k (h : k < R.size), (R[k]'h).toNat = (s.data.getD (p + k) 0).toNat) := by
        show ∀ k (h : k < R.size), (R[k]'h).toNat = (s.data.getD (p + k) 0).toNat
        rw [← hR]
        exact fun k h => ext_get s p k h
      have RX : Hid (∀ n, R.extract n R.size = s.extract (p + n) s.size) := by
        show ∀ n, R.extract n R.size = s.extract (p + n) s.size
        intro n
        rw [← hR, hsz, ByteArray.extract_extract]
        congr 1
        omega
      rw [hR] at hsz ⊢
      clear hR
      obtain ⟨n, hn⟩ : ∃ n : Nat, n = min R.size 5552 := ⟨_, rfl⟩
      have n1 : n ≤ R.size := by omega
      have n2 : n ≤ 5552 := by omega
      have n0 : 0 < n := by omega
      have z1 : (0 : Int) < (R.size : Int) := by omega
      have z2 : min (R.size : Int) 5552 = (n : Int) := by omega
      have z3 : (R.size : Int) ≤ 1000000000 := by have := HS.out; omega
      have z4 : (n : Int) ≤ (R.size : Int) := by omega
      have z5 : (n : Int) ≤ 5552 := by omega
      obtain ⟨a, ha⟩ : ∃ a, a = ad1 s p % 65521 := ⟨_, rfl⟩
      obtain ⟨b, hb⟩ : ∃ b, b = ad2 s p % 65521 := ⟨_, rfl⟩
      have a1 : a ≤ 65520 := by omega
      have b1 : b ≤ 65520 := by omega
      have HA := hid' (And.intro ha trivial)
      have HB := hid' (And.intro hb trivial)
      rw [← ha, ← hb]
      clear ha hb hn
      have hcs := hid' hsz
      clear hsz
      go_wp2
      go_loop [3, 4, 14] (fun x y i => ∃ k : Nat, k ≤ n ∧ i = .int .i64 k ∧ x = .int .u32 ((c1 s p a k : Nat) : Int) ∧ y = .int .u32 ((c2 s p a b k : Nat) : Int)) (fun _ _ i => n - (intOf i).toNat)
      case atStart => exact ⟨0, Nat.zero_le _, rfl, rfl, rfl⟩
      case round =>
        obtain ⟨k, hk, rfl, rfl, rfl⟩ := hrel
        by_cases hlt : k < n
        · have hx := c1_le s p a a1 k
          have hy := c2_le s p a b a1 b1 k (by omega)
          have hkR : k < R.size := by omega
          obtain ⟨c, ec⟩ : ∃ c : Nat, (R[k]'hkR).toNat = c := ⟨_, rfl⟩
          have c256 : c < 256 := by rw [← ec]; exact UInt8.toNat_lt _
          have E1 : Hid (c1 s p a (k + 1) = c1 s p a k + c) := by
            show c1 s p a k + (s.data.getD (p + k) 0).toNat = c1 s p a k + c
            rw [← GB.out k hkR, ec]
          have E2 : Hid (c2 s p a b (k + 1) = c2 s p a b k + c1 s p a (k + 1)) := rfl
          obtain ⟨x, ex⟩ : ∃ x, c1 s p a k = x := ⟨_, rfl⟩
          obtain ⟨y, ey⟩ : ∃ y, c2 s p a b k = y := ⟨_, rfl⟩
          rw [ex] at hx
          rw [ey] at hy
          rw [ex, ey]
          have EX : Hid (c1 s p a k = x) := ex
          have EY : Hid (c2 s p a b k = y) := ey
          clear ex ey
          have k0 : (0 : Int) ≤ (k : Int) := by omega
          have k1 : (k : Int) < (n : Int) := by omega
          have k2 : (k : Int) < (R.size : Int) := by omega
          have c0 : (0 : Int) ≤ (c : Int) := by omega
          have c1' : (c : Int) < 256 := by omega
          have x0 : (0 : Int) ≤ (x : Int) := by omega
          have x1 : (x : Int) ≤ 1481025 := by omega
          have y0 : (0 : Int) ≤ (y : Int) := by omega
          have y1 : (y : Int) ≤ 4293208920 := by omega
          clear hx hy
          go_wp2
          go_round
          case rel =>
            refine ⟨k + 1, by omega, rfl, ?_, ?_⟩
            · rw [E1.out, EX.out]; rfl
            · rw [E2.out, E1.out, EX.out, EY.out]; rfl
          case measure => simp [intOf]; omega
        · have e : k = n := by omega
          subst e
          have m1 := c1_mod s p a (by rw [HA.out.1, Nat.mod_mod]) k
          have m2 := c2_mod s p a b (by rw [HA.out.1, Nat.mod_mod]) (by rw [HB.out.1, Nat.mod_mod]) k
          have M1 := hid' (And.intro m1 trivial)
          have M2 := hid' (And.intro m2 trivial)
          have RK := hid' (And.intro (RX.out k) trivial)
          clear m1 m2 hlt hk RX GB
          generalize c1 s p a k = x at *
          generalize c2 s p a b k = y at *
          go_wp2
          go_round
          case rel => exact ⟨p + k, by have := hcs.out; omega, by rw [← RK.out.1], by rw [← M1.out.1]; rfl, by rw [← M2.out.1]; rfl⟩
          case measure =>
            show (R.extract k R.size).size < R.size
            rw [ByteArray.size_extract]
            omega
    · obtain rfl : p = s.size := by omega
      have hb := adl_bits (ad1 s s.size) (ad2 s s.size)
      have HB : Hid (bits .or .u32 (((ad2 s s.size : Nat) : Int) % 65521 * 65536) (((ad1 s s.size : Nat) : Int) % 65521) = ((ad2 s s.size % 65521 * 65536 + ad1 s s.size % 65521 : Nat) : Int)) := hb
      have hE : (s.extract s.size s.size) = ⟨#[]⟩ := by
        have : (s.extract s.size s.size).size = 0 := by rw [ByteArray.size_extract]; omega
        exact bytes_ext (List.eq_nil_of_length_eq_zero (by rw [Array.length_toList]; exact this))
      rw [hE]
      clear hb hsz hE hz hp
      go_wp2
      go_ret
      refine ⟨?_, rfl⟩
      rw [HB.out]
      rfl
end Go.Proofs.YtbhmmcelndmijaaGreat.Wi
