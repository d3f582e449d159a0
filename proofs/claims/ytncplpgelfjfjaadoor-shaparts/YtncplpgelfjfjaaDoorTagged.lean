/-
  The contracts of sha.Tagged, and of the document's Parts and Tagged: parts for a purpose, each with its size behind it.
-/
import Derived.Test.YtncplpgelfjfjaaDoorSize
import Derived.Test.YtncplpgelfjfjaaDoorRefSum
import Derived.Test.YtncplpgelfjfjaaDoorSame
namespace Go.Proofs.YtncplpgelfjfjaaDoor
open Go.RowKit
/-- So many parts, each with its size behind it. -/
def partsTo (S : Nat → ByteArray) : Nat → List UInt8
  | 0 => []
  | k + 1 => partsTo S k ++ (S k).data.toList ++ sizeL (S k).size
def partsL (p : Nat) (S : Nat → ByteArray) (n : Nat) : List UInt8 := partsTo S n ++ [UInt8.ofNat p]
def partsS (p : Nat) (S : Nat → ByteArray) (n : Nat) : ByteArray := ⟨(partsL p S n).toArray⟩
theorem soak_part (S : Nat → ByteArray) (k : Nat) : soak (soak (soak (fun _ => 0, 0) (partsTo S k)) (S k).data.toList) (sizeL (S k).size) = soak (fun _ => 0, 0) (partsTo S (k + 1)) := by
  rw [← soak_append, ← soak_append]
  show _ = soak _ (partsTo S k ++ (S k).data.toList ++ sizeL (S k).size)
  rw [List.append_assoc]
theorem soak_purpose (p : Nat) (S : Nat → ByteArray) (n : Nat) : soak (soak (fun _ => 0, 0) (partsTo S n)) [UInt8.ofNat p] = soak (fun _ => 0, 0) (partsL p S n) := (soak_append _ _ _).symm
set_option maxRecDepth 100000 in
set_option maxHeartbeats 400000 in
theorem tagged_any (p : Nat) (pa : Option Addr) (n cap xb xo : Nat) (S : Nat → ByteArray) (w : World) (ht : Tabs w) (hp : p < 256) (hpa : 0 < n → pa = some ⟨xb, xo, none⟩) (hc : ∀ j, j < n → w.cell? ⟨xb, xo + j, none⟩ = some (.string (S j))) (hn : n ≤ 8) (hs : ∀ j, (S j).size ≤ 1200) :
    Calls Tryd.prog 17 #[.int .u8 p, .slice pa n cap] w fun e w' => e = .returned (.string (digestS (partsS p S n))) ∧ w.grownBy w' none := by
  have HT : Hid (Tabs w) := ht
  have hlt := ht.lt
  have HC : Hid (∀ j, j < n → w.cell? ⟨xb, xo + j, none⟩ = some (.string (S j))) := hc
  have HPA : Hid (0 < n → pa = some ⟨xb, xo, none⟩) := hpa
  have hn' : (n : Int) ≤ 8 := by omega
  obtain ⟨D, eD⟩ : ∃ D, digestS (partsS p S n) = D := ⟨_, rfl⟩
  rw [eD]
  have ED : Hid (digestS (partsS p S n) = D) := eD
  clear ht hc hpa eD
  go_enter Tryd.func17, Tryd.ntmps17
  go_wp2_with (go_at_call 14; refine (new_any w).mono ?_; rintro e w1 ⟨rfl, hw1⟩; have G1 : Hid (w.grownBy w1 none) := (by rw [hw1]; exact grown_alloc (grown_refl _ _) _); have B1 : Hid (Blk w1 w.heap.size 50 (dig (fun _ => 0) 0)) := (by rw [hw1]; exact Blk.new _ _ _); clear hw1)
  go_loopw [11] (fun i wr => ∃ k : Nat, k ≤ n ∧ i = .int .i64 k ∧ Blk wr w.heap.size 50 (dig (soak (fun _ => 0, 0) (partsTo S k)).1 (soak (fun _ => 0, 0) (partsTo S k)).2) ∧ w.grownBy wr none) (fun i _ => n - (intOf i).toNat)
  case atStart => exact ⟨0, Nat.zero_le _, rfl, B1.out, G1.out⟩
  case round =>
    clear B1 G1
    obtain ⟨k, hk, rfl, h1, h3⟩ := hrel
    have H1 : Hid (Blk wr w.heap.size 50 (dig (soak (fun _ => 0, 0) (partsTo S k)).1 (soak (fun _ => 0, 0) (partsTo S k)).2)) := h1
    have H3 : Hid (w.grownBy wr none) := h3
    clear h1 h3
    have hq := soak_lt (fun _ => 0, 0) (partsTo S k) (by decide)
    have k0 : (0 : Int) ≤ (k : Int) := by omega
    by_cases hkn : k < n
    · have hp' := HPA.out (by omega)
      subst hp'
      have c0 := HC.out k hkn
      have hxb : xb < w.heap.size := World.block_lt_of_cell? _ _ c0
      have c1 : wr.cell? ⟨xb, xo + k, none⟩ = some (.string (S k)) := ((grown_below H3.out).cell (by exact hxb)).trans c0
      have d1 : (k : Int) < (n : Int) := by omega
      have hf : (S k).size ≤ 1200 := hs k
      have HES : Hid (soak (soak (soak (fun _ => 0, 0) (partsTo S k)) (S k).data.toList) (sizeL (S k).size) = soak (fun _ => 0, 0) (partsTo S (k + 1))) := soak_part S k
      obtain ⟨Z, eZ⟩ : ∃ Z, sizeS (S k).size = Z := ⟨_, rfl⟩
      have hZ : Z.size = 8 := by rw [← eZ]; show (sizeL _).toArray.size = 8; rw [List.size_toArray, sizeL_len]
      have HZ : Hid (Z.data.toList = sizeL (S k).size) := by
        have e : Z.data.toList = sizeL (S k).size := by rw [← eZ]; rfl
        exact e
      have CZ : Hid (∀ w, Calls Tryd.prog 27 #[.string (S k)] w fun e w' => e = .returned (.string Z) ∧ w.grownBy w' none) := fun w => by rw [← eZ]; exact size_any _ w (by omega)
      clear eZ c0
      generalize S k = f at *
      go_wp2_with (first | (go_at_call 27; refine (CZ.out _).mono ?_; rintro e w3 ⟨rfl, hg3⟩; have B3 : Hid (Blk w3 w.heap.size 50 (dig (soak (soak (fun _ => 0, 0) (partsTo S k)) f.data.toList).1 (soak (soak (fun _ => 0, 0) (partsTo S k)) f.data.toList).2)) := B2.out.kept hg3 (by simp); have G3 : Hid (w.grownBy w3 none) := grown_none G2.out hg3; clear hg3 B2 G2) | (go_at_call 15; refine calls_at (args := #[.pointer (some ⟨w.heap.size, 0, none⟩), .string f]) rfl ?_; refine (write_any w.heap.size _ _ f _ H1.out (HT.out.kept H3.out (by simp) (by simp) (by simp)) hq hlt (by omega)).mono ?_; rintro e w2 ⟨rfl, hb2, hg2⟩; have B2 : Hid (Blk w2 w.heap.size 50 (dig (soak (soak (fun _ => 0, 0) (partsTo S k)) f.data.toList).1 (soak (soak (fun _ => 0, 0) (partsTo S k)) f.data.toList).2)) := hb2; have G2 : Hid (w.grownBy w2 none) := grown_through H3.out hg2 (Nat.le_refl _); clear hb2 hg2 H1 H3) | (go_at_call 15; refine calls_at (args := #[.pointer (some ⟨w.heap.size, 0, none⟩), .string Z]) rfl ?_; refine (write_any w.heap.size _ _ Z _ B3.out (HT.out.kept G3.out (by simp) (by simp) (by simp)) (soak_lt _ _ hq) hlt (by omega)).mono ?_; rintro e w4 ⟨rfl, hb4, hg4⟩; have B4 : Hid (Blk w4 w.heap.size 50 (dig (soak (fun _ => 0, 0) (partsTo S (k + 1))).1 (soak (fun _ => 0, 0) (partsTo S (k + 1))).2)) := (by rw [← HES.out, ← HZ.out]; exact hb4); have G4 : Hid (w.grownBy w4 none) := grown_through G3.out hg4 (Nat.le_refl _); clear hb4 hg4 B3 G3))
      go_roundw
      case rel => exact ⟨k + 1, by omega, by go_num, B4.out, G4.out⟩
      case measure => simp [intOf]; omega
    · have e : k = n := by omega
      subst e
      have hcv := one_byte (wr.alloc (.cells #[.int .u8 (p : Int)] 5)) wr.heap.size 1 (p : Int) p hp rfl (by rw [(Blk.new wr 5 #[.int .u8 (p : Int)]).cell]; rfl)
      obtain ⟨V, hV⟩ : ∃ V : ByteArray, V = ⟨#[UInt8.ofNat p]⟩ := ⟨_, rfl⟩
      have hVs : V.size = 1 := by rw [hV]; rfl
      have HVl : Hid (V.data.toList = [UInt8.ofNat p]) := by
        have e : V.data.toList = [UInt8.ofNat p] := by rw [hV]
        exact e
      rw [← hV] at hcv
      clear hV
      go_wp2_with (first | (go_at_call 15; refine (write_any w.heap.size _ _ V _ (H1.out.alloc _) (HT.out.kept (row := none) (grown_alloc H3.out _) (by simp) (by simp) (by simp)) hq hlt (by omega)).mono ?_; rintro e w2 ⟨rfl, hb2, hg2⟩; have B2 : Hid (Blk w2 w.heap.size 50 (dig (soak (fun _ => 0, 0) (partsL p S k)).1 (soak (fun _ => 0, 0) (partsL p S k)).2)) := (by rw [← soak_purpose, ← HVl.out]; exact hb2); have G2 : Hid (w.grownBy w2 none) := grown_through (grown_alloc H3.out _) hg2 (Nat.le_refl _); clear hb2 hg2) | (go_at_call 16; refine (sum_any w.heap.size _ _ _ B2.out (HT.out.kept G2.out (by simp) (by simp) (by simp)) (soak_lt _ _ (by decide))).mono ?_; rintro e w3 ⟨rfl, hg3⟩))
      go_ret
      refine ⟨?_, grown_none G2.out hg3⟩
      rw [← ED.out]
      rfl
theorem bytes_ext {a b : ByteArray} (h : a.data.toList = b.data.toList) : a = b := ByteArray.ext (Array.toList_inj.1 h)
theorem size_step (m j : Nat) : m / 2 ^ (8 * j) / 256 = m / 2 ^ (8 * (j + 1)) := by
  rw [Nat.div_div_eq_div_mul, show (256 : Nat) = 2 ^ 8 from rfl, ← Nat.pow_add]
  congr 2
theorem sizeL_take (m j : Nat) (hj : j < 8) : (sizeL m).take (j + 1) = (sizeL m).take j ++ [UInt8.ofNat (m / 2 ^ (8 * j) % 256)] := by
  rw [List.take_succ_eq_append_getElem (by rw [sizeL_len]; exact hj)]
  congr 2
  exact (List.getElem_map _).trans (by rw [List.getElem_range]; rfl)
set_option maxRecDepth 100000 in
set_option maxHeartbeats 400000 in
theorem refParts_any (p : Nat) (pa : Option Addr) (n cap xb xo : Nat) (S : Nat → ByteArray) (w : World) (hp : p < 256) (hpa : 0 < n → pa = some ⟨xb, xo, none⟩) (hc : ∀ j, j < n → w.cell? ⟨xb, xo + j, none⟩ = some (.string (S j))) (hn : n ≤ 8) (hs : ∀ j, (S j).size ≤ 1200) :
    Calls Tryd.prog 19 #[.int .u8 p, .slice pa n cap] w fun e w' => e = .returned (.string (partsS p S n)) ∧ w.grownBy w' none := by
  have HC : Hid (∀ j, j < n → w.cell? ⟨xb, xo + j, none⟩ = some (.string (S j))) := hc
  have HPA : Hid (0 < n → pa = some ⟨xb, xo, none⟩) := hpa
  have hn' : (n : Int) ≤ 8 := by omega
  obtain ⟨D, eD⟩ : ∃ D, partsS p S n = D := ⟨_, rfl⟩
  rw [eD]
  have ED : Hid (partsS p S n = D) := eD
  clear hc hpa eD
  go_enter Tryd.func19, Tryd.ntmps19
  go_wp2
  go_loopw [5, 6] (fun v i wr => ∃ (A : ByteArray) (k : Nat), k ≤ n ∧ i = .int .i64 k ∧ v = .string A ∧ A.data.toList = partsTo S k ∧ A.size ≤ 1208 * k ∧ w.grownBy wr none) (fun _ i _ => n - (intOf i).toNat)
  case atStart => exact ⟨_, 0, Nat.zero_le _, rfl, rfl, rfl, Nat.le_refl _, grown_refl _ _⟩
  case round =>
    obtain ⟨A, k, hk, rfl, rfl, hA, hAs, h3⟩ := hrel
    have H3 : Hid (w.grownBy wr none) := h3
    have HA : Hid (A.data.toList = partsTo S k) := hA
    clear h3 hA
    have k0 : (0 : Int) ≤ (k : Int) := by omega
    have a0 : (A.size : Int) ≤ 10000 := by omega
    by_cases hkn : k < n
    · have hp' := HPA.out (by omega)
      subst hp'
      have c0 := HC.out k hkn
      have hxb : xb < w.heap.size := World.block_lt_of_cell? _ _ c0
      have c1 : wr.cell? ⟨xb, xo + k, none⟩ = some (.string (S k)) := ((grown_below H3.out).cell (by exact hxb)).trans c0
      have d1 : (k : Int) < (n : Int) := by omega
      have d2 : decide ((k : Int) < (n : Int)) = true := by simp; omega
      have hf : (S k).size ≤ 1200 := hs k
      have EP : Hid (partsTo S (k + 1) = partsTo S k ++ (S k).data.toList ++ sizeL (S k).size) := by
        have e : partsTo S (k + 1) = partsTo S k ++ (S k).data.toList ++ sizeL (S k).size := rfl
        exact e
      clear c0
      generalize S k = f at *
      have f0 : (f.size : Int) ≤ 1200 := by omega
      go_wp2
      obtain ⟨m, em⟩ : ∃ m, f.size = m := ⟨_, rfl⟩
      go_loopw [5, 7, 8] (fun v x i wr => ∃ (B : ByteArray) (j : Nat), j ≤ 8 ∧ i = .int .i64 j ∧ x = .int .i64 ((m / 2 ^ (8 * j) : Nat) : Int) ∧ v = .string B ∧ B.data.toList = partsTo S k ++ f.data.toList ++ (sizeL m).take j ∧ w.grownBy wr none) (fun _ _ i _ => 8 - (intOf i).toNat)
      case atStart =>
        refine ⟨_, 0, Nat.zero_le _, rfl, ?_, rfl, ?_, H3.out⟩
        · rw [Nat.mul_zero, Nat.pow_zero, Nat.div_one, em]
        · rw [append_list, HA.out, List.take_zero, List.append_nil]
      case round =>
        clear H3
        obtain ⟨B, j, hj, rfl, rfl, rfl, hB, h3⟩ := hrel
        have H3 : Hid (w.grownBy wr none) := h3
        have HB : Hid (B.data.toList = partsTo S k ++ f.data.toList ++ (sizeL m).take j) := hB
        have hBs : (B.size : Int) ≤ 20000 := by
          have hl := bytes_len B
          rw [hB, List.length_append, List.length_append, bytes_len, List.length_take, sizeL_len, ← HA.out, bytes_len] at hl
          omega
        clear h3 hB
        by_cases hj8 : j < 8
        · have ST : Hid ((sizeL m).take (j + 1) = (sizeL m).take j ++ [UInt8.ofNat (m / 2 ^ (8 * j) % 256)]) := sizeL_take m j hj8
          have SS : Hid (m / 2 ^ (8 * j) / 256 = m / 2 ^ (8 * (j + 1))) := size_step m j
          have hle : m / 2 ^ (8 * j) ≤ m := Nat.div_le_self _ _
          generalize m / 2 ^ (8 * j) = x at *
          have x0 : (0 : Int) ≤ (x : Int) := by omega
          have x1 : (x : Int) ≤ 1200 := by omega
          have j0 : (0 : Int) ≤ (j : Int) := by omega
          have j1 : (j : Int) < 8 := by omega
          have hcv := one_byte (wr.alloc (.cells #[.int .u8 ((x : Int) % 256)] 5)) wr.heap.size 1 ((x : Int) % 256) (x % 256) (by omega) (by omega) (by rw [(Blk.new wr 5 #[.int .u8 ((x : Int) % 256)]).cell]; rfl)
          obtain ⟨V, hV⟩ : ∃ V : ByteArray, V = ⟨#[UInt8.ofNat (x % 256)]⟩ := ⟨_, rfl⟩
          have hVs : V.size = 1 := by rw [hV]; rfl
          have HVl : Hid (V.data.toList = [UInt8.ofNat (x % 256)]) := by
            have e : V.data.toList = [UInt8.ofNat (x % 256)] := by rw [hV]
            exact e
          rw [← hV] at hcv
          clear hV
          go_wp2
          go_roundw
          case rel =>
            refine ⟨_, j + 1, by omega, by go_num, ?_, rfl, ?_, grown_alloc H3.out _⟩
            · rw [← SS.out]; rfl
            · rw [append_list, HB.out, HVl.out, ST.out, List.append_assoc]
          case measure => simp [intOf]; omega
        · have e : j = 8 := by omega
          subst e
          have hf8 : (sizeL m).take 8 = sizeL m := by
            have := List.take_length (l := sizeL m)
            rwa [sizeL_len] at this
          have HB2 : Hid (B.data.toList = partsTo S (k + 1)) := by
            have e : B.data.toList = partsTo S (k + 1) := by rw [HB.out, EP.out, hf8, em]
            exact e
          have hBs2 : B.size ≤ A.size + f.size + 8 := by
            have hl := bytes_len B
            rw [HB.out, List.length_append, List.length_append, bytes_len, hf8, sizeL_len, ← HA.out, bytes_len] at hl
            omega
          clear HB hf8
          go_wp2
          go_roundw
          case rel => exact ⟨B, k + 1, by omega, by go_num, rfl, HB2.out, by omega, H3.out⟩
          case measure => simp [intOf]; omega
    · have e : k = n := by omega
      subst e
      have hcv := one_byte (wr.alloc (.cells #[.int .u8 (p : Int)] 5)) wr.heap.size 1 (p : Int) p hp rfl (by rw [(Blk.new wr 5 #[.int .u8 (p : Int)]).cell]; rfl)
      obtain ⟨V, hV⟩ : ∃ V : ByteArray, V = ⟨#[UInt8.ofNat p]⟩ := ⟨_, rfl⟩
      have hVs : V.size = 1 := by rw [hV]; rfl
      have HVl : Hid (V.data.toList = [UInt8.ofNat p]) := by
        have e : V.data.toList = [UInt8.ofNat p] := by rw [hV]
        exact e
      rw [← hV] at hcv
      clear hV
      go_wp2
      go_ret
      refine ⟨?_, grown_alloc H3.out _⟩
      show Ending.returned (.string (A ++ V)) = _
      have e : A ++ V = D := by
        rw [← ED.out]
        apply bytes_ext
        rw [append_list, HA.out, HVl.out]
        rfl
      rw [e]
theorem parts_len (S : Nat → ByteArray) (hs : ∀ j, (S j).size ≤ 1200) : ∀ k, (partsTo S k).length ≤ 1208 * k
  | 0 => Nat.le_refl _
  | k + 1 => by
    have h1 := parts_len S hs k
    have h2 := hs k
    show (partsTo S k ++ (S k).data.toList ++ sizeL (S k).size).length ≤ _
    rw [List.length_append, List.length_append, bytes_len, sizeL_len]
    omega
theorem partsS_size (p : Nat) (S : Nat → ByteArray) (n : Nat) (hs : ∀ j, (S j).size ≤ 1200) (hn : n ≤ 8) : (partsS p S n).size ≤ 10000 := by
  have h1 := parts_len S hs n
  rw [← bytes_len]
  show (partsTo S n ++ [UInt8.ofNat p]).length ≤ 10000
  rw [List.length_append, List.length_singleton]
  omega
set_option maxRecDepth 100000 in
set_option maxHeartbeats 400000 in
theorem refTagged_any (p : Nat) (pa : Option Addr) (n cap xb xo : Nat) (S : Nat → ByteArray) (w : World) (hp : p < 256) (hpa : 0 < n → pa = some ⟨xb, xo, none⟩) (hc : ∀ j, j < n → w.cell? ⟨xb, xo + j, none⟩ = some (.string (S j))) (hn : n ≤ 8) (hs : ∀ j, (S j).size ≤ 1200) :
    Calls Tryd.prog 18 #[.int .u8 p, .slice pa n cap] w fun e w' => e = .returned (.string (digestS (partsS p S n))) ∧ w.grownBy w' none := by
  have hl := partsS_size p S n hs hn
  have C := refParts_any p pa n cap xb xo S w hp hpa hc hn hs
  generalize partsS p S n = P at *
  have HC : Hid (Calls Tryd.prog 19 #[.int .u8 p, .slice pa n cap] w fun e w' => e = .returned (.string P) ∧ w.grownBy w' none) := C
  have HR : Hid (∀ w, Calls Tryd.prog 13 #[.string P] w fun e w' => e = .returned (.string (digestS P)) ∧ w.grownBy w' none) := fun w => refSum_any P w (by omega)
  clear C hpa hc
  generalize digestS P = D at *
  go_enter Tryd.func18, Tryd.ntmps18
  go_wp2_with (first | (go_at_call 19; refine HC.out.mono ?_; rintro e w1 ⟨rfl, hg1⟩; have G1 : Hid (w.grownBy w1 none) := hg1; clear hg1) | (go_at_call 13; refine (HR.out _).mono ?_; rintro e w2 ⟨rfl, hg2⟩; have G2 : Hid (w.grownBy w2 none) := grown_none G1.out hg2; clear hg2))
  go_ret
  exact ⟨rfl, G2.out⟩
end Go.Proofs.YtncplpgelfjfjaaDoor
