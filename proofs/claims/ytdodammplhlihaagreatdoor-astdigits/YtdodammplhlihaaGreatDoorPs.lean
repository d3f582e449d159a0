/-
  The document's Parts; a digit's text; the node of digits.
-/
import Derived.Test.YtdodammplhlihaaGreatDoorRd
namespace Go.Proofs.YtdodammplhlihaaGreatDoor
open Go.RowKit
theorem val_bound (l : List UInt8) (h : ∀ c ∈ l, isD c) (hl : l.length ≤ 15) : val l < 1000000000000000 := by
  have h1 := val_lt l h l.length (Nat.le_refl _)
  rw [List.take_length] at h1
  have : (10 : Nat) ^ l.length ≤ 10 ^ 15 := Nat.pow_le_pow_right (by decide) hl
  omega
set_option maxRecDepth 100000 in
set_option maxHeartbeats 4000000 in
theorem parts_any (A B : List UInt8) (w : World) (hA : ∀ c ∈ A, isD c) (hB : ∀ c ∈ B, isD c) (hl : A.length + B.length ≤ 15) : Calls Tryz.prog 6 #[.string (mkS (A ++ 46 :: B))] w fun e w' => e = .returned (.tuple #[.int .i64 (val (A ++ B) : Nat), .int .i64 (B.length : Nat)]) ∧ w' = w := by
  have ll : (A ++ 46 :: B).length = A.length + 1 + B.length := by simp; omega
  obtain ⟨s, hs⟩ : ∃ s, mkS (A ++ 46 :: B) = s := ⟨_, rfl⟩
  have sz : s.size = A.length + 1 + B.length := by rw [← hs, mkS_size, ll]
  have GA : Hid (∀ k (h : k < s.size) (h' : k < A.length), s[k]'h = A[k]'h') := fun k h h' => by
    subst hs
    rw [mkS_get, List.getElem_append_left h']
  have GP : Hid (∀ h : A.length < s.size, s[A.length]'h = 46) := fun h => by
    subst hs
    rw [mkS_get]; simp
  have GBy : Hid (∀ k (h : k < s.size) (h1 : A.length < k) (h' : k - A.length - 1 < B.length), s[k]'h = B[k - A.length - 1]'h') := fun k h h1 h' => by
    subst hs
    rw [mkS_get, List.getElem_append_right (by omega), List.getElem_cons, dif_neg (by omega)]
  have HA := hid hA
  have HB := hid hB
  rw [hs]
  have n2 : (s.size : Int) ≤ 16 := by omega
  have SZ := hid (And.intro sz hl)
  clear hs hA hB hl sz ll
  go_enter Tryz.func6, Tryz.ntmps6
  go_wp2
  go_loop [4, 5, 6, 7] (fun m bh dt i => ∃ (k M : Nat), i = .int .i64 k ∧ m = .int .i64 M ∧ ((k ≤ A.length ∧ dt = .bool false ∧ bh = .int .i64 0 ∧ M = val (A.take k)) ∨ (A.length < k ∧ k ≤ s.size ∧ dt = .bool true ∧ (∃ H : Nat, bh = .int .i64 H ∧ H = k - A.length - 1) ∧ M = val (A ++ B.take (k - A.length - 1))))) (fun _ _ _ i => s.size - (intOf i).toNat)
  case atStart => exact ⟨0, 0, rfl, rfl, Or.inl ⟨Nat.zero_le _, rfl, rfl, by simp [val]⟩⟩
  case round =>
    obtain ⟨k, M, rfl, rfl, (⟨k1, rfl, rfl, hM⟩ | ⟨k1, k2, rfl, ⟨H, rfl, hH⟩, hM⟩)⟩ := hrel
    · have SS := SZ.out
      have hks : k < s.size := by omega
      have i0 : (0 : Int) ≤ k := by omega
      have i1 : (k : Int) < s.size := by omega
      by_cases hkA : k < A.length
      · have hd := HA.out _ (List.getElem_mem hkA)
        rw [← GA.out k hks hkA] at hd
        have hv := val_take A k hkA
        rw [← GA.out k hks hkA, ← hM] at hv
        have hb : M < 1000000000000000 := by
          rw [hM]
          exact val_bound _ (fun c hc => HA.out c (List.mem_of_mem_take hc)) (by rw [List.length_take]; omega)
        obtain ⟨c, hc⟩ : ∃ c : Nat, (s[k]'hks).toNat = c := ⟨_, rfl⟩
        have d1 := hd.1
        have d2 := hd.2
        rw [hc] at hv d1 d2
        have c2 : ((c : Int) == 46) = false := by simp; omega
        have cw : IntKind.u8.wrap ((c : Int) - 48) = ((c - 48 : Nat) : Int) := by rw [IntKind.wrap_u8]; omega
        have mw : IntKind.i64.wrap ((M : Int) * 10) = ((M * 10 : Nat) : Int) := by rw [IntKind.wrap_i64]; omega
        have mw2 : IntKind.i64.wrap (((M * 10 : Nat) : Int) + ((c - 48 : Nat) : Int)) = ((M * 10 + (c - 48) : Nat) : Int) := by rw [IntKind.wrap_i64]; omega
        have HV := hid hv
        have bb : (M : Int) < 1000000000000000 := by omega
        have cb : (c : Int) ≤ 57 := by omega
        have cb0 : (48 : Int) ≤ c := by omega
        clear hd hv hb d1 d2 hM SS
        go_wp2
        go_round
        case rel => exact ⟨k + 1, M * 10 + (c - 48), by go_num, by go_num, Or.inl ⟨by omega, rfl, rfl, HV.out.symm⟩⟩
        case measure => simp [intOf]; omega
      · have hkk : k = A.length := by omega
        have e46 : (s[k]'hks).toNat = 46 := by subst hkk; rw [GP.out hks]; rfl
        have HM := hid hM
        have HKK := hid hkk
        clear hM hkA SS hkk
        go_wp2
        go_round
        case rel =>
          have hkk := HKK.out
          exact ⟨k + 1, M, by go_num, rfl, Or.inr ⟨by omega, by omega, rfl, ⟨0, rfl, by omega⟩, by rw [show k + 1 - A.length - 1 = 0 by omega, List.take_zero, List.append_nil, HM.out, hkk, List.take_length]⟩⟩
        case measure => simp [intOf]; omega
    · have SS := SZ.out
      have i0 : (0 : Int) ≤ k := by omega
      by_cases hks : k < s.size
      · have i1 : (k : Int) < s.size := by omega
        have hkB : k - A.length - 1 < B.length := by omega
        have hd := HB.out _ (List.getElem_mem hkB)
        rw [← GBy.out k hks k1 hkB] at hd
        have hv : val (A ++ B.take (k + 1 - A.length - 1)) = M * 10 + ((s[k]'hks).toNat - 48) := by
          rw [show k + 1 - A.length - 1 = k - A.length - 1 + 1 by omega, List.take_succ_eq_append_getElem hkB, ← List.append_assoc, val_snoc, ← hM, ← GBy.out k hks k1 hkB]
        have hb : M < 1000000000000000 := by
          rw [hM]
          exact val_bound _ (fun c hc => (List.mem_append.1 hc).elim (HA.out c) (fun h => HB.out c (List.mem_of_mem_take h))) (by rw [List.length_append, List.length_take]; omega)
        obtain ⟨c, hc⟩ : ∃ c : Nat, (s[k]'hks).toNat = c := ⟨_, rfl⟩
        have d1 := hd.1
        have d2 := hd.2
        rw [hc] at hv d1 d2
        have c2 : ((c : Int) == 46) = false := by simp; omega
        have cw : IntKind.u8.wrap ((c : Int) - 48) = ((c - 48 : Nat) : Int) := by rw [IntKind.wrap_u8]; omega
        have mw : IntKind.i64.wrap ((M : Int) * 10) = ((M * 10 : Nat) : Int) := by rw [IntKind.wrap_i64]; omega
        have mw2 : IntKind.i64.wrap (((M * 10 : Nat) : Int) + ((c - 48 : Nat) : Int)) = ((M * 10 + (c - 48) : Nat) : Int) := by rw [IntKind.wrap_i64]; omega
        have HV := hid hv
        have bb : (M : Int) < 1000000000000000 := by omega
        have cb : (c : Int) ≤ 57 := by omega
        have cb0 : (48 : Int) ≤ c := by omega
        have Hb : (H : Int) ≤ 16 := by omega
        have HH := hid hH
        clear hd hv hb d1 d2 hM SS hkB hH
        go_wp2
        go_round
        case rel => exact ⟨k + 1, M * 10 + (c - 48), by go_num, by go_num, Or.inr ⟨by omega, by omega, rfl, ⟨H + 1, by go_num, by have := HH.out; omega⟩, HV.out.symm⟩⟩
        case measure => simp [intOf]; omega
      · have i1 : ¬ (k : Int) < s.size := by omega
        have eH : H = B.length := by omega
        have eM : M = val (A ++ B) := by rw [hM, show k - A.length - 1 = B.length by omega, List.take_length]
        have E1 := hid eH
        have E2 := hid eM
        clear hM eM eH hH SS
        go_wp2
        exact bodyPost_ret (v := .tuple #[.int .i64 (M : Nat), .int .i64 (H : Nat)]) (by simp [results, Tryz.results6, go_sem]) rfl ⟨by rw [E1.out, E2.out], rfl⟩
set_option maxRecDepth 100000 in
theorem number_nil (w : World) : Calls Tryz.prog 4 #[.int .u64 0, .int .i64 0] w fun e w' => e = .returned (.string ⟨#[]⟩) ∧ w' = w := by
  go_enter Tryz.func4, Tryz.ntmps4
  go_wp2
  go_loop [5, 6] (fun v i => v = .string ⟨#[]⟩ ∧ i = .int .i64 0) (fun _ _ => 0)
  case atStart => exact ⟨rfl, rfl⟩
  case round =>
    obtain ⟨rfl, rfl⟩ := hrel
    go_wp2
    go_ret
    exact ⟨rfl, rfl⟩
def FlP (A B : List UInt8) (w : World) (e : Ending) (w' : World) : Prop := e = .returned (.agg #[.int .i64 21, .int .i64 0, .string (mkS (dA A ++ 46 :: dB B)), .int .i64 (quo (dM A B) (dB B).length : Nat), .slice none 0 0]) ∧ w.grownBy w' none
set_option maxRecDepth 100000 in
set_option maxHeartbeats 2000000 in
theorem float_any (A B : List UInt8) (w : World) (hG : Gl w) (hA : ∀ c ∈ A, isD c) (hB : ∀ c ∈ B, isD c) (hl : A.length ≤ 7) (hl2 : B.length ≤ 8) : Calls Tryz.prog 9 #[.string (mkS (A ++ 46 :: B))] w (FlP A B w) := by
  have C5 : Hid (∀ W, Calls Tryz.prog 5 #[.string (mkS (A ++ 46 :: B))] W (GrP (.string (mkS (dA A ++ 46 :: dB B))) W)) := fun W => digits_any A B W hA hB (by omega)
  have C8 : Hid (∀ W, w.grownBy W none → Calls Tryz.prog 8 #[.string (mkS (A ++ 46 :: B))] W (GrP (.int .i64 (quo (dM A B) (dB B).length : Nat)) W)) := fun W hW => bits_any A B W (hG.kept hW) hA hB hl hl2
  unfold FlP
  generalize quo (dM A B) (dB B).length = q at *
  generalize mkS (A ++ 46 :: B) = S at *
  generalize mkS (dA A ++ 46 :: dB B) = R at *
  clear hG hA hB hl hl2
  go_enter Tryz.func9, Tryz.ntmps9
  go_wp2_with (first
    | (go_at_call 5; refine (C5.out _).mono ?_; clear C5; rintro e w1 ⟨rfl, hg⟩; have G1 := hid (grown_pre (grown_alloc (grown_refl w none) _) hg); have z0 := (Blk.new w 33 #[.int .i64 0, .int .i64 0, .string ⟨#[]⟩, .int .i64 0, .slice none 0 0]).kept hg (by simp); have Z0 := hid z0; clear hg z0)
    | (go_at_call 8; refine (C8.out _ G1.out).mono ?_; clear C8; rintro e w2 ⟨rfl, hg⟩; have G2 := hid (grown_pre G1.out hg); have z := Z0.out.kept hg (by simp); have b0 := z.cell 0; have b1 := z.cell 1; have b2 := z.cell 2; have b3 := z.cell 3; have b4 := z.cell 4; have f0 := z.frozen 0; have f1 := z.frozen 1; have f2 := z.frozen 2; have f3 := z.frozen 3; have f4 := z.frozen 4; have ZZ := hid z; simp at b0 b1 b2 b3 b4; clear hg z))
  exact bodyPost_ret (v := .agg #[.int .i64 21, .int .i64 0, .string R, .int .i64 (q : Nat), .slice none 0 0]) (by simp [results, Tryz.results9, go_sem, b0, b1, b2, b3, b4]) rfl ⟨rfl, grown_set_new (grown_set_new (grown_set_new (grown_set_new (grown_set_new G2.out _ (Nat.le_refl _)) _ (Nat.le_refl _)) _ (Nat.le_refl _)) _ (Nat.le_refl _)) _ (Nat.le_refl _)⟩
end Go.Proofs.YtdodammplhlihaaGreatDoor
