/-
  AstDigits: the law's own walk.
-/
import Derived.Test.YtdodammplhlihaaGreatDoorPs
import Derived.Test.YtdodammplhlihaaGreatDoorAw
import Derived.Deep.RegionHeld3
import Derived.Deep.DeepCutAuto
namespace Go.Proofs.YtdodammplhlihaaGreatDoor
open Go.RowKit
theorem and_le (n : Int) (m : Nat) (hm : m < 1000) : ∃ k : Nat, bits .and .i64 n m = (k : Int) ∧ k ≤ m := by
  have h1 : (BitVec.ofInt 64 (m : Int)).toNat = m := by
    rw [BitVec.toNat_ofInt]
    omega
  have key : (BitVec.ofInt 64 n &&& BitVec.ofInt 64 (m : Int)).toNat ≤ m := by
    rw [BitVec.toNat_and, h1]
    exact Nat.and_le_right
  refine ⟨(BitVec.ofInt 64 n &&& BitVec.ofInt 64 (m : Int)).toNat, ?_, key⟩
  show IntKind.i64.wrap ((BitVec.ofInt 64 n &&& BitVec.ofInt 64 (m : Int)).toNat : Nat) = _
  generalize (BitVec.ofInt 64 n &&& BitVec.ofInt 64 (m : Int)).toNat = x at *
  rw [IntKind.wrap_i64]
  omega
theorem dig_new (n : Nat) (h : n ≤ 9) : isD (UInt8.ofNat (48 + n)) := by
  have : (UInt8.ofNat (48 + n)).toNat = 48 + n := by rw [UInt8.toNat_ofNat', Nat.mod_eq_of_lt (by omega)]
  exact ⟨by omega, by omega⟩
/-- A digit's text out of a row of one. -/
theorem one_new (W : World) (m : Nat) (hm : m < 256) : (convert 24 9 (.slice (some ⟨W.heap.size, 0, none⟩) 1 1)).run Tryz.prog (W.alloc (.cells #[.int .u8 (m : Int)] 5)) = .ok (.string (mkS [UInt8.ofNat m])) (W.alloc (.cells #[.int .u8 (m : Int)] 5)) :=
  Tr.one_byte _ _ 1 _ m hm rfl (by rw [(Blk.new W 5 #[.int .u8 (m : Int)]).cell]; rfl)
theorem trimL_idem (l : List UInt8) : trimL (trimL l) = trimL l := by
  unfold trimL
  induction l with
  | nil => rfl
  | cons c r ih =>
    cases h : z0 c with
    | true => rw [List.dropWhile_cons_of_pos h]; exact ih
    | false => rw [List.dropWhile_cons_of_neg (by rw [h]; decide), List.dropWhile_cons_of_neg (by rw [h]; decide)]
theorem dA_idem (A : List UInt8) : dA (dA A) = dA A := by
  unfold dA orN
  by_cases h : trimL A = []
  · rw [if_pos h]; rfl
  · rw [if_neg h, trimL_idem, if_neg h]
theorem dB_idem (B : List UInt8) : dB (dB B) = dB B := by
  unfold dB orN
  have hi : trimR (trimR B) = trimR B := by
    have := trimL_idem B.reverse
    unfold trimL at this
    unfold trimR
    rw [List.reverse_reverse, this]
  by_cases h : trimR B = []
  · rw [if_pos h]; rfl
  · rw [if_neg h, hi, if_neg h]
def TrueP3 (w : World) (e : Ending) (w' : World) : Prop := e = .returned (.bool true) ∧ w.grownBy w' none
set_option maxRecDepth 100000 in
set_option maxHeartbeats 8000000 in
theorem digits_law (a b : Nat) (bh : Int) (w : World) (hb : b < 18446744073709551616) (hG : Gl w) : Calls Tryz.prog 3 #[.int .u64 a, .int .u64 b, .int .i64 bh] w (TrueP3 w) := by
  obtain ⟨k7, hk7, hk8⟩ := and_le bh 7 (by decide)
  have k70 : (0 : Int) ≤ k7 := by omega
  have k71 : (k7 : Int) ≤ 7 := by omega
  have CN : Hid (∀ W, Calls Tryz.prog 4 #[.int .u64 0, .int .i64 0] W fun e w' => e = .returned (.string ⟨#[]⟩) ∧ w' = W) := number_nil
  have HG := hid hG
  have am : (a : Int) % 10000000 = ((a % 10000000 : Nat) : Int) := by omega
  have a9 : a % 10000000 < 10000000 := Nat.mod_lt _ (by decide)
  generalize a % 10000000 = n0 at *
  clear hG hk8
  have hk7' : bits .and .i64 bh 7 = (k7 : Int) := hk7
  clear hk7
  go_enter Tryz.func3, Tryz.ntmps3
  go_wp2_with (go_at_call 4; refine (CN.out _).mono ?_; clear CN; rintro e w1 ⟨rfl, hw⟩; have hw2 := hw.symm; clear hw; subst hw2)
  go_loopw [8, 9, 10] (fun s n i wr => ∃ (A : List UInt8) (m j : Nat), s = .string (mkS A) ∧ n = .int .u64 m ∧ i = .int .i64 j ∧ A.length = j ∧ j ≤ 7 ∧ m < 10000000 ∧ (∀ c ∈ A, isD c) ∧ w.grownBy wr none) (fun _ _ i _ => 7 - (intOf i).toNat)
  case atStart => exact ⟨[], n0, 0, rfl, by rw [am], rfl, rfl, Nat.zero_le _, a9, (fun c hc => by cases hc), grown_refl _ _⟩
  case round =>
    obtain ⟨A, m, j, rfl, rfl, rfl, hlen, hj, hm, hdA, hgr⟩ := hrel
    by_cases hj7 : j < 7
    · have j1 : (j : Int) < 7 := by omega
      have m1 : (m : Int) % 10 = ((m % 10 : Nat) : Int) := by omega
      have m2 : (m : Int) / 10 = ((m / 10 : Nat) : Int) := by omega
      have m3 : m % 10 ≤ 9 := by omega
      have m4 : (48 : Int) + ((m % 10 : Nat) : Int) = ((48 + m % 10 : Nat) : Int) := by omega
      have C1 := one_new wr (48 + m % 10) (by omega)
      have D1 := hid (dig_new (m % 10) m3)
      have m5 : m / 10 < 10000000 := by omega
      have e1 : mkS [UInt8.ofNat (48 + m % 10)] ++ mkS A = mkS (UInt8.ofNat (48 + m % 10) :: A) := app_mk _ _
      have f1 : ¬ 9223372036854775807 < (mkS [UInt8.ofNat (48 + m % 10)]).size + (mkS A).size := by rw [mkS_size, mkS_size, List.length_singleton]; omega
      have HD := hid hdA
      have GR := hid hgr
      have HL := hid hlen
      generalize m % 10 = d at *
      generalize m / 10 = m' at *
      obtain ⟨c, hc⟩ : ∃ c, 48 + d = c := ⟨_, rfl⟩
      rw [hc] at m4 C1 D1 e1 f1
      have c1 : (c : Int) ≤ 57 := by omega
      have c0 : (0 : Int) ≤ c := by omega
      clear hdA hgr hlen hc m3 hm
      go_wp2
      refine ⟨⟨UInt8.ofNat c :: A, m', j + 1, rfl, rfl, by go_num, by rw [List.length_cons, HL.out], by omega, m5, fun x hx => ?_, grown_alloc GR.out _⟩, by simp [intOf]; omega⟩
      rcases List.mem_cons.1 hx with rfl | hx
      · exact D1.out
      · exact HD.out x hx
    · have hj7' : j = 7 := by omega
      subst hj7'
      have e1 : mkS A ++ ⟨#[46]⟩ = mkS (A ++ [46]) := app_mk A [46]
      have f1 : ¬ 9223372036854775807 < (mkS A).size + 1 := by rw [mkS_size]; omega
      have HD := hid hdA
      have GR := hid hgr
      have HL := hid hlen
      clear hdA hgr hlen hj hj7 hm am a9
      go_wp2
      go_loopw [8, 11, 12] (fun s n i wr => ∃ (B : List UInt8) (m j : Nat), s = .string (mkS (A ++ 46 :: B)) ∧ n = .int .u64 m ∧ i = .int .i64 j ∧ B.length = j ∧ j ≤ k7 + 1 ∧ m < 18446744073709551616 ∧ (∀ c ∈ B, isD c) ∧ w.grownBy wr none) (fun _ _ i _ => k7 + 1 - (intOf i).toNat)
      case atStart => exact ⟨[], b, 0, rfl, rfl, rfl, rfl, Nat.zero_le _, hb, (fun c hc => by cases hc), GR.out⟩
      case round =>
        obtain ⟨B, m, j, rfl, rfl, rfl, hlen, hj, hm, hdB, hgr⟩ := hrel
        by_cases hjk : j < k7 + 1
        · have j1 : (j : Int) < k7 + 1 := by omega
          have j2 : (j : Int) ≤ 8 := by omega
          have m1 : (m : Int) % 10 = ((m % 10 : Nat) : Int) := by omega
          have m2 : (m : Int) / 10 = ((m / 10 : Nat) : Int) := by omega
          have m3 : m % 10 ≤ 9 := by omega
          have m4 : (48 : Int) + ((m % 10 : Nat) : Int) = ((48 + m % 10 : Nat) : Int) := by omega
          have C1 := one_new wr (48 + m % 10) (by omega)
          have D1 := hid (dig_new (m % 10) m3)
          have m5 : m / 10 < 18446744073709551616 := by omega
          have m6 : IntKind.u64.wrap ((m / 10 : Nat) : Int) = ((m / 10 : Nat) : Int) := by rw [IntKind.wrap_u64]; omega
          have e2 : mkS (A ++ 46 :: B) ++ mkS [UInt8.ofNat (48 + m % 10)] = mkS (A ++ 46 :: (B ++ [UInt8.ofNat (48 + m % 10)])) := by rw [app_mk]; simp
          have f2 : ¬ 9223372036854775807 < (mkS (A ++ 46 :: B)).size + (mkS [UInt8.ofNat (48 + m % 10)]).size := by rw [mkS_size, mkS_size, List.length_singleton, List.length_append, List.length_cons, HL.out]; omega
          have HD2 := hid hdB
          have GR2 := hid hgr
          have HL2 := hid hlen
          have M5 := hid m5
          generalize m % 10 = d at *
          generalize m / 10 = m' at *
          obtain ⟨c, hc⟩ : ∃ c, 48 + d = c := ⟨_, rfl⟩
          rw [hc] at m4 C1 D1 e2 f2
          have c1 : (c : Int) ≤ 57 := by omega
          have c0 : (0 : Int) ≤ c := by omega
          clear hdB hgr hlen hc m3 hm m5 e1 f1 hb
          generalize mkS (A ++ 46 :: B) = SS at *
          go_wp2
          refine ⟨⟨B ++ [UInt8.ofNat c], m', j + 1, rfl, by first | rfl | rw [m6], by go_num, by rw [List.length_append, List.length_singleton, HL2.out], by omega, M5.out, fun x hx => ?_, grown_alloc GR2.out _⟩, by simp [intOf]; omega⟩
          rcases List.mem_append.1 hx with hx | hx
          · exact HD2.out x hx
          · rw [List.mem_singleton] at hx; subst hx; exact D1.out
        · have hjk' : j = k7 + 1 := by omega
          have j1 : ¬ (j : Int) < k7 + 1 := by omega
          have lB : B.length ≤ 8 := by omega
          have lB1 : 1 ≤ B.length := by omega
          have lA : A.length = 7 := HL.out
          have pB : (dB B).length ≤ 8 := orN_le _ 8 (by decide) (by have := trimR_len B; omega)
          have pB1 : 1 ≤ (dB B).length := orN_len _
          have pA : (dA A).length ≤ 7 := orN_le _ 7 (by decide) (by have := trimL_len A; omega)
          have gW := HG.out.kept hgr
          have GW := hid gW
          have C5 : Hid (∀ W, Calls Tryz.prog 5 #[.string (mkS (A ++ 46 :: B))] W (GrP (.string (mkS (dA A ++ 46 :: dB B))) W)) := fun W => digits_any A B W HD.out hdB (by omega)
          have C6 : Hid (∀ W, Calls Tryz.prog 6 #[.string (mkS (dA A ++ 46 :: dB B))] W fun e w' => e = .returned (.tuple #[.int .i64 (dM A B : Nat), .int .i64 ((dB B).length : Nat)]) ∧ w' = W) := fun W => parts_any _ _ W (dA_dig HD.out) (dB_dig hdB) (by omega)
          have C8 : Hid (∀ W, wr.grownBy W none → Calls Tryz.prog 8 #[.string (mkS (dA A ++ 46 :: dB B))] W (GrP (.int .i64 (quo (dM A B) (dB B).length : Nat)) W)) := fun W hW => by
            have := bits_any (dA A) (dB B) W (gW.kept hW) (dA_dig HD.out) (dB_dig hdB) pA pB
            unfold dM at this ⊢
            rw [dA_idem, dB_idem] at this
            exact this
          have C9 : Hid (∀ W, wr.grownBy W none → Calls Tryz.prog 9 #[.string (mkS (A ++ 46 :: B))] W (FlP A B W)) := fun W hW => float_any A B W (gW.kept hW) HD.out hdB (by omega) lB
          have C11 : Hid (∀ W, Calls Tryz.prog 11 #[.string (mkS (A ++ 46 :: B))] W (StP (dA A ++ 46 :: dB B) W)) := fun W => rdigits_any A B W HD.out hdB (by omega) lB1 (by omega)
          have C5b : Hid (∀ W, Calls Tryz.prog 5 #[.string (mkS (dA A ++ 46 :: dB B))] W (GrP (.string (mkS (dA A ++ 46 :: dB B))) W)) := fun W => by
            have := digits_any (dA A) (dB B) W (dA_dig HD.out) (dB_dig hdB) (by omega)
            rw [dA_idem, dB_idem] at this
            exact this
          have CA : Hid (∀ W, Calls Tryz.prog 10 #[] W fun e w' => e = .returned (.bool true) ∧ W.grownBy w' none) := Tr.awake_any
          obtain ⟨_, Q2, Q3⟩ := quo_is (dM A B) (dB B).length pB1 pB
          have QR : ∀ W, (binOp BinOp.quo 28 (.float .f64 (floatOfInt .f64 (dM A B))) (.float .f64 (floatOfInt .f64 ((10 ^ (dB B).length : Nat) : Int)))).run Tryz.prog W = .ok (.float .f64 (quo (dM A B) (dB B).length)) W := fun W => quo_run _ _ W pB1 pB
          unfold FlP at C9
          unfold StP at C11
          have GR2 := hid hgr
          have q3 : (quo (dM A B) (dB B).length : Int) < 9223372036854775808 := by omega
          clear hb hlen hj hjk hm hdB hgr lB lB1 lA pB1 pA gW e1 f1 HD HL GR HG Q3 GW
          generalize mkS (A ++ 46 :: B) = S at *
          generalize mkS (dA A ++ 46 :: dB B) = R at *
          generalize quo (dM A B) (dB B).length = q at *
          generalize dM A B = M at *
          generalize (dB B).length = P at *
          have q1 : IntKind.u64.wrap (q : Int) = (q : Int) := by rw [IntKind.wrap_u64]; omega
          have q4 : (0 : Int) ≤ q := by omega
          have FB : ∀ W, (callFunc 7 #[.int .u64 (q : Int)]).run Tryz.prog W = .ok (.value (.float .f64 q)) W := fun W => by
            kernel_rfl
          have pP : (P : Int) ≤ 8 := by omega
          have W0 := hid (grown_refl wr none)
          go_wp2_with (first
            | (go_at_call 5; refine (C5.out _).mono ?_; clear C5; rintro e w2 ⟨rfl, hg⟩; have G2 := hid hg; clear hg)
            | (go_at_call 6; refine (C6.out _).mono ?_; clear C6; rintro e w3 ⟨rfl, hw⟩; have hw2 := hw.symm; clear hw; subst hw2))
          go_loop [16, 17] (fun sc i => ∃ T j : Nat, sc = .int .i64 T ∧ T = 10 ^ j ∧ i = .int .i64 j ∧ j ≤ P) (fun _ i => P - (intOf i).toNat)
          case atStart => exact ⟨1, 0, rfl, rfl, rfl, Nat.zero_le _⟩
          case round =>
            obtain ⟨T, j, rfl, hT, rfl, hj⟩ := hrel
            have j0 : (0 : Int) ≤ j := by omega
            by_cases hjP : j < P
            · have i1 : (j : Int) < P := by omega
              have t1 : T ≤ 10 ^ 8 := by rw [hT]; exact Nat.pow_le_pow_right (by decide) (by omega)
              have t2 : (T : Int) ≤ 100000000 := by omega
              have t0 : (0 : Int) ≤ T := by omega
              have HT : Hid (T * 10 = 10 ^ (j + 1)) := by show T * 10 = 10 ^ (j + 1); rw [Nat.pow_succ, ← hT]
              have tw : IntKind.i64.wrap ((T : Int) * 10) = ((T * 10 : Nat) : Int) := by rw [IntKind.wrap_i64]; omega
              clear hT t1 C5b C8 C9 C11 CA QR FB Q2
              go_wp2
              go_round
              case rel => exact ⟨T * 10, j + 1, by go_num, HT.out, by go_num, by omega⟩
              case measure => simp [intOf]; omega
            · have i1 : ¬ (j : Int) < P := by omega
              have hjP' : j = P := by omega
              rw [hjP', ] at hT
              rw [← hT] at QR
              clear hT hjP hjP' hj pB
              go_upto_region 25 with (first
                | (go_at_call 8; refine (C8.out _ G2.out).mono ?_; rintro e w4 ⟨rfl, hg⟩; have G4 := hid (grown_pre G2.out hg); clear hg)
                | (go_at_call 9; refine (C9.out _ G4.out).mono ?_; clear C9; rintro e w5 ⟨rfl, hg⟩; have G5 := hid (grown_pre G4.out hg); clear hg))
              have B5 := Blk.new w5 33 #[.int .i64 21, .int .i64 0, .string R, .int .i64 (q : Int), .slice none 0 0]
              have g6 : w5.grownBy (w5.alloc (.cells #[.int .i64 21, .int .i64 0, .string R, .int .i64 (q : Int), .slice none 0 0] 33)) none := grown_alloc (grown_refl w5 none) _
              generalize w5.alloc (.cells #[.int .i64 21, .int .i64 0, .string R, .int .i64 (q : Int), .slice none 0 0] 33) = w6 at *
              have G6 := hid (grown_pre G5.out g6)
              have SS : Hid (∀ V, w6.grownBy V none → V.cell? ⟨w5.heap.size, 0, none⟩ = some (.int .i64 21) ∧ V.cell? ⟨w5.heap.size, 2, none⟩ = some (.string R) ∧ V.cell? ⟨w5.heap.size, 3, none⟩ = some (.int .i64 (q : Int))) := fun V hV => ⟨(B5.kept hV (by simp)).cell 0, (B5.kept hV (by simp)).cell 2, (B5.kept hV (by simp)).cell 3⟩
              have C8' : Hid (∀ V, w6.grownBy V none → Calls Tryz.prog 8 #[.string R] V (GrP (.int .i64 (q : Nat)) V)) := fun V hV => C8.out V (grown_pre G6.out hV)
              have GF := hid (grown_pre GR2.out G6.out)
              clear B5 g6 C8 G2 G4 G5 G6 FB GR2 W0 q1
              go_cut [6] (fun c6 W => c6 = .bool true ∧ w6.grownBy W none)
              case first =>
                obtain ⟨x0, x2, x3⟩ := SS.out w6 (grown_refl _ _)
                have GD : w6.grownBy w6.drew none := grown_drew (grown_refl _ _)
                clear GF
                go_region_held3 (fun V => V.cell? ⟨w5.heap.size, 0, none⟩ = some (.int .i64 21) ∧ V.cell? ⟨w5.heap.size, 2, none⟩ = some (.string R) ∧ V.cell? ⟨w5.heap.size, 3, none⟩ = some (.int .i64 (q : Int))) (first | assumption | go_keep) (first
                  | (go_at_call 10; refine (CA.out _).mono ?_; clear CA; rintro e u1 ⟨rfl, hg1⟩; have GN1 : w6.grownBy u1 none := grown_pre (by assumption) hg1; have SN1 := SS.out u1 GN1)
                  | (go_at_call 11; refine (C11.out _).mono ?_; clear C11; rintro e u2 ⟨rfl, hw⟩; have hw2 := hw.symm; clear hw; subst hw2)
                  | (go_at_call 5; refine (C5b.out _).mono ?_; clear C5b; rintro e u3 ⟨rfl, hg3⟩; have GN3 : w6.grownBy u3 none := grown_pre GN1 hg3; have SN3 := SS.out u3 GN3)
                  | (go_at_call 8; refine (C8'.out _ GN3).mono ?_; clear C8'; rintro e u4 ⟨rfl, hg4⟩; have GN4 : w6.grownBy u4 none := grown_pre GN3 hg4; have SN4 := SS.out u4 GN4))
                all_goals (
                  (try go_wp2_with fail)
                  go_meet
                  exact ⟨by simp, by assumption⟩)
              case rest =>
                obtain ⟨rfl, hgd⟩ := hcut
                go_wp2
                go_ret
                exact ⟨rfl, grown_pre GF.out hgd⟩
end Go.Proofs.YtdodammplhlihaaGreatDoor
