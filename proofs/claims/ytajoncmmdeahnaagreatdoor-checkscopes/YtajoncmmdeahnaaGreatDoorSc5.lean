/-
  CheckScopes: the law's walk.
-/
import Derived.Test.YtajoncmmdeahnaaGreatDoorKSc4
import Derived.Deep.CutRange
import Derived.Deep.CutBlock
import Derived.Deep.DeepCutAuto
namespace Go.Proofs.YtajoncmmdeahnaaGreatDoor
open Go.RowKit
namespace Sc
theorem txW_len (k n a : Nat) (hn : n < 8) : (txW k n a).length ≤ 4096 := by
  have h1 := hdL_len (n + 1)
  have h2 := tlL_len (n + 1)
  have h3 : (nmL a).length = 2 := rfl
  unfold txW
  split
  · unfold tx0; simp only [List.length_append, List.length_cons, List.length_nil]; omega
  · unfold tx1; simp only [List.length_append, List.length_cons, List.length_nil]; omega
  · unfold tx2; simp only [List.length_append, List.length_cons, List.length_nil]; omega
  · unfold tx3; simp only [List.length_append, List.length_cons, List.length_nil]; omega
set_option maxRecDepth 100000 in
set_option maxHeartbeats 60000000 in
theorem scopes_law (deep use wh : Int) (w : World) (hG : Pm.GlB w w.heap.size) : Calls Tryz.prog 4 #[.int .i64 deep, .int .i64 use, .int .i64 wh] w (TrueP w) := by
  obtain ⟨n, hn0, hn⟩ := and_le deep 7 (by decide)
  obtain ⟨a, ha0, ha⟩ := and_le use 7 (by decide)
  obtain ⟨k, hk0, hk⟩ := and_le wh 3 (by decide)
  have hn1 : bits .and .i64 deep 7 = (n : Int) := hn0
  have ha1 : bits .and .i64 use 7 = (a : Int) := ha0
  have hk1 : bits .and .i64 wh 3 = (k : Int) := hk0
  replace hn : n < 8 := by omega
  replace ha : a < 8 := by omega
  replace hk : k < 4 := by omega
  have n7 : (n : Int) ≤ 7 := by omega
  have GG := hid (glb_all hG)
  clear hn0 ha0 hk0 hG
  go_enter Tryz.func4, Tryz.ntmps4
  go_wp2
  go_loopw [9, 10, 11] (fun h t i wr => ∃ j : Nat, j ≤ n + 1 ∧ h = .string (mkS (hdL j)) ∧ t = .string (mkS (tlL j)) ∧ i = .int .i64 j ∧ w.grownBy wr none) (fun _ _ i _ => n + 1 - (intOf i).toNat)
  case atStart => exact ⟨0, Nat.zero_le _, rfl, rfl, rfl, grown_refl _ _⟩
  case round =>
    obtain ⟨j, hj, rfl, rfl, rfl, hg⟩ := hrel
    have G0 := hid hg
    have j0 : (0 : Int) ≤ j := by omega
    have j7 : (j : Int) ≤ 8 := by omega
    have lH := hdL_len j
    have lT := tlL_len j
    have sH := mkS_size (hdL j)
    have sT := mkS_size (tlL j)
    obtain ⟨H, eH⟩ : ∃ H, mkS (hdL j) = H := ⟨_, rfl⟩
    obtain ⟨T, eT⟩ : ∃ T, mkS (tlL j) = T := ⟨_, rfl⟩
    rw [eH] at sH ⊢
    rw [eT] at sT ⊢
    by_cases hjn : j ≤ n
    · have j1 : (j : Int) ≤ n := by omega
      have m4 : (48 : Int) + (j : Int) = ((48 + j : Nat) : Int) := by omega
      have C1 := one_new wr (48 + j) (by omega)
      obtain ⟨D, eD⟩ : ∃ D, mkS [UInt8.ofNat (48 + j)] = D := ⟨_, rfl⟩
      have sD : D.size = 1 := by rw [← eD]; rfl
      rw [eD] at C1
      obtain ⟨c, hc⟩ : ∃ c, 48 + j = c := ⟨_, rfl⟩
      have hc1 : (c : Int) ≤ 56 := by omega
      have hc0 : (0 : Int) ≤ c := by omega
      rw [hc] at m4 C1
      obtain ⟨E1, e1⟩ : ∃ Z : ByteArray, (⟨#[123, 32, 120]⟩ : ByteArray) ++ D = Z := ⟨_, rfl⟩
      have s1 : E1.size = 3 + D.size := by rw [← e1, ByteArray.size_append]; rfl
      have f1 : ¬ 9223372036854775807 < 3 + D.size := by omega
      obtain ⟨E2, e2⟩ : ∃ Z : ByteArray, E1 ++ (⟨#[32, 58, 61, 32, 49, 59, 32]⟩ : ByteArray) = Z := ⟨_, rfl⟩
      have s2 : E2.size = E1.size + 7 := by rw [← e2, ByteArray.size_append]; rfl
      have f2 : ¬ 9223372036854775807 < E1.size + 7 := by omega
      obtain ⟨T1, e4⟩ : ∃ Z : ByteArray, T ++ (⟨#[32, 125]⟩ : ByteArray) = Z := ⟨_, rfl⟩
      have f4 : ¬ 9223372036854775807 < T.size + 2 := by omega
      have HT := hid (tl_step j T1 (by rw [eT]; exact e4))
      by_cases jp : (0 : Int) < j
      · obtain ⟨H0, e0⟩ : ∃ Z : ByteArray, H ++ (⟨#[105, 102, 32, 116, 114, 117, 101, 32]⟩ : ByteArray) = Z := ⟨_, rfl⟩
        have s0 : H0.size = H.size + 8 := by rw [← e0, ByteArray.size_append]; rfl
        have f0 : ¬ 9223372036854775807 < H.size + 8 := by omega
        obtain ⟨H1, e3⟩ : ∃ Z : ByteArray, H0 ++ E2 = Z := ⟨_, rfl⟩
        have f3 : ¬ 9223372036854775807 < H0.size + E2.size := by omega
        have HH := hid (hd_step1 j jp H1 D E1 E2 H0 eD e1 e2 (by rw [eH]; exact e0) e3)
        clear eH eT eD s0 s1 s2 sD sH sT lH lT hc
        go_wp2
        go_roundw
        case rel => exact ⟨j + 1, by omega, by rw [HH.out], by rw [HT.out], by go_num, grown_alloc G0.out _⟩
        case measure => simp [intOf]; omega
      · obtain ⟨H1, e3⟩ : ∃ Z : ByteArray, H ++ E2 = Z := ⟨_, rfl⟩
        have f3 : ¬ 9223372036854775807 < H.size + E2.size := by omega
        have HH := hid (hd_step0 j jp H1 D E1 E2 eD e1 e2 (by rw [eH]; exact e3))
        clear eH eT eD s1 s2 sD sH sT lH lT hc
        go_wp2
        go_roundw
        case rel => exact ⟨j + 1, by omega, by rw [HH.out], by rw [HT.out], by go_num, grown_alloc G0.out _⟩
        case measure => simp [intOf]; omega
    · have j1 : ¬ (j : Int) ≤ n := by omega
      have hjn2 : j = n + 1 := by omega
      have HH : Hid (H = mkS (hdL (n + 1))) := hid (by rw [← hjn2]; exact eH.symm)
      have TT : Hid (T = mkS (tlL (n + 1))) := hid (by rw [← hjn2]; exact eT.symm)
      replace sH : H.size ≤ 200 := by omega
      replace sT : T.size ≤ 200 := by omega
      have m4 : (48 : Int) + (a : Int) = ((48 + a : Nat) : Int) := by omega
      have C1 := one_new wr (48 + a) (by omega)
      obtain ⟨D, eD⟩ : ∃ D, mkS [UInt8.ofNat (48 + a)] = D := ⟨_, rfl⟩
      have sD : D.size = 1 := by rw [← eD]; rfl
      rw [eD] at C1
      obtain ⟨c, hc⟩ : ∃ c, 48 + a = c := ⟨_, rfl⟩
      have hc1 : (c : Int) ≤ 56 := by omega
      have hc0 : (0 : Int) ≤ c := by omega
      rw [hc] at m4 C1
      obtain ⟨N, eN⟩ : ∃ Z : ByteArray, (⟨#[120]⟩ : ByteArray) ++ D = Z := ⟨_, rfl⟩
      have sN : N.size = 1 + D.size := by rw [← eN, ByteArray.size_append]; rfl
      have fN : ¬ 9223372036854775807 < 1 + D.size := by omega
      have EN := hid (nm_step a D N eD eN)
      have GN := hid (grown_alloc hg (.cells #[.int .u8 (c : Int)] 5))
      replace sN : N.size = 2 := by omega
      clear eH eT eD hc lH lT hj hjn hg hjn2 j0 j7 sD
      by_cases hna : n < a
      · have q1 : (n : Int) < a := by omega
        have q2 : ¬ (a : Int) ≤ n := by omega
        have q3 : ¬ a ≤ n := by omega
        obtain ⟨B1, eB1⟩ : ∃ Z : ByteArray, (⟨#[116, 101, 115, 116, 32, 116, 32]⟩ : ByteArray) ++ H = Z := ⟨_, rfl⟩
        have sB1 : B1.size = 7 + H.size := by rw [← eB1, ByteArray.size_append]; rfl
        have fB1 : ¬ 9223372036854775807 < 7 + H.size := by omega
        obtain ⟨B2, eB2⟩ : ∃ Z : ByteArray, B1 ++ (⟨#[97, 115, 115, 101, 114, 116, 32]⟩ : ByteArray) = Z := ⟨_, rfl⟩
        have sB2 : B2.size = B1.size + 7 := by rw [← eB2, ByteArray.size_append]; rfl
        have fB2 : ¬ 9223372036854775807 < B1.size + 7 := by omega
        obtain ⟨B3, eB3⟩ : ∃ Z : ByteArray, B2 ++ N = Z := ⟨_, rfl⟩
        have sB3 : B3.size = B2.size + N.size := by rw [← eB3, ByteArray.size_append]
        have fB3 : ¬ 9223372036854775807 < B2.size + N.size := by omega
        obtain ⟨B4, eB4⟩ : ∃ Z : ByteArray, B3 ++ (⟨#[32, 61, 61, 32, 49, 59]⟩ : ByteArray) = Z := ⟨_, rfl⟩
        have sB4 : B4.size = B3.size + 6 := by rw [← eB4, ByteArray.size_append]; rfl
        have fB4 : ¬ 9223372036854775807 < B3.size + 6 := by omega
        obtain ⟨B5, eB5⟩ : ∃ Z : ByteArray, B4 ++ T = Z := ⟨_, rfl⟩
        have sB5 : B5.size = B4.size + T.size := by rw [← eB5, ByteArray.size_append]
        have fB5 : ¬ 9223372036854775807 < B4.size + T.size := by omega
        have eX0 := hid (tx0_eq n a H N T B1 B2 B3 B4 B5 HH.out EN.out TT.out eB1 eB2 eB3 eB4 eB5)
        go_upto_block 2 with fail
        go_cut [13, 14] from 64 to 97 (fun c13 c14 W => c13 = .string (mkS (txW k n a)) ∧ c14 = .int .i64 (wantW k n a) ∧ w.grownBy W none)
        case first =>
          rcases (show k = 0 ∨ k = 1 ∨ k = 2 ∨ k = 3 by omega) with rfl | rfl | rfl | rfl
          · clear hk hk1
            have eX := eX0.out
            have eW : ((121 : Nat) : Int) = (wantW 0 n a : Nat) := by unfold wantW; simp [hna]
            have EX := hid eX
            have EW := hid eW
            clear eX eW
            go_wp2
            go_meet
            exact ⟨by rw [← EX.out], by rw [← EW.out]; rfl, GN.out⟩
          · clear hk hk1
            clear eB1 eB2 eB3 eB4 eB5 fB1 fB2 fB3 fB4 fB5 sB1 sB2 sB3 sB4 sB5
            obtain ⟨A1, eA1⟩ : ∃ Z : ByteArray, (⟨#[116, 101, 115, 116, 32, 116, 32, 123, 32, 105, 102, 32, 116, 114, 117, 101, 32]⟩ : ByteArray) ++ H = Z := ⟨_, rfl⟩
            have sA1 : A1.size = 17 + H.size := by rw [← eA1, ByteArray.size_append]; rfl
            have fA1 : ¬ 9223372036854775807 < 17 + H.size := by omega
            obtain ⟨A2, eA2⟩ : ∃ Z : ByteArray, A1 ++ T = Z := ⟨_, rfl⟩
            have sA2 : A2.size = A1.size + T.size := by rw [← eA2, ByteArray.size_append]
            have fA2 : ¬ 9223372036854775807 < A1.size + T.size := by omega
            obtain ⟨A3, eA3⟩ : ∃ Z : ByteArray, A2 ++ (⟨#[32, 97, 115, 115, 101, 114, 116, 32]⟩ : ByteArray) = Z := ⟨_, rfl⟩
            have sA3 : A3.size = A2.size + 8 := by rw [← eA3, ByteArray.size_append]; rfl
            have fA3 : ¬ 9223372036854775807 < A2.size + 8 := by omega
            obtain ⟨A4, eA4⟩ : ∃ Z : ByteArray, A3 ++ N = Z := ⟨_, rfl⟩
            have sA4 : A4.size = A3.size + N.size := by rw [← eA4, ByteArray.size_append]
            have fA4 : ¬ 9223372036854775807 < A3.size + N.size := by omega
            obtain ⟨A5, eA5⟩ : ∃ Z : ByteArray, A4 ++ (⟨#[32, 61, 61, 32, 49, 59, 32, 125]⟩ : ByteArray) = Z := ⟨_, rfl⟩
            have sA5 : A5.size = A4.size + 8 := by rw [← eA5, ByteArray.size_append]; rfl
            have fA5 : ¬ 9223372036854775807 < A4.size + 8 := by omega
            have eX := tx1_eq n a H N T A1 A2 A3 A4 A5 HH.out EN.out TT.out eA1 eA2 eA3 eA4 eA5
            have eW : ((121 : Nat) : Int) = (wantW 1 n a : Nat) := by unfold wantW; rfl
            have EX := hid eX
            have EW := hid eW
            clear eX eW
            go_wp2
            go_meet
            exact ⟨by rw [← EX.out], by rw [← EW.out]; rfl, GN.out⟩
          · clear hk hk1
            clear eB1 eB2 eB3 eB4 eB5 fB1 fB2 fB3 fB4 fB5 sB1 sB2 sB3 sB4 sB5
            obtain ⟨A1, eA1⟩ : ∃ Z : ByteArray, (⟨#[116, 101, 115, 116, 32, 116, 32]⟩ : ByteArray) ++ H = Z := ⟨_, rfl⟩
            have sA1 : A1.size = 7 + H.size := by rw [← eA1, ByteArray.size_append]; rfl
            have fA1 : ¬ 9223372036854775807 < 7 + H.size := by omega
            obtain ⟨A2, eA2⟩ : ∃ Z : ByteArray, A1 ++ N = Z := ⟨_, rfl⟩
            have sA2 : A2.size = A1.size + N.size := by rw [← eA2, ByteArray.size_append]
            have fA2 : ¬ 9223372036854775807 < A1.size + N.size := by omega
            obtain ⟨A3, eA3⟩ : ∃ Z : ByteArray, A2 ++ (⟨#[32, 58, 61, 32, 50, 59]⟩ : ByteArray) = Z := ⟨_, rfl⟩
            have sA3 : A3.size = A2.size + 6 := by rw [← eA3, ByteArray.size_append]; rfl
            have fA3 : ¬ 9223372036854775807 < A2.size + 6 := by omega
            obtain ⟨A4, eA4⟩ : ∃ Z : ByteArray, A3 ++ T = Z := ⟨_, rfl⟩
            have sA4 : A4.size = A3.size + T.size := by rw [← eA4, ByteArray.size_append]
            have fA4 : ¬ 9223372036854775807 < A3.size + T.size := by omega
            have eX := tx2_eq n a H N T A1 A2 A3 A4 HH.out EN.out TT.out eA1 eA2 eA3 eA4
            have eW : ((0 : Nat) : Int) = (wantW 2 n a : Nat) := by unfold wantW; simp [q3]
            have EX := hid eX
            have EW := hid eW
            clear eX eW
            go_wp2
            go_meet
            exact ⟨by rw [← EX.out], by rw [← EW.out]; rfl, GN.out⟩
          · clear hk hk1
            clear eB1 eB2 eB3 eB4 eB5 fB1 fB2 fB3 fB4 fB5 sB1 sB2 sB3 sB4 sB5
            obtain ⟨A1, eA1⟩ : ∃ Z : ByteArray, (⟨#[118, 97, 114, 32]⟩ : ByteArray) ++ N = Z := ⟨_, rfl⟩
            have sA1 : A1.size = 4 + N.size := by rw [← eA1, ByteArray.size_append]; rfl
            have fA1 : ¬ 9223372036854775807 < 4 + N.size := by omega
            obtain ⟨A2, eA2⟩ : ∃ Z : ByteArray, A1 ++ (⟨#[32, 105, 110, 116, 32, 61, 32, 49, 59, 32, 116, 101, 115, 116, 32, 116, 32]⟩ : ByteArray) = Z := ⟨_, rfl⟩
            have sA2 : A2.size = A1.size + 17 := by rw [← eA2, ByteArray.size_append]; rfl
            have fA2 : ¬ 9223372036854775807 < A1.size + 17 := by omega
            obtain ⟨A3, eA3⟩ : ∃ Z : ByteArray, A2 ++ H = Z := ⟨_, rfl⟩
            have sA3 : A3.size = A2.size + H.size := by rw [← eA3, ByteArray.size_append]
            have fA3 : ¬ 9223372036854775807 < A2.size + H.size := by omega
            obtain ⟨A4, eA4⟩ : ∃ Z : ByteArray, A3 ++ T = Z := ⟨_, rfl⟩
            have sA4 : A4.size = A3.size + T.size := by rw [← eA4, ByteArray.size_append]
            have fA4 : ¬ 9223372036854775807 < A3.size + T.size := by omega
            have eX := tx3_eq n a H N T A1 A2 A3 A4 HH.out EN.out TT.out eA1 eA2 eA3 eA4
            have eW : ((0 : Nat) : Int) = (wantW 3 n a : Nat) := by unfold wantW; simp [q3]
            have EX := hid eX
            have EW := hid eW
            clear eX eW
            go_wp2
            go_meet
            exact ⟨by rw [← EX.out], by rw [← EW.out]; rfl, GN.out⟩
        case rest =>
          obtain ⟨rfl, rfl, hg⟩ := hcut
          have GC := hid hg
          obtain ⟨p, x, hp, hq⟩ := codeW k n a hk hn ha
          have TL := hid (txW_len k n a hn)
          clear hg eX0 HH EN TT q1 q2 q3 eB1 eB2 eB3 eB4 eB5 fB1 fB2 fB3 fB4 fB5 sB1 sB2 sB3 sB4 sB5 sH sN sT fN eN C1 hn1 ha1 hk1 hna
          generalize txW k n a = TX at *
          generalize wantW k n a = m at *
          have CP := hid (parse_closed 60 TX p _ TL.out (GG.out _ GC.out) hp)
          have CD := hid (fun W (h : w.grownBy W none) P ps cp hk => check_closed 60 p x m W P ps cp (GG.out W h) hk hq)
          clear hp hq TL
          go_wp2_with (first
            | (go_at_call 9; refine CP.out.mono ?_; rintro e w1 ⟨ps, cp, rfl, hk, hg⟩; have G1 := hid (grown_alloc (grown_none GC.out hg) (.cells #[.int .i64 p.kind, .int .i64 p.ty, .string p.txt, .int .i64 p.num, .slice ps p.kids.length cp] 27)); have C14 := hid (CD.out _ G1.out _ ps cp (hk.kept (grown_alloc (grown_refl _ none) _))); clear CP CD hk hg)
            | (go_at_call 14; refine C14.out.mono ?_; rintro e w2 ⟨kd, ty, tx, nm, qs, ln, cq, rfl, hg⟩; have G2 := hid (grown_alloc (grown_none G1.out hg) (.cells #[.int .i64 kd, .int .i64 ty, .string tx, .int .i64 nm, .slice qs ln cq] 27)); have C15 := hid (awake_any _ (GG.out _ G2.out)); clear C14 G1 hg)
            | (go_at_call 15; refine C15.out.mono ?_; rintro e w3 ⟨rfl, hg⟩; have G3 := hid (grown_none G2.out hg); clear C15 hg))
          go_ret
          exact ⟨rfl, G3.out⟩
      · have q1 : ¬ (n : Int) < a := by omega
        have q2 : (a : Int) ≤ n := by omega
        have q3 : a ≤ n := by omega
        obtain ⟨B1, eB1⟩ : ∃ Z : ByteArray, (⟨#[116, 101, 115, 116, 32, 116, 32]⟩ : ByteArray) ++ H = Z := ⟨_, rfl⟩
        have sB1 : B1.size = 7 + H.size := by rw [← eB1, ByteArray.size_append]; rfl
        have fB1 : ¬ 9223372036854775807 < 7 + H.size := by omega
        obtain ⟨B2, eB2⟩ : ∃ Z : ByteArray, B1 ++ (⟨#[97, 115, 115, 101, 114, 116, 32]⟩ : ByteArray) = Z := ⟨_, rfl⟩
        have sB2 : B2.size = B1.size + 7 := by rw [← eB2, ByteArray.size_append]; rfl
        have fB2 : ¬ 9223372036854775807 < B1.size + 7 := by omega
        obtain ⟨B3, eB3⟩ : ∃ Z : ByteArray, B2 ++ N = Z := ⟨_, rfl⟩
        have sB3 : B3.size = B2.size + N.size := by rw [← eB3, ByteArray.size_append]
        have fB3 : ¬ 9223372036854775807 < B2.size + N.size := by omega
        obtain ⟨B4, eB4⟩ : ∃ Z : ByteArray, B3 ++ (⟨#[32, 61, 61, 32, 49, 59]⟩ : ByteArray) = Z := ⟨_, rfl⟩
        have sB4 : B4.size = B3.size + 6 := by rw [← eB4, ByteArray.size_append]; rfl
        have fB4 : ¬ 9223372036854775807 < B3.size + 6 := by omega
        obtain ⟨B5, eB5⟩ : ∃ Z : ByteArray, B4 ++ T = Z := ⟨_, rfl⟩
        have sB5 : B5.size = B4.size + T.size := by rw [← eB5, ByteArray.size_append]
        have fB5 : ¬ 9223372036854775807 < B4.size + T.size := by omega
        have eX0 := hid (tx0_eq n a H N T B1 B2 B3 B4 B5 HH.out EN.out TT.out eB1 eB2 eB3 eB4 eB5)
        go_upto_block 2 with fail
        go_cut [13, 14] from 64 to 97 (fun c13 c14 W => c13 = .string (mkS (txW k n a)) ∧ c14 = .int .i64 (wantW k n a) ∧ w.grownBy W none)
        case first =>
          rcases (show k = 0 ∨ k = 1 ∨ k = 2 ∨ k = 3 by omega) with rfl | rfl | rfl | rfl
          · clear hk hk1
            have eX := eX0.out
            have eW : ((0 : Nat) : Int) = (wantW 0 n a : Nat) := by unfold wantW; simp [hna]
            have EX := hid eX
            have EW := hid eW
            clear eX eW
            go_wp2
            go_meet
            exact ⟨by rw [← EX.out], by rw [← EW.out]; rfl, GN.out⟩
          · clear hk hk1
            clear eB1 eB2 eB3 eB4 eB5 fB1 fB2 fB3 fB4 fB5 sB1 sB2 sB3 sB4 sB5
            obtain ⟨A1, eA1⟩ : ∃ Z : ByteArray, (⟨#[116, 101, 115, 116, 32, 116, 32, 123, 32, 105, 102, 32, 116, 114, 117, 101, 32]⟩ : ByteArray) ++ H = Z := ⟨_, rfl⟩
            have sA1 : A1.size = 17 + H.size := by rw [← eA1, ByteArray.size_append]; rfl
            have fA1 : ¬ 9223372036854775807 < 17 + H.size := by omega
            obtain ⟨A2, eA2⟩ : ∃ Z : ByteArray, A1 ++ T = Z := ⟨_, rfl⟩
            have sA2 : A2.size = A1.size + T.size := by rw [← eA2, ByteArray.size_append]
            have fA2 : ¬ 9223372036854775807 < A1.size + T.size := by omega
            obtain ⟨A3, eA3⟩ : ∃ Z : ByteArray, A2 ++ (⟨#[32, 97, 115, 115, 101, 114, 116, 32]⟩ : ByteArray) = Z := ⟨_, rfl⟩
            have sA3 : A3.size = A2.size + 8 := by rw [← eA3, ByteArray.size_append]; rfl
            have fA3 : ¬ 9223372036854775807 < A2.size + 8 := by omega
            obtain ⟨A4, eA4⟩ : ∃ Z : ByteArray, A3 ++ N = Z := ⟨_, rfl⟩
            have sA4 : A4.size = A3.size + N.size := by rw [← eA4, ByteArray.size_append]
            have fA4 : ¬ 9223372036854775807 < A3.size + N.size := by omega
            obtain ⟨A5, eA5⟩ : ∃ Z : ByteArray, A4 ++ (⟨#[32, 61, 61, 32, 49, 59, 32, 125]⟩ : ByteArray) = Z := ⟨_, rfl⟩
            have sA5 : A5.size = A4.size + 8 := by rw [← eA5, ByteArray.size_append]; rfl
            have fA5 : ¬ 9223372036854775807 < A4.size + 8 := by omega
            have eX := tx1_eq n a H N T A1 A2 A3 A4 A5 HH.out EN.out TT.out eA1 eA2 eA3 eA4 eA5
            have eW : ((121 : Nat) : Int) = (wantW 1 n a : Nat) := by unfold wantW; rfl
            have EX := hid eX
            have EW := hid eW
            clear eX eW
            go_wp2
            go_meet
            exact ⟨by rw [← EX.out], by rw [← EW.out]; rfl, GN.out⟩
          · clear hk hk1
            clear eB1 eB2 eB3 eB4 eB5 fB1 fB2 fB3 fB4 fB5 sB1 sB2 sB3 sB4 sB5
            obtain ⟨A1, eA1⟩ : ∃ Z : ByteArray, (⟨#[116, 101, 115, 116, 32, 116, 32]⟩ : ByteArray) ++ H = Z := ⟨_, rfl⟩
            have sA1 : A1.size = 7 + H.size := by rw [← eA1, ByteArray.size_append]; rfl
            have fA1 : ¬ 9223372036854775807 < 7 + H.size := by omega
            obtain ⟨A2, eA2⟩ : ∃ Z : ByteArray, A1 ++ N = Z := ⟨_, rfl⟩
            have sA2 : A2.size = A1.size + N.size := by rw [← eA2, ByteArray.size_append]
            have fA2 : ¬ 9223372036854775807 < A1.size + N.size := by omega
            obtain ⟨A3, eA3⟩ : ∃ Z : ByteArray, A2 ++ (⟨#[32, 58, 61, 32, 50, 59]⟩ : ByteArray) = Z := ⟨_, rfl⟩
            have sA3 : A3.size = A2.size + 6 := by rw [← eA3, ByteArray.size_append]; rfl
            have fA3 : ¬ 9223372036854775807 < A2.size + 6 := by omega
            obtain ⟨A4, eA4⟩ : ∃ Z : ByteArray, A3 ++ T = Z := ⟨_, rfl⟩
            have sA4 : A4.size = A3.size + T.size := by rw [← eA4, ByteArray.size_append]
            have fA4 : ¬ 9223372036854775807 < A3.size + T.size := by omega
            have eX := tx2_eq n a H N T A1 A2 A3 A4 HH.out EN.out TT.out eA1 eA2 eA3 eA4
            have eW : ((120 : Nat) : Int) = (wantW 2 n a : Nat) := by unfold wantW; simp [q3]
            have EX := hid eX
            have EW := hid eW
            clear eX eW
            go_wp2
            go_meet
            exact ⟨by rw [← EX.out], by rw [← EW.out]; rfl, GN.out⟩
          · clear hk hk1
            clear eB1 eB2 eB3 eB4 eB5 fB1 fB2 fB3 fB4 fB5 sB1 sB2 sB3 sB4 sB5
            obtain ⟨A1, eA1⟩ : ∃ Z : ByteArray, (⟨#[118, 97, 114, 32]⟩ : ByteArray) ++ N = Z := ⟨_, rfl⟩
            have sA1 : A1.size = 4 + N.size := by rw [← eA1, ByteArray.size_append]; rfl
            have fA1 : ¬ 9223372036854775807 < 4 + N.size := by omega
            obtain ⟨A2, eA2⟩ : ∃ Z : ByteArray, A1 ++ (⟨#[32, 105, 110, 116, 32, 61, 32, 49, 59, 32, 116, 101, 115, 116, 32, 116, 32]⟩ : ByteArray) = Z := ⟨_, rfl⟩
            have sA2 : A2.size = A1.size + 17 := by rw [← eA2, ByteArray.size_append]; rfl
            have fA2 : ¬ 9223372036854775807 < A1.size + 17 := by omega
            obtain ⟨A3, eA3⟩ : ∃ Z : ByteArray, A2 ++ H = Z := ⟨_, rfl⟩
            have sA3 : A3.size = A2.size + H.size := by rw [← eA3, ByteArray.size_append]
            have fA3 : ¬ 9223372036854775807 < A2.size + H.size := by omega
            obtain ⟨A4, eA4⟩ : ∃ Z : ByteArray, A3 ++ T = Z := ⟨_, rfl⟩
            have sA4 : A4.size = A3.size + T.size := by rw [← eA4, ByteArray.size_append]
            have fA4 : ¬ 9223372036854775807 < A3.size + T.size := by omega
            have eX := tx3_eq n a H N T A1 A2 A3 A4 HH.out EN.out TT.out eA1 eA2 eA3 eA4
            have eW : ((120 : Nat) : Int) = (wantW 3 n a : Nat) := by unfold wantW; simp [q3]
            have EX := hid eX
            have EW := hid eW
            clear eX eW
            go_wp2
            go_meet
            exact ⟨by rw [← EX.out], by rw [← EW.out]; rfl, GN.out⟩
        case rest =>
          obtain ⟨rfl, rfl, hg⟩ := hcut
          have GC := hid hg
          obtain ⟨p, x, hp, hq⟩ := codeW k n a hk hn ha
          have TL := hid (txW_len k n a hn)
          clear hg eX0 HH EN TT q1 q2 q3 eB1 eB2 eB3 eB4 eB5 fB1 fB2 fB3 fB4 fB5 sB1 sB2 sB3 sB4 sB5 sH sN sT fN eN C1 hn1 ha1 hk1 hna
          generalize txW k n a = TX at *
          generalize wantW k n a = m at *
          have CP := hid (parse_closed 60 TX p _ TL.out (GG.out _ GC.out) hp)
          have CD := hid (fun W (h : w.grownBy W none) P ps cp hk => check_closed 60 p x m W P ps cp (GG.out W h) hk hq)
          clear hp hq TL
          go_wp2_with (first
            | (go_at_call 9; refine CP.out.mono ?_; rintro e w1 ⟨ps, cp, rfl, hk, hg⟩; have G1 := hid (grown_alloc (grown_none GC.out hg) (.cells #[.int .i64 p.kind, .int .i64 p.ty, .string p.txt, .int .i64 p.num, .slice ps p.kids.length cp] 27)); have C14 := hid (CD.out _ G1.out _ ps cp (hk.kept (grown_alloc (grown_refl _ none) _))); clear CP CD hk hg)
            | (go_at_call 14; refine C14.out.mono ?_; rintro e w2 ⟨kd, ty, tx, nm, qs, ln, cq, rfl, hg⟩; have G2 := hid (grown_alloc (grown_none G1.out hg) (.cells #[.int .i64 kd, .int .i64 ty, .string tx, .int .i64 nm, .slice qs ln cq] 27)); have C15 := hid (awake_any _ (GG.out _ G2.out)); clear C14 G1 hg)
            | (go_at_call 15; refine C15.out.mono ?_; rintro e w3 ⟨rfl, hg⟩; have G3 := hid (grown_none G2.out hg); clear C15 hg))
          go_ret
          exact ⟨rfl, G3.out⟩
end Sc
end Go.Proofs.YtajoncmmdeahnaaGreatDoor
