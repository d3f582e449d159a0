/-
  The document's Decode, where the first byte says true.
-/
import Derived.Test.YtomknaendicpkaaRdec
namespace Go.Proofs.Ytomknaendicpkaa
open Go.RowKit
set_option maxRecDepth 100000 in
set_option maxHeartbeats 4000000 in
theorem rdecode_true (s : ByteArray) (w : World) (hs : (s.size : Int) ≤ 9223372036854775807) (hl : ((bolN s : Int) == 1) = true) : Calls Try.prog 15 #[.string s] w (DecPost w (decP s) (decE s)) := by
  have C1 : Hid (∀ W, Calls Try.prog 34 #[.agg #[.string s, .int .i64 0, .int .i64 0]] W fun e w' => e = .returned (.tuple #[.agg #[.string (bolR (r0 s)).s, .int .i64 (bolR (r0 s)).a, .int .i64 (bolR (r0 s)).e], .bool ((bolN s : Int) == 1)]) ∧ W.grownBy w' none) := fun W => refBool_any s 0 0 W (fun h => absurd rfl h) (by simpa using hs)
  have m1 := bolR_room (r0 s)
  have m0 : (r0 s).room = s.size := by unfold Rs.room r0; simp
  have C2 : Hid (∀ W, Calls Try.prog 35 #[.agg #[.string (bolR (r0 s)).s, .int .i64 (bolR (r0 s)).a, .int .i64 (bolR (r0 s)).e], .int .i64 1] W fun e w' => e = .returned (.tuple #[.agg #[.string (oneR (bolR (r0 s))).s, .int .i64 (oneR (bolR (r0 s))).a, .int .i64 (oneR (bolR (r0 s))).e], .int .u64 ((oneN (bolR (r0 s)) : Nat) : Int)]) ∧ W.grownBy w' none) := fun W => refNum_any _ _ _ 1 W (bolR_shut s) (by unfold Rs.room at *; omega) (by omega)
  have hn := oneN_lt (bolR (r0 s))
  have m2 := oneR_room (bolR (r0 s))
  obtain ⟨P, hP⟩ : ∃ P, P = DecPost w (decP s) (decE s) := ⟨_, rfl⟩
  rw [← hP]
  have HP := hid hP
  have m3 : Hid ((oneR (bolR (r0 s))).room ≤ s.size) := hid (by omega)
  clear hP m1 m0 m2
  have ED : Hid (takeP (r0 s) = takeP (r0 s)) := hid rfl
  obtain ⟨R1, hR1⟩ : ∃ R, R = bolR (r0 s) := ⟨_, rfl⟩
  rw [← hR1] at C1 C2 hn m3
  obtain ⟨R2, hR2⟩ : ∃ R, R = oneR R1 := ⟨_, rfl⟩
  obtain ⟨n, hN⟩ : ∃ n, n = oneN R1 := ⟨_, rfl⟩
  rw [← hR2] at C2 m3
  rw [← hN] at C2 hn
  have HR1 := hid hR1
  have HR2 := hid hR2
  have HN := hid hN
  clear hR1 hR2 hN ED
  rw [hl] at C1
  have HL := hid hl
  clear hl
  have nn : (n : Int) < 256 := by omega
  have S0 : Hid (∀ W, ((w.alloc (.cells #[.bool false, .slice none 0 0, .slice none 0 0, .slice none 0 0] 30)).alloc (.cells #[.bool false, .slice none 0 0, .slice none 0 0, .slice none 0 0] 30)).grownBy W none → RdS w (W.alloc (.cells #[.string R1.s, .int .i64 R1.a, .int .i64 R1.e] 68)) W.heap.size R1 false (.slice none 0 0) (.slice none 0 0) (.slice none 0 0)) := fun W hW => by
    have hz := hW.size
    simp at hz
    exact ⟨(((Blk.new w 30 _).alloc _).kept hW (by simp)).alloc _, ((Blk.new2 w _ 30 _).kept hW (by simp)).alloc _, Blk.new W 68 _, grown_alloc (grown_none (grown_alloc (grown_alloc (grown_refl _ _) _) _) hW) _, by omega⟩
  go_enter Try.func15, Try.ntmps15
  go_wp2_with (first
    | (go_at_call 34; refine (C1.out _).mono ?_; rintro e w1 ⟨rfl, hg⟩; have S1 := hid (S0.out _ hg); have c0 := S1.out.2.1.cell 0; have f0 := S1.out.2.1.frozen 0; have hw1 := S1.out.2.2.2.2; simp at c0; have T1 := hid (S1.out.put 0 (.bool true) rfl); have d0 := T1.out.2.2.1.cell 0; have d1 := T1.out.2.2.1.cell 1; have d2 := T1.out.2.2.1.cell 2; simp [rd] at d0 d1 d2; clear hg S0 C1)
    | (go_at_call 35; refine (C2.out _).mono ?_; rintro e w2 ⟨rfl, hg⟩; have S2 := hid (T1.out.lowN hg); clear hg C2 T1 S1 d0 d1 d2 c0 f0)
    | (refine q_is_store 68 (.tmp 5) (.tmp 29) rfl ?_; refine store_rd w1.heap.size S2.out.2.2.1 _ _ rfl rfl rfl rfl ?_; intro w3 hb3 hg3; have S3 := hid (S2.out.read (r' := R2) hg3 hb3); have U3 : Hid (w1.heap.size + 1 ≤ w3.heap.size) := hid S3.out.size; clear hb3 hg3 S2))
  go_loopw [8] (fun i wr => ∃ (k : Nat) (v : Value), k ≤ n ∧ i = .int .u64 k ∧ RdS w wr w1.heap.size (txtsN 64 R2 k).2 true v (.slice none 0 0) (.slice none 0 0) ∧ (w1.heap.size + 1) ≤ wr.heap.size ∧ wr.ownsRow (w1.heap.size + 1) 9 1 v k (strs (txtsN 64 R2 k).1)) (fun i _ => n - (intOf i).toNat)
  case atStart => exact ⟨0, _, Nat.zero_le _, rfl, S3.out, U3.out, World.ownsRow_nil _ _ _ _⟩
  case round =>
    obtain ⟨k1, v, hk, rfl, hst, hbs, hown⟩ := hrel
    obtain ⟨p1, c1, rfl⟩ := owns_slice hown
    have ST := hid hst
    have RO := hid hown

    have hsz := ST.out.size
    have hqw := ST.out.2.2.2.2
    have k10 : (0 : Int) ≤ k1 := by omega
    have rm := txtsN_room 64 R2 k1
    have ln := txtsN_len 64 R2 k1
    have d0 := ST.out.2.2.1.cell 0; have d1 := ST.out.2.2.1.cell 1; have d2 := ST.out.2.2.1.cell 2; simp [rd] at d0 d1 d2

    clear hst hown  S3 U3
    by_cases hc : (txtsN 64 R2 k1).2.e = 0 ∧ k1 < n
    · obtain ⟨he, hlt⟩ := hc
      · skip
        have y1 : (k1 : Int) < n := by omega
        have CT : Hid (∀ W, Calls Try.prog 36 #[.agg #[.string (txtsN 64 R2 k1).2.s, .int .i64 (txtsN 64 R2 k1).2.a, .int .i64 0], .int .i64 64] W fun e w' => e = .returned (.tuple #[.agg #[.string (txtsN 64 R2 (k1 + 1)).2.s, .int .i64 (txtsN 64 R2 (k1 + 1)).2.a, .int .i64 (txtsN 64 R2 (k1 + 1)).2.e], .string (txtV (txtsN 64 R2 k1).2.s (txtsN 64 R2 k1).2.e 64)]) ∧ W.grownBy w' none) := fun W => by
          have := refTxt_any (txtsN 64 R2 k1).2.s (txtsN 64 R2 k1).2.a (txtsN 64 R2 k1).2.e 64 W (fun h => absurd he h) (by have := m3.out; unfold Rs.room at *; omega) (by omega)
          rw [he] at this
          rw [show (txtV (txtsN 64 R2 k1).2.s (txtsN 64 R2 k1).2.e 64) = (txtV (txtsN 64 R2 k1).2.s 0 64) by rw [he]]
          have e1 : (txtsN 64 R2 (k1 + 1)).2 = txtR 64 (txtsN 64 R2 k1).2 := rfl
          rw [e1]
          unfold txtR
          rw [he]
          exact this
        have EN : Hid ((txtsN 64 R2 (k1 + 1)).1 = (txtsN 64 R2 k1).1 ++ [(txtV (txtsN 64 R2 k1).2.s (txtsN 64 R2 k1).2.e 64)]) := hid rfl
        rw [he] at d2
        simp only [Int.natCast_zero] at d2
        generalize (txtV (txtsN 64 R2 k1).2.s (txtsN 64 R2 k1).2.e 64) = T at *
        have q1 := ST.out.2.1.cell 1
        have q2 := ST.out.2.1.frozen 1
        simp at q1
        obtain ⟨NX, hNX⟩ : ∃ X, X = (txtsN 64 R2 (k1 + 1)).2 := ⟨_, rfl⟩
        rw [← hNX] at CT
        have ENX := hid hNX
        clear hNX
        clear HP HR1 HR2 HN HL
        go_wp2_with (first
          | (go_at_call 36; refine (CT.out _).mono ?_; rintro e w5 ⟨rfl, hg⟩; have G5 := hid hg; have S5 := hid (ST.out.lowN hg); clear hg CT q1 q2 d0 d1 d2)
          | (refine q_is_store 68 (.tmp 5) (.tmp 46) rfl ?_; refine store_rd w1.heap.size (S5.out.alloc (.cells #[.string NX.s, .int .i64 NX.a, .int .i64 NX.e] 68)).2.2.1 _ _ rfl rfl rfl rfl ?_; intro w6 hb6 hg6; have S6 := hid ((S5.out.alloc (.cells #[.string NX.s, .int .i64 NX.a, .int .i64 NX.e] 68)).read (r' := NX) hg6 hb6); have G6 := hid hg6; have O6 := hid (owns_kept (owns_keptN (owns_keptN RO.out G5.out) (grown_alloc (grown_refl _ _) (.cells #[.string NX.s, .int .i64 NX.a, .int .i64 NX.e] 68))) hg6 (by omega)); have q1 := S6.out.2.1.cell 1; have q2 := S6.out.2.1.frozen 1; simp at q1; have b6 : (w1.heap.size + 1) ≤ w6.heap.size := (by have h1 := G5.out.size; have h2 := hg6.size; simp at h2; omega); clear hb6 hg6)
          | (at_builtin; refine append_str (w1.heap.size + 1) (txtsN 64 R2 k1).1 T _ ⟨w6.heap.size, 0, none⟩ 1 (by rw [ln]; exact O6.out.alloc _) ((Blk.new w6 9 _).cell 0) (by omega) (by simp; omega) _ _ rfl rfl rfl rfl ?_))
        intro v8 w8 h8 hgr
        have L8 := hid h8
        rw [← EN.out] at L8
        obtain ⟨pu, cu, rfl⟩ := owns_slice L8.out
        have S8 := hid ((S6.out.alloc _).low hgr (fun g e => by have := (O6.out.lt g e).1; omega))
        have x1 := S8.out.2.1.cell 1
        have x2 := S8.out.2.1.frozen 1
        simp at x1
        have z8 : (w1.heap.size + 1) ≤ w8.heap.size := by
          have := hgr.size
          simp at this
          omega
        have RL := hid (show True from trivial)
        clear h8 hgr
        go_wp2
        go_roundw
        case rel =>
          refine ⟨k1 + 1, .slice pu (k1 + 1) cu, by omega, by go_num, by rw [← ENX.out]; exact S8.out.put 1 _ rfl, by simpa [World.setCell] using z8, ownsRow_setCell_below L8.out (a := ⟨w.heap.size + 1, 1, none⟩) (by show w.heap.size + 1 < _; omega) _⟩
        case measure => simp [intOf]; omega
    · have hx : ¬ (k1 : Int) < n ∨ ((k1 : Int) < n ∧ ¬ ((txtsN 64 R2 k1).2.e = 0)) := by omega
      have F1 : Hid (k1 = n ∨ (txtsN 64 R2 k1).2.e ≠ 0) := hid (by omega)
      have H1 := hid hk
      clear hc
      obtain ⟨B2, hB2⟩ : ∃ B, B = wr.heap.size := ⟨_, rfl⟩
      have N1 : Hid (∀ g, (Value.slice p1 k1 c1).ownBlock = some g → g < B2) := fun g hg => by rw [hB2]; exact (RO.out.lt g hg).2
      have zB : w1.heap.size + 1 ≤ B2 := by omega
      have SX := ST
      have TX1 := RO
      have BX : Hid (B2 ≤ wr.heap.size) := hid (by omega)
      clear hB2
      rcases hx with y1 | ⟨y1, y2⟩
      all_goals
        try have y3 := decide_eq_false y2
        go_wp2
        clear ST RO d0 d1 d2
        go_loopw [11] (fun i wr => ∃ (k : Nat) (v : Value), k ≤ n ∧ i = .int .u64 k ∧ RdS w wr w1.heap.size (txtsN 8192 (txtsN 64 R2 k1).2 k).2 true (.slice p1 k1 c1) v (.slice none 0 0) ∧ B2 ≤ wr.heap.size ∧ wr.ownsRow B2 9 1 v k (strs (txtsN 8192 (txtsN 64 R2 k1).2 k).1) ∧ wr.ownsRow (w1.heap.size + 1) 9 1 (.slice p1 k1 c1) k1 (strs (txtsN 64 R2 k1).1)) (fun i _ => n - (intOf i).toNat)
        case atStart => exact ⟨0, _, Nat.zero_le _, rfl, SX.out, BX.out, World.ownsRow_nil _ _ _ _, TX1.out⟩
        case round =>
          obtain ⟨k2, v, hk, rfl, hst, hbs, hown, hr1⟩ := hrel
          obtain ⟨p2, c2, rfl⟩ := owns_slice hown
          have ST := hid hst
          have RO := hid hown
          have T1 := hid hr1
          have hsz := ST.out.size
          have hqw := ST.out.2.2.2.2
          have k20 : (0 : Int) ≤ k2 := by omega
          have rm := txtsN_room 8192 (txtsN 64 R2 k1).2 k2
          have ln := txtsN_len 8192 (txtsN 64 R2 k1).2 k2
          have d0 := ST.out.2.2.1.cell 0; have d1 := ST.out.2.2.1.cell 1; have d2 := ST.out.2.2.1.cell 2; simp [rd] at d0 d1 d2
          have q0 := ST.out.2.1.cell 0
          simp at q0
          clear hst hown hr1 SX BX TX1
          by_cases hc : (txtsN 8192 (txtsN 64 R2 k1).2 k2).2.e = 0 ∧ k2 < n
          · obtain ⟨he, hlt⟩ := hc
            · skip
              have h1e : (txtsN 64 R2 k1).2.e = 0 := zero_of (txts_err0 8192 _ k2) he
              try exact absurd h1e y2
              all_goals
                have y1 : (k2 : Int) < n := by omega
                have CT : Hid (∀ W, Calls Try.prog 36 #[.agg #[.string (txtsN 8192 (txtsN 64 R2 k1).2 k2).2.s, .int .i64 (txtsN 8192 (txtsN 64 R2 k1).2 k2).2.a, .int .i64 0], .int .i64 8192] W fun e w' => e = .returned (.tuple #[.agg #[.string (txtsN 8192 (txtsN 64 R2 k1).2 (k2 + 1)).2.s, .int .i64 (txtsN 8192 (txtsN 64 R2 k1).2 (k2 + 1)).2.a, .int .i64 (txtsN 8192 (txtsN 64 R2 k1).2 (k2 + 1)).2.e], .string (txtV (txtsN 8192 (txtsN 64 R2 k1).2 k2).2.s (txtsN 8192 (txtsN 64 R2 k1).2 k2).2.e 8192)]) ∧ W.grownBy w' none) := fun W => by
                  have := refTxt_any (txtsN 8192 (txtsN 64 R2 k1).2 k2).2.s (txtsN 8192 (txtsN 64 R2 k1).2 k2).2.a (txtsN 8192 (txtsN 64 R2 k1).2 k2).2.e 8192 W (fun h => absurd he h) (by have := m3.out; unfold Rs.room at *; omega) (by omega)
                  rw [he] at this
                  rw [show (txtV (txtsN 8192 (txtsN 64 R2 k1).2 k2).2.s (txtsN 8192 (txtsN 64 R2 k1).2 k2).2.e 8192) = (txtV (txtsN 8192 (txtsN 64 R2 k1).2 k2).2.s 0 8192) by rw [he]]
                  have e1 : (txtsN 8192 (txtsN 64 R2 k1).2 (k2 + 1)).2 = txtR 8192 (txtsN 8192 (txtsN 64 R2 k1).2 k2).2 := rfl
                  rw [e1]
                  unfold txtR
                  rw [he]
                  exact this
                have EN : Hid ((txtsN 8192 (txtsN 64 R2 k1).2 (k2 + 1)).1 = (txtsN 8192 (txtsN 64 R2 k1).2 k2).1 ++ [(txtV (txtsN 8192 (txtsN 64 R2 k1).2 k2).2.s (txtsN 8192 (txtsN 64 R2 k1).2 k2).2.e 8192)]) := hid rfl
                rw [he] at d2
                simp only [Int.natCast_zero] at d2
                generalize (txtV (txtsN 8192 (txtsN 64 R2 k1).2 k2).2.s (txtsN 8192 (txtsN 64 R2 k1).2 k2).2.e 8192) = T at *
                have q1 := ST.out.2.1.cell 2
                have q2 := ST.out.2.1.frozen 2
                simp at q1
                obtain ⟨NX, hNX⟩ : ∃ X, X = (txtsN 8192 (txtsN 64 R2 k1).2 (k2 + 1)).2 := ⟨_, rfl⟩
                rw [← hNX] at CT
                have ENX := hid hNX
                clear hNX
                clear HP HR1 HR2 HN HL F1 H1
                go_wp2_with (first
                  | (go_at_call 36; refine (CT.out _).mono ?_; rintro e w5 ⟨rfl, hg⟩; have G5 := hid hg; have S5 := hid (ST.out.lowN hg); clear hg CT q1 q2 d0 d1 d2)
                  | (refine q_is_store 68 (.tmp 5) (.tmp 72) rfl ?_; refine store_rd w1.heap.size (S5.out.alloc (.cells #[.string NX.s, .int .i64 NX.a, .int .i64 NX.e] 68)).2.2.1 _ _ rfl rfl rfl rfl ?_; intro w6 hb6 hg6; have S6 := hid ((S5.out.alloc (.cells #[.string NX.s, .int .i64 NX.a, .int .i64 NX.e] 68)).read (r' := NX) hg6 hb6); have G6 := hid hg6; have O6 := hid (owns_kept (owns_keptN (owns_keptN RO.out G5.out) (grown_alloc (grown_refl _ _) (.cells #[.string NX.s, .int .i64 NX.a, .int .i64 NX.e] 68))) hg6 (by omega)); have q1 := S6.out.2.1.cell 2; have q2 := S6.out.2.1.frozen 2; simp at q1; have b6 : B2 ≤ w6.heap.size := (by have h1 := G5.out.size; have h2 := hg6.size; simp at h2; omega); clear hb6 hg6)
                  | (at_builtin; refine append_str B2 (txtsN 8192 (txtsN 64 R2 k1).2 k2).1 T _ ⟨w6.heap.size, 0, none⟩ 1 (by rw [ln]; exact O6.out.alloc _) ((Blk.new w6 9 _).cell 0) (by omega) (by simp; omega) _ _ rfl rfl rfl rfl ?_))
                intro v8 w8 h8 hgr
                have L8 := hid h8
                rw [← EN.out] at L8
                obtain ⟨pu, cu, rfl⟩ := owns_slice L8.out
                have S8 := hid ((S6.out.alloc _).low hgr (fun g e => by have := (O6.out.lt g e).1; omega))
                have x1 := S8.out.2.1.cell 2
                have x2 := S8.out.2.1.frozen 2
                simp at x1
                have z8 : B2 ≤ w8.heap.size := by
                  have := hgr.size
                  simp at this
                  omega
                have RL := hid (show True ∧ (w8.setCell ⟨w.heap.size + 1, 2, none⟩ (.slice pu (k2 + 1) cu)).ownsRow (w1.heap.size + 1) 9 1 (.slice p1 k1 c1) k1 (strs (txtsN 64 R2 k1).1) from ⟨trivial, ownsRow_setCell_below (owns_far ((owns_kept (owns_keptN (owns_keptN T1.out G5.out) (grown_alloc (grown_refl _ _) _)) G6.out (by omega)).alloc _) hgr (fun g hg e => by have := N1.out g hg; have := (O6.out.lt g e).1; omega)) (a := ⟨w.heap.size + 1, 2, none⟩) (by show w.heap.size + 1 < _; omega) _⟩)
                clear h8 hgr
                go_wp2
                go_roundw
                case rel =>
                  refine ⟨k2 + 1, .slice pu (k2 + 1) cu, by omega, by go_num, by rw [← ENX.out]; exact S8.out.put 2 _ rfl, by simpa [World.setCell] using z8, ownsRow_setCell_below L8.out (a := ⟨w.heap.size + 1, 2, none⟩) (by show w.heap.size + 1 < _; omega) _, RL.out.2⟩
                case measure => simp [intOf]; omega
          · have hx : ¬ (k2 : Int) < n ∨ ((k2 : Int) < n ∧ ¬ ((txtsN 8192 (txtsN 64 R2 k1).2 k2).2.e = 0)) := by omega
            have F2 : Hid (k2 = n ∨ (txtsN 8192 (txtsN 64 R2 k1).2 k2).2.e ≠ 0) := hid (by omega)
            have H2 := hid hk
            clear hc
            have SX := ST
            have TX2 := RO
            have TX1 := T1
            rcases hx with y1 | ⟨y1, y2⟩
            all_goals
              try have y3 := decide_eq_false y2
              go_wp2
              clear ST RO T1 d0 d1 d2 q0
              go_loopw [14] (fun i wr => i = .int .u64 0 ∧ RdS w wr w1.heap.size (txtsN 8192 (txtsN 64 R2 k1).2 k2).2 true (.slice p1 k1 c1) (.slice p2 k2 c2) (.slice none 0 0) ∧ wr.ownsRow (w1.heap.size + 1) 9 1 (.slice p1 k1 c1) k1 (strs (txtsN 64 R2 k1).1) ∧ wr.ownsRow B2 9 1 (.slice p2 k2 c2) k2 (strs (txtsN 8192 (txtsN 64 R2 k1).2 k2).1)) (fun i _ => 0)
              case atStart => exact ⟨rfl, SX.out, TX1.out, TX2.out⟩
              case round =>
                obtain ⟨rfl, hst, hr1, hr2⟩ := hrel
                have ST := hid hst
                have T1 := hid hr1
                have T2 := hid hr2
                have q0 := ST.out.2.1.cell 0
                simp at q0
                have hsz := ST.out.size
                have hqw := ST.out.2.2.2.2
                have d0 := ST.out.2.2.1.cell 0; have d1 := ST.out.2.2.1.cell 1; have d2 := ST.out.2.2.1.cell 2; simp [rd] at d0 d1 d2
                clear hst hr1 hr2 SX TX1 TX2
                have VP : Hid (PgO wr (w1.heap.size + 1) (.agg #[.bool true, .slice p1 k1 c1, .slice p2 k2 c2, .slice none 0 0]) ⟨true, (txtsN 64 R2 k1).1, (txtsN 8192 (txtsN 64 R2 k1).2 k2).1, []⟩) := hid ⟨_, _, _, rfl, by show wr.ownsRow _ 9 1 _ (txtsN 64 R2 k1).1.length _; rw [txtsN_len]; exact T1.out, by show wr.ownsRow _ 9 1 _ (txtsN 8192 (txtsN 64 R2 k1).2 k2).1.length _; rw [txtsN_len]; exact owns_le T2.out (by omega), World.ownsRow_nil _ _ _ _⟩
                obtain ⟨x, hxx⟩ : ∃ x, endE (txtsN 8192 (txtsN 64 R2 k1).2 k2).2 = x := ⟨_, rfl⟩
                have EE : Hid (endE ((txtsN 8192 (txtsN 64 R2 k1).2 k2).2) = x) := hid hxx
                clear hxx
                by_cases hx0 : x = 0
                · subst hx0
                  obtain ⟨g1, g2⟩ := (end_leaf R2 n k1 k2 H1.out F1.out H2.out F2.out).2 EE.out
                  have pfit : Pg.fits ⟨true, (txtsN 64 R2 k1).1, (txtsN 8192 (txtsN 64 R2 k1).2 k2).1, []⟩ := ⟨by show (txtsN 64 R2 k1).1.length ≤ _; rw [txtsN_len]; omega, by show (txtsN 8192 (txtsN 64 R2 k1).2 k2).1.length ≤ _; rw [txtsN_len]; omega, Nat.zero_le _⟩
                  have PG : Hid ((takeP ⟨s, 0, 0⟩).1 = ⟨true, (txtsN 64 R2 k1).1, (txtsN 8192 (txtsN 64 R2 k1).2 k2).1, []⟩) := hid (by rw [take_true HR1.out HR2.out HN.out HL.out, g1, g2])
                  have DD : Hid (decE s = if mayP ⟨true, (txtsN 64 R2 k1).1, (txtsN 8192 (txtsN 64 R2 k1).2 k2).1, []⟩ then 0 else 6) := hid (by unfold decE; rw [PG.out, take_true HR1.out HR2.out HN.out HL.out]; simp only; rw [← (end_leaf R2 n k1 k2 H1.out F1.out H2.out F2.out).1, EE.out]; simp)
                  clear g1 g2
                  cases hm : mayP ⟨true, (txtsN 64 R2 k1).1, (txtsN 8192 (txtsN 64 R2 k1).2 k2).1, []⟩ with
                  | false =>
                    have CK : Hid (∀ W u, PgV W u ⟨true, (txtsN 64 R2 k1).1, (txtsN 8192 (txtsN 64 R2 k1).2 k2).1, []⟩ → Calls Try.prog 8 #[u] W fun e w' => e = .returned (.int .i64 6) ∧ W.grownBy w' none) := fun W u hW => by
                      have := rcheck_any u _ W hW pfit
                      rwa [chk_six hm] at this
                    go_wp2_with (first | (go_at_call 38; refine (refEnd_any _ _ _ _).mono ?_; rintro e wE ⟨rfl, hg⟩; have SE := hid (ST.out.lowN hg); have VE := hid (VP.out.keptN hg); clear hg d0 d1 d2 q0 ST VP) | (refine q_is_store 68 (.tmp 5) (.tmp 107) rfl ?_; refine store_rd w1.heap.size SE.out.2.2.1 _ _ rfl rfl rfl rfl ?_; intro wF hbF hgF; have SF := hid (SE.out.read (r' := ⟨failS ((txtsN 8192 (txtsN 64 R2 k1).2 k2).2).s ((txtsN 8192 (txtsN 64 R2 k1).2 k2).2).e (endF ((txtsN 8192 (txtsN 64 R2 k1).2 k2).2).s), ((txtsN 8192 (txtsN 64 R2 k1).2 k2).2).a, failE ((txtsN 8192 (txtsN 64 R2 k1).2 k2).2).e (endF ((txtsN 8192 (txtsN 64 R2 k1).2 k2).2).s)⟩) hgF hbF); have VF := hid (VE.out.kept hgF (Nat.lt_succ_self _)); have d2 := SF.out.2.2.1.cell 2; simp [rd] at d2; have ee := EE.out; unfold endE at ee; rw [ee] at d2; clear ee hbF hgF SE VE; have a0 := SF.out.2.1.cell 0; have a1 := SF.out.2.1.cell 1; have a2 := SF.out.2.1.cell 2; have a3 := SF.out.2.1.cell 3; simp at a0 a1 a2 a3) | (go_at_call 8; refine (CK.out _ _ VF.out.pgV).mono ?_; rintro e wG ⟨rfl, hg⟩; have SG := hid (SF.out.lowN hg); have VG := hid (VF.out.keptN hg); have m0 := SG.out.2.1.cell 0; have m1 := SG.out.2.1.cell 1; have m2 := SG.out.2.1.cell 2; have m4 := SG.out.2.1.cell 3; simp at m0 m1 m2 m4; clear hg SF VF CK a0 a1 a2 a3) | (refine q_is_store 30 (.tmp 2) (.tmp 117) rfl ?_; refine store_pg 30 size30 w.heap.size SG.out.1 _ _ rfl rfl rfl rfl ?_; intro wH hbH hgH; have BH := hid hbH; have GH := hid (grown_through SG.out.2.2.2.1 hgH (Nat.le_refl _)); have VH := hid (show w.heap.size < w1.heap.size + 1 → PgO wH (w1.heap.size + 1) _ _ from fun hh => VG.out.kept hgH hh); clear hbH hgH))
                    refine bodyPost_ret (results_pr2 Try.results15 _ _ w.heap.size rfl BH.out) rfl ?_
                    rw [HP.out]
                    have dd : decE s = 6 := by rw [DD.out, hm]; rfl
                    have dp : decP s = noPg := by unfold decP; rw [dd]; rfl
                    rw [dd, dp]
                    exact ⟨_, rfl, ⟨_, _, _, rfl, World.ownsRow_nil _ _ _ _, World.ownsRow_nil _ _ _ _, World.ownsRow_nil _ _ _ _⟩, GH.out⟩
                  | true =>
                    have CK : Hid (∀ W u, PgV W u ⟨true, (txtsN 64 R2 k1).1, (txtsN 8192 (txtsN 64 R2 k1).2 k2).1, []⟩ → Calls Try.prog 8 #[u] W fun e w' => e = .returned (.int .i64 0) ∧ W.grownBy w' none) := fun W u hW => by
                      have := rcheck_any u _ W hW pfit
                      rwa [chk_zero hm] at this
                    go_wp2_with (first | (go_at_call 38; refine (refEnd_any _ _ _ _).mono ?_; rintro e wE ⟨rfl, hg⟩; have SE := hid (ST.out.lowN hg); have VE := hid (VP.out.keptN hg); clear hg d0 d1 d2 q0 ST VP) | (refine q_is_store 68 (.tmp 5) (.tmp 107) rfl ?_; refine store_rd w1.heap.size SE.out.2.2.1 _ _ rfl rfl rfl rfl ?_; intro wF hbF hgF; have SF := hid (SE.out.read (r' := ⟨failS ((txtsN 8192 (txtsN 64 R2 k1).2 k2).2).s ((txtsN 8192 (txtsN 64 R2 k1).2 k2).2).e (endF ((txtsN 8192 (txtsN 64 R2 k1).2 k2).2).s), ((txtsN 8192 (txtsN 64 R2 k1).2 k2).2).a, failE ((txtsN 8192 (txtsN 64 R2 k1).2 k2).2).e (endF ((txtsN 8192 (txtsN 64 R2 k1).2 k2).2).s)⟩) hgF hbF); have VF := hid (VE.out.kept hgF (Nat.lt_succ_self _)); have d2 := SF.out.2.2.1.cell 2; simp [rd] at d2; have ee := EE.out; unfold endE at ee; rw [ee] at d2; clear ee hbF hgF SE VE; have a0 := SF.out.2.1.cell 0; have a1 := SF.out.2.1.cell 1; have a2 := SF.out.2.1.cell 2; have a3 := SF.out.2.1.cell 3; simp at a0 a1 a2 a3) | (go_at_call 8; refine (CK.out _ _ VF.out.pgV).mono ?_; rintro e wG ⟨rfl, hg⟩; have SG := hid (SF.out.lowN hg); have VG := hid (VF.out.keptN hg); have m0 := SG.out.2.1.cell 0; have m1 := SG.out.2.1.cell 1; have m2 := SG.out.2.1.cell 2; have m4 := SG.out.2.1.cell 3; simp at m0 m1 m2 m4; clear hg SF VF CK a0 a1 a2 a3) | (refine q_is_store 30 (.tmp 2) (.tmp 118) rfl ?_; refine store_pg 30 size30 w.heap.size SG.out.1 _ _ rfl rfl rfl rfl ?_; intro wH hbH hgH; have BH := hid hbH; have GH := hid (grown_through SG.out.2.2.2.1 hgH (Nat.le_refl _)); have VH := hid (show w.heap.size < w1.heap.size + 1 → PgO wH (w1.heap.size + 1) _ _ from fun hh => VG.out.kept hgH hh); clear hbH hgH))
                    refine bodyPost_ret (results_pr2 Try.results15 _ _ w.heap.size rfl BH.out) rfl ?_
                    rw [HP.out]
                    have dd : decE s = 0 := by rw [DD.out, hm]; rfl
                    have dp : decP s = ⟨true, (txtsN 64 R2 k1).1, (txtsN 8192 (txtsN 64 R2 k1).2 k2).1, []⟩ := by unfold decP; rw [if_pos dd, PG.out]
                    rw [dd, dp]
                    obtain ⟨x1, x2, x3, e, o1, o2, o3⟩ := VH.out (by omega)
                    exact ⟨_, rfl, ⟨x1, x2, x3, e, owns_le o1 (by omega), owns_le o2 (by omega), owns_le o3 (by omega)⟩, GH.out⟩
                · have dE : Hid (decE s = x) := hid (by unfold decE; rw [take_true HR1.out HR2.out HN.out HL.out]; simp only; rw [← (end_leaf R2 n k1 k2 H1.out F1.out H2.out F2.out).1, EE.out, if_pos hx0])
                  have x0 : ¬ ((x : Int) = 0) := by omega
                  go_wp2_with (first | (go_at_call 38; refine (refEnd_any _ _ _ _).mono ?_; rintro e wE ⟨rfl, hg⟩; have SE := hid (ST.out.lowN hg); have VE := hid (VP.out.keptN hg); clear hg d0 d1 d2 q0 ST VP) | (refine q_is_store 68 (.tmp 5) (.tmp 107) rfl ?_; refine store_rd w1.heap.size SE.out.2.2.1 _ _ rfl rfl rfl rfl ?_; intro wF hbF hgF; have SF := hid (SE.out.read (r' := ⟨failS ((txtsN 8192 (txtsN 64 R2 k1).2 k2).2).s ((txtsN 8192 (txtsN 64 R2 k1).2 k2).2).e (endF ((txtsN 8192 (txtsN 64 R2 k1).2 k2).2).s), ((txtsN 8192 (txtsN 64 R2 k1).2 k2).2).a, failE ((txtsN 8192 (txtsN 64 R2 k1).2 k2).2).e (endF ((txtsN 8192 (txtsN 64 R2 k1).2 k2).2).s)⟩) hgF hbF); have VF := hid (VE.out.kept hgF (Nat.lt_succ_self _)); have d2 := SF.out.2.2.1.cell 2; simp [rd] at d2; have ee := EE.out; unfold endE at ee; rw [ee] at d2; clear ee hbF hgF SE VE; have g0 := SF.out.1.frozen 0; have g1 := SF.out.1.frozen 1; have g2 := SF.out.1.frozen 2; have g3 := SF.out.1.frozen 3; have e0 := SF.out.1.cell 0; have e1 := SF.out.1.cell 1; have e2 := SF.out.1.cell 2; have e3 := SF.out.1.cell 3; simp at e0 e1 e2 e3))
                  go_region
                  all_goals
                    go_wp2
                    have BB : ∀ W, W.heap = ((((wF.setCell ⟨w.heap.size, 0, none⟩ (.bool false)).setCell ⟨w.heap.size, 1, none⟩ (.slice none 0 0)).setCell ⟨w.heap.size, 2, none⟩ (.slice none 0 0)).setCell ⟨w.heap.size, 3, none⟩ (.slice none 0 0)).heap → Blk W w.heap.size 30 #[.bool false, .slice none 0 0, .slice none 0 0, .slice none 0 0] := fun W hW => by
                      unfold Blk
                      rw [hW]
                      exact (((SF.out.1.set 0 (.bool false)).set 1 (.slice none 0 0)).set 2 (.slice none 0 0)).set 3 (.slice none 0 0)
                    refine bodyPost_ret (results_pr2 Try.results15 _ _ w.heap.size rfl (BB _ rfl)) rfl ?_
                    rw [HP.out]
                    have dp : decP s = noPg := by unfold decP; rw [dE.out, if_neg hx0]
                    rw [dE.out, dp]
                    exact ⟨_, rfl, ⟨_, _, _, rfl, World.ownsRow_nil _ _ _ _, World.ownsRow_nil _ _ _ _, World.ownsRow_nil _ _ _ _⟩, ⟨SF.out.2.2.2.1.os, SF.out.2.2.2.1.tape, SF.out.2.2.2.1.output, by simpa [World.setCell] using SF.out.2.2.2.1.size, fun k hk hn => (grown_set_new (grown_set_new (grown_set_new (grown_set_new SF.out.2.2.2.1 (a := ⟨w.heap.size, 0, none⟩) (.bool false) (Nat.le_refl _)) (a := ⟨w.heap.size, 1, none⟩) (.slice none 0 0) (Nat.le_refl _)) (a := ⟨w.heap.size, 2, none⟩) (.slice none 0 0) (Nat.le_refl _)) (a := ⟨w.heap.size, 3, none⟩) (.slice none 0 0) (Nat.le_refl _)).block k hk hn⟩⟩


end Go.Proofs.Ytomknaendicpkaa
