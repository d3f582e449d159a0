/-
  The law of what is kept, walked: of whatever acts it answers true, and nothing that was there turns.
-/
import Derived.Test.YtoenddcdafnmiaaFin
import Derived.Deep.RegionHeld3
namespace Go.Proofs.Ytoenddcdafnmiaa
open Go.RowKit Go.Maps
set_option maxRecDepth 100000 in
set_option maxHeartbeats 8000000 in
theorem law4_any (pl pm : Option Addr) (nl cl gl ol nm cm gm om : Nat) (A B : Nat → ActR) (keep : Int) (w : World) (hA : ActsV w pl nl gl ol A) (hB : ActsV w pm nm gm om B) (hk0 : -9223372036854775808 ≤ keep) (hk1 : keep ≤ 9223372036854775807) :
    Calls Try.prog 4 #[.slice pl nl cl, .slice pm nm cm, .int .i64 keep] w fun e w' => e = .returned (.bool true) ∧ w.grownBy w' none := by
  have HA := hid hA
  have HB := hid hB
  have HK : Hid (-9223372036854775808 ≤ keep ∧ keep ≤ 9223372036854775807) := ⟨hk0, hk1⟩
  clear hA hB hk0 hk1
  go_enter Try.func4, Try.ntmps4
  go_wp2_with (go_at_call 7; refine (new_any _).mono ?_; rintro e w1 ⟨rfl, hd, hg⟩; have D1 := hid hd; have G1 : Hid (w.grownBy w1 none) := hg; have hc : w.heap.size ≤ w1.heap.size := hg.size; clear hd hg)
  go_loopw [8] (fun i wr => ∃ (j : Nat) (k : Dk) (m : Md) (a0 : Option Addr) (n0 k0 : Nat) (a1 : Option Addr) (n1 k1 : Nat), j ≤ 30 ∧ i = .int .i64 j ∧ Lp w wr w1.heap.size k m a0 n0 k0 a1 n1 k1 ∧ m.ch ≤ j) (fun i _ => 30 - (intOf i).toNat)
  case atStart => exact ⟨0, ⟨[], [], [], 0, 0, false⟩, ⟨[], [], 0⟩, none, 0, 0, none, 0, 0, Nat.zero_le _, rfl, ⟨D1.out.kept (grown_alloc (grown_refl _ _) _), Blk.new w1 31 _, ⟨Or.inl ⟨rfl, rfl⟩, fun _ _ _ _ e => by cases e⟩, ⟨Or.inl ⟨rfl, rfl⟩, fun _ _ _ _ e => by cases e⟩, ⟨rfl, rfl, rfl, rfl, rfl, rfl, (fun i h => absurd h (Nat.not_lt_zero _)), (fun c h => by cases h)⟩, ⟨List.Pairwise.nil, (fun c h => by cases h), Nat.le_refl _, Nat.zero_le _, fits_nil _, (fun c h => by cases h)⟩, grown_alloc G1.out _⟩, Nat.le_refl _⟩
  case round =>
    obtain ⟨j, k, m, a0, n0, k0, a1, n1, k1, hj30, rfl, hL, hch⟩ := hrel
    have L := hid hL
    clear hL D1 G1
    have j0 : (0 : Int) ≤ j := by omega
    by_cases hj1 : j < nl
    · have hp := HA.out.at_ (by omega)
      subst hp
      by_cases hj2 : j < 30
      · by_cases hx0 : 0 ≤ (A j).kind
        · by_cases hx6 : (A j).kind < 6
          · obtain ⟨u0, u1, u2, u3, u4, u5, u6, u7⟩ := (HA.out.kept L.out.grown).eight hj1
            obtain ⟨⟨y0, y1, y2, y3, y4, y5, y6⟩, z0, z1, z2, z3, z4, z5, z6⟩ := L.out.box.seven
            have j1 : (j : Int) < nl := by omega
            have j2 : (j : Int) < 30 := by omega
            have CE := hid (fun W (hW : wr.grownBy W none) => do_five w.heap.size w.heap.size k m a0 a1 n0 k0 n1 k1 (A j).a (A j).t (A j).d (A j).kind (A j).n (A j).p (A j).q (A j).r W (L.out.disk.kept hW) (L.out.files.kept hW) (L.out.chgs.kept hW) L.out.rel L.out.inv (by omega) (HA.out.a j hj1) (HA.out.t j hj1) (HA.out.n j hj1) hx0 hx6)
            clear HA HB hj1 hj2
            generalize (A j).kind = κ at *
            generalize (A j).a = aa at *
            generalize (A j).t = tt at *
            generalize (A j).d = dd at *
            generalize (A j).n = zn at *
            generalize (A j).p = zp at *
            generalize (A j).q = zq at *
            generalize (A j).r = zr at *
            go_wp2_with fail
            go_region_with (go_at_call 8; refine (CE.out _ (grown_drew (grown_refl _ _))).mono ?_; rintro e w2 ⟨q, m2, ⟨a2, n2, k2, a3, n3, k3, rfl, hd, hf, hcc, ht⟩, hr, hi, hle⟩; have T2 := hid (lp_store L.out hc hd hf hcc (Tend.trans (Tend.of_none (grown_drew (grown_refl _ _))) ht) hr hi); have B2 := hid (L.out.box.far (Far.of_tend L.out.disk.blk.choose_spec (Tend.trans (Tend.of_none (grown_drew (grown_refl _ _))) ht)) (by decide) (by decide)); clear y0 y1 y2 y3 y4 y5 y6 z0 z1 z2 z3 z4 z5 z6; obtain ⟨⟨y0, y1, y2, y3, y4, y5, y6⟩, z0, z1, z2, z3, z4, z5, z6⟩ := B2.out.seven; clear hd hf hcc ht hr hi)
            all_goals (
              go_wp2
              go_roundw
              case rel => exact ⟨j + 1, q, m2, a2, n2, k2, a3, n3, k3, by omega, by go_num, T2.out, by omega⟩
              case measure => simp [intOf]; omega)
          · obtain ⟨u0, _⟩ := (HA.out.kept L.out.grown).eight hj1
            have j1 : (j : Int) < nl := by omega
            have j2 : (j : Int) < 30 := by omega
            clear hj1 hj2 HA HB
            go_wp2
            go_roundw
            case rel => exact ⟨j + 1, k, m, a0, n0, k0, a1, n1, k1, by omega, by go_num, L.out, by omega⟩
            case measure => simp [intOf]; omega
        · obtain ⟨u0, _⟩ := (HA.out.kept L.out.grown).eight hj1
          have j1 : (j : Int) < nl := by omega
          have j2 : (j : Int) < 30 := by omega
          clear hj1 hj2 HA HB
          go_wp2
          go_roundw
          case rel => exact ⟨j + 1, k, m, a0, n0, k0, a1, n1, k1, by omega, by go_num, L.out, by omega⟩
          case measure => simp [intOf]; omega
      · obtain rfl : j = 30 := by omega
        have j1 : ((30 : Nat) : Int) < nl := by omega
        have hch2 : m.ch ≤ 30 := by omega
        obtain ⟨⟨y0, y1, y2, y3, y4, y5, y6⟩, z0, z1, z2, z3, z4, z5, z6⟩ := L.out.box.seven
        have RL := hid (And.intro L.out.rel L.out.inv)
        clear HA
        go_wp2_with (first
          | (go_at_call 11; refine (lp_sync1 L.out).mono ?_; rintro e w2 ⟨rfl, hd, hb, hf, hcg, hg⟩; have D2 := hid hd; have B2 := hid hb; have F2 := hid hf; have C2 := hid hcg; have G2 : Hid (w.grownBy w2 none) := hg; clear y0 y1 y2 y3 y4 y5 y6 z0 z1 z2 z3 z4 z5 z6; obtain ⟨⟨y0, y1, y2, y3, y4, y5, y6⟩, z0, z1, z2, z3, z4, z5, z6⟩ := B2.out.seven; clear hd hb hf hcg hg L)
          | (go_at_call 12; refine (lp_sync2 RL.out.1 RL.out.2 _ F2.out C2.out G2.out).mono ?_; rintro e w3 ⟨a2, n2, k2, rfl, hf, hg, hg2, hr, hi⟩; have B3 := hid (B2.out.kept hg (by simp)); have M3 := hid (lp_sync3 hc B3.out (D2.out.kept hg) hf rfl hr hi hg2); clear y0 y1 y2 y3 y4 y5 y6 z0 z1 z2 z3 z4 z5 z6; obtain ⟨⟨y0, y1, y2, y3, y4, y5, y6⟩, z0, z1, z2, z3, z4, z5, z6⟩ := B3.out.seven; clear hf hg hg2 hr hi D2 B2 F2 C2 G2 B3 RL)
          | (go_at_call 13; refine (lp_now M3.out).mono ?_; rintro e w4 ⟨p9, l9, c9, rfl, hv, hl⟩; have V4 := hid hv; have M4 := hid hl; clear y0 y1 y2 y3 y4 y5 y6 z0 z1 z2 z3 z4 z5 z6; clear hv hl M3))
        have HE : Hid ((syncM m).now = m.now) := rfl
        have HE2 : Hid ((syncM m).sure = m.now) := rfl
        have hsc : Hid ((syncM m).ch ≤ 30) := hch2
        generalize m.now = S at *
        generalize syncM m = m1 at *
        generalize syncD k = q1 at *
        go_loopw [10] (fun i wr => ∃ (i2 : Nat) (q : Dk) (m2 : Md) (a4 : Option Addr) (n4 k4 : Nat) (a5 : Option Addr) (n5 k5 : Nat), i2 ≤ 30 ∧ i = .int .i64 i2 ∧ Lp w wr w1.heap.size q m2 a4 n4 k4 a5 n5 k5 ∧ m2.ch ≤ 30 + i2 ∧ m2.sure = S ∧ FilesT wr (.slice p9 l9 c9) S) (fun i _ => 30 - (intOf i).toNat)
        case atStart => exact ⟨0, q1, m1, a2, n2, k2, none, 0, 0, Nat.zero_le _, rfl, M4.out, by have := hsc.out; omega, HE2.out, by have h := V4.out; rw [HE.out] at h; exact h⟩
        case round =>
          obtain ⟨i2, q, m2, a4, n4, k4, a5, n5, k5, hi30, rfl, hL2, hch3, hS, hV⟩ := hrel
          have L2 := hid hL2
          have HS : Hid (m2.sure = S) := hS
          have V9 := hid hV
          clear hL2 hS hV M4 V4 HE HE2 hsc j0 j1 hj30 hch hch2
          have i0 : (0 : Int) ≤ i2 := by omega
          by_cases hi1 : i2 < nm
          · have hp := HB.out.at_ (by omega)
            subst hp
            by_cases hi3 : i2 < 30
            · by_cases hx0 : 0 ≤ (B i2).kind
              · by_cases hx6 : (B i2).kind < 5
                · obtain ⟨u0, u1, u2, u3, u4, u5, u6, u7⟩ := (HB.out.kept L2.out.grown).eight hi1
                  obtain ⟨⟨y0, y1, y2, y3, y4, y5, y6⟩, z0, z1, z2, z3, z4, z5, z6⟩ := L2.out.box.seven
                  have i1 : (i2 : Int) < nm := by omega
                  have i3 : (i2 : Int) < 30 := by omega
                  have CE := hid (fun W (hW : wr.grownBy W none) => do_four w.heap.size w.heap.size q m2 a4 a5 n4 k4 n5 k5 (B i2).a (B i2).t (B i2).d (B i2).kind (B i2).n (B i2).p (B i2).q (B i2).r W (L2.out.disk.kept hW) (L2.out.files.kept hW) (L2.out.chgs.kept hW) L2.out.rel L2.out.inv (by omega) (HB.out.a i2 hi1) (HB.out.t i2 hi1) (HB.out.n i2 hi1) hx0 hx6)
                  clear HB hi1 hi3
                  generalize (B i2).kind = κ at *
                  generalize (B i2).a = aa at *
                  generalize (B i2).t = tt at *
                  generalize (B i2).d = dd at *
                  generalize (B i2).n = zn at *
                  generalize (B i2).p = zp at *
                  generalize (B i2).q = zq at *
                  generalize (B i2).r = zr at *
                  go_wp2_with fail
                  go_region_with (go_at_call 8; refine (CE.out _ (grown_drew (grown_refl _ _))).mono ?_; rintro e w2 ⟨q3, m3, ⟨a6, n6, k6, a7, n7, k7, rfl, hd, hf, hcc, ht⟩, hr, hi, hle, hsu⟩; have T2 := hid (lp_store L2.out hc hd hf hcc (Tend.trans (Tend.of_none (grown_drew (grown_refl _ _))) ht) hr hi); have B2 := hid (L2.out.box.far (Far.of_tend L2.out.disk.blk.choose_spec (Tend.trans (Tend.of_none (grown_drew (grown_refl _ _))) ht)) (by decide) (by decide)); have V2 := hid (side_store L2.out V9.out (Tend.trans (Tend.of_none (grown_drew (grown_refl _ _))) ht)); have E2 : Hid (m3.sure = S) := hsu.trans HS.out; clear y0 y1 y2 y3 y4 y5 y6 z0 z1 z2 z3 z4 z5 z6; obtain ⟨⟨y0, y1, y2, y3, y4, y5, y6⟩, z0, z1, z2, z3, z4, z5, z6⟩ := B2.out.seven; clear hd hf hcc ht hr hi hsu)
                  all_goals (
                    go_wp2
                    go_roundw
                    case rel => exact ⟨i2 + 1, q3, m3, a6, n6, k6, a7, n7, k7, by omega, by go_num, T2.out, by omega, E2.out, V2.out _ _ _ _ _ _ _⟩
                    case measure => simp [intOf]; omega)
                · obtain ⟨u0, _⟩ := (HB.out.kept L2.out.grown).eight hi1
                  have i1 : (i2 : Int) < nm := by omega
                  have i3 : (i2 : Int) < 30 := by omega
                  clear hi1 hi3 HB
                  go_wp2
                  go_roundw
                  case rel => exact ⟨i2 + 1, q, m2, a4, n4, k4, a5, n5, k5, by omega, by go_num, L2.out, by omega, HS.out, V9.out⟩
                  case measure => simp [intOf]; omega
              · obtain ⟨u0, _⟩ := (HB.out.kept L2.out.grown).eight hi1
                have i1 : (i2 : Int) < nm := by omega
                have i3 : (i2 : Int) < 30 := by omega
                clear hi1 hi3 HB
                go_wp2
                go_roundw
                case rel => exact ⟨i2 + 1, q, m2, a4, n4, k4, a5, n5, k5, by omega, by go_num, L2.out, by omega, HS.out, V9.out⟩
                case measure => simp [intOf]; omega
            · obtain rfl : i2 = 30 := by omega
              have i1 : ((30 : Nat) : Int) < nm := by omega
              have RI := hid (And.intro L2.out.rel L2.out.inv)
              have V0 : Hid (FilesT wr (.slice p9 l9 c9) m2.sure) := (by show FilesT _ _ _; rw [HS.out]; exact V9.out)
              obtain ⟨⟨y0, y1, y2, y3, y4, y5, y6⟩, z0, z1, z2, z3, z4, z5, z6⟩ := L2.out.box.seven
              have b0 : Hid (w.heap.size < wr.heap.size) := L2.out.disk.lt
              clear HB V9 HS
              go_wp2_with (first
                | (go_at_call 14; refine (fin_clone L2.out V0.out).mono ?_; rintro e w5 ⟨rfl, hh⟩; have F5 := hid hh; clear y0 y1 y2 y3 y4 y5 y6 z0 z1 z2 z3 z4 z5 z6; obtain ⟨⟨y0, y1, y2, y3, y4, y5, y6⟩, z0, z1, z2, z3, z4, z5, z6⟩ := F5.out.box.seven; clear hh L2 V0)
                | (go_at_call 15; refine calls_at (args := #[.pointer (some ⟨wr.heap.size, 0, none⟩), .int .i64 0, .int .i64 0]) rfl ?_; refine (fin_crash2 F5.out RI.out.1 RI.out.2).mono ?_; rintro e w6 ⟨rfl, hh⟩; have F6 := hid hh; clear y0 y1 y2 y3 y4 y5 y6 z0 z1 z2 z3 z4 z5 z6; obtain ⟨⟨y0, y1, y2, y3, y4, y5, y6⟩, z0, z1, z2, z3, z4, z5, z6⟩ := F6.out.box.seven; clear hh F5)
                | (go_at_call 16; refine calls_at (args := #[.pointer (some ⟨wr.heap.size, 0, none⟩)]) rfl ?_; refine (fin_up2 F6.out).mono ?_; rintro e w7 ⟨rfl, hh⟩; have F7 := hid hh; clear y0 y1 y2 y3 y4 y5 y6 z0 z1 z2 z3 z4 z5 z6; obtain ⟨⟨y0, y1, y2, y3, y4, y5, y6⟩, z0, z1, z2, z3, z4, z5, z6⟩ := F7.out.box.seven; clear hh F6)
                | (go_at_call 15; refine calls_at (args := #[.pointer (some ⟨w.heap.size, 0, none⟩), .int .i64 keep, .int .i64 0]) rfl ?_; refine (fin_crash1 keep F7.out RI.out.1 RI.out.2).mono ?_; rintro e w8 ⟨rfl, hh⟩; have F8 := hid hh; clear y0 y1 y2 y3 y4 y5 y6 z0 z1 z2 z3 z4 z5 z6; obtain ⟨⟨y0, y1, y2, y3, y4, y5, y6⟩, z0, z1, z2, z3, z4, z5, z6⟩ := F8.out.box.seven; clear hh F7)
                | (go_at_call 16; refine calls_at (args := #[.pointer (some ⟨w.heap.size, 0, none⟩)]) rfl ?_; refine (fin_up1 F8.out).mono ?_; rintro e w9 ⟨rfl, hh⟩; have F9 := hid hh; clear y0 y1 y2 y3 y4 y5 y6 z0 z1 z2 z3 z4 z5 z6; obtain ⟨⟨y0, y1, y2, y3, y4, y5, y6⟩, z0, z1, z2, z3, z4, z5, z6⟩ := F9.out.box.seven; clear hh F8)
                | (go_at_call 17; refine (fin_rcrash keep F9.out RI.out.2 HK.out.1 HK.out.2).mono ?_; rintro e w10 ⟨a8, n8, k8, rfl, hf, hg⟩; have B10 := hid (F9.out.box.kept hg (by simp)); have F10 := hid (las_store ⟨F9.out.one.kept hg, F9.out.two.kept hg, F9.out.ne, F9.out.box.kept hg (by simp), F9.out.files.kept hg, F9.out.chgs.kept hg, F9.out.side.kept hg, grown_trans F9.out.grown hg⟩ hc hf); clear y0 y1 y2 y3 y4 y5 y6 z0 z1 z2 z3 z4 z5 z6; obtain ⟨⟨y0, y1, y2, y3, y4, y5, y6⟩, z0, z1, z2, z3, z4, z5, z6⟩ := B10.out.seven; clear hf hg F9 B10)
                | (go_at_call 10; refine (awake_any _).mono ?_; rintro e w11 ⟨rfl, hg⟩; have F11 := hid (F10.out.kept hg); clear y0 y1 y2 y3 y4 y5 y6 z0 z1 z2 z3 z4 z5 z6; obtain ⟨⟨y0, y1, y2, y3, y4, y5, y6⟩, z0, z1, z2, z3, z4, z5, z6⟩ := F11.out.box.seven; clear hg F10)
                | (go_at_call 9; refine calls_at (args := #[.agg #[.pointer (some ⟨w.heap.size, 0, none⟩), .slice a8 n8 k8, .slice none 0 0, .int .i64 (-1), .slice none 0 0, .int .i64 m2.ch, .bool false]]) rfl ?_; refine (las_same1 RI.out.2 F11.out).mono ?_; rintro e w12 ⟨rfl, hg⟩; have F12 := hid (F11.out.kept hg); clear y0 y1 y2 y3 y4 y5 y6 z0 z1 z2 z3 z4 z5 z6; obtain ⟨⟨y0, y1, y2, y3, y4, y5, y6⟩, z0, z1, z2, z3, z4, z5, z6⟩ := F12.out.box.seven; clear hg F11)
                | (go_at_call 9; refine calls_at (args := #[.agg #[.pointer (some ⟨wr.heap.size, 0, none⟩), .slice p9 l9 c9, .slice none 0 0, .int .i64 (-1), .slice none 0 0, .int .i64 m2.ch, .bool false]]) rfl ?_; refine (las_same2 RI.out.2 F12.out).mono ?_; rintro e w13 ⟨rfl, hg⟩; have F13 := hid (grown_trans F12.out.grown hg); clear hg F12))
              go_ret
              exact ⟨rfl, F13.out⟩
          · have i1 : ¬ (i2 : Int) < nm := by omega
            have RI := hid (And.intro L2.out.rel L2.out.inv)
            have V0 : Hid (FilesT wr (.slice p9 l9 c9) m2.sure) := (by show FilesT _ _ _; rw [HS.out]; exact V9.out)
            obtain ⟨⟨y0, y1, y2, y3, y4, y5, y6⟩, z0, z1, z2, z3, z4, z5, z6⟩ := L2.out.box.seven
            have b0 : Hid (w.heap.size < wr.heap.size) := L2.out.disk.lt
            clear HB V9 HS
            go_wp2_with (first
              | (go_at_call 14; refine (fin_clone L2.out V0.out).mono ?_; rintro e w5 ⟨rfl, hh⟩; have F5 := hid hh; clear y0 y1 y2 y3 y4 y5 y6 z0 z1 z2 z3 z4 z5 z6; obtain ⟨⟨y0, y1, y2, y3, y4, y5, y6⟩, z0, z1, z2, z3, z4, z5, z6⟩ := F5.out.box.seven; clear hh L2 V0)
              | (go_at_call 15; refine calls_at (args := #[.pointer (some ⟨wr.heap.size, 0, none⟩), .int .i64 0, .int .i64 0]) rfl ?_; refine (fin_crash2 F5.out RI.out.1 RI.out.2).mono ?_; rintro e w6 ⟨rfl, hh⟩; have F6 := hid hh; clear y0 y1 y2 y3 y4 y5 y6 z0 z1 z2 z3 z4 z5 z6; obtain ⟨⟨y0, y1, y2, y3, y4, y5, y6⟩, z0, z1, z2, z3, z4, z5, z6⟩ := F6.out.box.seven; clear hh F5)
              | (go_at_call 16; refine calls_at (args := #[.pointer (some ⟨wr.heap.size, 0, none⟩)]) rfl ?_; refine (fin_up2 F6.out).mono ?_; rintro e w7 ⟨rfl, hh⟩; have F7 := hid hh; clear y0 y1 y2 y3 y4 y5 y6 z0 z1 z2 z3 z4 z5 z6; obtain ⟨⟨y0, y1, y2, y3, y4, y5, y6⟩, z0, z1, z2, z3, z4, z5, z6⟩ := F7.out.box.seven; clear hh F6)
              | (go_at_call 15; refine calls_at (args := #[.pointer (some ⟨w.heap.size, 0, none⟩), .int .i64 keep, .int .i64 0]) rfl ?_; refine (fin_crash1 keep F7.out RI.out.1 RI.out.2).mono ?_; rintro e w8 ⟨rfl, hh⟩; have F8 := hid hh; clear y0 y1 y2 y3 y4 y5 y6 z0 z1 z2 z3 z4 z5 z6; obtain ⟨⟨y0, y1, y2, y3, y4, y5, y6⟩, z0, z1, z2, z3, z4, z5, z6⟩ := F8.out.box.seven; clear hh F7)
              | (go_at_call 16; refine calls_at (args := #[.pointer (some ⟨w.heap.size, 0, none⟩)]) rfl ?_; refine (fin_up1 F8.out).mono ?_; rintro e w9 ⟨rfl, hh⟩; have F9 := hid hh; clear y0 y1 y2 y3 y4 y5 y6 z0 z1 z2 z3 z4 z5 z6; obtain ⟨⟨y0, y1, y2, y3, y4, y5, y6⟩, z0, z1, z2, z3, z4, z5, z6⟩ := F9.out.box.seven; clear hh F8)
              | (go_at_call 17; refine (fin_rcrash keep F9.out RI.out.2 HK.out.1 HK.out.2).mono ?_; rintro e w10 ⟨a8, n8, k8, rfl, hf, hg⟩; have B10 := hid (F9.out.box.kept hg (by simp)); have F10 := hid (las_store ⟨F9.out.one.kept hg, F9.out.two.kept hg, F9.out.ne, F9.out.box.kept hg (by simp), F9.out.files.kept hg, F9.out.chgs.kept hg, F9.out.side.kept hg, grown_trans F9.out.grown hg⟩ hc hf); clear y0 y1 y2 y3 y4 y5 y6 z0 z1 z2 z3 z4 z5 z6; obtain ⟨⟨y0, y1, y2, y3, y4, y5, y6⟩, z0, z1, z2, z3, z4, z5, z6⟩ := B10.out.seven; clear hf hg F9 B10)
              | (go_at_call 10; refine (awake_any _).mono ?_; rintro e w11 ⟨rfl, hg⟩; have F11 := hid (F10.out.kept hg); clear y0 y1 y2 y3 y4 y5 y6 z0 z1 z2 z3 z4 z5 z6; obtain ⟨⟨y0, y1, y2, y3, y4, y5, y6⟩, z0, z1, z2, z3, z4, z5, z6⟩ := F11.out.box.seven; clear hg F10)
              | (go_at_call 9; refine calls_at (args := #[.agg #[.pointer (some ⟨w.heap.size, 0, none⟩), .slice a8 n8 k8, .slice none 0 0, .int .i64 (-1), .slice none 0 0, .int .i64 m2.ch, .bool false]]) rfl ?_; refine (las_same1 RI.out.2 F11.out).mono ?_; rintro e w12 ⟨rfl, hg⟩; have F12 := hid (F11.out.kept hg); clear y0 y1 y2 y3 y4 y5 y6 z0 z1 z2 z3 z4 z5 z6; obtain ⟨⟨y0, y1, y2, y3, y4, y5, y6⟩, z0, z1, z2, z3, z4, z5, z6⟩ := F12.out.box.seven; clear hg F11)
              | (go_at_call 9; refine calls_at (args := #[.agg #[.pointer (some ⟨wr.heap.size, 0, none⟩), .slice p9 l9 c9, .slice none 0 0, .int .i64 (-1), .slice none 0 0, .int .i64 m2.ch, .bool false]]) rfl ?_; refine (las_same2 RI.out.2 F12.out).mono ?_; rintro e w13 ⟨rfl, hg⟩; have F13 := hid (grown_trans F12.out.grown hg); clear hg F12))
            go_ret
            exact ⟨rfl, F13.out⟩
    · have j1 : ¬ (j : Int) < nl := by omega
      have hch2 : m.ch ≤ 30 := by omega
      obtain ⟨⟨y0, y1, y2, y3, y4, y5, y6⟩, z0, z1, z2, z3, z4, z5, z6⟩ := L.out.box.seven
      have RL := hid (And.intro L.out.rel L.out.inv)
      clear HA
      go_wp2_with (first
        | (go_at_call 11; refine (lp_sync1 L.out).mono ?_; rintro e w2 ⟨rfl, hd, hb, hf, hcg, hg⟩; have D2 := hid hd; have B2 := hid hb; have F2 := hid hf; have C2 := hid hcg; have G2 : Hid (w.grownBy w2 none) := hg; clear y0 y1 y2 y3 y4 y5 y6 z0 z1 z2 z3 z4 z5 z6; obtain ⟨⟨y0, y1, y2, y3, y4, y5, y6⟩, z0, z1, z2, z3, z4, z5, z6⟩ := B2.out.seven; clear hd hb hf hcg hg L)
        | (go_at_call 12; refine (lp_sync2 RL.out.1 RL.out.2 _ F2.out C2.out G2.out).mono ?_; rintro e w3 ⟨a2, n2, k2, rfl, hf, hg, hg2, hr, hi⟩; have B3 := hid (B2.out.kept hg (by simp)); have M3 := hid (lp_sync3 hc B3.out (D2.out.kept hg) hf rfl hr hi hg2); clear y0 y1 y2 y3 y4 y5 y6 z0 z1 z2 z3 z4 z5 z6; obtain ⟨⟨y0, y1, y2, y3, y4, y5, y6⟩, z0, z1, z2, z3, z4, z5, z6⟩ := B3.out.seven; clear hf hg hg2 hr hi D2 B2 F2 C2 G2 B3 RL)
        | (go_at_call 13; refine (lp_now M3.out).mono ?_; rintro e w4 ⟨p9, l9, c9, rfl, hv, hl⟩; have V4 := hid hv; have M4 := hid hl; clear y0 y1 y2 y3 y4 y5 y6 z0 z1 z2 z3 z4 z5 z6; clear hv hl M3))
      have HE : Hid ((syncM m).now = m.now) := rfl
      have HE2 : Hid ((syncM m).sure = m.now) := rfl
      have hsc : Hid ((syncM m).ch ≤ 30) := hch2
      generalize m.now = S at *
      generalize syncM m = m1 at *
      generalize syncD k = q1 at *
      go_loopw [10] (fun i wr => ∃ (i2 : Nat) (q : Dk) (m2 : Md) (a4 : Option Addr) (n4 k4 : Nat) (a5 : Option Addr) (n5 k5 : Nat), i2 ≤ 30 ∧ i = .int .i64 i2 ∧ Lp w wr w1.heap.size q m2 a4 n4 k4 a5 n5 k5 ∧ m2.ch ≤ 30 + i2 ∧ m2.sure = S ∧ FilesT wr (.slice p9 l9 c9) S) (fun i _ => 30 - (intOf i).toNat)
      case atStart => exact ⟨0, q1, m1, a2, n2, k2, none, 0, 0, Nat.zero_le _, rfl, M4.out, by have := hsc.out; omega, HE2.out, by have h := V4.out; rw [HE.out] at h; exact h⟩
      case round =>
        obtain ⟨i2, q, m2, a4, n4, k4, a5, n5, k5, hi30, rfl, hL2, hch3, hS, hV⟩ := hrel
        have L2 := hid hL2
        have HS : Hid (m2.sure = S) := hS
        have V9 := hid hV
        clear hL2 hS hV M4 V4 HE HE2 hsc j0 j1 hj30 hch hch2
        have i0 : (0 : Int) ≤ i2 := by omega
        by_cases hi1 : i2 < nm
        · have hp := HB.out.at_ (by omega)
          subst hp
          by_cases hi3 : i2 < 30
          · by_cases hx0 : 0 ≤ (B i2).kind
            · by_cases hx6 : (B i2).kind < 5
              · obtain ⟨u0, u1, u2, u3, u4, u5, u6, u7⟩ := (HB.out.kept L2.out.grown).eight hi1
                obtain ⟨⟨y0, y1, y2, y3, y4, y5, y6⟩, z0, z1, z2, z3, z4, z5, z6⟩ := L2.out.box.seven
                have i1 : (i2 : Int) < nm := by omega
                have i3 : (i2 : Int) < 30 := by omega
                have CE := hid (fun W (hW : wr.grownBy W none) => do_four w.heap.size w.heap.size q m2 a4 a5 n4 k4 n5 k5 (B i2).a (B i2).t (B i2).d (B i2).kind (B i2).n (B i2).p (B i2).q (B i2).r W (L2.out.disk.kept hW) (L2.out.files.kept hW) (L2.out.chgs.kept hW) L2.out.rel L2.out.inv (by omega) (HB.out.a i2 hi1) (HB.out.t i2 hi1) (HB.out.n i2 hi1) hx0 hx6)
                clear HB hi1 hi3
                generalize (B i2).kind = κ at *
                generalize (B i2).a = aa at *
                generalize (B i2).t = tt at *
                generalize (B i2).d = dd at *
                generalize (B i2).n = zn at *
                generalize (B i2).p = zp at *
                generalize (B i2).q = zq at *
                generalize (B i2).r = zr at *
                go_wp2_with fail
                go_region_with (go_at_call 8; refine (CE.out _ (grown_drew (grown_refl _ _))).mono ?_; rintro e w2 ⟨q3, m3, ⟨a6, n6, k6, a7, n7, k7, rfl, hd, hf, hcc, ht⟩, hr, hi, hle, hsu⟩; have T2 := hid (lp_store L2.out hc hd hf hcc (Tend.trans (Tend.of_none (grown_drew (grown_refl _ _))) ht) hr hi); have B2 := hid (L2.out.box.far (Far.of_tend L2.out.disk.blk.choose_spec (Tend.trans (Tend.of_none (grown_drew (grown_refl _ _))) ht)) (by decide) (by decide)); have V2 := hid (side_store L2.out V9.out (Tend.trans (Tend.of_none (grown_drew (grown_refl _ _))) ht)); have E2 : Hid (m3.sure = S) := hsu.trans HS.out; clear y0 y1 y2 y3 y4 y5 y6 z0 z1 z2 z3 z4 z5 z6; obtain ⟨⟨y0, y1, y2, y3, y4, y5, y6⟩, z0, z1, z2, z3, z4, z5, z6⟩ := B2.out.seven; clear hd hf hcc ht hr hi hsu)
                all_goals (
                  go_wp2
                  go_roundw
                  case rel => exact ⟨i2 + 1, q3, m3, a6, n6, k6, a7, n7, k7, by omega, by go_num, T2.out, by omega, E2.out, V2.out _ _ _ _ _ _ _⟩
                  case measure => simp [intOf]; omega)
              · obtain ⟨u0, _⟩ := (HB.out.kept L2.out.grown).eight hi1
                have i1 : (i2 : Int) < nm := by omega
                have i3 : (i2 : Int) < 30 := by omega
                clear hi1 hi3 HB
                go_wp2
                go_roundw
                case rel => exact ⟨i2 + 1, q, m2, a4, n4, k4, a5, n5, k5, by omega, by go_num, L2.out, by omega, HS.out, V9.out⟩
                case measure => simp [intOf]; omega
            · obtain ⟨u0, _⟩ := (HB.out.kept L2.out.grown).eight hi1
              have i1 : (i2 : Int) < nm := by omega
              have i3 : (i2 : Int) < 30 := by omega
              clear hi1 hi3 HB
              go_wp2
              go_roundw
              case rel => exact ⟨i2 + 1, q, m2, a4, n4, k4, a5, n5, k5, by omega, by go_num, L2.out, by omega, HS.out, V9.out⟩
              case measure => simp [intOf]; omega
          · obtain rfl : i2 = 30 := by omega
            have i1 : ((30 : Nat) : Int) < nm := by omega
            have RI := hid (And.intro L2.out.rel L2.out.inv)
            have V0 : Hid (FilesT wr (.slice p9 l9 c9) m2.sure) := (by show FilesT _ _ _; rw [HS.out]; exact V9.out)
            obtain ⟨⟨y0, y1, y2, y3, y4, y5, y6⟩, z0, z1, z2, z3, z4, z5, z6⟩ := L2.out.box.seven
            have b0 : Hid (w.heap.size < wr.heap.size) := L2.out.disk.lt
            clear HB V9 HS
            go_wp2_with (first
              | (go_at_call 14; refine (fin_clone L2.out V0.out).mono ?_; rintro e w5 ⟨rfl, hh⟩; have F5 := hid hh; clear y0 y1 y2 y3 y4 y5 y6 z0 z1 z2 z3 z4 z5 z6; obtain ⟨⟨y0, y1, y2, y3, y4, y5, y6⟩, z0, z1, z2, z3, z4, z5, z6⟩ := F5.out.box.seven; clear hh L2 V0)
              | (go_at_call 15; refine calls_at (args := #[.pointer (some ⟨wr.heap.size, 0, none⟩), .int .i64 0, .int .i64 0]) rfl ?_; refine (fin_crash2 F5.out RI.out.1 RI.out.2).mono ?_; rintro e w6 ⟨rfl, hh⟩; have F6 := hid hh; clear y0 y1 y2 y3 y4 y5 y6 z0 z1 z2 z3 z4 z5 z6; obtain ⟨⟨y0, y1, y2, y3, y4, y5, y6⟩, z0, z1, z2, z3, z4, z5, z6⟩ := F6.out.box.seven; clear hh F5)
              | (go_at_call 16; refine calls_at (args := #[.pointer (some ⟨wr.heap.size, 0, none⟩)]) rfl ?_; refine (fin_up2 F6.out).mono ?_; rintro e w7 ⟨rfl, hh⟩; have F7 := hid hh; clear y0 y1 y2 y3 y4 y5 y6 z0 z1 z2 z3 z4 z5 z6; obtain ⟨⟨y0, y1, y2, y3, y4, y5, y6⟩, z0, z1, z2, z3, z4, z5, z6⟩ := F7.out.box.seven; clear hh F6)
              | (go_at_call 15; refine calls_at (args := #[.pointer (some ⟨w.heap.size, 0, none⟩), .int .i64 keep, .int .i64 0]) rfl ?_; refine (fin_crash1 keep F7.out RI.out.1 RI.out.2).mono ?_; rintro e w8 ⟨rfl, hh⟩; have F8 := hid hh; clear y0 y1 y2 y3 y4 y5 y6 z0 z1 z2 z3 z4 z5 z6; obtain ⟨⟨y0, y1, y2, y3, y4, y5, y6⟩, z0, z1, z2, z3, z4, z5, z6⟩ := F8.out.box.seven; clear hh F7)
              | (go_at_call 16; refine calls_at (args := #[.pointer (some ⟨w.heap.size, 0, none⟩)]) rfl ?_; refine (fin_up1 F8.out).mono ?_; rintro e w9 ⟨rfl, hh⟩; have F9 := hid hh; clear y0 y1 y2 y3 y4 y5 y6 z0 z1 z2 z3 z4 z5 z6; obtain ⟨⟨y0, y1, y2, y3, y4, y5, y6⟩, z0, z1, z2, z3, z4, z5, z6⟩ := F9.out.box.seven; clear hh F8)
              | (go_at_call 17; refine (fin_rcrash keep F9.out RI.out.2 HK.out.1 HK.out.2).mono ?_; rintro e w10 ⟨a8, n8, k8, rfl, hf, hg⟩; have B10 := hid (F9.out.box.kept hg (by simp)); have F10 := hid (las_store ⟨F9.out.one.kept hg, F9.out.two.kept hg, F9.out.ne, F9.out.box.kept hg (by simp), F9.out.files.kept hg, F9.out.chgs.kept hg, F9.out.side.kept hg, grown_trans F9.out.grown hg⟩ hc hf); clear y0 y1 y2 y3 y4 y5 y6 z0 z1 z2 z3 z4 z5 z6; obtain ⟨⟨y0, y1, y2, y3, y4, y5, y6⟩, z0, z1, z2, z3, z4, z5, z6⟩ := B10.out.seven; clear hf hg F9 B10)
              | (go_at_call 10; refine (awake_any _).mono ?_; rintro e w11 ⟨rfl, hg⟩; have F11 := hid (F10.out.kept hg); clear y0 y1 y2 y3 y4 y5 y6 z0 z1 z2 z3 z4 z5 z6; obtain ⟨⟨y0, y1, y2, y3, y4, y5, y6⟩, z0, z1, z2, z3, z4, z5, z6⟩ := F11.out.box.seven; clear hg F10)
              | (go_at_call 9; refine calls_at (args := #[.agg #[.pointer (some ⟨w.heap.size, 0, none⟩), .slice a8 n8 k8, .slice none 0 0, .int .i64 (-1), .slice none 0 0, .int .i64 m2.ch, .bool false]]) rfl ?_; refine (las_same1 RI.out.2 F11.out).mono ?_; rintro e w12 ⟨rfl, hg⟩; have F12 := hid (F11.out.kept hg); clear y0 y1 y2 y3 y4 y5 y6 z0 z1 z2 z3 z4 z5 z6; obtain ⟨⟨y0, y1, y2, y3, y4, y5, y6⟩, z0, z1, z2, z3, z4, z5, z6⟩ := F12.out.box.seven; clear hg F11)
              | (go_at_call 9; refine calls_at (args := #[.agg #[.pointer (some ⟨wr.heap.size, 0, none⟩), .slice p9 l9 c9, .slice none 0 0, .int .i64 (-1), .slice none 0 0, .int .i64 m2.ch, .bool false]]) rfl ?_; refine (las_same2 RI.out.2 F12.out).mono ?_; rintro e w13 ⟨rfl, hg⟩; have F13 := hid (grown_trans F12.out.grown hg); clear hg F12))
            go_ret
            exact ⟨rfl, F13.out⟩
        · have i1 : ¬ (i2 : Int) < nm := by omega
          have RI := hid (And.intro L2.out.rel L2.out.inv)
          have V0 : Hid (FilesT wr (.slice p9 l9 c9) m2.sure) := (by show FilesT _ _ _; rw [HS.out]; exact V9.out)
          obtain ⟨⟨y0, y1, y2, y3, y4, y5, y6⟩, z0, z1, z2, z3, z4, z5, z6⟩ := L2.out.box.seven
          have b0 : Hid (w.heap.size < wr.heap.size) := L2.out.disk.lt
          clear HB V9 HS
          go_wp2_with (first
            | (go_at_call 14; refine (fin_clone L2.out V0.out).mono ?_; rintro e w5 ⟨rfl, hh⟩; have F5 := hid hh; clear y0 y1 y2 y3 y4 y5 y6 z0 z1 z2 z3 z4 z5 z6; obtain ⟨⟨y0, y1, y2, y3, y4, y5, y6⟩, z0, z1, z2, z3, z4, z5, z6⟩ := F5.out.box.seven; clear hh L2 V0)
            | (go_at_call 15; refine calls_at (args := #[.pointer (some ⟨wr.heap.size, 0, none⟩), .int .i64 0, .int .i64 0]) rfl ?_; refine (fin_crash2 F5.out RI.out.1 RI.out.2).mono ?_; rintro e w6 ⟨rfl, hh⟩; have F6 := hid hh; clear y0 y1 y2 y3 y4 y5 y6 z0 z1 z2 z3 z4 z5 z6; obtain ⟨⟨y0, y1, y2, y3, y4, y5, y6⟩, z0, z1, z2, z3, z4, z5, z6⟩ := F6.out.box.seven; clear hh F5)
            | (go_at_call 16; refine calls_at (args := #[.pointer (some ⟨wr.heap.size, 0, none⟩)]) rfl ?_; refine (fin_up2 F6.out).mono ?_; rintro e w7 ⟨rfl, hh⟩; have F7 := hid hh; clear y0 y1 y2 y3 y4 y5 y6 z0 z1 z2 z3 z4 z5 z6; obtain ⟨⟨y0, y1, y2, y3, y4, y5, y6⟩, z0, z1, z2, z3, z4, z5, z6⟩ := F7.out.box.seven; clear hh F6)
            | (go_at_call 15; refine calls_at (args := #[.pointer (some ⟨w.heap.size, 0, none⟩), .int .i64 keep, .int .i64 0]) rfl ?_; refine (fin_crash1 keep F7.out RI.out.1 RI.out.2).mono ?_; rintro e w8 ⟨rfl, hh⟩; have F8 := hid hh; clear y0 y1 y2 y3 y4 y5 y6 z0 z1 z2 z3 z4 z5 z6; obtain ⟨⟨y0, y1, y2, y3, y4, y5, y6⟩, z0, z1, z2, z3, z4, z5, z6⟩ := F8.out.box.seven; clear hh F7)
            | (go_at_call 16; refine calls_at (args := #[.pointer (some ⟨w.heap.size, 0, none⟩)]) rfl ?_; refine (fin_up1 F8.out).mono ?_; rintro e w9 ⟨rfl, hh⟩; have F9 := hid hh; clear y0 y1 y2 y3 y4 y5 y6 z0 z1 z2 z3 z4 z5 z6; obtain ⟨⟨y0, y1, y2, y3, y4, y5, y6⟩, z0, z1, z2, z3, z4, z5, z6⟩ := F9.out.box.seven; clear hh F8)
            | (go_at_call 17; refine (fin_rcrash keep F9.out RI.out.2 HK.out.1 HK.out.2).mono ?_; rintro e w10 ⟨a8, n8, k8, rfl, hf, hg⟩; have B10 := hid (F9.out.box.kept hg (by simp)); have F10 := hid (las_store ⟨F9.out.one.kept hg, F9.out.two.kept hg, F9.out.ne, F9.out.box.kept hg (by simp), F9.out.files.kept hg, F9.out.chgs.kept hg, F9.out.side.kept hg, grown_trans F9.out.grown hg⟩ hc hf); clear y0 y1 y2 y3 y4 y5 y6 z0 z1 z2 z3 z4 z5 z6; obtain ⟨⟨y0, y1, y2, y3, y4, y5, y6⟩, z0, z1, z2, z3, z4, z5, z6⟩ := B10.out.seven; clear hf hg F9 B10)
            | (go_at_call 10; refine (awake_any _).mono ?_; rintro e w11 ⟨rfl, hg⟩; have F11 := hid (F10.out.kept hg); clear y0 y1 y2 y3 y4 y5 y6 z0 z1 z2 z3 z4 z5 z6; obtain ⟨⟨y0, y1, y2, y3, y4, y5, y6⟩, z0, z1, z2, z3, z4, z5, z6⟩ := F11.out.box.seven; clear hg F10)
            | (go_at_call 9; refine calls_at (args := #[.agg #[.pointer (some ⟨w.heap.size, 0, none⟩), .slice a8 n8 k8, .slice none 0 0, .int .i64 (-1), .slice none 0 0, .int .i64 m2.ch, .bool false]]) rfl ?_; refine (las_same1 RI.out.2 F11.out).mono ?_; rintro e w12 ⟨rfl, hg⟩; have F12 := hid (F11.out.kept hg); clear y0 y1 y2 y3 y4 y5 y6 z0 z1 z2 z3 z4 z5 z6; obtain ⟨⟨y0, y1, y2, y3, y4, y5, y6⟩, z0, z1, z2, z3, z4, z5, z6⟩ := F12.out.box.seven; clear hg F11)
            | (go_at_call 9; refine calls_at (args := #[.agg #[.pointer (some ⟨wr.heap.size, 0, none⟩), .slice p9 l9 c9, .slice none 0 0, .int .i64 (-1), .slice none 0 0, .int .i64 m2.ch, .bool false]]) rfl ?_; refine (las_same2 RI.out.2 F12.out).mono ?_; rintro e w13 ⟨rfl, hg⟩; have F13 := hid (grown_trans F12.out.grown hg); clear hg F12))
          go_ret
          exact ⟨rfl, F13.out⟩
end Go.Proofs.Ytoenddcdafnmiaa
