/-
  The law ShaParts walked: of whatever two purposes and two lists of texts it answers true, and nothing that was there turns, where the three tables hold what the program's text lays in them.
-/
import Derived.Test.YtncplpgelfjfjaaDoorRowed
import Derived.Test.YtncplpgelfjfjaaDoorAwake
import Derived.Test.YtncplpgelfjfjaaDoorLaw7
namespace Go.Proofs.YtncplpgelfjfjaaDoor
open Go.RowKit
theorem grown_two {a b c : World} {x : Nat} {row : Option Nat} (h : a.grownBy b (some x)) (g : b.grownBy c row) (hr : ∀ k, row = some k → k = x ∨ a.heap.size ≤ k) : a.grownBy c (some x) := by
  refine ⟨g.os.trans h.os, g.tape.trans h.tape, g.output.trans h.output, Nat.le_trans h.size g.size, fun i hi hn => (g.block i (Nat.lt_of_lt_of_le hi h.size) ?_).trans (h.block i hi hn)⟩
  intro e
  rcases hr i e.symm with h1 | h1
  · exact hn (by rw [h1])
  · omega
set_option maxRecDepth 100000 in
set_option maxHeartbeats 8000000 in
theorem law6_any (p q : Nat) (pa pb : Option Addr) (n m ca cb xb xo yb yo : Nat) (S T : Nat → ByteArray) (w : World) (ht : Tabs w) (hp : p < 256) (hq : q < 256)
    (hpa : 0 < n → pa = some ⟨xb, xo, none⟩) (hc : ∀ j, j < n → w.cell? ⟨xb, xo + j, none⟩ = some (.string (S j))) (hn : (n : Int) ≤ 9223372036854775807)
    (hpb : 0 < m → pb = some ⟨yb, yo, none⟩) (hd : ∀ j, j < m → w.cell? ⟨yb, yo + j, none⟩ = some (.string (T j))) (hm : (m : Int) ≤ 9223372036854775807) :
    Calls Tryd.prog 6 #[.int .u8 p, .int .u8 q, .agg #[.slice pa n ca, .slice pb m cb]] w fun e w' => e = .returned (.bool true) ∧ w.grownBy w' none := by
  have HT : Hid (Tabs w) := ht
  have HC : Hid (∀ j, j < n → w.cell? ⟨xb, xo + j, none⟩ = some (.string (S j))) := hc
  have HPA : Hid (0 < n → pa = some ⟨xb, xo, none⟩) := hpa
  have HD : Hid (∀ j, j < m → w.cell? ⟨yb, yo + j, none⟩ = some (.string (T j))) := hd
  have HPB : Hid (0 < m → pb = some ⟨yb, yo, none⟩) := hpb
  clear ht hc hpa hd hpb
  obtain ⟨F, eF⟩ : ∃ F : Nat → ByteArray, F = fun j => fewS (S j) := ⟨_, rfl⟩
  obtain ⟨E, eE⟩ : ∃ E : Nat → ByteArray, E = fun j => fewS (T j) := ⟨_, rfl⟩
  have hF : Hid (∀ j, (F j).size ≤ 1200) := fun j => by rw [eF]; exact fewS_size _
  have hE : Hid (∀ j, (E j).size ≤ 1200) := fun j => by rw [eE]; exact fewS_size _
  have CF : Hid (∀ k w, Calls Tryd.prog 12 #[.string (S k)] w fun e w' => e = .returned (.string (F k)) ∧ w' = w) := fun k w => by rw [eF]; exact few_any _ w
  have CE : Hid (∀ k w, Calls Tryd.prog 12 #[.string (T k)] w fun e w' => e = .returned (.string (E k)) ∧ w' = w) := fun k w => by rw [eE]; exact few_any _ w
  clear eF eE
  go_enter Tryd.func6, Tryd.ntmps6
  go_wp2
  obtain ⟨w1, e1⟩ : ∃ w1, w1 = ((w.alloc (.cells #[.slice pa n ca, .slice pb m cb] 35)).alloc (.cells #[] 9)).alloc (.cells #[] 9) := ⟨_, rfl⟩
  have G1 : Hid (w.grownBy w1 none) := by rw [e1]; exact grown_alloc (grown_alloc (grown_alloc (grown_refl _ _) _) _) _
  have B1 : Hid (Blk w1 w.heap.size 35 #[.slice pa n ca, .slice pb m cb]) := by rw [e1]; exact ((Blk.new w 35 _).alloc _).alloc _
  have hs1 : w1.heap.size = w.heap.size + 3 := by rw [e1]; simp
  rw [← e1]
  clear e1
  go_loopw [7, 9] (fun v i wr => ∃ k : Nat, k ≤ n ∧ k ≤ 8 ∧ i = .int .i64 k ∧ Gath wr (w.heap.size + 3) (w.heap.size + 1) F v k ∧ w1.grownBy wr (some (w.heap.size + 1))) (fun _ i _ => 8 - (intOf i).toNat)
  case atStart => exact ⟨0, Nat.zero_le _, Nat.zero_le _, rfl, Or.inl ⟨rfl, rfl⟩, grown_refl _ _⟩
  case round =>
    obtain ⟨k, hk, hk8, rfl, hg, h3⟩ := hrel
    have HG : Hid (Gath wr (w.heap.size + 3) (w.heap.size + 1) F u7 k) := hg
    have H3 : Hid (w1.grownBy wr (some (w.heap.size + 1))) := h3
    have GW : Hid (w.grownBy wr none) := grown_through G1.out h3 (by omega)
    have BX : Hid (Blk wr w.heap.size 35 #[.slice pa n ca, .slice pb m cb]) := B1.out.kept h3 (fun e => by have := Option.some.inj e; omega)
    have hws : w1.heap.size ≤ wr.heap.size := h3.size
    clear hg h3
    have k0 : (0 : Int) ≤ (k : Int) := by omega
    have cx : wr.cell? ⟨w.heap.size, 0, none⟩ = some (.slice pa n ca) := by rw [BX.out.cell]; rfl
    by_cases hgo : k < n ∧ k < 8
    · obtain ⟨hkn, hk8'⟩ := hgo
      have hpp := HPA.out (by omega)
      subst hpp
      have c0 := HC.out k hkn
      have hxb : xb < w.heap.size := World.block_lt_of_cell? _ _ c0
      have c1 : wr.cell? ⟨xb, xo + k, none⟩ = some (.string (S k)) := ((grown_below GW.out).cell (by exact hxb)).trans c0
      have d1 : (k : Int) < (n : Int) := by omega
      have d2 : (k : Int) < 8 := by omega
      clear c0
      go_wp2_with (first | (go_at_call 12; refine (CF.out k _).mono ?_; rintro e w' ⟨rfl, hw⟩; have hw2 := hw.symm; clear hw; subst hw2) | (at_builtin; refine append_text (w.heap.size + 3) ((w.heap.size + 1)) F _ k ⟨wr.heap.size, 0, none⟩ 1 (HG.out.kept (grown_alloc (grown_refl _ _) _)) (by rw [(Blk.new wr 9 _).cell]; rfl) (by omega) (by simp; omega) _ _ rfl rfl rfl rfl ?_))
      intro v' w' hg' hgr
      have R1 : Hid (Gath w' (w.heap.size + 3) (w.heap.size + 1) F v' (k + 1)) := hg'
      have R2 : Hid (w1.grownBy w' (some (w.heap.size + 1))) := grown_two (grown_alloc H3.out _) hgr (fun g e => (by rcases HG.out.own g e with h | h <;> omega))
      clear hg' hgr HG H3
      go_wp2
      go_roundw
      case rel => exact ⟨k + 1, by omega, by omega, by go_num, R1.out, R2.out⟩
      case measure => simp [intOf]; omega
    · by_cases hkn : k < n
      · have d1 : (k : Int) < (n : Int) := by omega
        have d2 : ¬ ((k : Int) < 8) := by omega
        obtain ⟨ga, capA, ev, hca⟩ := HG.out.form
        subst ev
        have hga : ga = w.heap.size + 1 ∨ w.heap.size + 3 ≤ ga := HG.out.own ga rfl
        have HCA : Hid (∀ j, j < k → wr.cell? ⟨ga, 0 + j, none⟩ = some (.string (F j))) := hca
        clear hca HG H3
        have G2 : Hid (w.grownBy wr none) := GW.out
        have B2 : Hid (Blk wr w.heap.size 35 #[.slice pa n ca, .slice pb m cb]) := BX.out
        have hw2s : w.heap.size + 3 ≤ wr.heap.size := by omega
        clear GW BX B1 G1
        go_wp2
        obtain ⟨kA, rfl⟩ : ∃ kA, kA = k := ⟨_, rfl⟩
        obtain ⟨w2, rfl⟩ : ∃ w2, w2 = wr := ⟨_, rfl⟩
        go_loopw [8, 10] (fun v i wr => ∃ k : Nat, k ≤ m ∧ k ≤ 8 ∧ i = .int .i64 k ∧ Gath wr w2.heap.size (w.heap.size + 1 + 1) E v k ∧ w2.grownBy wr (some (w.heap.size + 1 + 1))) (fun _ i _ => 8 - (intOf i).toNat)
        case atStart => exact ⟨0, Nat.zero_le _, Nat.zero_le _, rfl, Or.inl ⟨rfl, rfl⟩, grown_refl _ _⟩
        case round =>
          obtain ⟨k, hk, hk8, rfl, hg, h3⟩ := hrel
          have HG : Hid (Gath wr w2.heap.size (w.heap.size + 1 + 1) E u8 k) := hg
          have H3 : Hid (w2.grownBy wr (some (w.heap.size + 1 + 1))) := h3
          have GW : Hid (w.grownBy wr none) := grown_through G2.out h3 (by omega)
          have BX : Hid (Blk wr w.heap.size 35 #[.slice pa n ca, .slice pb m cb]) := B2.out.kept h3 (fun e => by have := Option.some.inj e; omega)
          have hws : w2.heap.size ≤ wr.heap.size := h3.size
          clear hg h3
          have k0 : (0 : Int) ≤ (k : Int) := by omega
          have cx : wr.cell? ⟨w.heap.size, 1, none⟩ = some (.slice pb m cb) := by rw [BX.out.cell]; rfl
          by_cases hgo : k < m ∧ k < 8
          · obtain ⟨hkn, hk8'⟩ := hgo
            have hpp := HPB.out (by omega)
            subst hpp
            have c0 := HD.out k hkn
            have hxb : yb < w.heap.size := World.block_lt_of_cell? _ _ c0
            have c1 : wr.cell? ⟨yb, yo + k, none⟩ = some (.string (T k)) := ((grown_below GW.out).cell (by exact hxb)).trans c0
            have d1 : (k : Int) < (m : Int) := by omega
            have d2 : (k : Int) < 8 := by omega
            clear c0
            go_wp2_with (first | (go_at_call 12; refine (CE.out k _).mono ?_; rintro e w' ⟨rfl, hw⟩; have hw2 := hw.symm; clear hw; subst hw2) | (at_builtin; refine append_text w2.heap.size ((w.heap.size + 1 + 1)) E _ k ⟨wr.heap.size, 0, none⟩ 1 (HG.out.kept (grown_alloc (grown_refl _ _) _)) (by rw [(Blk.new wr 9 _).cell]; rfl) (by omega) (by simp; omega) _ _ rfl rfl rfl rfl ?_))
            intro v' w' hg' hgr
            have R1 : Hid (Gath w' w2.heap.size (w.heap.size + 1 + 1) E v' (k + 1)) := hg'
            have R2 : Hid (w2.grownBy w' (some (w.heap.size + 1 + 1))) := grown_two (grown_alloc H3.out _) hgr (fun g e => (by rcases HG.out.own g e with h | h <;> omega))
            clear hg' hgr HG H3
            go_wp2
            go_roundw
            case rel => exact ⟨k + 1, by omega, by omega, by go_num, R1.out, R2.out⟩
            case measure => simp [intOf]; omega
          · by_cases hkm : k < m
            · have d3 : (k : Int) < (m : Int) := by omega
              have d4 : ¬ ((k : Int) < 8) := by omega
              obtain ⟨gb, capB, ev, hcb⟩ := HG.out.form
              subst ev
              have HCB : Hid (∀ j, j < k → wr.cell? ⟨gb, 0 + j, none⟩ = some (.string (E j))) := hcb
              have HCA3 : Hid (∀ j, j < kA → wr.cell? ⟨ga, 0 + j, none⟩ = some (.string (F j))) := fun j hj => by
                have hc := HCA.out j hj
                have hl : ga < w2.heap.size := World.block_lt_of_cell? _ _ hc
                rw [← hc]
                exact World.cell?_of_block (w := w2) (H3.out.block ga hl (fun e => by have := Option.some.inj e; omega))
              have G3 : Hid (w.grownBy wr none) := GW.out
              clear hcb HG H3 HCA GW BX B2 G2
              go_wp2_with fail
              clear cx
              obtain ⟨kB, rfl⟩ : ∃ kB, kB = k := ⟨_, rfl⟩
              obtain ⟨w3, rfl⟩ : ∃ w3, w3 = wr := ⟨_, rfl⟩
              have TX : Hid (∀ wx, w3.grownBy wx none → Tabs wx) := fun wx g => HT.out.kept (grown_none G3.out g) (by simp) (by simp) (by simp)
              have CA : Hid (∀ wx, w3.grownBy wx none → ∀ j, j < kA → wx.cell? ⟨ga, 0 + j, none⟩ = some (.string (F j))) := fun wx g j hj => ((grown_below g).cell (World.block_lt_of_cell? _ _ (HCA3.out j hj))).trans (HCA3.out j hj)
              have CB : Hid (∀ wx, w3.grownBy wx none → ∀ j, j < kB → wx.cell? ⟨gb, 0 + j, none⟩ = some (.string (E j))) := fun wx g j hj => ((grown_below g).cell (World.block_lt_of_cell? _ _ (HCB.out j hj))).trans (HCB.out j hj)
              have hXs := partsS_size p F kA hF.out (by omega)
              have hYs := partsS_size q E kB hE.out (by omega)
              have hiff := partsS_iff p q F E kA kB hp hq hF.out hE.out
              obtain ⟨X, eX⟩ : ∃ X, partsS p F kA = X := ⟨_, rfl⟩
              obtain ⟨Y, eY⟩ : ∃ Y, partsS q E kB = Y := ⟨_, rfl⟩
              obtain ⟨DX, eDX⟩ : ∃ D, digestS X = D := ⟨_, rfl⟩
              obtain ⟨DY, eDY⟩ : ∃ D, digestS Y = D := ⟨_, rfl⟩
              have T1 : Hid (∀ wx, w3.grownBy wx none → Calls Tryd.prog 17 #[.int .u8 p, .slice (some ⟨ga, 0, none⟩) kA capA] wx fun e w' => e = .returned (.string DX) ∧ wx.grownBy w' none) := fun wx g => by rw [← eDX, ← eX]; exact tagged_any p _ kA capA ga 0 F wx (TX.out wx g) hp (fun _ => rfl) (CA.out wx g) (by omega) hF.out
              have T2 : Hid (∀ wx, w3.grownBy wx none → Calls Tryd.prog 17 #[.int .u8 q, .slice (some ⟨gb, 0, none⟩) kB capB] wx fun e w' => e = .returned (.string DY) ∧ wx.grownBy w' none) := fun wx g => by rw [← eDY, ← eY]; exact tagged_any q _ kB capB gb 0 E wx (TX.out wx g) hq (fun _ => rfl) (CB.out wx g) (by omega) hE.out
              have R1 : Hid (∀ wx, w3.grownBy wx none → Calls Tryd.prog 18 #[.int .u8 p, .slice (some ⟨ga, 0, none⟩) kA capA] wx fun e w' => e = .returned (.string DX) ∧ wx.grownBy w' none) := fun wx g => by rw [← eDX, ← eX]; exact refTagged_any p _ kA capA ga 0 F wx hp (fun _ => rfl) (CA.out wx g) (by omega) hF.out
              have R2 : Hid (∀ wx, w3.grownBy wx none → Calls Tryd.prog 18 #[.int .u8 q, .slice (some ⟨gb, 0, none⟩) kB capB] wx fun e w' => e = .returned (.string DY) ∧ wx.grownBy w' none) := fun wx g => by rw [← eDY, ← eY]; exact refTagged_any q _ kB capB gb 0 E wx hq (fun _ => rfl) (CB.out wx g) (by omega) hE.out
              have P1 : Hid (∀ wx, w3.grownBy wx none → Calls Tryd.prog 19 #[.int .u8 p, .slice (some ⟨ga, 0, none⟩) kA capA] wx fun e w' => e = .returned (.string X) ∧ wx.grownBy w' none) := fun wx g => by rw [← eX]; exact refParts_any p _ kA capA ga 0 F wx hp (fun _ => rfl) (CA.out wx g) (by omega) hF.out
              have P2 : Hid (∀ wx, w3.grownBy wx none → Calls Tryd.prog 19 #[.int .u8 q, .slice (some ⟨gb, 0, none⟩) kB capB] wx fun e w' => e = .returned (.string Y) ∧ wx.grownBy w' none) := fun wx g => by rw [← eY]; exact refParts_any q _ kB capB gb 0 E wx hq (fun _ => rfl) (CB.out wx g) (by omega) hE.out
              rw [eX, eY] at hiff
              rw [eX] at hXs
              rw [eY] at hYs
              have CL : Hid (∀ wx, w3.grownBy wx none → Calls Tryd.prog 20 #[.agg #[.string X, .string Y]] wx fun e w' => e = .returned (.bool (!decide (X = Y) && decide (DX = DY))) ∧ wx.grownBy w' none) := fun wx g => by rw [← eDX, ← eDY]; exact collide_any X Y wx (TX.out wx g) (by omega) (by omega)
              have HDD : Hid (X = Y → DX = DY) := fun e => by rw [← eDX, ← eDY, e]
              have HIFF : Hid (X = Y ↔ p = q ∧ kA = kB ∧ ∀ j, j < kA → F j = E j) := hiff
              clear eX eY eDX eDY hiff hXs hYs HCA3 HCB
              by_cases hpq : p = q
              · subst hpq
                by_cases hkk : kA = kB
                · subst hkk
                  have H2 : Hid (X = Y ↔ ∀ j, j < kA → F j = E j) := ⟨fun e => (HIFF.out.1 e).2.2, fun h => HIFF.out.2 ⟨rfl, rfl, h⟩⟩
                  clear HIFF
                  go_wp2_with (first | (go_at_call 17; refine calls_at (args := #[.int .u8 p, .slice (some ⟨ga, 0, none⟩) kA capA]) rfl ?_; refine (T1.out _ (grown_refl _ _)).mono ?_; rintro e w4 ⟨rfl, hg4⟩; have G4 : Hid (w3.grownBy w4 none) := hg4; clear hg4) | (go_at_call 17; refine calls_at (args := #[.int .u8 p, .slice (some ⟨gb, 0, none⟩) kA capB]) rfl ?_; refine (T2.out _ G4.out).mono ?_; rintro e w5 ⟨rfl, hg5⟩; have G5 : Hid (w3.grownBy w5 none) := grown_none G4.out hg5; clear hg5 G4))
                  go_loopw [13, 14] (fun v i wr => ∃ k : Nat, k ≤ kA ∧ i = .int .i64 k ∧ v = .bool (decide (∀ j, j < k → F j = E j)) ∧ w3.grownBy wr none) (fun _ i _ => kA - (intOf i).toNat)
                  case atStart => exact ⟨0, Nat.zero_le _, rfl, by rw [decide_eq_true (fun j hj => absurd hj (Nat.not_lt_zero j))], G5.out⟩
                  case round =>
                    obtain ⟨k, hk3, rfl, rfl, h3⟩ := hrel
                    have GA : Hid (w3.grownBy wr none) := h3
                    clear h3
                    have k03 : (0 : Int) ≤ (k : Int) := by omega
                    by_cases hall : ∀ j, j < k → F j = E j
                    · rw [decide_eq_true hall]
                      by_cases hkk : k < kA
                      · have d5 : (k : Int) < (kA : Int) := by omega
                        have c1 := CA.out wr GA.out k hkk
                        have c2 := CB.out wr GA.out k hkk
                        rw [Nat.zero_add] at c1 c2
                        have hstep : Hid (((F k).toList == (E k).toList) = decide (∀ j, j < k + 1 → F j = E j)) := by
                          have e : ((F k).toList == (E k).toList) = decide (∀ j, j < k + 1 → F j = E j) := by
                            by_cases e : F k = E k
                            · rw [e, beq_self_eq_true]
                              refine (decide_eq_true (fun j hj => ?_)).symm
                              by_cases h : j = k
                              · rw [h]; exact e
                              · exact hall j (by omega)
                            · rw [toList_ne e]
                              exact (decide_eq_false (fun h => e (h k (by omega)))).symm
                          exact e
                        clear hall
                        go_wp2
                        go_region
                        go_wp2
                        go_roundw
                        case rel => exact ⟨k + 1, by omega, by go_num, by rw [hstep.out], grown_drew GA.out⟩
                        case measure => simp [intOf]; omega
                      · have e : k = kA := by omega
                        subst e
                        have d5 : ¬ ((k : Int) < (k : Int)) := by omega
                        have hXY : X = Y := H2.out.2 hall
                        clear hall
                        have hx : (X.toList == Y.toList) = true := by rw [hXY]; exact beq_self_eq_true _
                        have hd1 : (DX.toList == DY.toList) = true := by rw [HDD.out hXY]; exact beq_self_eq_true _
                        clear hXY
                        go_wp2_with (first | (go_at_call 8; refine (awake_any _ (TX.out _ GA.out)).mono ?_; rintro e w6 ⟨rfl, hg6⟩; have GB : Hid (w3.grownBy w6 none) := grown_none GA.out hg6; clear hg6) | (go_at_call 18; refine calls_at (args := #[.int .u8 p, .slice (some ⟨ga, 0, none⟩) k capA]) rfl ?_; refine (R1.out _ GB.out).mono ?_; rintro e w7 ⟨rfl, hg7⟩; have GC : Hid (w3.grownBy w7 none) := grown_none GB.out hg7; clear hg7 GB) | (go_at_call 18; refine calls_at (args := #[.int .u8 p, .slice (some ⟨gb, 0, none⟩) k capB]) rfl ?_; refine (R2.out _ GC.out).mono ?_; rintro e w8 ⟨rfl, hg8⟩; have GD : Hid (w3.grownBy w8 none) := grown_none GC.out hg8; clear hg8 GC) | (go_at_call 19; refine calls_at (args := #[.int .u8 p, .slice (some ⟨ga, 0, none⟩) k capA]) rfl ?_; refine (P1.out _ GD.out).mono ?_; rintro e w9 ⟨rfl, hg9⟩; have GE : Hid (w3.grownBy w9 none) := grown_none GD.out hg9; clear hg9 GD) | (go_at_call 19; refine calls_at (args := #[.int .u8 p, .slice (some ⟨gb, 0, none⟩) k capB]) rfl ?_; refine (P2.out _ GE.out).mono ?_; rintro e w10 ⟨rfl, hg10⟩; have GF : Hid (w3.grownBy w10 none) := grown_none GE.out hg10; clear hg10 GE) | (go_at_call 20; refine (CL.out _ GF.out).mono ?_; rintro e w11 ⟨rfl, hg11⟩; have GG : Hid (w3.grownBy w11 none) := grown_none GF.out hg11; clear hg11))
                        go_ret
                        exact ⟨rfl, grown_none G3.out GF.out⟩

                    · rw [decide_eq_false hall]
                      have hXY : ¬ X = Y := fun e => hall (fun j hj => H2.out.1 e j (by omega))
                      clear hall
                      by_cases hkk : k < kA
                      · have d5 : (k : Int) < (kA : Int) := by omega
                        have hx := toList_ne hXY
                        have hcl : decide (X = Y) = false := decide_eq_false hXY
                        by_cases hDD : DX = DY
                        · have hd1 : (DX.toList == DY.toList) = true := by rw [hDD]; exact beq_self_eq_true _
                          have hd2 : decide (DX = DY) = true := decide_eq_true hDD
                          clear hDD hXY
                          go_wp2_with (first | (go_at_call 8; refine (awake_any _ (TX.out _ GA.out)).mono ?_; rintro e w6 ⟨rfl, hg6⟩; have GB : Hid (w3.grownBy w6 none) := grown_none GA.out hg6; clear hg6) | (go_at_call 18; refine calls_at (args := #[.int .u8 p, .slice (some ⟨ga, 0, none⟩) kA capA]) rfl ?_; refine (R1.out _ GB.out).mono ?_; rintro e w7 ⟨rfl, hg7⟩; have GC : Hid (w3.grownBy w7 none) := grown_none GB.out hg7; clear hg7 GB) | (go_at_call 18; refine calls_at (args := #[.int .u8 p, .slice (some ⟨gb, 0, none⟩) kA capB]) rfl ?_; refine (R2.out _ GC.out).mono ?_; rintro e w8 ⟨rfl, hg8⟩; have GD : Hid (w3.grownBy w8 none) := grown_none GC.out hg8; clear hg8 GC) | (go_at_call 19; refine calls_at (args := #[.int .u8 p, .slice (some ⟨ga, 0, none⟩) kA capA]) rfl ?_; refine (P1.out _ GD.out).mono ?_; rintro e w9 ⟨rfl, hg9⟩; have GE : Hid (w3.grownBy w9 none) := grown_none GD.out hg9; clear hg9 GD) | (go_at_call 19; refine calls_at (args := #[.int .u8 p, .slice (some ⟨gb, 0, none⟩) kA capB]) rfl ?_; refine (P2.out _ GE.out).mono ?_; rintro e w10 ⟨rfl, hg10⟩; have GF : Hid (w3.grownBy w10 none) := grown_none GE.out hg10; clear hg10 GE) | (go_at_call 20; refine (CL.out _ GF.out).mono ?_; rintro e w11 ⟨rfl, hg11⟩; have GG : Hid (w3.grownBy w11 none) := grown_none GF.out hg11; clear hg11))
                          go_ret
                          refine ⟨?_, grown_none G3.out GG.out⟩
                          first | rfl | (show Ending.returned (.bool (!decide (X = Y) && decide (DX = DY))) = _; rw [hcl, hd2]; rfl)
                        · have hd1 := toList_ne hDD
                          clear hDD hXY
                          go_wp2_with (first | (go_at_call 8; refine (awake_any _ (TX.out _ GA.out)).mono ?_; rintro e w6 ⟨rfl, hg6⟩; have GB : Hid (w3.grownBy w6 none) := grown_none GA.out hg6; clear hg6) | (go_at_call 18; refine calls_at (args := #[.int .u8 p, .slice (some ⟨ga, 0, none⟩) kA capA]) rfl ?_; refine (R1.out _ GB.out).mono ?_; rintro e w7 ⟨rfl, hg7⟩; have GC : Hid (w3.grownBy w7 none) := grown_none GB.out hg7; clear hg7 GB) | (go_at_call 18; refine calls_at (args := #[.int .u8 p, .slice (some ⟨gb, 0, none⟩) kA capB]) rfl ?_; refine (R2.out _ GC.out).mono ?_; rintro e w8 ⟨rfl, hg8⟩; have GD : Hid (w3.grownBy w8 none) := grown_none GC.out hg8; clear hg8 GC) | (go_at_call 19; refine calls_at (args := #[.int .u8 p, .slice (some ⟨ga, 0, none⟩) kA capA]) rfl ?_; refine (P1.out _ GD.out).mono ?_; rintro e w9 ⟨rfl, hg9⟩; have GE : Hid (w3.grownBy w9 none) := grown_none GD.out hg9; clear hg9 GD) | (go_at_call 19; refine calls_at (args := #[.int .u8 p, .slice (some ⟨gb, 0, none⟩) kA capB]) rfl ?_; refine (P2.out _ GE.out).mono ?_; rintro e w10 ⟨rfl, hg10⟩; have GF : Hid (w3.grownBy w10 none) := grown_none GE.out hg10; clear hg10 GE) | (go_at_call 20; refine (CL.out _ GF.out).mono ?_; rintro e w11 ⟨rfl, hg11⟩; have GG : Hid (w3.grownBy w11 none) := grown_none GF.out hg11; clear hg11))
                          go_ret
                          exact ⟨rfl, grown_none G3.out GF.out⟩

                      · have d5 : ¬ ((k : Int) < (kA : Int)) := by omega
                        have hx := toList_ne hXY
                        have hcl : decide (X = Y) = false := decide_eq_false hXY
                        by_cases hDD : DX = DY
                        · have hd1 : (DX.toList == DY.toList) = true := by rw [hDD]; exact beq_self_eq_true _
                          have hd2 : decide (DX = DY) = true := decide_eq_true hDD
                          clear hDD hXY
                          go_wp2_with (first | (go_at_call 8; refine (awake_any _ (TX.out _ GA.out)).mono ?_; rintro e w6 ⟨rfl, hg6⟩; have GB : Hid (w3.grownBy w6 none) := grown_none GA.out hg6; clear hg6) | (go_at_call 18; refine calls_at (args := #[.int .u8 p, .slice (some ⟨ga, 0, none⟩) kA capA]) rfl ?_; refine (R1.out _ GB.out).mono ?_; rintro e w7 ⟨rfl, hg7⟩; have GC : Hid (w3.grownBy w7 none) := grown_none GB.out hg7; clear hg7 GB) | (go_at_call 18; refine calls_at (args := #[.int .u8 p, .slice (some ⟨gb, 0, none⟩) kA capB]) rfl ?_; refine (R2.out _ GC.out).mono ?_; rintro e w8 ⟨rfl, hg8⟩; have GD : Hid (w3.grownBy w8 none) := grown_none GC.out hg8; clear hg8 GC) | (go_at_call 19; refine calls_at (args := #[.int .u8 p, .slice (some ⟨ga, 0, none⟩) kA capA]) rfl ?_; refine (P1.out _ GD.out).mono ?_; rintro e w9 ⟨rfl, hg9⟩; have GE : Hid (w3.grownBy w9 none) := grown_none GD.out hg9; clear hg9 GD) | (go_at_call 19; refine calls_at (args := #[.int .u8 p, .slice (some ⟨gb, 0, none⟩) kA capB]) rfl ?_; refine (P2.out _ GE.out).mono ?_; rintro e w10 ⟨rfl, hg10⟩; have GF : Hid (w3.grownBy w10 none) := grown_none GE.out hg10; clear hg10 GE) | (go_at_call 20; refine (CL.out _ GF.out).mono ?_; rintro e w11 ⟨rfl, hg11⟩; have GG : Hid (w3.grownBy w11 none) := grown_none GF.out hg11; clear hg11))
                          go_ret
                          refine ⟨?_, grown_none G3.out GG.out⟩
                          first | rfl | (show Ending.returned (.bool (!decide (X = Y) && decide (DX = DY))) = _; rw [hcl, hd2]; rfl)
                        · have hd1 := toList_ne hDD
                          clear hDD hXY
                          go_wp2_with (first | (go_at_call 8; refine (awake_any _ (TX.out _ GA.out)).mono ?_; rintro e w6 ⟨rfl, hg6⟩; have GB : Hid (w3.grownBy w6 none) := grown_none GA.out hg6; clear hg6) | (go_at_call 18; refine calls_at (args := #[.int .u8 p, .slice (some ⟨ga, 0, none⟩) kA capA]) rfl ?_; refine (R1.out _ GB.out).mono ?_; rintro e w7 ⟨rfl, hg7⟩; have GC : Hid (w3.grownBy w7 none) := grown_none GB.out hg7; clear hg7 GB) | (go_at_call 18; refine calls_at (args := #[.int .u8 p, .slice (some ⟨gb, 0, none⟩) kA capB]) rfl ?_; refine (R2.out _ GC.out).mono ?_; rintro e w8 ⟨rfl, hg8⟩; have GD : Hid (w3.grownBy w8 none) := grown_none GC.out hg8; clear hg8 GC) | (go_at_call 19; refine calls_at (args := #[.int .u8 p, .slice (some ⟨ga, 0, none⟩) kA capA]) rfl ?_; refine (P1.out _ GD.out).mono ?_; rintro e w9 ⟨rfl, hg9⟩; have GE : Hid (w3.grownBy w9 none) := grown_none GD.out hg9; clear hg9 GD) | (go_at_call 19; refine calls_at (args := #[.int .u8 p, .slice (some ⟨gb, 0, none⟩) kA capB]) rfl ?_; refine (P2.out _ GE.out).mono ?_; rintro e w10 ⟨rfl, hg10⟩; have GF : Hid (w3.grownBy w10 none) := grown_none GE.out hg10; clear hg10 GE) | (go_at_call 20; refine (CL.out _ GF.out).mono ?_; rintro e w11 ⟨rfl, hg11⟩; have GG : Hid (w3.grownBy w11 none) := grown_none GF.out hg11; clear hg11))
                          go_ret
                          exact ⟨rfl, grown_none G3.out GF.out⟩

                · have hXY : ¬ X = Y := fun e => hkk (HIFF.out.1 e).2.1
                  have hkk' : ((kA : Int) == (kB : Int)) = false := by rw [beq_eq_false_iff_ne]; omega
                  clear hkk
                  go_wp2_with (first | (go_at_call 17; refine calls_at (args := #[.int .u8 p, .slice (some ⟨ga, 0, none⟩) kA capA]) rfl ?_; refine (T1.out _ (grown_refl _ _)).mono ?_; rintro e w4 ⟨rfl, hg4⟩; have G4 : Hid (w3.grownBy w4 none) := hg4; clear hg4) | (go_at_call 17; refine calls_at (args := #[.int .u8 p, .slice (some ⟨gb, 0, none⟩) kB capB]) rfl ?_; refine (T2.out _ G4.out).mono ?_; rintro e w5 ⟨rfl, hg5⟩; have G5 : Hid (w3.grownBy w5 none) := grown_none G4.out hg5; clear hg5 G4))
                  go_loopw [13, 14] (fun v i wr => i = .int .i64 0 ∧ v = .bool false ∧ w3.grownBy wr none) (fun _ _ _ => 0)
                  case atStart => exact ⟨rfl, by first | rfl | rw [hkk'], G5.out⟩
                  case round =>
                    obtain ⟨rfl, rfl, h3⟩ := hrel
                    have GA : Hid (w3.grownBy wr none) := h3
                    clear h3
                    by_cases h0 : 0 < kA
                    · have h0' : (0 : Int) < (kA : Int) := by omega
                      have hx := toList_ne hXY
                      have hcl : decide (X = Y) = false := decide_eq_false hXY
                      by_cases hDD : DX = DY
                      · have hd1 : (DX.toList == DY.toList) = true := by rw [hDD]; exact beq_self_eq_true _
                        have hd2 : decide (DX = DY) = true := decide_eq_true hDD
                        clear hDD hXY
                        go_wp2_with (first | (go_at_call 8; refine (awake_any _ (TX.out _ GA.out)).mono ?_; rintro e w6 ⟨rfl, hg6⟩; have GB : Hid (w3.grownBy w6 none) := grown_none GA.out hg6; clear hg6) | (go_at_call 18; refine calls_at (args := #[.int .u8 p, .slice (some ⟨ga, 0, none⟩) kA capA]) rfl ?_; refine (R1.out _ GB.out).mono ?_; rintro e w7 ⟨rfl, hg7⟩; have GC : Hid (w3.grownBy w7 none) := grown_none GB.out hg7; clear hg7 GB) | (go_at_call 18; refine calls_at (args := #[.int .u8 p, .slice (some ⟨gb, 0, none⟩) kB capB]) rfl ?_; refine (R2.out _ GC.out).mono ?_; rintro e w8 ⟨rfl, hg8⟩; have GD : Hid (w3.grownBy w8 none) := grown_none GC.out hg8; clear hg8 GC) | (go_at_call 19; refine calls_at (args := #[.int .u8 p, .slice (some ⟨ga, 0, none⟩) kA capA]) rfl ?_; refine (P1.out _ GD.out).mono ?_; rintro e w9 ⟨rfl, hg9⟩; have GE : Hid (w3.grownBy w9 none) := grown_none GD.out hg9; clear hg9 GD) | (go_at_call 19; refine calls_at (args := #[.int .u8 p, .slice (some ⟨gb, 0, none⟩) kB capB]) rfl ?_; refine (P2.out _ GE.out).mono ?_; rintro e w10 ⟨rfl, hg10⟩; have GF : Hid (w3.grownBy w10 none) := grown_none GE.out hg10; clear hg10 GE) | (go_at_call 20; refine (CL.out _ GF.out).mono ?_; rintro e w11 ⟨rfl, hg11⟩; have GG : Hid (w3.grownBy w11 none) := grown_none GF.out hg11; clear hg11))
                        go_ret
                        refine ⟨?_, grown_none G3.out GG.out⟩
                        first | rfl | (show Ending.returned (.bool (!decide (X = Y) && decide (DX = DY))) = _; rw [hcl, hd2]; rfl)
                      · have hd1 := toList_ne hDD
                        clear hDD hXY
                        go_wp2_with (first | (go_at_call 8; refine (awake_any _ (TX.out _ GA.out)).mono ?_; rintro e w6 ⟨rfl, hg6⟩; have GB : Hid (w3.grownBy w6 none) := grown_none GA.out hg6; clear hg6) | (go_at_call 18; refine calls_at (args := #[.int .u8 p, .slice (some ⟨ga, 0, none⟩) kA capA]) rfl ?_; refine (R1.out _ GB.out).mono ?_; rintro e w7 ⟨rfl, hg7⟩; have GC : Hid (w3.grownBy w7 none) := grown_none GB.out hg7; clear hg7 GB) | (go_at_call 18; refine calls_at (args := #[.int .u8 p, .slice (some ⟨gb, 0, none⟩) kB capB]) rfl ?_; refine (R2.out _ GC.out).mono ?_; rintro e w8 ⟨rfl, hg8⟩; have GD : Hid (w3.grownBy w8 none) := grown_none GC.out hg8; clear hg8 GC) | (go_at_call 19; refine calls_at (args := #[.int .u8 p, .slice (some ⟨ga, 0, none⟩) kA capA]) rfl ?_; refine (P1.out _ GD.out).mono ?_; rintro e w9 ⟨rfl, hg9⟩; have GE : Hid (w3.grownBy w9 none) := grown_none GD.out hg9; clear hg9 GD) | (go_at_call 19; refine calls_at (args := #[.int .u8 p, .slice (some ⟨gb, 0, none⟩) kB capB]) rfl ?_; refine (P2.out _ GE.out).mono ?_; rintro e w10 ⟨rfl, hg10⟩; have GF : Hid (w3.grownBy w10 none) := grown_none GE.out hg10; clear hg10 GE) | (go_at_call 20; refine (CL.out _ GF.out).mono ?_; rintro e w11 ⟨rfl, hg11⟩; have GG : Hid (w3.grownBy w11 none) := grown_none GF.out hg11; clear hg11))
                        go_ret
                        exact ⟨rfl, grown_none G3.out GF.out⟩

                    · exfalso; omega
              · have hXY : ¬ X = Y := fun e => hpq (HIFF.out.1 e).1
                have hpq' : ¬ ((p : Int) = (q : Int)) := by omega
                clear hpq
                go_wp2_with (first | (go_at_call 17; refine calls_at (args := #[.int .u8 p, .slice (some ⟨ga, 0, none⟩) kA capA]) rfl ?_; refine (T1.out _ (grown_refl _ _)).mono ?_; rintro e w4 ⟨rfl, hg4⟩; have G4 : Hid (w3.grownBy w4 none) := hg4; clear hg4) | (go_at_call 17; refine calls_at (args := #[.int .u8 q, .slice (some ⟨gb, 0, none⟩) kB capB]) rfl ?_; refine (T2.out _ G4.out).mono ?_; rintro e w5 ⟨rfl, hg5⟩; have G5 : Hid (w3.grownBy w5 none) := grown_none G4.out hg5; clear hg5 G4))
                go_loopw [13, 14] (fun v i wr => i = .int .i64 0 ∧ v = .bool false ∧ w3.grownBy wr none) (fun _ _ _ => 0)
                case atStart => exact ⟨rfl, by first | rfl | rw [hkk'], G5.out⟩
                case round =>
                  obtain ⟨rfl, rfl, h3⟩ := hrel
                  have GA : Hid (w3.grownBy wr none) := h3
                  clear h3
                  by_cases h0 : 0 < kA
                  · have h0' : (0 : Int) < (kA : Int) := by omega
                    have hx := toList_ne hXY
                    have hcl : decide (X = Y) = false := decide_eq_false hXY
                    by_cases hDD : DX = DY
                    · have hd1 : (DX.toList == DY.toList) = true := by rw [hDD]; exact beq_self_eq_true _
                      have hd2 : decide (DX = DY) = true := decide_eq_true hDD
                      clear hDD hXY
                      go_wp2_with (first | (go_at_call 8; refine (awake_any _ (TX.out _ GA.out)).mono ?_; rintro e w6 ⟨rfl, hg6⟩; have GB : Hid (w3.grownBy w6 none) := grown_none GA.out hg6; clear hg6) | (go_at_call 18; refine calls_at (args := #[.int .u8 p, .slice (some ⟨ga, 0, none⟩) kA capA]) rfl ?_; refine (R1.out _ GB.out).mono ?_; rintro e w7 ⟨rfl, hg7⟩; have GC : Hid (w3.grownBy w7 none) := grown_none GB.out hg7; clear hg7 GB) | (go_at_call 18; refine calls_at (args := #[.int .u8 q, .slice (some ⟨gb, 0, none⟩) kB capB]) rfl ?_; refine (R2.out _ GC.out).mono ?_; rintro e w8 ⟨rfl, hg8⟩; have GD : Hid (w3.grownBy w8 none) := grown_none GC.out hg8; clear hg8 GC) | (go_at_call 19; refine calls_at (args := #[.int .u8 p, .slice (some ⟨ga, 0, none⟩) kA capA]) rfl ?_; refine (P1.out _ GD.out).mono ?_; rintro e w9 ⟨rfl, hg9⟩; have GE : Hid (w3.grownBy w9 none) := grown_none GD.out hg9; clear hg9 GD) | (go_at_call 19; refine calls_at (args := #[.int .u8 q, .slice (some ⟨gb, 0, none⟩) kB capB]) rfl ?_; refine (P2.out _ GE.out).mono ?_; rintro e w10 ⟨rfl, hg10⟩; have GF : Hid (w3.grownBy w10 none) := grown_none GE.out hg10; clear hg10 GE) | (go_at_call 20; refine (CL.out _ GF.out).mono ?_; rintro e w11 ⟨rfl, hg11⟩; have GG : Hid (w3.grownBy w11 none) := grown_none GF.out hg11; clear hg11))
                      go_ret
                      refine ⟨?_, grown_none G3.out GG.out⟩
                      first | rfl | (show Ending.returned (.bool (!decide (X = Y) && decide (DX = DY))) = _; rw [hcl, hd2]; rfl)
                    · have hd1 := toList_ne hDD
                      clear hDD hXY
                      go_wp2_with (first | (go_at_call 8; refine (awake_any _ (TX.out _ GA.out)).mono ?_; rintro e w6 ⟨rfl, hg6⟩; have GB : Hid (w3.grownBy w6 none) := grown_none GA.out hg6; clear hg6) | (go_at_call 18; refine calls_at (args := #[.int .u8 p, .slice (some ⟨ga, 0, none⟩) kA capA]) rfl ?_; refine (R1.out _ GB.out).mono ?_; rintro e w7 ⟨rfl, hg7⟩; have GC : Hid (w3.grownBy w7 none) := grown_none GB.out hg7; clear hg7 GB) | (go_at_call 18; refine calls_at (args := #[.int .u8 q, .slice (some ⟨gb, 0, none⟩) kB capB]) rfl ?_; refine (R2.out _ GC.out).mono ?_; rintro e w8 ⟨rfl, hg8⟩; have GD : Hid (w3.grownBy w8 none) := grown_none GC.out hg8; clear hg8 GC) | (go_at_call 19; refine calls_at (args := #[.int .u8 p, .slice (some ⟨ga, 0, none⟩) kA capA]) rfl ?_; refine (P1.out _ GD.out).mono ?_; rintro e w9 ⟨rfl, hg9⟩; have GE : Hid (w3.grownBy w9 none) := grown_none GD.out hg9; clear hg9 GD) | (go_at_call 19; refine calls_at (args := #[.int .u8 q, .slice (some ⟨gb, 0, none⟩) kB capB]) rfl ?_; refine (P2.out _ GE.out).mono ?_; rintro e w10 ⟨rfl, hg10⟩; have GF : Hid (w3.grownBy w10 none) := grown_none GE.out hg10; clear hg10 GE) | (go_at_call 20; refine (CL.out _ GF.out).mono ?_; rintro e w11 ⟨rfl, hg11⟩; have GG : Hid (w3.grownBy w11 none) := grown_none GF.out hg11; clear hg11))
                      go_ret
                      exact ⟨rfl, grown_none G3.out GF.out⟩

                  · exfalso; omega
            · have d3 : ¬ ((k : Int) < (m : Int)) := by omega
              obtain ⟨gb, capB, ev, hcb⟩ := HG.out.form
              subst ev
              have HCB : Hid (∀ j, j < k → wr.cell? ⟨gb, 0 + j, none⟩ = some (.string (E j))) := hcb
              have HCA3 : Hid (∀ j, j < kA → wr.cell? ⟨ga, 0 + j, none⟩ = some (.string (F j))) := fun j hj => by
                have hc := HCA.out j hj
                have hl : ga < w2.heap.size := World.block_lt_of_cell? _ _ hc
                rw [← hc]
                exact World.cell?_of_block (w := w2) (H3.out.block ga hl (fun e => by have := Option.some.inj e; omega))
              have G3 : Hid (w.grownBy wr none) := GW.out
              clear hcb HG H3 HCA GW BX B2 G2
              go_wp2_with fail
              clear cx
              obtain ⟨kB, rfl⟩ : ∃ kB, kB = k := ⟨_, rfl⟩
              obtain ⟨w3, rfl⟩ : ∃ w3, w3 = wr := ⟨_, rfl⟩
              have TX : Hid (∀ wx, w3.grownBy wx none → Tabs wx) := fun wx g => HT.out.kept (grown_none G3.out g) (by simp) (by simp) (by simp)
              have CA : Hid (∀ wx, w3.grownBy wx none → ∀ j, j < kA → wx.cell? ⟨ga, 0 + j, none⟩ = some (.string (F j))) := fun wx g j hj => ((grown_below g).cell (World.block_lt_of_cell? _ _ (HCA3.out j hj))).trans (HCA3.out j hj)
              have CB : Hid (∀ wx, w3.grownBy wx none → ∀ j, j < kB → wx.cell? ⟨gb, 0 + j, none⟩ = some (.string (E j))) := fun wx g j hj => ((grown_below g).cell (World.block_lt_of_cell? _ _ (HCB.out j hj))).trans (HCB.out j hj)
              have hXs := partsS_size p F kA hF.out (by omega)
              have hYs := partsS_size q E kB hE.out (by omega)
              have hiff := partsS_iff p q F E kA kB hp hq hF.out hE.out
              obtain ⟨X, eX⟩ : ∃ X, partsS p F kA = X := ⟨_, rfl⟩
              obtain ⟨Y, eY⟩ : ∃ Y, partsS q E kB = Y := ⟨_, rfl⟩
              obtain ⟨DX, eDX⟩ : ∃ D, digestS X = D := ⟨_, rfl⟩
              obtain ⟨DY, eDY⟩ : ∃ D, digestS Y = D := ⟨_, rfl⟩
              have T1 : Hid (∀ wx, w3.grownBy wx none → Calls Tryd.prog 17 #[.int .u8 p, .slice (some ⟨ga, 0, none⟩) kA capA] wx fun e w' => e = .returned (.string DX) ∧ wx.grownBy w' none) := fun wx g => by rw [← eDX, ← eX]; exact tagged_any p _ kA capA ga 0 F wx (TX.out wx g) hp (fun _ => rfl) (CA.out wx g) (by omega) hF.out
              have T2 : Hid (∀ wx, w3.grownBy wx none → Calls Tryd.prog 17 #[.int .u8 q, .slice (some ⟨gb, 0, none⟩) kB capB] wx fun e w' => e = .returned (.string DY) ∧ wx.grownBy w' none) := fun wx g => by rw [← eDY, ← eY]; exact tagged_any q _ kB capB gb 0 E wx (TX.out wx g) hq (fun _ => rfl) (CB.out wx g) (by omega) hE.out
              have R1 : Hid (∀ wx, w3.grownBy wx none → Calls Tryd.prog 18 #[.int .u8 p, .slice (some ⟨ga, 0, none⟩) kA capA] wx fun e w' => e = .returned (.string DX) ∧ wx.grownBy w' none) := fun wx g => by rw [← eDX, ← eX]; exact refTagged_any p _ kA capA ga 0 F wx hp (fun _ => rfl) (CA.out wx g) (by omega) hF.out
              have R2 : Hid (∀ wx, w3.grownBy wx none → Calls Tryd.prog 18 #[.int .u8 q, .slice (some ⟨gb, 0, none⟩) kB capB] wx fun e w' => e = .returned (.string DY) ∧ wx.grownBy w' none) := fun wx g => by rw [← eDY, ← eY]; exact refTagged_any q _ kB capB gb 0 E wx hq (fun _ => rfl) (CB.out wx g) (by omega) hE.out
              have P1 : Hid (∀ wx, w3.grownBy wx none → Calls Tryd.prog 19 #[.int .u8 p, .slice (some ⟨ga, 0, none⟩) kA capA] wx fun e w' => e = .returned (.string X) ∧ wx.grownBy w' none) := fun wx g => by rw [← eX]; exact refParts_any p _ kA capA ga 0 F wx hp (fun _ => rfl) (CA.out wx g) (by omega) hF.out
              have P2 : Hid (∀ wx, w3.grownBy wx none → Calls Tryd.prog 19 #[.int .u8 q, .slice (some ⟨gb, 0, none⟩) kB capB] wx fun e w' => e = .returned (.string Y) ∧ wx.grownBy w' none) := fun wx g => by rw [← eY]; exact refParts_any q _ kB capB gb 0 E wx hq (fun _ => rfl) (CB.out wx g) (by omega) hE.out
              rw [eX, eY] at hiff
              rw [eX] at hXs
              rw [eY] at hYs
              have CL : Hid (∀ wx, w3.grownBy wx none → Calls Tryd.prog 20 #[.agg #[.string X, .string Y]] wx fun e w' => e = .returned (.bool (!decide (X = Y) && decide (DX = DY))) ∧ wx.grownBy w' none) := fun wx g => by rw [← eDX, ← eDY]; exact collide_any X Y wx (TX.out wx g) (by omega) (by omega)
              have HDD : Hid (X = Y → DX = DY) := fun e => by rw [← eDX, ← eDY, e]
              have HIFF : Hid (X = Y ↔ p = q ∧ kA = kB ∧ ∀ j, j < kA → F j = E j) := hiff
              clear eX eY eDX eDY hiff hXs hYs HCA3 HCB
              by_cases hpq : p = q
              · subst hpq
                by_cases hkk : kA = kB
                · subst hkk
                  have H2 : Hid (X = Y ↔ ∀ j, j < kA → F j = E j) := ⟨fun e => (HIFF.out.1 e).2.2, fun h => HIFF.out.2 ⟨rfl, rfl, h⟩⟩
                  clear HIFF
                  go_wp2_with (first | (go_at_call 17; refine calls_at (args := #[.int .u8 p, .slice (some ⟨ga, 0, none⟩) kA capA]) rfl ?_; refine (T1.out _ (grown_refl _ _)).mono ?_; rintro e w4 ⟨rfl, hg4⟩; have G4 : Hid (w3.grownBy w4 none) := hg4; clear hg4) | (go_at_call 17; refine calls_at (args := #[.int .u8 p, .slice (some ⟨gb, 0, none⟩) kA capB]) rfl ?_; refine (T2.out _ G4.out).mono ?_; rintro e w5 ⟨rfl, hg5⟩; have G5 : Hid (w3.grownBy w5 none) := grown_none G4.out hg5; clear hg5 G4))
                  go_loopw [13, 14] (fun v i wr => ∃ k : Nat, k ≤ kA ∧ i = .int .i64 k ∧ v = .bool (decide (∀ j, j < k → F j = E j)) ∧ w3.grownBy wr none) (fun _ i _ => kA - (intOf i).toNat)
                  case atStart => exact ⟨0, Nat.zero_le _, rfl, by rw [decide_eq_true (fun j hj => absurd hj (Nat.not_lt_zero j))], G5.out⟩
                  case round =>
                    obtain ⟨k, hk3, rfl, rfl, h3⟩ := hrel
                    have GA : Hid (w3.grownBy wr none) := h3
                    clear h3
                    have k03 : (0 : Int) ≤ (k : Int) := by omega
                    by_cases hall : ∀ j, j < k → F j = E j
                    · rw [decide_eq_true hall]
                      by_cases hkk : k < kA
                      · have d5 : (k : Int) < (kA : Int) := by omega
                        have c1 := CA.out wr GA.out k hkk
                        have c2 := CB.out wr GA.out k hkk
                        rw [Nat.zero_add] at c1 c2
                        have hstep : Hid (((F k).toList == (E k).toList) = decide (∀ j, j < k + 1 → F j = E j)) := by
                          have e : ((F k).toList == (E k).toList) = decide (∀ j, j < k + 1 → F j = E j) := by
                            by_cases e : F k = E k
                            · rw [e, beq_self_eq_true]
                              refine (decide_eq_true (fun j hj => ?_)).symm
                              by_cases h : j = k
                              · rw [h]; exact e
                              · exact hall j (by omega)
                            · rw [toList_ne e]
                              exact (decide_eq_false (fun h => e (h k (by omega)))).symm
                          exact e
                        clear hall
                        go_wp2
                        go_region
                        go_wp2
                        go_roundw
                        case rel => exact ⟨k + 1, by omega, by go_num, by rw [hstep.out], grown_drew GA.out⟩
                        case measure => simp [intOf]; omega
                      · have e : k = kA := by omega
                        subst e
                        have d5 : ¬ ((k : Int) < (k : Int)) := by omega
                        have hXY : X = Y := H2.out.2 hall
                        clear hall
                        have hx : (X.toList == Y.toList) = true := by rw [hXY]; exact beq_self_eq_true _
                        have hd1 : (DX.toList == DY.toList) = true := by rw [HDD.out hXY]; exact beq_self_eq_true _
                        clear hXY
                        go_wp2_with (first | (go_at_call 8; refine (awake_any _ (TX.out _ GA.out)).mono ?_; rintro e w6 ⟨rfl, hg6⟩; have GB : Hid (w3.grownBy w6 none) := grown_none GA.out hg6; clear hg6) | (go_at_call 18; refine calls_at (args := #[.int .u8 p, .slice (some ⟨ga, 0, none⟩) k capA]) rfl ?_; refine (R1.out _ GB.out).mono ?_; rintro e w7 ⟨rfl, hg7⟩; have GC : Hid (w3.grownBy w7 none) := grown_none GB.out hg7; clear hg7 GB) | (go_at_call 18; refine calls_at (args := #[.int .u8 p, .slice (some ⟨gb, 0, none⟩) k capB]) rfl ?_; refine (R2.out _ GC.out).mono ?_; rintro e w8 ⟨rfl, hg8⟩; have GD : Hid (w3.grownBy w8 none) := grown_none GC.out hg8; clear hg8 GC) | (go_at_call 19; refine calls_at (args := #[.int .u8 p, .slice (some ⟨ga, 0, none⟩) k capA]) rfl ?_; refine (P1.out _ GD.out).mono ?_; rintro e w9 ⟨rfl, hg9⟩; have GE : Hid (w3.grownBy w9 none) := grown_none GD.out hg9; clear hg9 GD) | (go_at_call 19; refine calls_at (args := #[.int .u8 p, .slice (some ⟨gb, 0, none⟩) k capB]) rfl ?_; refine (P2.out _ GE.out).mono ?_; rintro e w10 ⟨rfl, hg10⟩; have GF : Hid (w3.grownBy w10 none) := grown_none GE.out hg10; clear hg10 GE) | (go_at_call 20; refine (CL.out _ GF.out).mono ?_; rintro e w11 ⟨rfl, hg11⟩; have GG : Hid (w3.grownBy w11 none) := grown_none GF.out hg11; clear hg11))
                        go_ret
                        exact ⟨rfl, grown_none G3.out GF.out⟩

                    · rw [decide_eq_false hall]
                      have hXY : ¬ X = Y := fun e => hall (fun j hj => H2.out.1 e j (by omega))
                      clear hall
                      by_cases hkk : k < kA
                      · have d5 : (k : Int) < (kA : Int) := by omega
                        have hx := toList_ne hXY
                        have hcl : decide (X = Y) = false := decide_eq_false hXY
                        by_cases hDD : DX = DY
                        · have hd1 : (DX.toList == DY.toList) = true := by rw [hDD]; exact beq_self_eq_true _
                          have hd2 : decide (DX = DY) = true := decide_eq_true hDD
                          clear hDD hXY
                          go_wp2_with (first | (go_at_call 8; refine (awake_any _ (TX.out _ GA.out)).mono ?_; rintro e w6 ⟨rfl, hg6⟩; have GB : Hid (w3.grownBy w6 none) := grown_none GA.out hg6; clear hg6) | (go_at_call 18; refine calls_at (args := #[.int .u8 p, .slice (some ⟨ga, 0, none⟩) kA capA]) rfl ?_; refine (R1.out _ GB.out).mono ?_; rintro e w7 ⟨rfl, hg7⟩; have GC : Hid (w3.grownBy w7 none) := grown_none GB.out hg7; clear hg7 GB) | (go_at_call 18; refine calls_at (args := #[.int .u8 p, .slice (some ⟨gb, 0, none⟩) kA capB]) rfl ?_; refine (R2.out _ GC.out).mono ?_; rintro e w8 ⟨rfl, hg8⟩; have GD : Hid (w3.grownBy w8 none) := grown_none GC.out hg8; clear hg8 GC) | (go_at_call 19; refine calls_at (args := #[.int .u8 p, .slice (some ⟨ga, 0, none⟩) kA capA]) rfl ?_; refine (P1.out _ GD.out).mono ?_; rintro e w9 ⟨rfl, hg9⟩; have GE : Hid (w3.grownBy w9 none) := grown_none GD.out hg9; clear hg9 GD) | (go_at_call 19; refine calls_at (args := #[.int .u8 p, .slice (some ⟨gb, 0, none⟩) kA capB]) rfl ?_; refine (P2.out _ GE.out).mono ?_; rintro e w10 ⟨rfl, hg10⟩; have GF : Hid (w3.grownBy w10 none) := grown_none GE.out hg10; clear hg10 GE) | (go_at_call 20; refine (CL.out _ GF.out).mono ?_; rintro e w11 ⟨rfl, hg11⟩; have GG : Hid (w3.grownBy w11 none) := grown_none GF.out hg11; clear hg11))
                          go_ret
                          refine ⟨?_, grown_none G3.out GG.out⟩
                          first | rfl | (show Ending.returned (.bool (!decide (X = Y) && decide (DX = DY))) = _; rw [hcl, hd2]; rfl)
                        · have hd1 := toList_ne hDD
                          clear hDD hXY
                          go_wp2_with (first | (go_at_call 8; refine (awake_any _ (TX.out _ GA.out)).mono ?_; rintro e w6 ⟨rfl, hg6⟩; have GB : Hid (w3.grownBy w6 none) := grown_none GA.out hg6; clear hg6) | (go_at_call 18; refine calls_at (args := #[.int .u8 p, .slice (some ⟨ga, 0, none⟩) kA capA]) rfl ?_; refine (R1.out _ GB.out).mono ?_; rintro e w7 ⟨rfl, hg7⟩; have GC : Hid (w3.grownBy w7 none) := grown_none GB.out hg7; clear hg7 GB) | (go_at_call 18; refine calls_at (args := #[.int .u8 p, .slice (some ⟨gb, 0, none⟩) kA capB]) rfl ?_; refine (R2.out _ GC.out).mono ?_; rintro e w8 ⟨rfl, hg8⟩; have GD : Hid (w3.grownBy w8 none) := grown_none GC.out hg8; clear hg8 GC) | (go_at_call 19; refine calls_at (args := #[.int .u8 p, .slice (some ⟨ga, 0, none⟩) kA capA]) rfl ?_; refine (P1.out _ GD.out).mono ?_; rintro e w9 ⟨rfl, hg9⟩; have GE : Hid (w3.grownBy w9 none) := grown_none GD.out hg9; clear hg9 GD) | (go_at_call 19; refine calls_at (args := #[.int .u8 p, .slice (some ⟨gb, 0, none⟩) kA capB]) rfl ?_; refine (P2.out _ GE.out).mono ?_; rintro e w10 ⟨rfl, hg10⟩; have GF : Hid (w3.grownBy w10 none) := grown_none GE.out hg10; clear hg10 GE) | (go_at_call 20; refine (CL.out _ GF.out).mono ?_; rintro e w11 ⟨rfl, hg11⟩; have GG : Hid (w3.grownBy w11 none) := grown_none GF.out hg11; clear hg11))
                          go_ret
                          exact ⟨rfl, grown_none G3.out GF.out⟩

                      · have d5 : ¬ ((k : Int) < (kA : Int)) := by omega
                        have hx := toList_ne hXY
                        have hcl : decide (X = Y) = false := decide_eq_false hXY
                        by_cases hDD : DX = DY
                        · have hd1 : (DX.toList == DY.toList) = true := by rw [hDD]; exact beq_self_eq_true _
                          have hd2 : decide (DX = DY) = true := decide_eq_true hDD
                          clear hDD hXY
                          go_wp2_with (first | (go_at_call 8; refine (awake_any _ (TX.out _ GA.out)).mono ?_; rintro e w6 ⟨rfl, hg6⟩; have GB : Hid (w3.grownBy w6 none) := grown_none GA.out hg6; clear hg6) | (go_at_call 18; refine calls_at (args := #[.int .u8 p, .slice (some ⟨ga, 0, none⟩) kA capA]) rfl ?_; refine (R1.out _ GB.out).mono ?_; rintro e w7 ⟨rfl, hg7⟩; have GC : Hid (w3.grownBy w7 none) := grown_none GB.out hg7; clear hg7 GB) | (go_at_call 18; refine calls_at (args := #[.int .u8 p, .slice (some ⟨gb, 0, none⟩) kA capB]) rfl ?_; refine (R2.out _ GC.out).mono ?_; rintro e w8 ⟨rfl, hg8⟩; have GD : Hid (w3.grownBy w8 none) := grown_none GC.out hg8; clear hg8 GC) | (go_at_call 19; refine calls_at (args := #[.int .u8 p, .slice (some ⟨ga, 0, none⟩) kA capA]) rfl ?_; refine (P1.out _ GD.out).mono ?_; rintro e w9 ⟨rfl, hg9⟩; have GE : Hid (w3.grownBy w9 none) := grown_none GD.out hg9; clear hg9 GD) | (go_at_call 19; refine calls_at (args := #[.int .u8 p, .slice (some ⟨gb, 0, none⟩) kA capB]) rfl ?_; refine (P2.out _ GE.out).mono ?_; rintro e w10 ⟨rfl, hg10⟩; have GF : Hid (w3.grownBy w10 none) := grown_none GE.out hg10; clear hg10 GE) | (go_at_call 20; refine (CL.out _ GF.out).mono ?_; rintro e w11 ⟨rfl, hg11⟩; have GG : Hid (w3.grownBy w11 none) := grown_none GF.out hg11; clear hg11))
                          go_ret
                          refine ⟨?_, grown_none G3.out GG.out⟩
                          first | rfl | (show Ending.returned (.bool (!decide (X = Y) && decide (DX = DY))) = _; rw [hcl, hd2]; rfl)
                        · have hd1 := toList_ne hDD
                          clear hDD hXY
                          go_wp2_with (first | (go_at_call 8; refine (awake_any _ (TX.out _ GA.out)).mono ?_; rintro e w6 ⟨rfl, hg6⟩; have GB : Hid (w3.grownBy w6 none) := grown_none GA.out hg6; clear hg6) | (go_at_call 18; refine calls_at (args := #[.int .u8 p, .slice (some ⟨ga, 0, none⟩) kA capA]) rfl ?_; refine (R1.out _ GB.out).mono ?_; rintro e w7 ⟨rfl, hg7⟩; have GC : Hid (w3.grownBy w7 none) := grown_none GB.out hg7; clear hg7 GB) | (go_at_call 18; refine calls_at (args := #[.int .u8 p, .slice (some ⟨gb, 0, none⟩) kA capB]) rfl ?_; refine (R2.out _ GC.out).mono ?_; rintro e w8 ⟨rfl, hg8⟩; have GD : Hid (w3.grownBy w8 none) := grown_none GC.out hg8; clear hg8 GC) | (go_at_call 19; refine calls_at (args := #[.int .u8 p, .slice (some ⟨ga, 0, none⟩) kA capA]) rfl ?_; refine (P1.out _ GD.out).mono ?_; rintro e w9 ⟨rfl, hg9⟩; have GE : Hid (w3.grownBy w9 none) := grown_none GD.out hg9; clear hg9 GD) | (go_at_call 19; refine calls_at (args := #[.int .u8 p, .slice (some ⟨gb, 0, none⟩) kA capB]) rfl ?_; refine (P2.out _ GE.out).mono ?_; rintro e w10 ⟨rfl, hg10⟩; have GF : Hid (w3.grownBy w10 none) := grown_none GE.out hg10; clear hg10 GE) | (go_at_call 20; refine (CL.out _ GF.out).mono ?_; rintro e w11 ⟨rfl, hg11⟩; have GG : Hid (w3.grownBy w11 none) := grown_none GF.out hg11; clear hg11))
                          go_ret
                          exact ⟨rfl, grown_none G3.out GF.out⟩

                · have hXY : ¬ X = Y := fun e => hkk (HIFF.out.1 e).2.1
                  have hkk' : ((kA : Int) == (kB : Int)) = false := by rw [beq_eq_false_iff_ne]; omega
                  clear hkk
                  go_wp2_with (first | (go_at_call 17; refine calls_at (args := #[.int .u8 p, .slice (some ⟨ga, 0, none⟩) kA capA]) rfl ?_; refine (T1.out _ (grown_refl _ _)).mono ?_; rintro e w4 ⟨rfl, hg4⟩; have G4 : Hid (w3.grownBy w4 none) := hg4; clear hg4) | (go_at_call 17; refine calls_at (args := #[.int .u8 p, .slice (some ⟨gb, 0, none⟩) kB capB]) rfl ?_; refine (T2.out _ G4.out).mono ?_; rintro e w5 ⟨rfl, hg5⟩; have G5 : Hid (w3.grownBy w5 none) := grown_none G4.out hg5; clear hg5 G4))
                  go_loopw [13, 14] (fun v i wr => i = .int .i64 0 ∧ v = .bool false ∧ w3.grownBy wr none) (fun _ _ _ => 0)
                  case atStart => exact ⟨rfl, by first | rfl | rw [hkk'], G5.out⟩
                  case round =>
                    obtain ⟨rfl, rfl, h3⟩ := hrel
                    have GA : Hid (w3.grownBy wr none) := h3
                    clear h3
                    by_cases h0 : 0 < kA
                    · have h0' : (0 : Int) < (kA : Int) := by omega
                      have hx := toList_ne hXY
                      have hcl : decide (X = Y) = false := decide_eq_false hXY
                      by_cases hDD : DX = DY
                      · have hd1 : (DX.toList == DY.toList) = true := by rw [hDD]; exact beq_self_eq_true _
                        have hd2 : decide (DX = DY) = true := decide_eq_true hDD
                        clear hDD hXY
                        go_wp2_with (first | (go_at_call 8; refine (awake_any _ (TX.out _ GA.out)).mono ?_; rintro e w6 ⟨rfl, hg6⟩; have GB : Hid (w3.grownBy w6 none) := grown_none GA.out hg6; clear hg6) | (go_at_call 18; refine calls_at (args := #[.int .u8 p, .slice (some ⟨ga, 0, none⟩) kA capA]) rfl ?_; refine (R1.out _ GB.out).mono ?_; rintro e w7 ⟨rfl, hg7⟩; have GC : Hid (w3.grownBy w7 none) := grown_none GB.out hg7; clear hg7 GB) | (go_at_call 18; refine calls_at (args := #[.int .u8 p, .slice (some ⟨gb, 0, none⟩) kB capB]) rfl ?_; refine (R2.out _ GC.out).mono ?_; rintro e w8 ⟨rfl, hg8⟩; have GD : Hid (w3.grownBy w8 none) := grown_none GC.out hg8; clear hg8 GC) | (go_at_call 19; refine calls_at (args := #[.int .u8 p, .slice (some ⟨ga, 0, none⟩) kA capA]) rfl ?_; refine (P1.out _ GD.out).mono ?_; rintro e w9 ⟨rfl, hg9⟩; have GE : Hid (w3.grownBy w9 none) := grown_none GD.out hg9; clear hg9 GD) | (go_at_call 19; refine calls_at (args := #[.int .u8 p, .slice (some ⟨gb, 0, none⟩) kB capB]) rfl ?_; refine (P2.out _ GE.out).mono ?_; rintro e w10 ⟨rfl, hg10⟩; have GF : Hid (w3.grownBy w10 none) := grown_none GE.out hg10; clear hg10 GE) | (go_at_call 20; refine (CL.out _ GF.out).mono ?_; rintro e w11 ⟨rfl, hg11⟩; have GG : Hid (w3.grownBy w11 none) := grown_none GF.out hg11; clear hg11))
                        go_ret
                        refine ⟨?_, grown_none G3.out GG.out⟩
                        first | rfl | (show Ending.returned (.bool (!decide (X = Y) && decide (DX = DY))) = _; rw [hcl, hd2]; rfl)
                      · have hd1 := toList_ne hDD
                        clear hDD hXY
                        go_wp2_with (first | (go_at_call 8; refine (awake_any _ (TX.out _ GA.out)).mono ?_; rintro e w6 ⟨rfl, hg6⟩; have GB : Hid (w3.grownBy w6 none) := grown_none GA.out hg6; clear hg6) | (go_at_call 18; refine calls_at (args := #[.int .u8 p, .slice (some ⟨ga, 0, none⟩) kA capA]) rfl ?_; refine (R1.out _ GB.out).mono ?_; rintro e w7 ⟨rfl, hg7⟩; have GC : Hid (w3.grownBy w7 none) := grown_none GB.out hg7; clear hg7 GB) | (go_at_call 18; refine calls_at (args := #[.int .u8 p, .slice (some ⟨gb, 0, none⟩) kB capB]) rfl ?_; refine (R2.out _ GC.out).mono ?_; rintro e w8 ⟨rfl, hg8⟩; have GD : Hid (w3.grownBy w8 none) := grown_none GC.out hg8; clear hg8 GC) | (go_at_call 19; refine calls_at (args := #[.int .u8 p, .slice (some ⟨ga, 0, none⟩) kA capA]) rfl ?_; refine (P1.out _ GD.out).mono ?_; rintro e w9 ⟨rfl, hg9⟩; have GE : Hid (w3.grownBy w9 none) := grown_none GD.out hg9; clear hg9 GD) | (go_at_call 19; refine calls_at (args := #[.int .u8 p, .slice (some ⟨gb, 0, none⟩) kB capB]) rfl ?_; refine (P2.out _ GE.out).mono ?_; rintro e w10 ⟨rfl, hg10⟩; have GF : Hid (w3.grownBy w10 none) := grown_none GE.out hg10; clear hg10 GE) | (go_at_call 20; refine (CL.out _ GF.out).mono ?_; rintro e w11 ⟨rfl, hg11⟩; have GG : Hid (w3.grownBy w11 none) := grown_none GF.out hg11; clear hg11))
                        go_ret
                        exact ⟨rfl, grown_none G3.out GF.out⟩

                    · exfalso; omega
              · have hXY : ¬ X = Y := fun e => hpq (HIFF.out.1 e).1
                have hpq' : ¬ ((p : Int) = (q : Int)) := by omega
                clear hpq
                go_wp2_with (first | (go_at_call 17; refine calls_at (args := #[.int .u8 p, .slice (some ⟨ga, 0, none⟩) kA capA]) rfl ?_; refine (T1.out _ (grown_refl _ _)).mono ?_; rintro e w4 ⟨rfl, hg4⟩; have G4 : Hid (w3.grownBy w4 none) := hg4; clear hg4) | (go_at_call 17; refine calls_at (args := #[.int .u8 q, .slice (some ⟨gb, 0, none⟩) kB capB]) rfl ?_; refine (T2.out _ G4.out).mono ?_; rintro e w5 ⟨rfl, hg5⟩; have G5 : Hid (w3.grownBy w5 none) := grown_none G4.out hg5; clear hg5 G4))
                go_loopw [13, 14] (fun v i wr => i = .int .i64 0 ∧ v = .bool false ∧ w3.grownBy wr none) (fun _ _ _ => 0)
                case atStart => exact ⟨rfl, by first | rfl | rw [hkk'], G5.out⟩
                case round =>
                  obtain ⟨rfl, rfl, h3⟩ := hrel
                  have GA : Hid (w3.grownBy wr none) := h3
                  clear h3
                  by_cases h0 : 0 < kA
                  · have h0' : (0 : Int) < (kA : Int) := by omega
                    have hx := toList_ne hXY
                    have hcl : decide (X = Y) = false := decide_eq_false hXY
                    by_cases hDD : DX = DY
                    · have hd1 : (DX.toList == DY.toList) = true := by rw [hDD]; exact beq_self_eq_true _
                      have hd2 : decide (DX = DY) = true := decide_eq_true hDD
                      clear hDD hXY
                      go_wp2_with (first | (go_at_call 8; refine (awake_any _ (TX.out _ GA.out)).mono ?_; rintro e w6 ⟨rfl, hg6⟩; have GB : Hid (w3.grownBy w6 none) := grown_none GA.out hg6; clear hg6) | (go_at_call 18; refine calls_at (args := #[.int .u8 p, .slice (some ⟨ga, 0, none⟩) kA capA]) rfl ?_; refine (R1.out _ GB.out).mono ?_; rintro e w7 ⟨rfl, hg7⟩; have GC : Hid (w3.grownBy w7 none) := grown_none GB.out hg7; clear hg7 GB) | (go_at_call 18; refine calls_at (args := #[.int .u8 q, .slice (some ⟨gb, 0, none⟩) kB capB]) rfl ?_; refine (R2.out _ GC.out).mono ?_; rintro e w8 ⟨rfl, hg8⟩; have GD : Hid (w3.grownBy w8 none) := grown_none GC.out hg8; clear hg8 GC) | (go_at_call 19; refine calls_at (args := #[.int .u8 p, .slice (some ⟨ga, 0, none⟩) kA capA]) rfl ?_; refine (P1.out _ GD.out).mono ?_; rintro e w9 ⟨rfl, hg9⟩; have GE : Hid (w3.grownBy w9 none) := grown_none GD.out hg9; clear hg9 GD) | (go_at_call 19; refine calls_at (args := #[.int .u8 q, .slice (some ⟨gb, 0, none⟩) kB capB]) rfl ?_; refine (P2.out _ GE.out).mono ?_; rintro e w10 ⟨rfl, hg10⟩; have GF : Hid (w3.grownBy w10 none) := grown_none GE.out hg10; clear hg10 GE) | (go_at_call 20; refine (CL.out _ GF.out).mono ?_; rintro e w11 ⟨rfl, hg11⟩; have GG : Hid (w3.grownBy w11 none) := grown_none GF.out hg11; clear hg11))
                      go_ret
                      refine ⟨?_, grown_none G3.out GG.out⟩
                      first | rfl | (show Ending.returned (.bool (!decide (X = Y) && decide (DX = DY))) = _; rw [hcl, hd2]; rfl)
                    · have hd1 := toList_ne hDD
                      clear hDD hXY
                      go_wp2_with (first | (go_at_call 8; refine (awake_any _ (TX.out _ GA.out)).mono ?_; rintro e w6 ⟨rfl, hg6⟩; have GB : Hid (w3.grownBy w6 none) := grown_none GA.out hg6; clear hg6) | (go_at_call 18; refine calls_at (args := #[.int .u8 p, .slice (some ⟨ga, 0, none⟩) kA capA]) rfl ?_; refine (R1.out _ GB.out).mono ?_; rintro e w7 ⟨rfl, hg7⟩; have GC : Hid (w3.grownBy w7 none) := grown_none GB.out hg7; clear hg7 GB) | (go_at_call 18; refine calls_at (args := #[.int .u8 q, .slice (some ⟨gb, 0, none⟩) kB capB]) rfl ?_; refine (R2.out _ GC.out).mono ?_; rintro e w8 ⟨rfl, hg8⟩; have GD : Hid (w3.grownBy w8 none) := grown_none GC.out hg8; clear hg8 GC) | (go_at_call 19; refine calls_at (args := #[.int .u8 p, .slice (some ⟨ga, 0, none⟩) kA capA]) rfl ?_; refine (P1.out _ GD.out).mono ?_; rintro e w9 ⟨rfl, hg9⟩; have GE : Hid (w3.grownBy w9 none) := grown_none GD.out hg9; clear hg9 GD) | (go_at_call 19; refine calls_at (args := #[.int .u8 q, .slice (some ⟨gb, 0, none⟩) kB capB]) rfl ?_; refine (P2.out _ GE.out).mono ?_; rintro e w10 ⟨rfl, hg10⟩; have GF : Hid (w3.grownBy w10 none) := grown_none GE.out hg10; clear hg10 GE) | (go_at_call 20; refine (CL.out _ GF.out).mono ?_; rintro e w11 ⟨rfl, hg11⟩; have GG : Hid (w3.grownBy w11 none) := grown_none GF.out hg11; clear hg11))
                      go_ret
                      exact ⟨rfl, grown_none G3.out GF.out⟩

                  · exfalso; omega

      · have d1 : ¬ ((k : Int) < (n : Int)) := by omega
        obtain ⟨ga, capA, ev, hca⟩ := HG.out.form
        subst ev
        have hga : ga = w.heap.size + 1 ∨ w.heap.size + 3 ≤ ga := HG.out.own ga rfl
        have HCA : Hid (∀ j, j < k → wr.cell? ⟨ga, 0 + j, none⟩ = some (.string (F j))) := hca
        clear hca HG H3
        have G2 : Hid (w.grownBy wr none) := GW.out
        have B2 : Hid (Blk wr w.heap.size 35 #[.slice pa n ca, .slice pb m cb]) := BX.out
        have hw2s : w.heap.size + 3 ≤ wr.heap.size := by omega
        clear GW BX B1 G1
        go_wp2
        obtain ⟨kA, rfl⟩ : ∃ kA, kA = k := ⟨_, rfl⟩
        obtain ⟨w2, rfl⟩ : ∃ w2, w2 = wr := ⟨_, rfl⟩
        go_loopw [8, 10] (fun v i wr => ∃ k : Nat, k ≤ m ∧ k ≤ 8 ∧ i = .int .i64 k ∧ Gath wr w2.heap.size (w.heap.size + 1 + 1) E v k ∧ w2.grownBy wr (some (w.heap.size + 1 + 1))) (fun _ i _ => 8 - (intOf i).toNat)
        case atStart => exact ⟨0, Nat.zero_le _, Nat.zero_le _, rfl, Or.inl ⟨rfl, rfl⟩, grown_refl _ _⟩
        case round =>
          obtain ⟨k, hk, hk8, rfl, hg, h3⟩ := hrel
          have HG : Hid (Gath wr w2.heap.size (w.heap.size + 1 + 1) E u8 k) := hg
          have H3 : Hid (w2.grownBy wr (some (w.heap.size + 1 + 1))) := h3
          have GW : Hid (w.grownBy wr none) := grown_through G2.out h3 (by omega)
          have BX : Hid (Blk wr w.heap.size 35 #[.slice pa n ca, .slice pb m cb]) := B2.out.kept h3 (fun e => by have := Option.some.inj e; omega)
          have hws : w2.heap.size ≤ wr.heap.size := h3.size
          clear hg h3
          have k0 : (0 : Int) ≤ (k : Int) := by omega
          have cx : wr.cell? ⟨w.heap.size, 1, none⟩ = some (.slice pb m cb) := by rw [BX.out.cell]; rfl
          by_cases hgo : k < m ∧ k < 8
          · obtain ⟨hkn, hk8'⟩ := hgo
            have hpp := HPB.out (by omega)
            subst hpp
            have c0 := HD.out k hkn
            have hxb : yb < w.heap.size := World.block_lt_of_cell? _ _ c0
            have c1 : wr.cell? ⟨yb, yo + k, none⟩ = some (.string (T k)) := ((grown_below GW.out).cell (by exact hxb)).trans c0
            have d1 : (k : Int) < (m : Int) := by omega
            have d2 : (k : Int) < 8 := by omega
            clear c0
            go_wp2_with (first | (go_at_call 12; refine (CE.out k _).mono ?_; rintro e w' ⟨rfl, hw⟩; have hw2 := hw.symm; clear hw; subst hw2) | (at_builtin; refine append_text w2.heap.size ((w.heap.size + 1 + 1)) E _ k ⟨wr.heap.size, 0, none⟩ 1 (HG.out.kept (grown_alloc (grown_refl _ _) _)) (by rw [(Blk.new wr 9 _).cell]; rfl) (by omega) (by simp; omega) _ _ rfl rfl rfl rfl ?_))
            intro v' w' hg' hgr
            have R1 : Hid (Gath w' w2.heap.size (w.heap.size + 1 + 1) E v' (k + 1)) := hg'
            have R2 : Hid (w2.grownBy w' (some (w.heap.size + 1 + 1))) := grown_two (grown_alloc H3.out _) hgr (fun g e => (by rcases HG.out.own g e with h | h <;> omega))
            clear hg' hgr HG H3
            go_wp2
            go_roundw
            case rel => exact ⟨k + 1, by omega, by omega, by go_num, R1.out, R2.out⟩
            case measure => simp [intOf]; omega
          · by_cases hkm : k < m
            · have d3 : (k : Int) < (m : Int) := by omega
              have d4 : ¬ ((k : Int) < 8) := by omega
              obtain ⟨gb, capB, ev, hcb⟩ := HG.out.form
              subst ev
              have HCB : Hid (∀ j, j < k → wr.cell? ⟨gb, 0 + j, none⟩ = some (.string (E j))) := hcb
              have HCA3 : Hid (∀ j, j < kA → wr.cell? ⟨ga, 0 + j, none⟩ = some (.string (F j))) := fun j hj => by
                have hc := HCA.out j hj
                have hl : ga < w2.heap.size := World.block_lt_of_cell? _ _ hc
                rw [← hc]
                exact World.cell?_of_block (w := w2) (H3.out.block ga hl (fun e => by have := Option.some.inj e; omega))
              have G3 : Hid (w.grownBy wr none) := GW.out
              clear hcb HG H3 HCA GW BX B2 G2
              go_wp2_with fail
              clear cx
              obtain ⟨kB, rfl⟩ : ∃ kB, kB = k := ⟨_, rfl⟩
              obtain ⟨w3, rfl⟩ : ∃ w3, w3 = wr := ⟨_, rfl⟩
              have TX : Hid (∀ wx, w3.grownBy wx none → Tabs wx) := fun wx g => HT.out.kept (grown_none G3.out g) (by simp) (by simp) (by simp)
              have CA : Hid (∀ wx, w3.grownBy wx none → ∀ j, j < kA → wx.cell? ⟨ga, 0 + j, none⟩ = some (.string (F j))) := fun wx g j hj => ((grown_below g).cell (World.block_lt_of_cell? _ _ (HCA3.out j hj))).trans (HCA3.out j hj)
              have CB : Hid (∀ wx, w3.grownBy wx none → ∀ j, j < kB → wx.cell? ⟨gb, 0 + j, none⟩ = some (.string (E j))) := fun wx g j hj => ((grown_below g).cell (World.block_lt_of_cell? _ _ (HCB.out j hj))).trans (HCB.out j hj)
              have hXs := partsS_size p F kA hF.out (by omega)
              have hYs := partsS_size q E kB hE.out (by omega)
              have hiff := partsS_iff p q F E kA kB hp hq hF.out hE.out
              obtain ⟨X, eX⟩ : ∃ X, partsS p F kA = X := ⟨_, rfl⟩
              obtain ⟨Y, eY⟩ : ∃ Y, partsS q E kB = Y := ⟨_, rfl⟩
              obtain ⟨DX, eDX⟩ : ∃ D, digestS X = D := ⟨_, rfl⟩
              obtain ⟨DY, eDY⟩ : ∃ D, digestS Y = D := ⟨_, rfl⟩
              have T1 : Hid (∀ wx, w3.grownBy wx none → Calls Tryd.prog 17 #[.int .u8 p, .slice (some ⟨ga, 0, none⟩) kA capA] wx fun e w' => e = .returned (.string DX) ∧ wx.grownBy w' none) := fun wx g => by rw [← eDX, ← eX]; exact tagged_any p _ kA capA ga 0 F wx (TX.out wx g) hp (fun _ => rfl) (CA.out wx g) (by omega) hF.out
              have T2 : Hid (∀ wx, w3.grownBy wx none → Calls Tryd.prog 17 #[.int .u8 q, .slice (some ⟨gb, 0, none⟩) kB capB] wx fun e w' => e = .returned (.string DY) ∧ wx.grownBy w' none) := fun wx g => by rw [← eDY, ← eY]; exact tagged_any q _ kB capB gb 0 E wx (TX.out wx g) hq (fun _ => rfl) (CB.out wx g) (by omega) hE.out
              have R1 : Hid (∀ wx, w3.grownBy wx none → Calls Tryd.prog 18 #[.int .u8 p, .slice (some ⟨ga, 0, none⟩) kA capA] wx fun e w' => e = .returned (.string DX) ∧ wx.grownBy w' none) := fun wx g => by rw [← eDX, ← eX]; exact refTagged_any p _ kA capA ga 0 F wx hp (fun _ => rfl) (CA.out wx g) (by omega) hF.out
              have R2 : Hid (∀ wx, w3.grownBy wx none → Calls Tryd.prog 18 #[.int .u8 q, .slice (some ⟨gb, 0, none⟩) kB capB] wx fun e w' => e = .returned (.string DY) ∧ wx.grownBy w' none) := fun wx g => by rw [← eDY, ← eY]; exact refTagged_any q _ kB capB gb 0 E wx hq (fun _ => rfl) (CB.out wx g) (by omega) hE.out
              have P1 : Hid (∀ wx, w3.grownBy wx none → Calls Tryd.prog 19 #[.int .u8 p, .slice (some ⟨ga, 0, none⟩) kA capA] wx fun e w' => e = .returned (.string X) ∧ wx.grownBy w' none) := fun wx g => by rw [← eX]; exact refParts_any p _ kA capA ga 0 F wx hp (fun _ => rfl) (CA.out wx g) (by omega) hF.out
              have P2 : Hid (∀ wx, w3.grownBy wx none → Calls Tryd.prog 19 #[.int .u8 q, .slice (some ⟨gb, 0, none⟩) kB capB] wx fun e w' => e = .returned (.string Y) ∧ wx.grownBy w' none) := fun wx g => by rw [← eY]; exact refParts_any q _ kB capB gb 0 E wx hq (fun _ => rfl) (CB.out wx g) (by omega) hE.out
              rw [eX, eY] at hiff
              rw [eX] at hXs
              rw [eY] at hYs
              have CL : Hid (∀ wx, w3.grownBy wx none → Calls Tryd.prog 20 #[.agg #[.string X, .string Y]] wx fun e w' => e = .returned (.bool (!decide (X = Y) && decide (DX = DY))) ∧ wx.grownBy w' none) := fun wx g => by rw [← eDX, ← eDY]; exact collide_any X Y wx (TX.out wx g) (by omega) (by omega)
              have HDD : Hid (X = Y → DX = DY) := fun e => by rw [← eDX, ← eDY, e]
              have HIFF : Hid (X = Y ↔ p = q ∧ kA = kB ∧ ∀ j, j < kA → F j = E j) := hiff
              clear eX eY eDX eDY hiff hXs hYs HCA3 HCB
              by_cases hpq : p = q
              · subst hpq
                by_cases hkk : kA = kB
                · subst hkk
                  have H2 : Hid (X = Y ↔ ∀ j, j < kA → F j = E j) := ⟨fun e => (HIFF.out.1 e).2.2, fun h => HIFF.out.2 ⟨rfl, rfl, h⟩⟩
                  clear HIFF
                  go_wp2_with (first | (go_at_call 17; refine calls_at (args := #[.int .u8 p, .slice (some ⟨ga, 0, none⟩) kA capA]) rfl ?_; refine (T1.out _ (grown_refl _ _)).mono ?_; rintro e w4 ⟨rfl, hg4⟩; have G4 : Hid (w3.grownBy w4 none) := hg4; clear hg4) | (go_at_call 17; refine calls_at (args := #[.int .u8 p, .slice (some ⟨gb, 0, none⟩) kA capB]) rfl ?_; refine (T2.out _ G4.out).mono ?_; rintro e w5 ⟨rfl, hg5⟩; have G5 : Hid (w3.grownBy w5 none) := grown_none G4.out hg5; clear hg5 G4))
                  go_loopw [13, 14] (fun v i wr => ∃ k : Nat, k ≤ kA ∧ i = .int .i64 k ∧ v = .bool (decide (∀ j, j < k → F j = E j)) ∧ w3.grownBy wr none) (fun _ i _ => kA - (intOf i).toNat)
                  case atStart => exact ⟨0, Nat.zero_le _, rfl, by rw [decide_eq_true (fun j hj => absurd hj (Nat.not_lt_zero j))], G5.out⟩
                  case round =>
                    obtain ⟨k, hk3, rfl, rfl, h3⟩ := hrel
                    have GA : Hid (w3.grownBy wr none) := h3
                    clear h3
                    have k03 : (0 : Int) ≤ (k : Int) := by omega
                    by_cases hall : ∀ j, j < k → F j = E j
                    · rw [decide_eq_true hall]
                      by_cases hkk : k < kA
                      · have d5 : (k : Int) < (kA : Int) := by omega
                        have c1 := CA.out wr GA.out k hkk
                        have c2 := CB.out wr GA.out k hkk
                        rw [Nat.zero_add] at c1 c2
                        have hstep : Hid (((F k).toList == (E k).toList) = decide (∀ j, j < k + 1 → F j = E j)) := by
                          have e : ((F k).toList == (E k).toList) = decide (∀ j, j < k + 1 → F j = E j) := by
                            by_cases e : F k = E k
                            · rw [e, beq_self_eq_true]
                              refine (decide_eq_true (fun j hj => ?_)).symm
                              by_cases h : j = k
                              · rw [h]; exact e
                              · exact hall j (by omega)
                            · rw [toList_ne e]
                              exact (decide_eq_false (fun h => e (h k (by omega)))).symm
                          exact e
                        clear hall
                        go_wp2
                        go_region
                        go_wp2
                        go_roundw
                        case rel => exact ⟨k + 1, by omega, by go_num, by rw [hstep.out], grown_drew GA.out⟩
                        case measure => simp [intOf]; omega
                      · have e : k = kA := by omega
                        subst e
                        have d5 : ¬ ((k : Int) < (k : Int)) := by omega
                        have hXY : X = Y := H2.out.2 hall
                        clear hall
                        have hx : (X.toList == Y.toList) = true := by rw [hXY]; exact beq_self_eq_true _
                        have hd1 : (DX.toList == DY.toList) = true := by rw [HDD.out hXY]; exact beq_self_eq_true _
                        clear hXY
                        go_wp2_with (first | (go_at_call 8; refine (awake_any _ (TX.out _ GA.out)).mono ?_; rintro e w6 ⟨rfl, hg6⟩; have GB : Hid (w3.grownBy w6 none) := grown_none GA.out hg6; clear hg6) | (go_at_call 18; refine calls_at (args := #[.int .u8 p, .slice (some ⟨ga, 0, none⟩) k capA]) rfl ?_; refine (R1.out _ GB.out).mono ?_; rintro e w7 ⟨rfl, hg7⟩; have GC : Hid (w3.grownBy w7 none) := grown_none GB.out hg7; clear hg7 GB) | (go_at_call 18; refine calls_at (args := #[.int .u8 p, .slice (some ⟨gb, 0, none⟩) k capB]) rfl ?_; refine (R2.out _ GC.out).mono ?_; rintro e w8 ⟨rfl, hg8⟩; have GD : Hid (w3.grownBy w8 none) := grown_none GC.out hg8; clear hg8 GC) | (go_at_call 19; refine calls_at (args := #[.int .u8 p, .slice (some ⟨ga, 0, none⟩) k capA]) rfl ?_; refine (P1.out _ GD.out).mono ?_; rintro e w9 ⟨rfl, hg9⟩; have GE : Hid (w3.grownBy w9 none) := grown_none GD.out hg9; clear hg9 GD) | (go_at_call 19; refine calls_at (args := #[.int .u8 p, .slice (some ⟨gb, 0, none⟩) k capB]) rfl ?_; refine (P2.out _ GE.out).mono ?_; rintro e w10 ⟨rfl, hg10⟩; have GF : Hid (w3.grownBy w10 none) := grown_none GE.out hg10; clear hg10 GE) | (go_at_call 20; refine (CL.out _ GF.out).mono ?_; rintro e w11 ⟨rfl, hg11⟩; have GG : Hid (w3.grownBy w11 none) := grown_none GF.out hg11; clear hg11))
                        go_ret
                        exact ⟨rfl, grown_none G3.out GF.out⟩

                    · rw [decide_eq_false hall]
                      have hXY : ¬ X = Y := fun e => hall (fun j hj => H2.out.1 e j (by omega))
                      clear hall
                      by_cases hkk : k < kA
                      · have d5 : (k : Int) < (kA : Int) := by omega
                        have hx := toList_ne hXY
                        have hcl : decide (X = Y) = false := decide_eq_false hXY
                        by_cases hDD : DX = DY
                        · have hd1 : (DX.toList == DY.toList) = true := by rw [hDD]; exact beq_self_eq_true _
                          have hd2 : decide (DX = DY) = true := decide_eq_true hDD
                          clear hDD hXY
                          go_wp2_with (first | (go_at_call 8; refine (awake_any _ (TX.out _ GA.out)).mono ?_; rintro e w6 ⟨rfl, hg6⟩; have GB : Hid (w3.grownBy w6 none) := grown_none GA.out hg6; clear hg6) | (go_at_call 18; refine calls_at (args := #[.int .u8 p, .slice (some ⟨ga, 0, none⟩) kA capA]) rfl ?_; refine (R1.out _ GB.out).mono ?_; rintro e w7 ⟨rfl, hg7⟩; have GC : Hid (w3.grownBy w7 none) := grown_none GB.out hg7; clear hg7 GB) | (go_at_call 18; refine calls_at (args := #[.int .u8 p, .slice (some ⟨gb, 0, none⟩) kA capB]) rfl ?_; refine (R2.out _ GC.out).mono ?_; rintro e w8 ⟨rfl, hg8⟩; have GD : Hid (w3.grownBy w8 none) := grown_none GC.out hg8; clear hg8 GC) | (go_at_call 19; refine calls_at (args := #[.int .u8 p, .slice (some ⟨ga, 0, none⟩) kA capA]) rfl ?_; refine (P1.out _ GD.out).mono ?_; rintro e w9 ⟨rfl, hg9⟩; have GE : Hid (w3.grownBy w9 none) := grown_none GD.out hg9; clear hg9 GD) | (go_at_call 19; refine calls_at (args := #[.int .u8 p, .slice (some ⟨gb, 0, none⟩) kA capB]) rfl ?_; refine (P2.out _ GE.out).mono ?_; rintro e w10 ⟨rfl, hg10⟩; have GF : Hid (w3.grownBy w10 none) := grown_none GE.out hg10; clear hg10 GE) | (go_at_call 20; refine (CL.out _ GF.out).mono ?_; rintro e w11 ⟨rfl, hg11⟩; have GG : Hid (w3.grownBy w11 none) := grown_none GF.out hg11; clear hg11))
                          go_ret
                          refine ⟨?_, grown_none G3.out GG.out⟩
                          first | rfl | (show Ending.returned (.bool (!decide (X = Y) && decide (DX = DY))) = _; rw [hcl, hd2]; rfl)
                        · have hd1 := toList_ne hDD
                          clear hDD hXY
                          go_wp2_with (first | (go_at_call 8; refine (awake_any _ (TX.out _ GA.out)).mono ?_; rintro e w6 ⟨rfl, hg6⟩; have GB : Hid (w3.grownBy w6 none) := grown_none GA.out hg6; clear hg6) | (go_at_call 18; refine calls_at (args := #[.int .u8 p, .slice (some ⟨ga, 0, none⟩) kA capA]) rfl ?_; refine (R1.out _ GB.out).mono ?_; rintro e w7 ⟨rfl, hg7⟩; have GC : Hid (w3.grownBy w7 none) := grown_none GB.out hg7; clear hg7 GB) | (go_at_call 18; refine calls_at (args := #[.int .u8 p, .slice (some ⟨gb, 0, none⟩) kA capB]) rfl ?_; refine (R2.out _ GC.out).mono ?_; rintro e w8 ⟨rfl, hg8⟩; have GD : Hid (w3.grownBy w8 none) := grown_none GC.out hg8; clear hg8 GC) | (go_at_call 19; refine calls_at (args := #[.int .u8 p, .slice (some ⟨ga, 0, none⟩) kA capA]) rfl ?_; refine (P1.out _ GD.out).mono ?_; rintro e w9 ⟨rfl, hg9⟩; have GE : Hid (w3.grownBy w9 none) := grown_none GD.out hg9; clear hg9 GD) | (go_at_call 19; refine calls_at (args := #[.int .u8 p, .slice (some ⟨gb, 0, none⟩) kA capB]) rfl ?_; refine (P2.out _ GE.out).mono ?_; rintro e w10 ⟨rfl, hg10⟩; have GF : Hid (w3.grownBy w10 none) := grown_none GE.out hg10; clear hg10 GE) | (go_at_call 20; refine (CL.out _ GF.out).mono ?_; rintro e w11 ⟨rfl, hg11⟩; have GG : Hid (w3.grownBy w11 none) := grown_none GF.out hg11; clear hg11))
                          go_ret
                          exact ⟨rfl, grown_none G3.out GF.out⟩

                      · have d5 : ¬ ((k : Int) < (kA : Int)) := by omega
                        have hx := toList_ne hXY
                        have hcl : decide (X = Y) = false := decide_eq_false hXY
                        by_cases hDD : DX = DY
                        · have hd1 : (DX.toList == DY.toList) = true := by rw [hDD]; exact beq_self_eq_true _
                          have hd2 : decide (DX = DY) = true := decide_eq_true hDD
                          clear hDD hXY
                          go_wp2_with (first | (go_at_call 8; refine (awake_any _ (TX.out _ GA.out)).mono ?_; rintro e w6 ⟨rfl, hg6⟩; have GB : Hid (w3.grownBy w6 none) := grown_none GA.out hg6; clear hg6) | (go_at_call 18; refine calls_at (args := #[.int .u8 p, .slice (some ⟨ga, 0, none⟩) kA capA]) rfl ?_; refine (R1.out _ GB.out).mono ?_; rintro e w7 ⟨rfl, hg7⟩; have GC : Hid (w3.grownBy w7 none) := grown_none GB.out hg7; clear hg7 GB) | (go_at_call 18; refine calls_at (args := #[.int .u8 p, .slice (some ⟨gb, 0, none⟩) kA capB]) rfl ?_; refine (R2.out _ GC.out).mono ?_; rintro e w8 ⟨rfl, hg8⟩; have GD : Hid (w3.grownBy w8 none) := grown_none GC.out hg8; clear hg8 GC) | (go_at_call 19; refine calls_at (args := #[.int .u8 p, .slice (some ⟨ga, 0, none⟩) kA capA]) rfl ?_; refine (P1.out _ GD.out).mono ?_; rintro e w9 ⟨rfl, hg9⟩; have GE : Hid (w3.grownBy w9 none) := grown_none GD.out hg9; clear hg9 GD) | (go_at_call 19; refine calls_at (args := #[.int .u8 p, .slice (some ⟨gb, 0, none⟩) kA capB]) rfl ?_; refine (P2.out _ GE.out).mono ?_; rintro e w10 ⟨rfl, hg10⟩; have GF : Hid (w3.grownBy w10 none) := grown_none GE.out hg10; clear hg10 GE) | (go_at_call 20; refine (CL.out _ GF.out).mono ?_; rintro e w11 ⟨rfl, hg11⟩; have GG : Hid (w3.grownBy w11 none) := grown_none GF.out hg11; clear hg11))
                          go_ret
                          refine ⟨?_, grown_none G3.out GG.out⟩
                          first | rfl | (show Ending.returned (.bool (!decide (X = Y) && decide (DX = DY))) = _; rw [hcl, hd2]; rfl)
                        · have hd1 := toList_ne hDD
                          clear hDD hXY
                          go_wp2_with (first | (go_at_call 8; refine (awake_any _ (TX.out _ GA.out)).mono ?_; rintro e w6 ⟨rfl, hg6⟩; have GB : Hid (w3.grownBy w6 none) := grown_none GA.out hg6; clear hg6) | (go_at_call 18; refine calls_at (args := #[.int .u8 p, .slice (some ⟨ga, 0, none⟩) kA capA]) rfl ?_; refine (R1.out _ GB.out).mono ?_; rintro e w7 ⟨rfl, hg7⟩; have GC : Hid (w3.grownBy w7 none) := grown_none GB.out hg7; clear hg7 GB) | (go_at_call 18; refine calls_at (args := #[.int .u8 p, .slice (some ⟨gb, 0, none⟩) kA capB]) rfl ?_; refine (R2.out _ GC.out).mono ?_; rintro e w8 ⟨rfl, hg8⟩; have GD : Hid (w3.grownBy w8 none) := grown_none GC.out hg8; clear hg8 GC) | (go_at_call 19; refine calls_at (args := #[.int .u8 p, .slice (some ⟨ga, 0, none⟩) kA capA]) rfl ?_; refine (P1.out _ GD.out).mono ?_; rintro e w9 ⟨rfl, hg9⟩; have GE : Hid (w3.grownBy w9 none) := grown_none GD.out hg9; clear hg9 GD) | (go_at_call 19; refine calls_at (args := #[.int .u8 p, .slice (some ⟨gb, 0, none⟩) kA capB]) rfl ?_; refine (P2.out _ GE.out).mono ?_; rintro e w10 ⟨rfl, hg10⟩; have GF : Hid (w3.grownBy w10 none) := grown_none GE.out hg10; clear hg10 GE) | (go_at_call 20; refine (CL.out _ GF.out).mono ?_; rintro e w11 ⟨rfl, hg11⟩; have GG : Hid (w3.grownBy w11 none) := grown_none GF.out hg11; clear hg11))
                          go_ret
                          exact ⟨rfl, grown_none G3.out GF.out⟩

                · have hXY : ¬ X = Y := fun e => hkk (HIFF.out.1 e).2.1
                  have hkk' : ((kA : Int) == (kB : Int)) = false := by rw [beq_eq_false_iff_ne]; omega
                  clear hkk
                  go_wp2_with (first | (go_at_call 17; refine calls_at (args := #[.int .u8 p, .slice (some ⟨ga, 0, none⟩) kA capA]) rfl ?_; refine (T1.out _ (grown_refl _ _)).mono ?_; rintro e w4 ⟨rfl, hg4⟩; have G4 : Hid (w3.grownBy w4 none) := hg4; clear hg4) | (go_at_call 17; refine calls_at (args := #[.int .u8 p, .slice (some ⟨gb, 0, none⟩) kB capB]) rfl ?_; refine (T2.out _ G4.out).mono ?_; rintro e w5 ⟨rfl, hg5⟩; have G5 : Hid (w3.grownBy w5 none) := grown_none G4.out hg5; clear hg5 G4))
                  go_loopw [13, 14] (fun v i wr => i = .int .i64 0 ∧ v = .bool false ∧ w3.grownBy wr none) (fun _ _ _ => 0)
                  case atStart => exact ⟨rfl, by first | rfl | rw [hkk'], G5.out⟩
                  case round =>
                    obtain ⟨rfl, rfl, h3⟩ := hrel
                    have GA : Hid (w3.grownBy wr none) := h3
                    clear h3
                    by_cases h0 : 0 < kA
                    · have h0' : (0 : Int) < (kA : Int) := by omega
                      have hx := toList_ne hXY
                      have hcl : decide (X = Y) = false := decide_eq_false hXY
                      by_cases hDD : DX = DY
                      · have hd1 : (DX.toList == DY.toList) = true := by rw [hDD]; exact beq_self_eq_true _
                        have hd2 : decide (DX = DY) = true := decide_eq_true hDD
                        clear hDD hXY
                        go_wp2_with (first | (go_at_call 8; refine (awake_any _ (TX.out _ GA.out)).mono ?_; rintro e w6 ⟨rfl, hg6⟩; have GB : Hid (w3.grownBy w6 none) := grown_none GA.out hg6; clear hg6) | (go_at_call 18; refine calls_at (args := #[.int .u8 p, .slice (some ⟨ga, 0, none⟩) kA capA]) rfl ?_; refine (R1.out _ GB.out).mono ?_; rintro e w7 ⟨rfl, hg7⟩; have GC : Hid (w3.grownBy w7 none) := grown_none GB.out hg7; clear hg7 GB) | (go_at_call 18; refine calls_at (args := #[.int .u8 p, .slice (some ⟨gb, 0, none⟩) kB capB]) rfl ?_; refine (R2.out _ GC.out).mono ?_; rintro e w8 ⟨rfl, hg8⟩; have GD : Hid (w3.grownBy w8 none) := grown_none GC.out hg8; clear hg8 GC) | (go_at_call 19; refine calls_at (args := #[.int .u8 p, .slice (some ⟨ga, 0, none⟩) kA capA]) rfl ?_; refine (P1.out _ GD.out).mono ?_; rintro e w9 ⟨rfl, hg9⟩; have GE : Hid (w3.grownBy w9 none) := grown_none GD.out hg9; clear hg9 GD) | (go_at_call 19; refine calls_at (args := #[.int .u8 p, .slice (some ⟨gb, 0, none⟩) kB capB]) rfl ?_; refine (P2.out _ GE.out).mono ?_; rintro e w10 ⟨rfl, hg10⟩; have GF : Hid (w3.grownBy w10 none) := grown_none GE.out hg10; clear hg10 GE) | (go_at_call 20; refine (CL.out _ GF.out).mono ?_; rintro e w11 ⟨rfl, hg11⟩; have GG : Hid (w3.grownBy w11 none) := grown_none GF.out hg11; clear hg11))
                        go_ret
                        refine ⟨?_, grown_none G3.out GG.out⟩
                        first | rfl | (show Ending.returned (.bool (!decide (X = Y) && decide (DX = DY))) = _; rw [hcl, hd2]; rfl)
                      · have hd1 := toList_ne hDD
                        clear hDD hXY
                        go_wp2_with (first | (go_at_call 8; refine (awake_any _ (TX.out _ GA.out)).mono ?_; rintro e w6 ⟨rfl, hg6⟩; have GB : Hid (w3.grownBy w6 none) := grown_none GA.out hg6; clear hg6) | (go_at_call 18; refine calls_at (args := #[.int .u8 p, .slice (some ⟨ga, 0, none⟩) kA capA]) rfl ?_; refine (R1.out _ GB.out).mono ?_; rintro e w7 ⟨rfl, hg7⟩; have GC : Hid (w3.grownBy w7 none) := grown_none GB.out hg7; clear hg7 GB) | (go_at_call 18; refine calls_at (args := #[.int .u8 p, .slice (some ⟨gb, 0, none⟩) kB capB]) rfl ?_; refine (R2.out _ GC.out).mono ?_; rintro e w8 ⟨rfl, hg8⟩; have GD : Hid (w3.grownBy w8 none) := grown_none GC.out hg8; clear hg8 GC) | (go_at_call 19; refine calls_at (args := #[.int .u8 p, .slice (some ⟨ga, 0, none⟩) kA capA]) rfl ?_; refine (P1.out _ GD.out).mono ?_; rintro e w9 ⟨rfl, hg9⟩; have GE : Hid (w3.grownBy w9 none) := grown_none GD.out hg9; clear hg9 GD) | (go_at_call 19; refine calls_at (args := #[.int .u8 p, .slice (some ⟨gb, 0, none⟩) kB capB]) rfl ?_; refine (P2.out _ GE.out).mono ?_; rintro e w10 ⟨rfl, hg10⟩; have GF : Hid (w3.grownBy w10 none) := grown_none GE.out hg10; clear hg10 GE) | (go_at_call 20; refine (CL.out _ GF.out).mono ?_; rintro e w11 ⟨rfl, hg11⟩; have GG : Hid (w3.grownBy w11 none) := grown_none GF.out hg11; clear hg11))
                        go_ret
                        exact ⟨rfl, grown_none G3.out GF.out⟩

                    · obtain rfl : kA = 0 := by omega
                      have hx := toList_ne hXY
                      have hcl : decide (X = Y) = false := decide_eq_false hXY
                      by_cases hDD : DX = DY
                      · have hd1 : (DX.toList == DY.toList) = true := by rw [hDD]; exact beq_self_eq_true _
                        have hd2 : decide (DX = DY) = true := decide_eq_true hDD
                        clear hDD hXY
                        go_wp2_with (first | (go_at_call 8; refine (awake_any _ (TX.out _ GA.out)).mono ?_; rintro e w6 ⟨rfl, hg6⟩; have GB : Hid (w3.grownBy w6 none) := grown_none GA.out hg6; clear hg6) | (go_at_call 18; refine calls_at (args := #[.int .u8 p, .slice (some ⟨ga, 0, none⟩) 0 capA]) rfl ?_; refine (R1.out _ GB.out).mono ?_; rintro e w7 ⟨rfl, hg7⟩; have GC : Hid (w3.grownBy w7 none) := grown_none GB.out hg7; clear hg7 GB) | (go_at_call 18; refine calls_at (args := #[.int .u8 p, .slice (some ⟨gb, 0, none⟩) kB capB]) rfl ?_; refine (R2.out _ GC.out).mono ?_; rintro e w8 ⟨rfl, hg8⟩; have GD : Hid (w3.grownBy w8 none) := grown_none GC.out hg8; clear hg8 GC) | (go_at_call 19; refine calls_at (args := #[.int .u8 p, .slice (some ⟨ga, 0, none⟩) 0 capA]) rfl ?_; refine (P1.out _ GD.out).mono ?_; rintro e w9 ⟨rfl, hg9⟩; have GE : Hid (w3.grownBy w9 none) := grown_none GD.out hg9; clear hg9 GD) | (go_at_call 19; refine calls_at (args := #[.int .u8 p, .slice (some ⟨gb, 0, none⟩) kB capB]) rfl ?_; refine (P2.out _ GE.out).mono ?_; rintro e w10 ⟨rfl, hg10⟩; have GF : Hid (w3.grownBy w10 none) := grown_none GE.out hg10; clear hg10 GE) | (go_at_call 20; refine (CL.out _ GF.out).mono ?_; rintro e w11 ⟨rfl, hg11⟩; have GG : Hid (w3.grownBy w11 none) := grown_none GF.out hg11; clear hg11))
                        go_ret
                        refine ⟨?_, grown_none G3.out GG.out⟩
                        first | rfl | (show Ending.returned (.bool (!decide (X = Y) && decide (DX = DY))) = _; rw [hcl, hd2]; rfl)
                      · have hd1 := toList_ne hDD
                        clear hDD hXY
                        go_wp2_with (first | (go_at_call 8; refine (awake_any _ (TX.out _ GA.out)).mono ?_; rintro e w6 ⟨rfl, hg6⟩; have GB : Hid (w3.grownBy w6 none) := grown_none GA.out hg6; clear hg6) | (go_at_call 18; refine calls_at (args := #[.int .u8 p, .slice (some ⟨ga, 0, none⟩) 0 capA]) rfl ?_; refine (R1.out _ GB.out).mono ?_; rintro e w7 ⟨rfl, hg7⟩; have GC : Hid (w3.grownBy w7 none) := grown_none GB.out hg7; clear hg7 GB) | (go_at_call 18; refine calls_at (args := #[.int .u8 p, .slice (some ⟨gb, 0, none⟩) kB capB]) rfl ?_; refine (R2.out _ GC.out).mono ?_; rintro e w8 ⟨rfl, hg8⟩; have GD : Hid (w3.grownBy w8 none) := grown_none GC.out hg8; clear hg8 GC) | (go_at_call 19; refine calls_at (args := #[.int .u8 p, .slice (some ⟨ga, 0, none⟩) 0 capA]) rfl ?_; refine (P1.out _ GD.out).mono ?_; rintro e w9 ⟨rfl, hg9⟩; have GE : Hid (w3.grownBy w9 none) := grown_none GD.out hg9; clear hg9 GD) | (go_at_call 19; refine calls_at (args := #[.int .u8 p, .slice (some ⟨gb, 0, none⟩) kB capB]) rfl ?_; refine (P2.out _ GE.out).mono ?_; rintro e w10 ⟨rfl, hg10⟩; have GF : Hid (w3.grownBy w10 none) := grown_none GE.out hg10; clear hg10 GE) | (go_at_call 20; refine (CL.out _ GF.out).mono ?_; rintro e w11 ⟨rfl, hg11⟩; have GG : Hid (w3.grownBy w11 none) := grown_none GF.out hg11; clear hg11))
                        go_ret
                        exact ⟨rfl, grown_none G3.out GF.out⟩

              · have hXY : ¬ X = Y := fun e => hpq (HIFF.out.1 e).1
                have hpq' : ¬ ((p : Int) = (q : Int)) := by omega
                clear hpq
                go_wp2_with (first | (go_at_call 17; refine calls_at (args := #[.int .u8 p, .slice (some ⟨ga, 0, none⟩) kA capA]) rfl ?_; refine (T1.out _ (grown_refl _ _)).mono ?_; rintro e w4 ⟨rfl, hg4⟩; have G4 : Hid (w3.grownBy w4 none) := hg4; clear hg4) | (go_at_call 17; refine calls_at (args := #[.int .u8 q, .slice (some ⟨gb, 0, none⟩) kB capB]) rfl ?_; refine (T2.out _ G4.out).mono ?_; rintro e w5 ⟨rfl, hg5⟩; have G5 : Hid (w3.grownBy w5 none) := grown_none G4.out hg5; clear hg5 G4))
                go_loopw [13, 14] (fun v i wr => i = .int .i64 0 ∧ v = .bool false ∧ w3.grownBy wr none) (fun _ _ _ => 0)
                case atStart => exact ⟨rfl, by first | rfl | rw [hkk'], G5.out⟩
                case round =>
                  obtain ⟨rfl, rfl, h3⟩ := hrel
                  have GA : Hid (w3.grownBy wr none) := h3
                  clear h3
                  by_cases h0 : 0 < kA
                  · have h0' : (0 : Int) < (kA : Int) := by omega
                    have hx := toList_ne hXY
                    have hcl : decide (X = Y) = false := decide_eq_false hXY
                    by_cases hDD : DX = DY
                    · have hd1 : (DX.toList == DY.toList) = true := by rw [hDD]; exact beq_self_eq_true _
                      have hd2 : decide (DX = DY) = true := decide_eq_true hDD
                      clear hDD hXY
                      go_wp2_with (first | (go_at_call 8; refine (awake_any _ (TX.out _ GA.out)).mono ?_; rintro e w6 ⟨rfl, hg6⟩; have GB : Hid (w3.grownBy w6 none) := grown_none GA.out hg6; clear hg6) | (go_at_call 18; refine calls_at (args := #[.int .u8 p, .slice (some ⟨ga, 0, none⟩) kA capA]) rfl ?_; refine (R1.out _ GB.out).mono ?_; rintro e w7 ⟨rfl, hg7⟩; have GC : Hid (w3.grownBy w7 none) := grown_none GB.out hg7; clear hg7 GB) | (go_at_call 18; refine calls_at (args := #[.int .u8 q, .slice (some ⟨gb, 0, none⟩) kB capB]) rfl ?_; refine (R2.out _ GC.out).mono ?_; rintro e w8 ⟨rfl, hg8⟩; have GD : Hid (w3.grownBy w8 none) := grown_none GC.out hg8; clear hg8 GC) | (go_at_call 19; refine calls_at (args := #[.int .u8 p, .slice (some ⟨ga, 0, none⟩) kA capA]) rfl ?_; refine (P1.out _ GD.out).mono ?_; rintro e w9 ⟨rfl, hg9⟩; have GE : Hid (w3.grownBy w9 none) := grown_none GD.out hg9; clear hg9 GD) | (go_at_call 19; refine calls_at (args := #[.int .u8 q, .slice (some ⟨gb, 0, none⟩) kB capB]) rfl ?_; refine (P2.out _ GE.out).mono ?_; rintro e w10 ⟨rfl, hg10⟩; have GF : Hid (w3.grownBy w10 none) := grown_none GE.out hg10; clear hg10 GE) | (go_at_call 20; refine (CL.out _ GF.out).mono ?_; rintro e w11 ⟨rfl, hg11⟩; have GG : Hid (w3.grownBy w11 none) := grown_none GF.out hg11; clear hg11))
                      go_ret
                      refine ⟨?_, grown_none G3.out GG.out⟩
                      first | rfl | (show Ending.returned (.bool (!decide (X = Y) && decide (DX = DY))) = _; rw [hcl, hd2]; rfl)
                    · have hd1 := toList_ne hDD
                      clear hDD hXY
                      go_wp2_with (first | (go_at_call 8; refine (awake_any _ (TX.out _ GA.out)).mono ?_; rintro e w6 ⟨rfl, hg6⟩; have GB : Hid (w3.grownBy w6 none) := grown_none GA.out hg6; clear hg6) | (go_at_call 18; refine calls_at (args := #[.int .u8 p, .slice (some ⟨ga, 0, none⟩) kA capA]) rfl ?_; refine (R1.out _ GB.out).mono ?_; rintro e w7 ⟨rfl, hg7⟩; have GC : Hid (w3.grownBy w7 none) := grown_none GB.out hg7; clear hg7 GB) | (go_at_call 18; refine calls_at (args := #[.int .u8 q, .slice (some ⟨gb, 0, none⟩) kB capB]) rfl ?_; refine (R2.out _ GC.out).mono ?_; rintro e w8 ⟨rfl, hg8⟩; have GD : Hid (w3.grownBy w8 none) := grown_none GC.out hg8; clear hg8 GC) | (go_at_call 19; refine calls_at (args := #[.int .u8 p, .slice (some ⟨ga, 0, none⟩) kA capA]) rfl ?_; refine (P1.out _ GD.out).mono ?_; rintro e w9 ⟨rfl, hg9⟩; have GE : Hid (w3.grownBy w9 none) := grown_none GD.out hg9; clear hg9 GD) | (go_at_call 19; refine calls_at (args := #[.int .u8 q, .slice (some ⟨gb, 0, none⟩) kB capB]) rfl ?_; refine (P2.out _ GE.out).mono ?_; rintro e w10 ⟨rfl, hg10⟩; have GF : Hid (w3.grownBy w10 none) := grown_none GE.out hg10; clear hg10 GE) | (go_at_call 20; refine (CL.out _ GF.out).mono ?_; rintro e w11 ⟨rfl, hg11⟩; have GG : Hid (w3.grownBy w11 none) := grown_none GF.out hg11; clear hg11))
                      go_ret
                      exact ⟨rfl, grown_none G3.out GF.out⟩

                  · obtain rfl : kA = 0 := by omega
                    have hx := toList_ne hXY
                    have hcl : decide (X = Y) = false := decide_eq_false hXY
                    by_cases hDD : DX = DY
                    · have hd1 : (DX.toList == DY.toList) = true := by rw [hDD]; exact beq_self_eq_true _
                      have hd2 : decide (DX = DY) = true := decide_eq_true hDD
                      clear hDD hXY
                      go_wp2_with (first | (go_at_call 8; refine (awake_any _ (TX.out _ GA.out)).mono ?_; rintro e w6 ⟨rfl, hg6⟩; have GB : Hid (w3.grownBy w6 none) := grown_none GA.out hg6; clear hg6) | (go_at_call 18; refine calls_at (args := #[.int .u8 p, .slice (some ⟨ga, 0, none⟩) 0 capA]) rfl ?_; refine (R1.out _ GB.out).mono ?_; rintro e w7 ⟨rfl, hg7⟩; have GC : Hid (w3.grownBy w7 none) := grown_none GB.out hg7; clear hg7 GB) | (go_at_call 18; refine calls_at (args := #[.int .u8 q, .slice (some ⟨gb, 0, none⟩) kB capB]) rfl ?_; refine (R2.out _ GC.out).mono ?_; rintro e w8 ⟨rfl, hg8⟩; have GD : Hid (w3.grownBy w8 none) := grown_none GC.out hg8; clear hg8 GC) | (go_at_call 19; refine calls_at (args := #[.int .u8 p, .slice (some ⟨ga, 0, none⟩) 0 capA]) rfl ?_; refine (P1.out _ GD.out).mono ?_; rintro e w9 ⟨rfl, hg9⟩; have GE : Hid (w3.grownBy w9 none) := grown_none GD.out hg9; clear hg9 GD) | (go_at_call 19; refine calls_at (args := #[.int .u8 q, .slice (some ⟨gb, 0, none⟩) kB capB]) rfl ?_; refine (P2.out _ GE.out).mono ?_; rintro e w10 ⟨rfl, hg10⟩; have GF : Hid (w3.grownBy w10 none) := grown_none GE.out hg10; clear hg10 GE) | (go_at_call 20; refine (CL.out _ GF.out).mono ?_; rintro e w11 ⟨rfl, hg11⟩; have GG : Hid (w3.grownBy w11 none) := grown_none GF.out hg11; clear hg11))
                      go_ret
                      refine ⟨?_, grown_none G3.out GG.out⟩
                      first | rfl | (show Ending.returned (.bool (!decide (X = Y) && decide (DX = DY))) = _; rw [hcl, hd2]; rfl)
                    · have hd1 := toList_ne hDD
                      clear hDD hXY
                      go_wp2_with (first | (go_at_call 8; refine (awake_any _ (TX.out _ GA.out)).mono ?_; rintro e w6 ⟨rfl, hg6⟩; have GB : Hid (w3.grownBy w6 none) := grown_none GA.out hg6; clear hg6) | (go_at_call 18; refine calls_at (args := #[.int .u8 p, .slice (some ⟨ga, 0, none⟩) 0 capA]) rfl ?_; refine (R1.out _ GB.out).mono ?_; rintro e w7 ⟨rfl, hg7⟩; have GC : Hid (w3.grownBy w7 none) := grown_none GB.out hg7; clear hg7 GB) | (go_at_call 18; refine calls_at (args := #[.int .u8 q, .slice (some ⟨gb, 0, none⟩) kB capB]) rfl ?_; refine (R2.out _ GC.out).mono ?_; rintro e w8 ⟨rfl, hg8⟩; have GD : Hid (w3.grownBy w8 none) := grown_none GC.out hg8; clear hg8 GC) | (go_at_call 19; refine calls_at (args := #[.int .u8 p, .slice (some ⟨ga, 0, none⟩) 0 capA]) rfl ?_; refine (P1.out _ GD.out).mono ?_; rintro e w9 ⟨rfl, hg9⟩; have GE : Hid (w3.grownBy w9 none) := grown_none GD.out hg9; clear hg9 GD) | (go_at_call 19; refine calls_at (args := #[.int .u8 q, .slice (some ⟨gb, 0, none⟩) kB capB]) rfl ?_; refine (P2.out _ GE.out).mono ?_; rintro e w10 ⟨rfl, hg10⟩; have GF : Hid (w3.grownBy w10 none) := grown_none GE.out hg10; clear hg10 GE) | (go_at_call 20; refine (CL.out _ GF.out).mono ?_; rintro e w11 ⟨rfl, hg11⟩; have GG : Hid (w3.grownBy w11 none) := grown_none GF.out hg11; clear hg11))
                      go_ret
                      exact ⟨rfl, grown_none G3.out GF.out⟩


            · have d3 : ¬ ((k : Int) < (m : Int)) := by omega
              obtain ⟨gb, capB, ev, hcb⟩ := HG.out.form
              subst ev
              have HCB : Hid (∀ j, j < k → wr.cell? ⟨gb, 0 + j, none⟩ = some (.string (E j))) := hcb
              have HCA3 : Hid (∀ j, j < kA → wr.cell? ⟨ga, 0 + j, none⟩ = some (.string (F j))) := fun j hj => by
                have hc := HCA.out j hj
                have hl : ga < w2.heap.size := World.block_lt_of_cell? _ _ hc
                rw [← hc]
                exact World.cell?_of_block (w := w2) (H3.out.block ga hl (fun e => by have := Option.some.inj e; omega))
              have G3 : Hid (w.grownBy wr none) := GW.out
              clear hcb HG H3 HCA GW BX B2 G2
              go_wp2_with fail
              clear cx
              obtain ⟨kB, rfl⟩ : ∃ kB, kB = k := ⟨_, rfl⟩
              obtain ⟨w3, rfl⟩ : ∃ w3, w3 = wr := ⟨_, rfl⟩
              have TX : Hid (∀ wx, w3.grownBy wx none → Tabs wx) := fun wx g => HT.out.kept (grown_none G3.out g) (by simp) (by simp) (by simp)
              have CA : Hid (∀ wx, w3.grownBy wx none → ∀ j, j < kA → wx.cell? ⟨ga, 0 + j, none⟩ = some (.string (F j))) := fun wx g j hj => ((grown_below g).cell (World.block_lt_of_cell? _ _ (HCA3.out j hj))).trans (HCA3.out j hj)
              have CB : Hid (∀ wx, w3.grownBy wx none → ∀ j, j < kB → wx.cell? ⟨gb, 0 + j, none⟩ = some (.string (E j))) := fun wx g j hj => ((grown_below g).cell (World.block_lt_of_cell? _ _ (HCB.out j hj))).trans (HCB.out j hj)
              have hXs := partsS_size p F kA hF.out (by omega)
              have hYs := partsS_size q E kB hE.out (by omega)
              have hiff := partsS_iff p q F E kA kB hp hq hF.out hE.out
              obtain ⟨X, eX⟩ : ∃ X, partsS p F kA = X := ⟨_, rfl⟩
              obtain ⟨Y, eY⟩ : ∃ Y, partsS q E kB = Y := ⟨_, rfl⟩
              obtain ⟨DX, eDX⟩ : ∃ D, digestS X = D := ⟨_, rfl⟩
              obtain ⟨DY, eDY⟩ : ∃ D, digestS Y = D := ⟨_, rfl⟩
              have T1 : Hid (∀ wx, w3.grownBy wx none → Calls Tryd.prog 17 #[.int .u8 p, .slice (some ⟨ga, 0, none⟩) kA capA] wx fun e w' => e = .returned (.string DX) ∧ wx.grownBy w' none) := fun wx g => by rw [← eDX, ← eX]; exact tagged_any p _ kA capA ga 0 F wx (TX.out wx g) hp (fun _ => rfl) (CA.out wx g) (by omega) hF.out
              have T2 : Hid (∀ wx, w3.grownBy wx none → Calls Tryd.prog 17 #[.int .u8 q, .slice (some ⟨gb, 0, none⟩) kB capB] wx fun e w' => e = .returned (.string DY) ∧ wx.grownBy w' none) := fun wx g => by rw [← eDY, ← eY]; exact tagged_any q _ kB capB gb 0 E wx (TX.out wx g) hq (fun _ => rfl) (CB.out wx g) (by omega) hE.out
              have R1 : Hid (∀ wx, w3.grownBy wx none → Calls Tryd.prog 18 #[.int .u8 p, .slice (some ⟨ga, 0, none⟩) kA capA] wx fun e w' => e = .returned (.string DX) ∧ wx.grownBy w' none) := fun wx g => by rw [← eDX, ← eX]; exact refTagged_any p _ kA capA ga 0 F wx hp (fun _ => rfl) (CA.out wx g) (by omega) hF.out
              have R2 : Hid (∀ wx, w3.grownBy wx none → Calls Tryd.prog 18 #[.int .u8 q, .slice (some ⟨gb, 0, none⟩) kB capB] wx fun e w' => e = .returned (.string DY) ∧ wx.grownBy w' none) := fun wx g => by rw [← eDY, ← eY]; exact refTagged_any q _ kB capB gb 0 E wx hq (fun _ => rfl) (CB.out wx g) (by omega) hE.out
              have P1 : Hid (∀ wx, w3.grownBy wx none → Calls Tryd.prog 19 #[.int .u8 p, .slice (some ⟨ga, 0, none⟩) kA capA] wx fun e w' => e = .returned (.string X) ∧ wx.grownBy w' none) := fun wx g => by rw [← eX]; exact refParts_any p _ kA capA ga 0 F wx hp (fun _ => rfl) (CA.out wx g) (by omega) hF.out
              have P2 : Hid (∀ wx, w3.grownBy wx none → Calls Tryd.prog 19 #[.int .u8 q, .slice (some ⟨gb, 0, none⟩) kB capB] wx fun e w' => e = .returned (.string Y) ∧ wx.grownBy w' none) := fun wx g => by rw [← eY]; exact refParts_any q _ kB capB gb 0 E wx hq (fun _ => rfl) (CB.out wx g) (by omega) hE.out
              rw [eX, eY] at hiff
              rw [eX] at hXs
              rw [eY] at hYs
              have CL : Hid (∀ wx, w3.grownBy wx none → Calls Tryd.prog 20 #[.agg #[.string X, .string Y]] wx fun e w' => e = .returned (.bool (!decide (X = Y) && decide (DX = DY))) ∧ wx.grownBy w' none) := fun wx g => by rw [← eDX, ← eDY]; exact collide_any X Y wx (TX.out wx g) (by omega) (by omega)
              have HDD : Hid (X = Y → DX = DY) := fun e => by rw [← eDX, ← eDY, e]
              have HIFF : Hid (X = Y ↔ p = q ∧ kA = kB ∧ ∀ j, j < kA → F j = E j) := hiff
              clear eX eY eDX eDY hiff hXs hYs HCA3 HCB
              by_cases hpq : p = q
              · subst hpq
                by_cases hkk : kA = kB
                · subst hkk
                  have H2 : Hid (X = Y ↔ ∀ j, j < kA → F j = E j) := ⟨fun e => (HIFF.out.1 e).2.2, fun h => HIFF.out.2 ⟨rfl, rfl, h⟩⟩
                  clear HIFF
                  go_wp2_with (first | (go_at_call 17; refine calls_at (args := #[.int .u8 p, .slice (some ⟨ga, 0, none⟩) kA capA]) rfl ?_; refine (T1.out _ (grown_refl _ _)).mono ?_; rintro e w4 ⟨rfl, hg4⟩; have G4 : Hid (w3.grownBy w4 none) := hg4; clear hg4) | (go_at_call 17; refine calls_at (args := #[.int .u8 p, .slice (some ⟨gb, 0, none⟩) kA capB]) rfl ?_; refine (T2.out _ G4.out).mono ?_; rintro e w5 ⟨rfl, hg5⟩; have G5 : Hid (w3.grownBy w5 none) := grown_none G4.out hg5; clear hg5 G4))
                  go_loopw [13, 14] (fun v i wr => ∃ k : Nat, k ≤ kA ∧ i = .int .i64 k ∧ v = .bool (decide (∀ j, j < k → F j = E j)) ∧ w3.grownBy wr none) (fun _ i _ => kA - (intOf i).toNat)
                  case atStart => exact ⟨0, Nat.zero_le _, rfl, by rw [decide_eq_true (fun j hj => absurd hj (Nat.not_lt_zero j))], G5.out⟩
                  case round =>
                    obtain ⟨k, hk3, rfl, rfl, h3⟩ := hrel
                    have GA : Hid (w3.grownBy wr none) := h3
                    clear h3
                    have k03 : (0 : Int) ≤ (k : Int) := by omega
                    by_cases hall : ∀ j, j < k → F j = E j
                    · rw [decide_eq_true hall]
                      by_cases hkk : k < kA
                      · have d5 : (k : Int) < (kA : Int) := by omega
                        have c1 := CA.out wr GA.out k hkk
                        have c2 := CB.out wr GA.out k hkk
                        rw [Nat.zero_add] at c1 c2
                        have hstep : Hid (((F k).toList == (E k).toList) = decide (∀ j, j < k + 1 → F j = E j)) := by
                          have e : ((F k).toList == (E k).toList) = decide (∀ j, j < k + 1 → F j = E j) := by
                            by_cases e : F k = E k
                            · rw [e, beq_self_eq_true]
                              refine (decide_eq_true (fun j hj => ?_)).symm
                              by_cases h : j = k
                              · rw [h]; exact e
                              · exact hall j (by omega)
                            · rw [toList_ne e]
                              exact (decide_eq_false (fun h => e (h k (by omega)))).symm
                          exact e
                        clear hall
                        go_wp2
                        go_region
                        go_wp2
                        go_roundw
                        case rel => exact ⟨k + 1, by omega, by go_num, by rw [hstep.out], grown_drew GA.out⟩
                        case measure => simp [intOf]; omega
                      · have e : k = kA := by omega
                        subst e
                        have d5 : ¬ ((k : Int) < (k : Int)) := by omega
                        have hXY : X = Y := H2.out.2 hall
                        clear hall
                        have hx : (X.toList == Y.toList) = true := by rw [hXY]; exact beq_self_eq_true _
                        have hd1 : (DX.toList == DY.toList) = true := by rw [HDD.out hXY]; exact beq_self_eq_true _
                        clear hXY
                        go_wp2_with (first | (go_at_call 8; refine (awake_any _ (TX.out _ GA.out)).mono ?_; rintro e w6 ⟨rfl, hg6⟩; have GB : Hid (w3.grownBy w6 none) := grown_none GA.out hg6; clear hg6) | (go_at_call 18; refine calls_at (args := #[.int .u8 p, .slice (some ⟨ga, 0, none⟩) k capA]) rfl ?_; refine (R1.out _ GB.out).mono ?_; rintro e w7 ⟨rfl, hg7⟩; have GC : Hid (w3.grownBy w7 none) := grown_none GB.out hg7; clear hg7 GB) | (go_at_call 18; refine calls_at (args := #[.int .u8 p, .slice (some ⟨gb, 0, none⟩) k capB]) rfl ?_; refine (R2.out _ GC.out).mono ?_; rintro e w8 ⟨rfl, hg8⟩; have GD : Hid (w3.grownBy w8 none) := grown_none GC.out hg8; clear hg8 GC) | (go_at_call 19; refine calls_at (args := #[.int .u8 p, .slice (some ⟨ga, 0, none⟩) k capA]) rfl ?_; refine (P1.out _ GD.out).mono ?_; rintro e w9 ⟨rfl, hg9⟩; have GE : Hid (w3.grownBy w9 none) := grown_none GD.out hg9; clear hg9 GD) | (go_at_call 19; refine calls_at (args := #[.int .u8 p, .slice (some ⟨gb, 0, none⟩) k capB]) rfl ?_; refine (P2.out _ GE.out).mono ?_; rintro e w10 ⟨rfl, hg10⟩; have GF : Hid (w3.grownBy w10 none) := grown_none GE.out hg10; clear hg10 GE) | (go_at_call 20; refine (CL.out _ GF.out).mono ?_; rintro e w11 ⟨rfl, hg11⟩; have GG : Hid (w3.grownBy w11 none) := grown_none GF.out hg11; clear hg11))
                        go_ret
                        exact ⟨rfl, grown_none G3.out GF.out⟩

                    · rw [decide_eq_false hall]
                      have hXY : ¬ X = Y := fun e => hall (fun j hj => H2.out.1 e j (by omega))
                      clear hall
                      by_cases hkk : k < kA
                      · have d5 : (k : Int) < (kA : Int) := by omega
                        have hx := toList_ne hXY
                        have hcl : decide (X = Y) = false := decide_eq_false hXY
                        by_cases hDD : DX = DY
                        · have hd1 : (DX.toList == DY.toList) = true := by rw [hDD]; exact beq_self_eq_true _
                          have hd2 : decide (DX = DY) = true := decide_eq_true hDD
                          clear hDD hXY
                          go_wp2_with (first | (go_at_call 8; refine (awake_any _ (TX.out _ GA.out)).mono ?_; rintro e w6 ⟨rfl, hg6⟩; have GB : Hid (w3.grownBy w6 none) := grown_none GA.out hg6; clear hg6) | (go_at_call 18; refine calls_at (args := #[.int .u8 p, .slice (some ⟨ga, 0, none⟩) kA capA]) rfl ?_; refine (R1.out _ GB.out).mono ?_; rintro e w7 ⟨rfl, hg7⟩; have GC : Hid (w3.grownBy w7 none) := grown_none GB.out hg7; clear hg7 GB) | (go_at_call 18; refine calls_at (args := #[.int .u8 p, .slice (some ⟨gb, 0, none⟩) kA capB]) rfl ?_; refine (R2.out _ GC.out).mono ?_; rintro e w8 ⟨rfl, hg8⟩; have GD : Hid (w3.grownBy w8 none) := grown_none GC.out hg8; clear hg8 GC) | (go_at_call 19; refine calls_at (args := #[.int .u8 p, .slice (some ⟨ga, 0, none⟩) kA capA]) rfl ?_; refine (P1.out _ GD.out).mono ?_; rintro e w9 ⟨rfl, hg9⟩; have GE : Hid (w3.grownBy w9 none) := grown_none GD.out hg9; clear hg9 GD) | (go_at_call 19; refine calls_at (args := #[.int .u8 p, .slice (some ⟨gb, 0, none⟩) kA capB]) rfl ?_; refine (P2.out _ GE.out).mono ?_; rintro e w10 ⟨rfl, hg10⟩; have GF : Hid (w3.grownBy w10 none) := grown_none GE.out hg10; clear hg10 GE) | (go_at_call 20; refine (CL.out _ GF.out).mono ?_; rintro e w11 ⟨rfl, hg11⟩; have GG : Hid (w3.grownBy w11 none) := grown_none GF.out hg11; clear hg11))
                          go_ret
                          refine ⟨?_, grown_none G3.out GG.out⟩
                          first | rfl | (show Ending.returned (.bool (!decide (X = Y) && decide (DX = DY))) = _; rw [hcl, hd2]; rfl)
                        · have hd1 := toList_ne hDD
                          clear hDD hXY
                          go_wp2_with (first | (go_at_call 8; refine (awake_any _ (TX.out _ GA.out)).mono ?_; rintro e w6 ⟨rfl, hg6⟩; have GB : Hid (w3.grownBy w6 none) := grown_none GA.out hg6; clear hg6) | (go_at_call 18; refine calls_at (args := #[.int .u8 p, .slice (some ⟨ga, 0, none⟩) kA capA]) rfl ?_; refine (R1.out _ GB.out).mono ?_; rintro e w7 ⟨rfl, hg7⟩; have GC : Hid (w3.grownBy w7 none) := grown_none GB.out hg7; clear hg7 GB) | (go_at_call 18; refine calls_at (args := #[.int .u8 p, .slice (some ⟨gb, 0, none⟩) kA capB]) rfl ?_; refine (R2.out _ GC.out).mono ?_; rintro e w8 ⟨rfl, hg8⟩; have GD : Hid (w3.grownBy w8 none) := grown_none GC.out hg8; clear hg8 GC) | (go_at_call 19; refine calls_at (args := #[.int .u8 p, .slice (some ⟨ga, 0, none⟩) kA capA]) rfl ?_; refine (P1.out _ GD.out).mono ?_; rintro e w9 ⟨rfl, hg9⟩; have GE : Hid (w3.grownBy w9 none) := grown_none GD.out hg9; clear hg9 GD) | (go_at_call 19; refine calls_at (args := #[.int .u8 p, .slice (some ⟨gb, 0, none⟩) kA capB]) rfl ?_; refine (P2.out _ GE.out).mono ?_; rintro e w10 ⟨rfl, hg10⟩; have GF : Hid (w3.grownBy w10 none) := grown_none GE.out hg10; clear hg10 GE) | (go_at_call 20; refine (CL.out _ GF.out).mono ?_; rintro e w11 ⟨rfl, hg11⟩; have GG : Hid (w3.grownBy w11 none) := grown_none GF.out hg11; clear hg11))
                          go_ret
                          exact ⟨rfl, grown_none G3.out GF.out⟩

                      · have d5 : ¬ ((k : Int) < (kA : Int)) := by omega
                        have hx := toList_ne hXY
                        have hcl : decide (X = Y) = false := decide_eq_false hXY
                        by_cases hDD : DX = DY
                        · have hd1 : (DX.toList == DY.toList) = true := by rw [hDD]; exact beq_self_eq_true _
                          have hd2 : decide (DX = DY) = true := decide_eq_true hDD
                          clear hDD hXY
                          go_wp2_with (first | (go_at_call 8; refine (awake_any _ (TX.out _ GA.out)).mono ?_; rintro e w6 ⟨rfl, hg6⟩; have GB : Hid (w3.grownBy w6 none) := grown_none GA.out hg6; clear hg6) | (go_at_call 18; refine calls_at (args := #[.int .u8 p, .slice (some ⟨ga, 0, none⟩) kA capA]) rfl ?_; refine (R1.out _ GB.out).mono ?_; rintro e w7 ⟨rfl, hg7⟩; have GC : Hid (w3.grownBy w7 none) := grown_none GB.out hg7; clear hg7 GB) | (go_at_call 18; refine calls_at (args := #[.int .u8 p, .slice (some ⟨gb, 0, none⟩) kA capB]) rfl ?_; refine (R2.out _ GC.out).mono ?_; rintro e w8 ⟨rfl, hg8⟩; have GD : Hid (w3.grownBy w8 none) := grown_none GC.out hg8; clear hg8 GC) | (go_at_call 19; refine calls_at (args := #[.int .u8 p, .slice (some ⟨ga, 0, none⟩) kA capA]) rfl ?_; refine (P1.out _ GD.out).mono ?_; rintro e w9 ⟨rfl, hg9⟩; have GE : Hid (w3.grownBy w9 none) := grown_none GD.out hg9; clear hg9 GD) | (go_at_call 19; refine calls_at (args := #[.int .u8 p, .slice (some ⟨gb, 0, none⟩) kA capB]) rfl ?_; refine (P2.out _ GE.out).mono ?_; rintro e w10 ⟨rfl, hg10⟩; have GF : Hid (w3.grownBy w10 none) := grown_none GE.out hg10; clear hg10 GE) | (go_at_call 20; refine (CL.out _ GF.out).mono ?_; rintro e w11 ⟨rfl, hg11⟩; have GG : Hid (w3.grownBy w11 none) := grown_none GF.out hg11; clear hg11))
                          go_ret
                          refine ⟨?_, grown_none G3.out GG.out⟩
                          first | rfl | (show Ending.returned (.bool (!decide (X = Y) && decide (DX = DY))) = _; rw [hcl, hd2]; rfl)
                        · have hd1 := toList_ne hDD
                          clear hDD hXY
                          go_wp2_with (first | (go_at_call 8; refine (awake_any _ (TX.out _ GA.out)).mono ?_; rintro e w6 ⟨rfl, hg6⟩; have GB : Hid (w3.grownBy w6 none) := grown_none GA.out hg6; clear hg6) | (go_at_call 18; refine calls_at (args := #[.int .u8 p, .slice (some ⟨ga, 0, none⟩) kA capA]) rfl ?_; refine (R1.out _ GB.out).mono ?_; rintro e w7 ⟨rfl, hg7⟩; have GC : Hid (w3.grownBy w7 none) := grown_none GB.out hg7; clear hg7 GB) | (go_at_call 18; refine calls_at (args := #[.int .u8 p, .slice (some ⟨gb, 0, none⟩) kA capB]) rfl ?_; refine (R2.out _ GC.out).mono ?_; rintro e w8 ⟨rfl, hg8⟩; have GD : Hid (w3.grownBy w8 none) := grown_none GC.out hg8; clear hg8 GC) | (go_at_call 19; refine calls_at (args := #[.int .u8 p, .slice (some ⟨ga, 0, none⟩) kA capA]) rfl ?_; refine (P1.out _ GD.out).mono ?_; rintro e w9 ⟨rfl, hg9⟩; have GE : Hid (w3.grownBy w9 none) := grown_none GD.out hg9; clear hg9 GD) | (go_at_call 19; refine calls_at (args := #[.int .u8 p, .slice (some ⟨gb, 0, none⟩) kA capB]) rfl ?_; refine (P2.out _ GE.out).mono ?_; rintro e w10 ⟨rfl, hg10⟩; have GF : Hid (w3.grownBy w10 none) := grown_none GE.out hg10; clear hg10 GE) | (go_at_call 20; refine (CL.out _ GF.out).mono ?_; rintro e w11 ⟨rfl, hg11⟩; have GG : Hid (w3.grownBy w11 none) := grown_none GF.out hg11; clear hg11))
                          go_ret
                          exact ⟨rfl, grown_none G3.out GF.out⟩

                · have hXY : ¬ X = Y := fun e => hkk (HIFF.out.1 e).2.1
                  have hkk' : ((kA : Int) == (kB : Int)) = false := by rw [beq_eq_false_iff_ne]; omega
                  clear hkk
                  go_wp2_with (first | (go_at_call 17; refine calls_at (args := #[.int .u8 p, .slice (some ⟨ga, 0, none⟩) kA capA]) rfl ?_; refine (T1.out _ (grown_refl _ _)).mono ?_; rintro e w4 ⟨rfl, hg4⟩; have G4 : Hid (w3.grownBy w4 none) := hg4; clear hg4) | (go_at_call 17; refine calls_at (args := #[.int .u8 p, .slice (some ⟨gb, 0, none⟩) kB capB]) rfl ?_; refine (T2.out _ G4.out).mono ?_; rintro e w5 ⟨rfl, hg5⟩; have G5 : Hid (w3.grownBy w5 none) := grown_none G4.out hg5; clear hg5 G4))
                  go_loopw [13, 14] (fun v i wr => i = .int .i64 0 ∧ v = .bool false ∧ w3.grownBy wr none) (fun _ _ _ => 0)
                  case atStart => exact ⟨rfl, by first | rfl | rw [hkk'], G5.out⟩
                  case round =>
                    obtain ⟨rfl, rfl, h3⟩ := hrel
                    have GA : Hid (w3.grownBy wr none) := h3
                    clear h3
                    by_cases h0 : 0 < kA
                    · have h0' : (0 : Int) < (kA : Int) := by omega
                      have hx := toList_ne hXY
                      have hcl : decide (X = Y) = false := decide_eq_false hXY
                      by_cases hDD : DX = DY
                      · have hd1 : (DX.toList == DY.toList) = true := by rw [hDD]; exact beq_self_eq_true _
                        have hd2 : decide (DX = DY) = true := decide_eq_true hDD
                        clear hDD hXY
                        go_wp2_with (first | (go_at_call 8; refine (awake_any _ (TX.out _ GA.out)).mono ?_; rintro e w6 ⟨rfl, hg6⟩; have GB : Hid (w3.grownBy w6 none) := grown_none GA.out hg6; clear hg6) | (go_at_call 18; refine calls_at (args := #[.int .u8 p, .slice (some ⟨ga, 0, none⟩) kA capA]) rfl ?_; refine (R1.out _ GB.out).mono ?_; rintro e w7 ⟨rfl, hg7⟩; have GC : Hid (w3.grownBy w7 none) := grown_none GB.out hg7; clear hg7 GB) | (go_at_call 18; refine calls_at (args := #[.int .u8 p, .slice (some ⟨gb, 0, none⟩) kB capB]) rfl ?_; refine (R2.out _ GC.out).mono ?_; rintro e w8 ⟨rfl, hg8⟩; have GD : Hid (w3.grownBy w8 none) := grown_none GC.out hg8; clear hg8 GC) | (go_at_call 19; refine calls_at (args := #[.int .u8 p, .slice (some ⟨ga, 0, none⟩) kA capA]) rfl ?_; refine (P1.out _ GD.out).mono ?_; rintro e w9 ⟨rfl, hg9⟩; have GE : Hid (w3.grownBy w9 none) := grown_none GD.out hg9; clear hg9 GD) | (go_at_call 19; refine calls_at (args := #[.int .u8 p, .slice (some ⟨gb, 0, none⟩) kB capB]) rfl ?_; refine (P2.out _ GE.out).mono ?_; rintro e w10 ⟨rfl, hg10⟩; have GF : Hid (w3.grownBy w10 none) := grown_none GE.out hg10; clear hg10 GE) | (go_at_call 20; refine (CL.out _ GF.out).mono ?_; rintro e w11 ⟨rfl, hg11⟩; have GG : Hid (w3.grownBy w11 none) := grown_none GF.out hg11; clear hg11))
                        go_ret
                        refine ⟨?_, grown_none G3.out GG.out⟩
                        first | rfl | (show Ending.returned (.bool (!decide (X = Y) && decide (DX = DY))) = _; rw [hcl, hd2]; rfl)
                      · have hd1 := toList_ne hDD
                        clear hDD hXY
                        go_wp2_with (first | (go_at_call 8; refine (awake_any _ (TX.out _ GA.out)).mono ?_; rintro e w6 ⟨rfl, hg6⟩; have GB : Hid (w3.grownBy w6 none) := grown_none GA.out hg6; clear hg6) | (go_at_call 18; refine calls_at (args := #[.int .u8 p, .slice (some ⟨ga, 0, none⟩) kA capA]) rfl ?_; refine (R1.out _ GB.out).mono ?_; rintro e w7 ⟨rfl, hg7⟩; have GC : Hid (w3.grownBy w7 none) := grown_none GB.out hg7; clear hg7 GB) | (go_at_call 18; refine calls_at (args := #[.int .u8 p, .slice (some ⟨gb, 0, none⟩) kB capB]) rfl ?_; refine (R2.out _ GC.out).mono ?_; rintro e w8 ⟨rfl, hg8⟩; have GD : Hid (w3.grownBy w8 none) := grown_none GC.out hg8; clear hg8 GC) | (go_at_call 19; refine calls_at (args := #[.int .u8 p, .slice (some ⟨ga, 0, none⟩) kA capA]) rfl ?_; refine (P1.out _ GD.out).mono ?_; rintro e w9 ⟨rfl, hg9⟩; have GE : Hid (w3.grownBy w9 none) := grown_none GD.out hg9; clear hg9 GD) | (go_at_call 19; refine calls_at (args := #[.int .u8 p, .slice (some ⟨gb, 0, none⟩) kB capB]) rfl ?_; refine (P2.out _ GE.out).mono ?_; rintro e w10 ⟨rfl, hg10⟩; have GF : Hid (w3.grownBy w10 none) := grown_none GE.out hg10; clear hg10 GE) | (go_at_call 20; refine (CL.out _ GF.out).mono ?_; rintro e w11 ⟨rfl, hg11⟩; have GG : Hid (w3.grownBy w11 none) := grown_none GF.out hg11; clear hg11))
                        go_ret
                        exact ⟨rfl, grown_none G3.out GF.out⟩

                    · obtain rfl : kA = 0 := by omega
                      have hx := toList_ne hXY
                      have hcl : decide (X = Y) = false := decide_eq_false hXY
                      by_cases hDD : DX = DY
                      · have hd1 : (DX.toList == DY.toList) = true := by rw [hDD]; exact beq_self_eq_true _
                        have hd2 : decide (DX = DY) = true := decide_eq_true hDD
                        clear hDD hXY
                        go_wp2_with (first | (go_at_call 8; refine (awake_any _ (TX.out _ GA.out)).mono ?_; rintro e w6 ⟨rfl, hg6⟩; have GB : Hid (w3.grownBy w6 none) := grown_none GA.out hg6; clear hg6) | (go_at_call 18; refine calls_at (args := #[.int .u8 p, .slice (some ⟨ga, 0, none⟩) 0 capA]) rfl ?_; refine (R1.out _ GB.out).mono ?_; rintro e w7 ⟨rfl, hg7⟩; have GC : Hid (w3.grownBy w7 none) := grown_none GB.out hg7; clear hg7 GB) | (go_at_call 18; refine calls_at (args := #[.int .u8 p, .slice (some ⟨gb, 0, none⟩) kB capB]) rfl ?_; refine (R2.out _ GC.out).mono ?_; rintro e w8 ⟨rfl, hg8⟩; have GD : Hid (w3.grownBy w8 none) := grown_none GC.out hg8; clear hg8 GC) | (go_at_call 19; refine calls_at (args := #[.int .u8 p, .slice (some ⟨ga, 0, none⟩) 0 capA]) rfl ?_; refine (P1.out _ GD.out).mono ?_; rintro e w9 ⟨rfl, hg9⟩; have GE : Hid (w3.grownBy w9 none) := grown_none GD.out hg9; clear hg9 GD) | (go_at_call 19; refine calls_at (args := #[.int .u8 p, .slice (some ⟨gb, 0, none⟩) kB capB]) rfl ?_; refine (P2.out _ GE.out).mono ?_; rintro e w10 ⟨rfl, hg10⟩; have GF : Hid (w3.grownBy w10 none) := grown_none GE.out hg10; clear hg10 GE) | (go_at_call 20; refine (CL.out _ GF.out).mono ?_; rintro e w11 ⟨rfl, hg11⟩; have GG : Hid (w3.grownBy w11 none) := grown_none GF.out hg11; clear hg11))
                        go_ret
                        refine ⟨?_, grown_none G3.out GG.out⟩
                        first | rfl | (show Ending.returned (.bool (!decide (X = Y) && decide (DX = DY))) = _; rw [hcl, hd2]; rfl)
                      · have hd1 := toList_ne hDD
                        clear hDD hXY
                        go_wp2_with (first | (go_at_call 8; refine (awake_any _ (TX.out _ GA.out)).mono ?_; rintro e w6 ⟨rfl, hg6⟩; have GB : Hid (w3.grownBy w6 none) := grown_none GA.out hg6; clear hg6) | (go_at_call 18; refine calls_at (args := #[.int .u8 p, .slice (some ⟨ga, 0, none⟩) 0 capA]) rfl ?_; refine (R1.out _ GB.out).mono ?_; rintro e w7 ⟨rfl, hg7⟩; have GC : Hid (w3.grownBy w7 none) := grown_none GB.out hg7; clear hg7 GB) | (go_at_call 18; refine calls_at (args := #[.int .u8 p, .slice (some ⟨gb, 0, none⟩) kB capB]) rfl ?_; refine (R2.out _ GC.out).mono ?_; rintro e w8 ⟨rfl, hg8⟩; have GD : Hid (w3.grownBy w8 none) := grown_none GC.out hg8; clear hg8 GC) | (go_at_call 19; refine calls_at (args := #[.int .u8 p, .slice (some ⟨ga, 0, none⟩) 0 capA]) rfl ?_; refine (P1.out _ GD.out).mono ?_; rintro e w9 ⟨rfl, hg9⟩; have GE : Hid (w3.grownBy w9 none) := grown_none GD.out hg9; clear hg9 GD) | (go_at_call 19; refine calls_at (args := #[.int .u8 p, .slice (some ⟨gb, 0, none⟩) kB capB]) rfl ?_; refine (P2.out _ GE.out).mono ?_; rintro e w10 ⟨rfl, hg10⟩; have GF : Hid (w3.grownBy w10 none) := grown_none GE.out hg10; clear hg10 GE) | (go_at_call 20; refine (CL.out _ GF.out).mono ?_; rintro e w11 ⟨rfl, hg11⟩; have GG : Hid (w3.grownBy w11 none) := grown_none GF.out hg11; clear hg11))
                        go_ret
                        exact ⟨rfl, grown_none G3.out GF.out⟩

              · have hXY : ¬ X = Y := fun e => hpq (HIFF.out.1 e).1
                have hpq' : ¬ ((p : Int) = (q : Int)) := by omega
                clear hpq
                go_wp2_with (first | (go_at_call 17; refine calls_at (args := #[.int .u8 p, .slice (some ⟨ga, 0, none⟩) kA capA]) rfl ?_; refine (T1.out _ (grown_refl _ _)).mono ?_; rintro e w4 ⟨rfl, hg4⟩; have G4 : Hid (w3.grownBy w4 none) := hg4; clear hg4) | (go_at_call 17; refine calls_at (args := #[.int .u8 q, .slice (some ⟨gb, 0, none⟩) kB capB]) rfl ?_; refine (T2.out _ G4.out).mono ?_; rintro e w5 ⟨rfl, hg5⟩; have G5 : Hid (w3.grownBy w5 none) := grown_none G4.out hg5; clear hg5 G4))
                go_loopw [13, 14] (fun v i wr => i = .int .i64 0 ∧ v = .bool false ∧ w3.grownBy wr none) (fun _ _ _ => 0)
                case atStart => exact ⟨rfl, by first | rfl | rw [hkk'], G5.out⟩
                case round =>
                  obtain ⟨rfl, rfl, h3⟩ := hrel
                  have GA : Hid (w3.grownBy wr none) := h3
                  clear h3
                  by_cases h0 : 0 < kA
                  · have h0' : (0 : Int) < (kA : Int) := by omega
                    have hx := toList_ne hXY
                    have hcl : decide (X = Y) = false := decide_eq_false hXY
                    by_cases hDD : DX = DY
                    · have hd1 : (DX.toList == DY.toList) = true := by rw [hDD]; exact beq_self_eq_true _
                      have hd2 : decide (DX = DY) = true := decide_eq_true hDD
                      clear hDD hXY
                      go_wp2_with (first | (go_at_call 8; refine (awake_any _ (TX.out _ GA.out)).mono ?_; rintro e w6 ⟨rfl, hg6⟩; have GB : Hid (w3.grownBy w6 none) := grown_none GA.out hg6; clear hg6) | (go_at_call 18; refine calls_at (args := #[.int .u8 p, .slice (some ⟨ga, 0, none⟩) kA capA]) rfl ?_; refine (R1.out _ GB.out).mono ?_; rintro e w7 ⟨rfl, hg7⟩; have GC : Hid (w3.grownBy w7 none) := grown_none GB.out hg7; clear hg7 GB) | (go_at_call 18; refine calls_at (args := #[.int .u8 q, .slice (some ⟨gb, 0, none⟩) kB capB]) rfl ?_; refine (R2.out _ GC.out).mono ?_; rintro e w8 ⟨rfl, hg8⟩; have GD : Hid (w3.grownBy w8 none) := grown_none GC.out hg8; clear hg8 GC) | (go_at_call 19; refine calls_at (args := #[.int .u8 p, .slice (some ⟨ga, 0, none⟩) kA capA]) rfl ?_; refine (P1.out _ GD.out).mono ?_; rintro e w9 ⟨rfl, hg9⟩; have GE : Hid (w3.grownBy w9 none) := grown_none GD.out hg9; clear hg9 GD) | (go_at_call 19; refine calls_at (args := #[.int .u8 q, .slice (some ⟨gb, 0, none⟩) kB capB]) rfl ?_; refine (P2.out _ GE.out).mono ?_; rintro e w10 ⟨rfl, hg10⟩; have GF : Hid (w3.grownBy w10 none) := grown_none GE.out hg10; clear hg10 GE) | (go_at_call 20; refine (CL.out _ GF.out).mono ?_; rintro e w11 ⟨rfl, hg11⟩; have GG : Hid (w3.grownBy w11 none) := grown_none GF.out hg11; clear hg11))
                      go_ret
                      refine ⟨?_, grown_none G3.out GG.out⟩
                      first | rfl | (show Ending.returned (.bool (!decide (X = Y) && decide (DX = DY))) = _; rw [hcl, hd2]; rfl)
                    · have hd1 := toList_ne hDD
                      clear hDD hXY
                      go_wp2_with (first | (go_at_call 8; refine (awake_any _ (TX.out _ GA.out)).mono ?_; rintro e w6 ⟨rfl, hg6⟩; have GB : Hid (w3.grownBy w6 none) := grown_none GA.out hg6; clear hg6) | (go_at_call 18; refine calls_at (args := #[.int .u8 p, .slice (some ⟨ga, 0, none⟩) kA capA]) rfl ?_; refine (R1.out _ GB.out).mono ?_; rintro e w7 ⟨rfl, hg7⟩; have GC : Hid (w3.grownBy w7 none) := grown_none GB.out hg7; clear hg7 GB) | (go_at_call 18; refine calls_at (args := #[.int .u8 q, .slice (some ⟨gb, 0, none⟩) kB capB]) rfl ?_; refine (R2.out _ GC.out).mono ?_; rintro e w8 ⟨rfl, hg8⟩; have GD : Hid (w3.grownBy w8 none) := grown_none GC.out hg8; clear hg8 GC) | (go_at_call 19; refine calls_at (args := #[.int .u8 p, .slice (some ⟨ga, 0, none⟩) kA capA]) rfl ?_; refine (P1.out _ GD.out).mono ?_; rintro e w9 ⟨rfl, hg9⟩; have GE : Hid (w3.grownBy w9 none) := grown_none GD.out hg9; clear hg9 GD) | (go_at_call 19; refine calls_at (args := #[.int .u8 q, .slice (some ⟨gb, 0, none⟩) kB capB]) rfl ?_; refine (P2.out _ GE.out).mono ?_; rintro e w10 ⟨rfl, hg10⟩; have GF : Hid (w3.grownBy w10 none) := grown_none GE.out hg10; clear hg10 GE) | (go_at_call 20; refine (CL.out _ GF.out).mono ?_; rintro e w11 ⟨rfl, hg11⟩; have GG : Hid (w3.grownBy w11 none) := grown_none GF.out hg11; clear hg11))
                      go_ret
                      exact ⟨rfl, grown_none G3.out GF.out⟩

                  · obtain rfl : kA = 0 := by omega
                    have hx := toList_ne hXY
                    have hcl : decide (X = Y) = false := decide_eq_false hXY
                    by_cases hDD : DX = DY
                    · have hd1 : (DX.toList == DY.toList) = true := by rw [hDD]; exact beq_self_eq_true _
                      have hd2 : decide (DX = DY) = true := decide_eq_true hDD
                      clear hDD hXY
                      go_wp2_with (first | (go_at_call 8; refine (awake_any _ (TX.out _ GA.out)).mono ?_; rintro e w6 ⟨rfl, hg6⟩; have GB : Hid (w3.grownBy w6 none) := grown_none GA.out hg6; clear hg6) | (go_at_call 18; refine calls_at (args := #[.int .u8 p, .slice (some ⟨ga, 0, none⟩) 0 capA]) rfl ?_; refine (R1.out _ GB.out).mono ?_; rintro e w7 ⟨rfl, hg7⟩; have GC : Hid (w3.grownBy w7 none) := grown_none GB.out hg7; clear hg7 GB) | (go_at_call 18; refine calls_at (args := #[.int .u8 q, .slice (some ⟨gb, 0, none⟩) kB capB]) rfl ?_; refine (R2.out _ GC.out).mono ?_; rintro e w8 ⟨rfl, hg8⟩; have GD : Hid (w3.grownBy w8 none) := grown_none GC.out hg8; clear hg8 GC) | (go_at_call 19; refine calls_at (args := #[.int .u8 p, .slice (some ⟨ga, 0, none⟩) 0 capA]) rfl ?_; refine (P1.out _ GD.out).mono ?_; rintro e w9 ⟨rfl, hg9⟩; have GE : Hid (w3.grownBy w9 none) := grown_none GD.out hg9; clear hg9 GD) | (go_at_call 19; refine calls_at (args := #[.int .u8 q, .slice (some ⟨gb, 0, none⟩) kB capB]) rfl ?_; refine (P2.out _ GE.out).mono ?_; rintro e w10 ⟨rfl, hg10⟩; have GF : Hid (w3.grownBy w10 none) := grown_none GE.out hg10; clear hg10 GE) | (go_at_call 20; refine (CL.out _ GF.out).mono ?_; rintro e w11 ⟨rfl, hg11⟩; have GG : Hid (w3.grownBy w11 none) := grown_none GF.out hg11; clear hg11))
                      go_ret
                      refine ⟨?_, grown_none G3.out GG.out⟩
                      first | rfl | (show Ending.returned (.bool (!decide (X = Y) && decide (DX = DY))) = _; rw [hcl, hd2]; rfl)
                    · have hd1 := toList_ne hDD
                      clear hDD hXY
                      go_wp2_with (first | (go_at_call 8; refine (awake_any _ (TX.out _ GA.out)).mono ?_; rintro e w6 ⟨rfl, hg6⟩; have GB : Hid (w3.grownBy w6 none) := grown_none GA.out hg6; clear hg6) | (go_at_call 18; refine calls_at (args := #[.int .u8 p, .slice (some ⟨ga, 0, none⟩) 0 capA]) rfl ?_; refine (R1.out _ GB.out).mono ?_; rintro e w7 ⟨rfl, hg7⟩; have GC : Hid (w3.grownBy w7 none) := grown_none GB.out hg7; clear hg7 GB) | (go_at_call 18; refine calls_at (args := #[.int .u8 q, .slice (some ⟨gb, 0, none⟩) kB capB]) rfl ?_; refine (R2.out _ GC.out).mono ?_; rintro e w8 ⟨rfl, hg8⟩; have GD : Hid (w3.grownBy w8 none) := grown_none GC.out hg8; clear hg8 GC) | (go_at_call 19; refine calls_at (args := #[.int .u8 p, .slice (some ⟨ga, 0, none⟩) 0 capA]) rfl ?_; refine (P1.out _ GD.out).mono ?_; rintro e w9 ⟨rfl, hg9⟩; have GE : Hid (w3.grownBy w9 none) := grown_none GD.out hg9; clear hg9 GD) | (go_at_call 19; refine calls_at (args := #[.int .u8 q, .slice (some ⟨gb, 0, none⟩) kB capB]) rfl ?_; refine (P2.out _ GE.out).mono ?_; rintro e w10 ⟨rfl, hg10⟩; have GF : Hid (w3.grownBy w10 none) := grown_none GE.out hg10; clear hg10 GE) | (go_at_call 20; refine (CL.out _ GF.out).mono ?_; rintro e w11 ⟨rfl, hg11⟩; have GG : Hid (w3.grownBy w11 none) := grown_none GF.out hg11; clear hg11))
                      go_ret
                      exact ⟨rfl, grown_none G3.out GF.out⟩



end Go.Proofs.YtncplpgelfjfjaaDoor
