/-
  The law ShaSoaks walked: of whatever list of texts, and whatever number, it answers true, and nothing that was there turns, where the three tables hold what the program's text lays in them.
-/
import Derived.Test.YtncplpgelfjfjaaDoorRefSum
import Derived.Test.YtncplpgelfjfjaaDoorAwake
import Derived.Test.YtncplpgelfjfjaaDoorSame
namespace Go.Proofs.YtncplpgelfjfjaaDoor
open Go.RowKit
set_option maxRecDepth 100000 in
set_option maxHeartbeats 400000 in
theorem write_nil (s : ByteArray) (w : World) : Calls Tryd.prog 15 #[.pointer none, .string s] w fun e w' => e = .returned (.tuple #[]) ∧ w' = w := by
  go_enter Tryd.func15, Tryd.ntmps15
  go_wp2
  refine bodyPost_ret (results_none rfl _ _ _) rfl ?_
  exact ⟨rfl, rfl⟩
set_option maxRecDepth 100000 in
set_option maxHeartbeats 400000 in
theorem sum_nil (w : World) : Calls Tryd.prog 16 #[.pointer none] w fun e w' => e = .returned (.string ⟨#[]⟩) ∧ w' = w := by
  go_enter Tryd.func16, Tryd.ntmps16
  go_wp2
  go_ret
  exact ⟨rfl, rfl⟩
/-- The bytes of so many texts, one behind the other. -/
def allL (S : Nat → ByteArray) : Nat → List UInt8
  | 0 => []
  | k + 1 => allL S k ++ (fewS (S k)).data.toList
theorem soak_allL (S : Nat → ByteArray) (k : Nat) : soak (soak (fun _ => 0, 0) (allL S k)) (fewS (S k)).data.toList = soak (fun _ => 0, 0) (allL S (k + 1)) := (soak_append _ _ _).symm
set_option maxRecDepth 100000 in
set_option maxHeartbeats 400000 in
theorem law5_any (pa : Option Addr) (n cap xb xo : Nat) (S : Nat → ByteArray) (ask : Int) (w : World) (ht : Tabs w) (hpa : 0 < n → pa = some ⟨xb, xo, none⟩) (hc : ∀ j, j < n → w.cell? ⟨xb, xo + j, none⟩ = some (.string (S j))) (hn : (n : Int) ≤ 9223372036854775807) :
    Calls Tryd.prog 5 #[.slice pa n cap, .int .i64 ask] w fun e w' => e = .returned (.bool true) ∧ w.grownBy w' none := by
  have HT : Hid (Tabs w) := ht
  have hlt := ht.lt
  have HC : Hid (∀ j, j < n → w.cell? ⟨xb, xo + j, none⟩ = some (.string (S j))) := hc
  have HPA : Hid (0 < n → pa = some ⟨xb, xo, none⟩) := hpa
  clear ht hc hpa
  go_enter Tryd.func5, Tryd.ntmps5
  go_wp2_with (go_at_call 14; refine (new_any w).mono ?_; rintro e w1 ⟨rfl, hw1⟩; have G1 : Hid (w.grownBy w1 none) := (by rw [hw1]; exact grown_alloc (grown_refl _ _) _); have B1 : Hid (Blk w1 w.heap.size 50 (dig (fun _ => 0) 0)) := (by rw [hw1]; exact Blk.new _ _ _); clear hw1)
  go_loopw [6, 7] (fun v i wr => ∃ (A : ByteArray) (k : Nat), k ≤ n ∧ k ≤ 12 ∧ i = .int .i64 k ∧ v = .string A ∧ A.data.toList = allL S k ∧ A.size ≤ 1200 * k ∧ Blk wr w.heap.size 50 (dig (soak (fun _ => 0, 0) (allL S k)).1 (soak (fun _ => 0, 0) (allL S k)).2) ∧ w.grownBy wr none) (fun _ i _ => 12 - (intOf i).toNat)
  case atStart => exact ⟨_, 0, Nat.zero_le _, Nat.zero_le _, rfl, rfl, rfl, Nat.le_refl _, B1.out, G1.out⟩
  case round =>
    clear B1 G1
    obtain ⟨A, k, hk, hk2, rfl, rfl, hA, hAs, h1, h3⟩ := hrel
    have H1 : Hid (Blk wr w.heap.size 50 (dig (soak (fun _ => 0, 0) (allL S k)).1 (soak (fun _ => 0, 0) (allL S k)).2)) := h1
    have H3 : Hid (w.grownBy wr none) := h3
    have HA : Hid (A.data.toList = allL S k) := hA
    clear h1 h3 hA
    have hq := soak_lt (fun _ => 0, 0) (allL S k) (by decide)
    have k0 : (0 : Int) ≤ (k : Int) := by omega
    have a0 : (A.size : Int) ≤ 14400 := by omega
    by_cases hgo : k < n ∧ k < 12
    · obtain ⟨hkn, hk12⟩ := hgo
      have hp := HPA.out (by omega)
      subst hp
      have c0 := HC.out k hkn
      have hxb : xb < w.heap.size := World.block_lt_of_cell? _ _ c0
      have c1 : wr.cell? ⟨xb, xo + k, none⟩ = some (.string (S k)) := ((grown_below H3.out).cell (by exact hxb)).trans c0
      have d1 : (k : Int) < (n : Int) := by omega
      have d2 : (k : Int) < 12 := by omega
      have ES := soak_allL S k
      have EA : allL S (k + 1) = allL S k ++ (fewS (S k)).data.toList := rfl
      obtain ⟨f, ef⟩ : ∃ f, fewS (S k) = f := ⟨_, rfl⟩
      have hf : f.size ≤ 1200 := by rw [← ef]; exact fewS_size _
      rw [ef] at ES EA
      have CF : Hid (∀ w, Calls Tryd.prog 12 #[.string (S k)] w fun e w' => e = .returned (.string f) ∧ w' = w) := fun w => by rw [← ef]; exact few_any _ w
      have HES : Hid (soak (soak (fun _ => 0, 0) (allL S k)) f.data.toList = soak (fun _ => 0, 0) (allL S (k + 1))) := ES
      have HEA : Hid (allL S (k + 1) = allL S k ++ f.data.toList) := EA
      clear ES EA ef c0
      obtain ⟨D, eD⟩ : ∃ D, digestS (A ++ f) = D := ⟨_, rfl⟩
      have hAf : (A ++ f).data.toList = allL S (k + 1) := by rw [append_list, HA.out, HEA.out]
      have hAfs : (A ++ f).size ≤ 15600 := by rw [ByteArray.size_append]; omega
      have CR : Hid (∀ w, Calls Tryd.prog 13 #[.string (A ++ f)] w fun e w' => e = .returned (.string D) ∧ w.grownBy w' none) := fun w => by rw [← eD]; exact refSum_any _ w (by omega)
      have CD : Hid (∀ wx, Blk wx w.heap.size 50 (dig (soak (fun _ => 0, 0) (allL S (k + 1))).1 (soak (fun _ => 0, 0) (allL S (k + 1))).2) → Tabs wx → Calls Tryd.prog 16 #[.pointer (some ⟨w.heap.size, 0, none⟩)] wx fun e w' => e = .returned (.string D) ∧ wx.grownBy w' none) := fun wx hb ht => by
        rw [← eD]
        unfold digestS
        rw [hAf]
        exact sum_any w.heap.size _ _ wx hb ht (soak_lt _ _ (by decide))
      have HAf : Hid ((A ++ f).data.toList = allL S (k + 1)) := hAf
      clear hAf eD
      have c2' : ∀ w2, w.grownBy w2 none → w2.cell? ⟨xb, xo + k, none⟩ = some (.string (S k)) := fun w2 g => ((grown_below g).cell (by exact hxb)).trans (HC.out k hkn)
      have C2 : Hid (∀ w2, w.grownBy w2 none → w2.cell? ⟨xb, xo + k, none⟩ = some (.string (S k))) := c2'
      clear c2'
      by_cases hask : (k : Int) = ask
      · subst hask
        go_wp2_with (first | (go_at_call 12; refine (CF.out _).mono ?_; rintro e w' ⟨rfl, hw⟩; have hw2 := hw.symm; clear hw; subst hw2) | (go_at_call 15; refine (write_any w.heap.size _ _ f _ H1.out (HT.out.kept H3.out (by simp) (by simp) (by simp)) hq hlt (by omega)).mono ?_; rintro e w2 ⟨rfl, hb2, hg2⟩; have B2 : Hid (Blk w2 w.heap.size 50 (dig (soak (fun _ => 0, 0) (allL S (k + 1))).1 (soak (fun _ => 0, 0) (allL S (k + 1))).2)) := (by rw [← HES.out]; exact hb2); have G2 : Hid (w.grownBy w2 none) := grown_through H3.out hg2 (Nat.le_refl _); have c2 := C2.out w2 G2.out; clear hb2 hg2 H1 H3) | (go_at_call 16; refine (CD.out _ B2.out (HT.out.kept G2.out (by simp) (by simp) (by simp))).mono ?_; rintro e w3 ⟨rfl, hg3⟩; have B3 : Hid (Blk w3 w.heap.size 50 (dig (soak (fun _ => 0, 0) (allL S (k + 1))).1 (soak (fun _ => 0, 0) (allL S (k + 1))).2)) := B2.out.kept hg3 (by simp); have G3 : Hid (w.grownBy w3 none) := grown_none G2.out hg3; clear hg3 B2 G2) | (go_at_call 13; refine (CR.out _).mono ?_; rintro e w4 ⟨rfl, hg4⟩; have B4 : Hid (Blk w4 w.heap.size 50 (dig (soak (fun _ => 0, 0) (allL S (k + 1))).1 (soak (fun _ => 0, 0) (allL S (k + 1))).2)) := B3.out.kept hg4 (by simp); have G4 : Hid (w.grownBy w4 none) := grown_none G3.out hg4; clear hg4 B3 G3))
        go_roundw
        case rel =>
          refine ⟨_, k + 1, by omega, by omega, by go_num, rfl, HAf.out, ?_, B4.out, G4.out⟩
          rw [ByteArray.size_append]; omega
        case measure => simp [intOf]; omega
      · go_wp2_with (first | (go_at_call 12; refine (CF.out _).mono ?_; rintro e w' ⟨rfl, hw⟩; have hw2 := hw.symm; clear hw; subst hw2) | (go_at_call 15; refine (write_any w.heap.size _ _ f _ H1.out (HT.out.kept H3.out (by simp) (by simp) (by simp)) hq hlt (by omega)).mono ?_; rintro e w2 ⟨rfl, hb2, hg2⟩; have B2 : Hid (Blk w2 w.heap.size 50 (dig (soak (fun _ => 0, 0) (allL S (k + 1))).1 (soak (fun _ => 0, 0) (allL S (k + 1))).2)) := (by rw [← HES.out]; exact hb2); have G2 : Hid (w.grownBy w2 none) := grown_through H3.out hg2 (Nat.le_refl _); have c2 := C2.out w2 G2.out; clear hb2 hg2 H1 H3))
        go_roundw
        case rel =>
          refine ⟨_, k + 1, by omega, by omega, by go_num, rfl, HAf.out, ?_, B2.out, G2.out⟩
          rw [ByteArray.size_append]; omega
        case measure => simp [intOf]; omega
    · obtain ⟨D, eD⟩ : ∃ D, digestS A = D := ⟨_, rfl⟩
      have CR : Hid (∀ w, Calls Tryd.prog 13 #[.string A] w fun e w' => e = .returned (.string D) ∧ w.grownBy w' none) := fun w => by rw [← eD]; exact refSum_any _ w (by omega)
      have CW : Hid (∀ w, Tabs w → Calls Tryd.prog 11 #[.string A] w fun e w' => e = .returned (.string D) ∧ w.grownBy w' none) := fun w h => by rw [← eD]; exact sumAll_any _ w h (by omega)
      have CD : Hid (∀ wx, Blk wx w.heap.size 50 (dig (soak (fun _ => 0, 0) (allL S k)).1 (soak (fun _ => 0, 0) (allL S k)).2) → Tabs wx → Calls Tryd.prog 16 #[.pointer (some ⟨w.heap.size, 0, none⟩)] wx fun e w' => e = .returned (.string D) ∧ wx.grownBy w' none) := fun wx hb ht => by
        rw [← eD]
        unfold digestS
        rw [HA.out]
        exact sum_any w.heap.size _ _ wx hb ht (soak_lt _ _ (by decide))
      clear eD
      have fin : Hid (∀ wx, w.grownBy wx none → Tabs wx) := fun wx g => HT.out.kept g (by simp) (by simp) (by simp)
      by_cases hkn : k < n
      · have d1 : (k : Int) < (n : Int) := by omega
        have d2 : ¬ ((k : Int) < 12) := by omega
        clear hgo
        go_wp2_with (first | (go_at_call 15; refine (write_nil _ _).mono ?_; rintro e w' ⟨rfl, hw⟩; have hw2 := hw.symm; clear hw; subst hw2) | (go_at_call 8; refine (awake_any _ (fin.out _ H3.out)).mono ?_; rintro e w2 ⟨rfl, hg2⟩; have B2 : Hid (Blk w2 w.heap.size 50 (dig (soak (fun _ => 0, 0) (allL S k)).1 (soak (fun _ => 0, 0) (allL S k)).2)) := H1.out.kept hg2 (by simp); have G2 : Hid (w.grownBy w2 none) := grown_none H3.out hg2; clear hg2) | (go_at_call 13; refine (CR.out _).mono ?_; rintro e w4 ⟨rfl, hg4⟩; have B4 : Hid (Blk w4 w.heap.size 50 (dig (soak (fun _ => 0, 0) (allL S k)).1 (soak (fun _ => 0, 0) (allL S k)).2)) := B3.out.kept hg4 (by simp); have G4 : Hid (w.grownBy w4 none) := grown_none G3.out hg4; clear hg4 B3 G3) | (go_at_call 11; refine (CW.out _ (fin.out _ G5.out)).mono ?_; rintro e w6 ⟨rfl, hg6⟩; have G6 : Hid (w.grownBy w6 none) := grown_none G5.out hg6; clear hg6 G5) | (go_at_call 16; refine calls_at (args := #[.pointer none]) rfl ?_; refine (sum_nil _).mono ?_; rintro e w' ⟨rfl, hw⟩; have hw2 := hw.symm; clear hw; subst hw2) | (go_at_call 16; refine (CD.out _ B2.out (fin.out _ G2.out)).mono ?_; rintro e w3 ⟨rfl, hg3⟩; have B3 : Hid (Blk w3 w.heap.size 50 (dig (soak (fun _ => 0, 0) (allL S k)).1 (soak (fun _ => 0, 0) (allL S k)).2)) := B2.out.kept hg3 (by simp); have G3 : Hid (w.grownBy w3 none) := grown_none G2.out hg3; clear hg3 B2 G2) | (go_at_call 16; refine (CD.out _ B4.out (fin.out _ G4.out)).mono ?_; rintro e w5 ⟨rfl, hg5⟩; have G5 : Hid (w.grownBy w5 none) := grown_none G4.out hg5; clear hg5 B4 G4))
        go_ret
        exact ⟨rfl, G6.out⟩
      · have d1 : ¬ ((k : Int) < (n : Int)) := by omega
        clear hgo
        go_wp2_with (first | (go_at_call 15; refine (write_nil _ _).mono ?_; rintro e w' ⟨rfl, hw⟩; have hw2 := hw.symm; clear hw; subst hw2) | (go_at_call 8; refine (awake_any _ (fin.out _ H3.out)).mono ?_; rintro e w2 ⟨rfl, hg2⟩; have B2 : Hid (Blk w2 w.heap.size 50 (dig (soak (fun _ => 0, 0) (allL S k)).1 (soak (fun _ => 0, 0) (allL S k)).2)) := H1.out.kept hg2 (by simp); have G2 : Hid (w.grownBy w2 none) := grown_none H3.out hg2; clear hg2) | (go_at_call 13; refine (CR.out _).mono ?_; rintro e w4 ⟨rfl, hg4⟩; have B4 : Hid (Blk w4 w.heap.size 50 (dig (soak (fun _ => 0, 0) (allL S k)).1 (soak (fun _ => 0, 0) (allL S k)).2)) := B3.out.kept hg4 (by simp); have G4 : Hid (w.grownBy w4 none) := grown_none G3.out hg4; clear hg4 B3 G3) | (go_at_call 11; refine (CW.out _ (fin.out _ G5.out)).mono ?_; rintro e w6 ⟨rfl, hg6⟩; have G6 : Hid (w.grownBy w6 none) := grown_none G5.out hg6; clear hg6 G5) | (go_at_call 16; refine calls_at (args := #[.pointer none]) rfl ?_; refine (sum_nil _).mono ?_; rintro e w' ⟨rfl, hw⟩; have hw2 := hw.symm; clear hw; subst hw2) | (go_at_call 16; refine (CD.out _ B2.out (fin.out _ G2.out)).mono ?_; rintro e w3 ⟨rfl, hg3⟩; have B3 : Hid (Blk w3 w.heap.size 50 (dig (soak (fun _ => 0, 0) (allL S k)).1 (soak (fun _ => 0, 0) (allL S k)).2)) := B2.out.kept hg3 (by simp); have G3 : Hid (w.grownBy w3 none) := grown_none G2.out hg3; clear hg3 B2 G2) | (go_at_call 16; refine (CD.out _ B4.out (fin.out _ G4.out)).mono ?_; rintro e w5 ⟨rfl, hg5⟩; have G5 : Hid (w.grownBy w5 none) := grown_none G4.out hg5; clear hg5 B4 G4))
        go_ret
        exact ⟨rfl, G6.out⟩
end Go.Proofs.YtncplpgelfjfjaaDoor
