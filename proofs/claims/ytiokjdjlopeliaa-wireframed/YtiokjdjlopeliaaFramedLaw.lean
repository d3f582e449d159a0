/-
  The law WireFramed walked: of whatever texts, text and place it answers true, and nothing that was there turns.
-/
import Derived.Test.YtiokjdjlopeliaaFramedMath
import Derived.Test.YtiokjdjlopeliaaHash
namespace Go.Proofs.Ytiokjdjlopeliaa
open Go.RowKit
set_option maxRecDepth 100000 in
set_option maxHeartbeats 4000000 in
theorem law5_any (pa : Option Addr) (n cap xb xo : Nat) (S : Nat → ByteArray) (t : ByteArray) (z : Int) (w : World) (hpa : 0 < n → pa = some ⟨xb, xo, none⟩)
    (h0 : ∀ j, j < n → w.cell? ⟨xb, xo + j, none⟩ = some (.string (S j))) (hn : (n : Int) ≤ 9223372036854775807) :
    Calls Try.prog 5 #[.slice pa n cap, .string t, .int .i64 z] w fun e w' => e = .returned (.bool true) ∧ w.grownBy w' none := by
  have HPA : Hid (0 < n → pa = some ⟨xb, xo, none⟩) := hpa
  have H0 : Hid (∀ j, j < n → w.cell? ⟨xb, xo + j, none⟩ = some (.string (S j))) := h0
  clear hpa h0
  obtain ⟨F, eF⟩ : ∃ F : Nat → ByteArray, (fun j => fewS (S j)) = F := ⟨_, rfl⟩
  have hF : ∀ j, (F j).size ≤ 600 := fun j => by rw [← eF]; exact fewS_size _
  have CF : Hid (∀ j w, Calls Try.prog 15 #[.string (S j)] w fun e w' => e = .returned (.string (F j)) ∧ w' = w) := fun j w => by rw [← eF]; exact few_any _ w
  obtain ⟨f, ef⟩ : ∃ f, fewS t = f := ⟨_, rfl⟩
  have hf : f.size ≤ 600 := by rw [← ef]; exact fewS_size _
  have CT : Hid (∀ w, Calls Try.prog 15 #[.string t] w fun e w' => e = .returned (.string f) ∧ w' = w) := fun w => by rw [← ef]; exact few_any _ w
  have HF : Hid (∀ j, (F j).size ≤ 600) := hF
  have HA : Hid (∀ k, (allS F k).size ≤ k * 608) := allS_le F hF
  have HS : Hid (∀ k, (allS F (k + 1)).size = (allS F k).size + ((F k).size + 8)) := allS_size F
  clear eF ef hF
  go_enter Try.func5, Try.ntmps5
  go_wp2
  have R0 : Hid ((w.alloc (.cells #[.int .i64 0] 3)).ownsRow w.heap.size 3 1 (.slice (some ⟨w.heap.size, 0, none⟩) 1 1) 1 (ends F 1)) := by
    refine ⟨rfl, Or.inr ⟨w.heap.size, 1, #[.int .i64 0], rfl, Nat.le_refl _, heap_alloc_new w _, Nat.le_refl _, by unfold maxLen; decide, rfl, rfl⟩⟩
  have G0 : Hid (w.grownBy (w.alloc (.cells #[.int .i64 0] 3)) none) := grown_alloc (grown_refl _ _) _
  generalize w.alloc (.cells #[.int .i64 0] 3) = w1 at *
  go_loopw [7, 8, 9] (fun al en i wr => ∃ k : Nat, k ≤ n ∧ k ≤ 6 ∧ i = .int .i64 k ∧ al = .string (allS F k) ∧ wr.ownsRow w.heap.size 3 1 en (k + 1) (ends F (k + 1)) ∧ w.grownBy wr none) (fun _ _ i _ => 6 - (intOf i).toNat)
  case atStart => exact ⟨0, Nat.zero_le _, Nat.zero_le _, rfl, rfl, R0.out, G0.out⟩
  case round =>
    clear R0 G0
    obtain ⟨k, hk, hk6, rfl, rfl, hown, h3⟩ := hrel
    have HO : Hid (wr.ownsRow w.heap.size 3 1 u8 (k + 1) (ends F (k + 1))) := hown
    have H3 : Hid (w.grownBy wr none) := h3
    have hws : w.heap.size ≤ wr.heap.size := h3.size
    clear hown h3
    have k0 : (0 : Int) ≤ (k : Int) := by omega
    have hA := HA.out k
    by_cases hgo : k < n ∧ k < 6
    · obtain ⟨hkn, hk6'⟩ := hgo
      have hpp := HPA.out (by omega)
      subst hpp
      have c0 := H0.out k hkn
      have hxb : xb < w.heap.size := World.block_lt_of_cell? _ _ c0
      have c1 : wr.cell? ⟨xb, xo + k, none⟩ = some (.string (S k)) := ((grown_below H3.out).cell (by exact hxb)).trans c0
      have d1 : (k : Int) < (n : Int) := by omega
      have d2 : (k : Int) < 6 := by omega
      have hFk := HF.out k
      have hSk := HS.out k
      have CM : Hid (∀ w, Calls Try.prog 18 #[.string (F k)] w fun e w' => e = .returned (.string (frmS (F k))) ∧ w.grownBy w' none) := fun w => frame_any (F k) w (by omega)
      have eA : allS F k ++ frmS (F k) = allS F (k + 1) := rfl
      have EA : Hid (allS F k ++ frmS (F k) = allS F (k + 1)) := eA
      have hz1 : ((allS F k).size : Int) ≤ 4000 := by omega
      have hz2 : ((frmS (F k)).size : Int) ≤ 608 := by rw [frmS_size]; omega
      have hz3 : ((allS F (k + 1)).size : Int) ≤ 4000 := by omega
      clear c0 eA hSk hFk hA
      go_wp2_with (first | (go_at_call 15; refine (CF.out k _).mono ?_; rintro e w' ⟨rfl, hw⟩; have hw2 := hw.symm; clear hw; subst hw2) | (go_at_call 18; refine (CM.out _).mono ?_; rintro e w2 ⟨rfl, hg2⟩; have O2 : Hid (w2.ownsRow w.heap.size 3 1 u8 (k + 1) (ends F (k + 1))) := HO.out.kept hg2 (by cases u8.ownBlock with | none => exact Or.inl rfl | some b => exact Or.inr (by simp)); have G2 : Hid (w.grownBy w2 none) := grown_none H3.out hg2; have hs2 : w.heap.size ≤ w2.heap.size := G2.out.size; clear hg2) | (at_builtin; refine append_end w.heap.size F _ k ⟨w2.heap.size, 0, none⟩ 1 (O2.out.alloc _) (new_int w2 F k) (by omega) (by simp; omega) _ _ rfl rfl rfl rfl ?_))
      intro v' w' hown' hgr
      have R1 : Hid (w'.ownsRow w.heap.size 3 1 v' (k + 2) (ends F (k + 2))) := hown'
      have R2 : Hid (w.grownBy w' none) := grown_ob (grown_alloc G2.out _) hgr (fun x e => (O2.out.lt x e).1)
      clear hown' hgr O2 G2 HO H3
      go_wp2
      go_roundw
      case rel => exact ⟨k + 1, by omega, by omega, by go_num, rfl, R1.out, R2.out⟩
      case measure => simp [intOf]; omega
    · obtain ⟨g, cp, rfl, hg0, hg1, hcg⟩ := owns_form (by omega) HO.out
      have HC : Hid (∀ j, j < k + 1 → wr.cell? ⟨g, j, none⟩ = some (.int .i64 (((allS F j).size : Nat) : Int))) := fun j hj => by rw [hcg j hj, ends_at F _ j hj]
      have HT : Hid (∀ j, j < k → ∃ Q, allS F k = allS F j ++ (frmS (F j) ++ Q)) := fun j hj => allS_cut F j k hj
      clear hcg HO
      have hd : (¬ ((k : Int) < (n : Int))) ∨ ((k : Int) < (n : Int) ∧ ¬ ((k : Int) < 6)) := by omega
      clear hgo
      obtain ⟨A, eA⟩ : ∃ A, allS F k = A := ⟨_, rfl⟩
      rw [eA] at hA HT
      have hA' : A.size ≤ 3648 := by omega
      have EA : Hid (allS F k = A) := eA
      clear hA HA
      obtain ⟨w3, rfl⟩ : ∃ w3, w3 = wr := ⟨_, rfl⟩
      rw [eA]
      clear eA
      rcases hd with d1 | ⟨d1, d2⟩
      all_goals (
        go_wp2
        go_loopw [10] (fun i wr => ∃ j : Nat, j ≤ k ∧ i = .int .i64 j ∧ w3.grownBy wr none) (fun i _ => k - (intOf i).toNat)
        case atStart => exact ⟨0, Nat.zero_le _, rfl, grown_refl _ _⟩
        case round =>
          obtain ⟨j, hj, rfl, h4⟩ := hrel
          have j0 : (0 : Int) ≤ (j : Int) := by omega
          have k6 : (k : Int) ≤ 6 := by omega
          by_cases hjk : j < k
          · have hpp := HPA.out (by omega)
            subst hpp
            have c0 := H0.out j (by omega)
            have hxb : xb < w.heap.size := World.block_lt_of_cell? _ _ c0
            have G4 : Hid (w.grownBy wr none) := grown_none H3.out h4
            have c1 : wr.cell? ⟨xb, xo + j, none⟩ = some (.string (S j)) := ((grown_below G4.out).cell (by exact hxb)).trans c0
            obtain ⟨p, ep⟩ : ∃ p, (allS F j).size = p := ⟨_, rfl⟩
            obtain ⟨q, eq⟩ : ∃ q, p + ((F j).size + 8) = q := ⟨_, rfl⟩
            have c2 : wr.cell? ⟨g, j, none⟩ = some (.int .i64 (p : Int)) := ((grown_below h4).cell (by exact hg1)).trans (by rw [← ep]; exact HC.out j (by omega))
            have c3 : w3.cell? ⟨g, j + 1, none⟩ = some (.int .i64 (q : Int)) := (by rw [← eq, ← ep, ← HS.out j]; exact HC.out (j + 1) (by omega))
            have hFj := HF.out j
            obtain ⟨Q, hQ⟩ := HT.out j hjk
            have CU : Hid (∀ w, Calls Try.prog 19 #[.string A, .int .i64 (p : Int)] w fun e w' => e = .returned (.tuple #[.string (F j), .int .i64 (q : Int), .int .i64 0]) ∧ w.grownBy w' none) := fun w => by
              rw [← eq]
              exact unframe_frame (allS F j) (F j) Q A p w (by omega) hQ ep.symm (by omega)
            have CG : Hid (∀ w, Calls Try.prog 15 #[.string (S j)] w fun e w' => e = .returned (.string (F j)) ∧ w' = w) := fun w => CF.out j w
            have CM : Hid (∀ w, Calls Try.prog 18 #[.string (F j)] w fun e w' => e = .returned (.string (frmS (F j))) ∧ w.grownBy w' none) := fun w => frame_any (F j) w (by omega)
            have CR : Hid (∀ w, Calls Try.prog 20 #[.string (F j)] w fun e w' => e = .returned (.string (frmS (F j))) ∧ w.grownBy w' none) := fun w => refFrame_any (F j) w (by omega)
            generalize frmS (F j) = R at *
            generalize F j = T at *
            have C3 : Hid (w3.cell? ⟨g, j + 1, none⟩ = some (.int .i64 (q : Int))) := c3
            have C1 : Hid (w.cell? ⟨xb, xo + j, none⟩ = some (.string (S j))) := c0
            have H4 : Hid (w3.grownBy wr none) := h4
            clear c3 c0 h4 ep eq hQ hFj HS HF HT HC CF hA'
            have e1 : (j : Int) + 1 < (k : Int) + 1 := by omega
            have e2 : (j : Int) < (k : Int) + 1 := by omega
            have e3 : (j : Int) < (n : Int) := by omega
            go_wp2_with (first | (go_at_call 19; refine (CU.out _).mono ?_; clear CU; rintro e w5 ⟨rfl, hg5⟩; have G5 : Hid (w3.grownBy w5 none) := grown_none H4.out hg5; have c4 : w5.cell? ⟨xb, xo + j, none⟩ = some (.string (S j)) := ((grown_below (grown_none H3.out G5.out)).cell (by exact hxb)).trans C1.out; have c5 : w5.cell? ⟨g, j + 1, none⟩ = some (.int .i64 (q : Int)) := ((grown_below G5.out).cell (by exact hg1)).trans C3.out; clear hg5) | (go_at_call 15; refine (CG.out _).mono ?_; clear CG; rintro e w' ⟨rfl, hw⟩; have hw2 := hw.symm; clear hw; subst hw2) | (go_at_call 18; refine (CM.out _).mono ?_; clear CM; rintro e w6 ⟨rfl, hg6⟩; have G6 : Hid (w3.grownBy w6 none) := grown_none G5.out hg6; clear hg6) | (go_at_call 20; refine (CR.out _).mono ?_; clear CR; rintro e w7 ⟨rfl, hg7⟩; have G7 : Hid (w3.grownBy w7 none) := grown_none G6.out hg7; clear hg7))
            go_roundw
            case rel => exact ⟨j + 1, by omega, by go_num, G7.out⟩
            case measure => simp [intOf]; omega
          · have hjk' : j = k := by omega
            subst hjk'
            have G4 : Hid (w.grownBy wr none) := grown_none H3.out h4
            have hU : (A ++ f).size ≤ 4500 := by rw [ByteArray.size_append]; omega
            obtain ⟨V, x, y, U1, U2⟩ := both_unframe (A ++ f) z hU
            have D1 : Hid (∀ w, Calls Try.prog 19 #[.string (A ++ f), .int .i64 z] w fun e w' => e = .returned (.tuple #[.string V, .int .i64 x, .int .i64 y]) ∧ w.grownBy w' none) := U1
            have D2 : Hid (∀ w, Calls Try.prog 21 #[.string (A ++ f), .int .i64 z] w fun e w' => e = .returned (.tuple #[.string V, .int .i64 x, .int .i64 y]) ∧ w.grownBy w' none) := U2
            have a1 : (A.size : Int) ≤ 3648 := by omega
            have a2 : (f.size : Int) ≤ 600 := by omega
            clear U1 U2 hU h4 hA' hf HS HF HT HC CF
            go_wp2_with (first | (go_at_call 15; refine (CT.out _).mono ?_; clear CT; rintro e w' ⟨rfl, hw⟩; have hw2 := hw.symm; clear hw; subst hw2) | (go_at_call 19; refine (D1.out _).mono ?_; clear D1; rintro e w5 ⟨rfl, hg5⟩; have G5 : Hid (w.grownBy w5 none) := grown_none G4.out hg5; clear hg5) | (go_at_call 21; refine (D2.out _).mono ?_; clear D2; rintro e w6 ⟨rfl, hg6⟩; have G6 : Hid (w.grownBy w6 none) := grown_none G5.out hg6; clear hg6) | (go_at_call 12; refine (awake_any _).mono ?_; rintro e w7 ⟨rfl, hg7⟩; have G7 : Hid (w.grownBy w7 none) := grown_none G6.out hg7; clear hg7))
            go_ret
            exact ⟨rfl, G7.out⟩)
end Go.Proofs.Ytiokjdjlopeliaa
