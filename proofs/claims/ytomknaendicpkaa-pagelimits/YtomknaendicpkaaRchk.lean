/-
  The document's Check: the same as the program's.
-/
import Derived.Test.YtomknaendicpkaaChk
namespace Go.Proofs.Ytomknaendicpkaa
open Go.RowKit
theorem Blk.drewN {w : World} {b : Nat} {t : TypeId} {cs : Array Value} (h : Blk w b t cs) (n : Nat) : Blk (w.drewN n) b t cs := h
theorem hidR {p : Prop} (h : p) : Hid p := h
/-- The key ahead of a place. -/
def ahead (l : List ByteArray) : Nat → ByteArray
  | 0 => ⟨#[]⟩
  | k + 1 => l.getD k ⟨#[]⟩
theorem rise_at {l : List ByteArray} {k : Nat} (h : k < l.length) : riseB (ahead l k) (l.drop k) = (Op.bytesLess (ahead l k).toList l[k].toList && (!decide (64 < (l[k].size : Int)) && riseB (ahead l (k + 1)) (l.drop (k + 1)))) := by
  rw [List.drop_eq_getElem_cons h]
  show (_ && (_ && riseB l[k] _)) = _
  congr 2
  show riseB l[k] _ = riseB (l.getD k ⟨#[]⟩) _
  rw [List.getD_eq_getElem?_getD, List.getElem?_eq_getElem h]
  rfl
theorem less_none (a : List UInt8) : Op.bytesLess a [] = false := by cases a <;> rfl
theorem none_less (a : List UInt8) : Op.bytesLess [] a = !a.isEmpty := by cases a <;> rfl
theorem chk_six {p : Pg} (h : mayP p = false) : chk p = 6 := by unfold chk; rw [h]; rfl
theorem chk_zero {p : Pg} (h : mayP p = true) : chk p = 0 := by unfold chk; rw [h]; rfl
theorem rest_leaf_bad {keys vals : List ByteArray} {kids : List Int} (h : ¬ (kids.length : Int) = 0 ∨ ¬ (vals.length : Int) = keys.length) : restB ⟨true, keys, vals, kids⟩ = false := by
  show (decide ((vals.length : Int) = keys.length) && (decide ((kids.length : Int) = 0) && !vals.any longB)) = false
  rcases h with h | h
  · rw [decide_eq_false h]; simp only [Bool.false_and, Bool.and_false]
  · rw [decide_eq_false h]; simp only [Bool.false_and]
theorem rest_leaf_long {keys vals : List ByteArray} {kids : List Int} (h : vals.any longB = true) : restB ⟨true, keys, vals, kids⟩ = false := by
  show (decide ((vals.length : Int) = keys.length) && (decide ((kids.length : Int) = 0) && !vals.any longB)) = false
  rw [h]; simp only [Bool.not_true, Bool.and_false]
theorem rest_leaf_ok {keys vals : List ByteArray} {kids : List Int} (h1 : (kids.length : Int) = 0) (h2 : (vals.length : Int) = keys.length) (h : vals.any longB = false) : restB ⟨true, keys, vals, kids⟩ = true := by
  show (decide ((vals.length : Int) = keys.length) && (decide ((kids.length : Int) = 0) && !vals.any longB)) = true
  rw [decide_eq_true h1, decide_eq_true h2, h]; rfl
theorem rest_kids_bad {keys vals : List ByteArray} {kids : List Int} (h : ¬ (vals.length : Int) = 0 ∨ (keys.length : Int) = 0 ∨ ¬ (kids.length : Int) = keys.length + 1) : restB ⟨false, keys, vals, kids⟩ = false := by
  show (decide (0 < (keys.length : Int)) && (decide ((kids.length : Int) = keys.length + 1) && (decide ((vals.length : Int) = 0) && !kids.any outB))) = false
  rcases h with h | h | h
  · rw [decide_eq_false h]; simp only [Bool.false_and, Bool.and_false]
  · rw [decide_eq_false (p := 0 < (keys.length : Int)) (by omega)]; simp only [Bool.false_and]
  · rw [decide_eq_false h]; simp only [Bool.false_and, Bool.and_false]
theorem rest_kids_out {keys vals : List ByteArray} {kids : List Int} (h : kids.any outB = true) : restB ⟨false, keys, vals, kids⟩ = false := by
  show (decide (0 < (keys.length : Int)) && (decide ((kids.length : Int) = keys.length + 1) && (decide ((vals.length : Int) = 0) && !kids.any outB))) = false
  rw [h]; simp only [Bool.not_true, Bool.and_false]
theorem rest_kids_ok {keys vals : List ByteArray} {kids : List Int} (h1 : (vals.length : Int) = 0) (h2 : ¬ (keys.length : Int) = 0) (h3 : (kids.length : Int) = keys.length + 1) (h : kids.any outB = false) : restB ⟨false, keys, vals, kids⟩ = true := by
  show (decide (0 < (keys.length : Int)) && (decide ((kids.length : Int) = keys.length + 1) && (decide ((vals.length : Int) = 0) && !kids.any outB))) = true
  rw [decide_eq_true h1, decide_eq_true h3, decide_eq_true (p := 0 < (keys.length : Int)) (by omega), h]; rfl
theorem empty_toList : (⟨#[]⟩ : ByteArray).toList = [] := by rw [ByteArray.toList_eq]
set_option maxRecDepth 100000 in
set_option maxHeartbeats 2000000 in
theorem rcheck_any (v : Value) (p : Pg) (w : World) (h : PgV w v p) (hf : p.fits) : Calls Try.prog 8 #[v] w fun e w' => e = .returned (.int .i64 (chk p)) ∧ w.grownBy w' none := by
  obtain ⟨f1, f2, f3⟩ := hf
  obtain ⟨a, b, c, rfl, ha, hb, hc⟩ := h
  obtain ⟨pa, ca, ga, oa, rfl, pA, cA⟩ := ha
  obtain ⟨pb, cb, gb, ob, rfl, pB, cB⟩ := hb
  obtain ⟨pc, cc, gc, oc, rfl, pC, cC⟩ := hc
  obtain ⟨R, hR⟩ : ∃ R, chk p = R := ⟨_, rfl⟩
  have ER := hidR hR
  rw [hR]
  clear hR
  obtain ⟨leaf, keys, vals, kids⟩ := p
  simp only at *
  have PA : Hid (0 < keys.length → pa = some ⟨ga, oa, none⟩) := pA
  have PB : Hid (0 < vals.length → pb = some ⟨gb, ob, none⟩) := pB
  have PC : Hid (0 < kids.length → pc = some ⟨gc, oc, none⟩) := pC
  have CA : Hid (∀ i, (h : i < keys.length) → w.cell? ⟨ga, oa + i, none⟩ = some (.string keys[i])) := cA
  have CB : Hid (∀ i, (h : i < vals.length) → w.cell? ⟨gb, ob + i, none⟩ = some (.string vals[i])) := cB
  have CC : Hid (∀ i, (h : i < kids.length) → w.cell? ⟨gc, oc + i, none⟩ = some (.int .i64 kids[i])) := cC
  clear pA pB pC cA cB cC
  obtain ⟨n1, hn1⟩ : ∃ n, n = keys.length := ⟨_, rfl⟩
  obtain ⟨n2, hn2⟩ : ∃ n, n = vals.length := ⟨_, rfl⟩
  obtain ⟨n3, hn3⟩ : ∃ n, n = kids.length := ⟨_, rfl⟩
  rw [← hn1, ← hn2, ← hn3]
  have N1 := hidR hn1
  have N2 := hidR hn2
  have N3 := hidR hn3
  have z1 : (n1 : Int) ≤ 9223372036854775807 := by omega
  have z2 : (n2 : Int) ≤ 9223372036854775807 := by omega
  have z3 : (n3 : Int) ≤ 9223372036854775807 := by omega
  clear hn1 hn2 hn3 f1 f2 f3
  by_cases h8 : 8 < (n1 : Int)
  · obtain rfl : R = 6 := by rw [← ER.out]; exact chk_six (by have := N1.out; simp [mayP, mayK]; omega)
    clear CA CB CC PA PB PC ER
    go_enter Try.func8, Try.ntmps8
    go_wp2
    go_ret
    exact ⟨rfl, grown_alloc (grown_refl _ _) _⟩
  · have BX : Hid (Blk (w.alloc (.cells #[.bool leaf, .slice pa n1 ca, .slice pb n2 cb, .slice pc n3 cc] 30)) w.heap.size 30 #[.bool leaf, .slice pa n1 ca, .slice pb n2 cb, .slice pc n3 cc]) := Blk.new w 30 _
    have EM : Hid (mayP ⟨leaf, keys, vals, kids⟩ = (riseB (ahead keys 0) (keys.drop 0) && restB ⟨leaf, keys, vals, kids⟩)) := hidR (by have h9 : ¬ 8 < (keys.length : Int) := (by have := N1.out; omega); simp [mayP, mayK, h9, ahead])
    go_enter Try.func8, Try.ntmps8
    go_wp2
    go_loopw [3] (fun i wr => ∃ k : Nat, k ≤ n1 ∧ i = .int .i64 k ∧ Blk wr w.heap.size 30 #[.bool leaf, .slice pa n1 ca, .slice pb n2 cb, .slice pc n3 cc] ∧ w.grownBy wr none ∧ Hid (riseB (ahead keys 0) (keys.drop 0) = riseB (ahead keys k) (keys.drop k))) (fun i _ => n1 - (intOf i).toNat)
    case atStart => exact ⟨0, Nat.zero_le _, rfl, BX.out, grown_alloc (grown_refl _ _) _, hidR rfl⟩
    case round =>
      obtain ⟨k, hk, rfl, hb, hg, HK⟩ := hrel
      have B := hidR hb
      have G := hidR hg
      have q1 := hb.cell 1
      simp at q1
      clear hb hg BX
      have k0 : (0 : Int) ≤ k := by omega
      by_cases hln : k < n1
      · have hlt : k < keys.length := by rw [← N1.out]; exact hln
        have hp := PA.out (by omega)
        subst hp
        have c0 := cell_kept G.out (CA.out k hlt)
        have y1 : (k : Int) < n1 := by omega
        have yd : decide ((k : Int) < n1) = true := decide_eq_true y1
        have hr := HK.out
        rw [rise_at hlt] at hr
        have HR := hidR hr
        clear hr HK
        by_cases hz : keys[k].toList = []
        · obtain rfl : R = 6 := by
            rw [← ER.out]
            refine chk_six ?_
            rw [EM.out, HR.out, hz, less_none]
            rfl
          have hz' : keys[k].toList.isEmpty = true := by rw [hz]; rfl
          clear CA CB CC ER EM HR
          generalize keys[k] = t at *
          go_wp2
          go_quiet (fail)
          go_wp2
          go_ret
          exact ⟨rfl, grown_drewN G.out _⟩
        · have hz' : keys[k].toList.isEmpty = false := by simpa using hz
          have hz2 : (keys[k].toList == []) = false := by simpa using hz
          by_cases h64 : 64 < (keys[k].size : Int)
          · obtain rfl : R = 6 := by
              rw [← ER.out]
              refine chk_six ?_
              rw [EM.out, HR.out]
              simp [h64]
            clear CA CB CC ER EM HR
            generalize keys[k] = t at *
            go_wp2
            go_quiet (fail)
            go_wp2
            go_ret
            exact ⟨rfl, grown_drewN G.out _⟩
          · have d64 : decide (64 < (keys[k].size : Int)) = false := decide_eq_false h64
            by_cases hk0 : 0 < k
            · have kd0 : decide (0 < k) = true := decide_eq_true hk0
              obtain ⟨j, hj⟩ : ∃ j : Nat, j + 1 = k := ⟨k - 1, by omega⟩
              have hjl : j < keys.length := by omega
              have c1 := cell_kept G.out (CA.out j hjl)
              have ea : ahead keys k = keys[j] := by
                rw [← hj]
                show keys.getD j ⟨#[]⟩ = _
                rw [List.getD_eq_getElem?_getD, List.getElem?_eq_getElem hjl]
                rfl
              have w1 : IntKind.i64.wrap ((k : Int) - 1) = (k : Int) - 1 := by simp [IntKind.wrap, IntKind.bits, IntKind.signed]; omega
              have w2 : (0 : Int) ≤ (k : Int) - 1 := by omega
              have w3 : (k : Int) - 1 < n1 := by omega
              have w4 : ((k : Int) - 1).toNat = j := by omega
              by_cases hb : Op.bytesLess keys[j].toList keys[k].toList = true
              · have NX : Hid (riseB (ahead keys 0) (keys.drop 0) = riseB (ahead keys (k + 1)) (keys.drop (k + 1))) := hidR (by
                  rw [HR.out, ea, hb]
                  simp [h64])
                clear HR ea
                generalize keys[k] = t at *
                generalize keys[j] = u at *
                go_wp2
                go_quiet (fail)
                go_wp2
                go_round
                case rel => exact ⟨k + 1, by omega, by go_num, B.out.drewN _, grown_drewN G.out _, NX⟩
                case measure => simp [intOf]; omega
              · have hb' : Op.bytesLess keys[j].toList keys[k].toList = false := by simpa using hb
                obtain rfl : R = 6 := by
                  rw [← ER.out]
                  refine chk_six ?_
                  rw [EM.out, HR.out, ea, hb']
                  rfl
                clear CA CB CC ER EM HR ea hb
                generalize keys[k] = t at *
                generalize keys[j] = u at *
                go_wp2
                go_quiet (fail)
                go_wp2
                go_ret
                exact ⟨rfl, grown_drewN G.out _⟩
            · have kd0 : decide (0 < k) = false := decide_eq_false hk0
              have NX : Hid (riseB (ahead keys 0) (keys.drop 0) = riseB (ahead keys (k + 1)) (keys.drop (k + 1))) := hidR (by
                rw [HR.out]
                have e0 : k = 0 := by omega
                have ea : ahead keys k = ⟨#[]⟩ := by rw [e0]; rfl
                rw [ea, empty_toList, none_less, hz']
                simp [h64])
              clear HR
              generalize keys[k] = t at *
              go_wp2
              go_quiet (fail)
              go_wp2
              go_round
              case rel => exact ⟨k + 1, by omega, by go_num, B.out.drewN _, grown_drewN G.out _, NX⟩
              case measure => simp [intOf]; omega
      · obtain rfl : n1 = k := by omega
        have em := EM.out
        rw [HK.out, N1.out, List.drop_length] at em
        simp only [riseB, Bool.true_and] at em
        clear EM HK
        have EM := hidR em
        clear em
        have q0 := B.out.cell 0
        have q2 := B.out.cell 2
        have q3 := B.out.cell 3
        simp at q0 q2 q3
        cases leaf with
        | true =>
          by_cases t1 : (n3 : Int) = 0
          · by_cases t2 : (n2 : Int) = n1
            · have t3 : n3 = 0 := by omega
              go_wp2
              go_loopw [4] (fun i wr => ∃ k : Nat, k ≤ n2 ∧ i = .int .i64 k ∧ Blk wr w.heap.size 30 #[.bool true, .slice pa n1 ca, .slice pb n2 cb, .slice pc n3 cc] ∧ w.grownBy wr none ∧ Hid (∀ j, (h : j < vals.length) → j < k → longB vals[j] = false)) (fun i _ => n2 - (intOf i).toNat)
              case atStart => exact ⟨0, Nat.zero_le _, rfl, B.out, G.out, fun j _ h => absurd h (Nat.not_lt_zero _)⟩
              case round =>
                clear B G q0 q1 q2 q3
                obtain ⟨k, hk, rfl, hb, hg, HK⟩ := hrel
                have B := hidR hb
                have G := hidR hg
                have q1 := hb.cell 2
                simp at q1
                clear hb hg
                have k0 : (0 : Int) ≤ k := by omega
                by_cases hln : k < n2
                · have hlt : k < vals.length := by rw [← N2.out]; exact hln
                  have hp := PB.out (by omega)
                  subst hp
                  have c0 := cell_kept G.out (CB.out k hlt)
                  have y1 : (k : Int) < n2 := by omega
                  by_cases hl : longB vals[k] = true
                  · obtain rfl : R = 6 := by
                      rw [← ER.out]
                      refine chk_six ?_
                      rw [EM.out]
                      have ha : vals.any longB = true := any_true hlt hl
                      exact rest_leaf_long ha
                    have hv : 8192 < (vals[k].size : Int) := by simpa [longB] using hl
                    clear CA CB CC ER EM HK hl
                    generalize vals[k] = s at *
                    go_wp2
                    go_ret
                    exact ⟨rfl, G.out⟩
                  · have hl' : longB vals[k] = false := by simpa using hl
                    have next : Hid (∀ j, (h : j < vals.length) → j < k + 1 → longB vals[j] = false) := fun j h1 hj => by
                      by_cases e : j = k
                      · subst e; exact hl'
                      · exact HK.out j h1 (by omega)
                    have hv : ¬ 8192 < (vals[k].size : Int) := by simpa [longB] using hl'
                    clear CA CB CC EM HK hl hl'
                    generalize vals[k] = s at *
                    go_wp2
                    go_round
                    case rel => exact ⟨k + 1, by omega, by go_num, B.out, G.out, next⟩
                    case measure => simp [intOf]; omega
                · obtain rfl : k = n2 := by omega
                  obtain rfl : R = 0 := by
                    rw [← ER.out]
                    refine chk_zero ?_
                    rw [EM.out]
                    have ha : vals.any longB = false := any_false (fun j hj => HK.out j hj (by have := N2.out; omega))
                    have := N1.out
                    have := N2.out
                    have := N3.out
                    exact rest_leaf_ok (by omega) (by omega) ha
                  clear CA CB CC ER EM HK PA PB PC
                  go_wp2
                  go_ret
                  exact ⟨rfl, G.out⟩
            · obtain rfl : R = 6 := by
                rw [← ER.out]
                refine chk_six ?_
                rw [EM.out]
                have := N1.out
                have := N2.out
                have := N3.out
                exact rest_leaf_bad (by omega)
              clear CA CB CC ER EM PA PB PC
              go_wp2
              go_ret
              exact ⟨rfl, G.out⟩
          · obtain rfl : R = 6 := by
              rw [← ER.out]
              refine chk_six ?_
              rw [EM.out]
              have := N1.out
              have := N2.out
              have := N3.out
              exact rest_leaf_bad (by omega)
            clear CA CB CC ER EM PA PB PC
            go_wp2
            go_ret
            exact ⟨rfl, G.out⟩
        | false =>
          by_cases t1 : (n2 : Int) = 0
          · by_cases t2 : (n1 : Int) = 0
            · obtain rfl : R = 6 := by
                rw [← ER.out]
                refine chk_six ?_
                rw [EM.out]
                have := N1.out
                have := N2.out
                have := N3.out
                exact rest_kids_bad (by omega)
              clear CA CB CC ER EM PA PB PC
              go_wp2
              go_ret
              exact ⟨rfl, G.out⟩
            · by_cases t3 : (n3 : Int) = n1 + 1
              · skip
                go_wp2
                go_loopw [5] (fun i wr => ∃ k : Nat, k ≤ n3 ∧ i = .int .i64 k ∧ Blk wr w.heap.size 30 #[.bool false, .slice pa n1 ca, .slice pb n2 cb, .slice pc n3 cc] ∧ w.grownBy wr none ∧ Hid (∀ j, (h : j < kids.length) → j < k → outB kids[j] = false)) (fun i _ => n3 - (intOf i).toNat)
                case atStart => exact ⟨0, Nat.zero_le _, rfl, B.out, G.out, fun j _ h => absurd h (Nat.not_lt_zero _)⟩
                case round =>
                  clear B G q0 q1 q2 q3
                  obtain ⟨k, hk, rfl, hb, hg, HK⟩ := hrel
                  have B := hidR hb
                  have G := hidR hg
                  have q1 := hb.cell 3
                  simp at q1
                  clear hb hg
                  have k0 : (0 : Int) ≤ k := by omega
                  by_cases hln : k < n3
                  · have hlt : k < kids.length := by rw [← N3.out]; exact hln
                    have hp := PC.out (by omega)
                    subst hp
                    have c0 := cell_kept G.out (CC.out k hlt)
                    have y1 : (k : Int) < n3 := by omega
                    by_cases hl : outB kids[k] = true
                    · obtain rfl : R = 6 := by
                        rw [← ER.out]
                        refine chk_six ?_
                        rw [EM.out]
                        have ha : kids.any outB = true := any_true hlt hl
                        exact rest_kids_out ha
                      have hv : kids[k] < 0 ∨ 2147483647 < kids[k] := by simpa [outB] using hl
                      clear CA CB CC ER EM HK hl
                      generalize kids[k] = s at *
                      rcases hv with hv | hv
                      · go_wp2
                        go_ret
                        exact ⟨rfl, G.out⟩
                      · have hv0 : ¬ s < 0 := by omega
                        go_wp2
                        go_ret
                        exact ⟨rfl, G.out⟩
                    · have hl' : outB kids[k] = false := by simpa using hl
                      have next : Hid (∀ j, (h : j < kids.length) → j < k + 1 → outB kids[j] = false) := fun j h1 hj => by
                        by_cases e : j = k
                        · subst e; exact hl'
                        · exact HK.out j h1 (by omega)
                      have hv : ¬ kids[k] < 0 ∧ ¬ 2147483647 < kids[k] := by
                        simp [outB] at hl'
                        omega
                      clear CA CB CC EM HK hl hl'
                      generalize kids[k] = s at *
                      obtain ⟨hv1, hv2⟩ := hv
                      go_wp2
                      go_round
                      case rel => exact ⟨k + 1, by omega, by go_num, B.out, G.out, next⟩
                      case measure => simp [intOf]; omega
                  · obtain rfl : k = n3 := by omega
                    obtain rfl : R = 0 := by
                      rw [← ER.out]
                      refine chk_zero ?_
                      rw [EM.out]
                      have ha : kids.any outB = false := any_false (fun j hj => HK.out j hj (by have := N3.out; omega))
                      have := N1.out
                      have := N2.out
                      have := N3.out
                      exact rest_kids_ok (by omega) (by omega) (by omega) ha
                    clear CA CB CC ER EM HK PA PB PC
                    go_wp2
                    go_ret
                    exact ⟨rfl, G.out⟩
              · obtain rfl : R = 6 := by
                  rw [← ER.out]
                  refine chk_six ?_
                  rw [EM.out]
                  have := N1.out
                  have := N2.out
                  have := N3.out
                  exact rest_kids_bad (by omega)
                have t5 : ((n3 : Int) == (n1 : Int) + 1) = false := by simp; omega
                have t6 : ((n3 : Int) != (n1 : Int) + 1) = true := by simp; omega
                clear CA CB CC ER EM PA PB PC t3
                go_wp2
                go_ret
                exact ⟨rfl, G.out⟩
          · obtain rfl : R = 6 := by
              rw [← ER.out]
              refine chk_six ?_
              rw [EM.out]
              have := N1.out
              have := N2.out
              have := N3.out
              exact rest_kids_bad (by omega)
            clear CA CB CC ER EM PA PB PC
            go_wp2
            go_ret
            exact ⟨rfl, G.out⟩
end Go.Proofs.Ytomknaendicpkaa
