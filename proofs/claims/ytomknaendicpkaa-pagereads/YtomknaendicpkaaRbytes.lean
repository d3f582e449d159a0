/-
  The document's bytes of a page: those of the program.
-/
import Derived.Test.YtomknaendicpkaaEnc
namespace Go.Proofs.Ytomknaendicpkaa
open Go.RowKit
theorem mk_app (A : List UInt8) (t : ByteArray) : (⟨A.toArray⟩ : ByteArray) ++ t = ⟨(A ++ t.data.toList).toArray⟩ := by
  apply bytes_ext
  simp
theorem mk_size (A : List UInt8) : (⟨A.toArray⟩ : ByteArray).size = A.length := by
  rw [← bytes_len]
theorem tx_data (s : ByteArray) : (numS s.size 4 ++ s).data.toList = txL s := by
  unfold txL
  simp [numS]
set_option maxRecDepth 100000 in
set_option maxHeartbeats 4000000 in
theorem rbytes_any (v : Value) (p : Pg) (w : World) (h : PgV w v p) (hm : mayP p = true) : Calls Try.prog 13 #[v] w fun e w' => e = .returned (.string ⟨(encL p).toArray⟩) ∧ w.grownBy w' none := by
  obtain ⟨s1, s2, s3, s4, s5, s6⟩ := may_small hm
  obtain ⟨a, b, c, rfl, ha, hb, hc⟩ := h
  obtain ⟨pa, ca, ga, oa, rfl, pA, cA⟩ := ha
  obtain ⟨pb, cb, gb, ob, rfl, pB, cB⟩ := hb
  obtain ⟨pc, cc, gc, oc, rfl, pC, cC⟩ := hc
  obtain ⟨leaf, keys, vals, kids⟩ := p
  simp only at *
  have PA : Hid (0 < keys.length → pa = some ⟨ga, oa, none⟩) := pA
  have PB : Hid (0 < vals.length → pb = some ⟨gb, ob, none⟩) := pB
  have PC : Hid (0 < kids.length → pc = some ⟨gc, oc, none⟩) := pC
  have CA : Hid (∀ i, (h : i < keys.length) → w.cell? ⟨ga, oa + i, none⟩ = some (.string keys[i])) := cA
  have CB : Hid (∀ i, (h : i < vals.length) → w.cell? ⟨gb, ob + i, none⟩ = some (.string vals[i])) := cB
  have CC : Hid (∀ i, (h : i < kids.length) → w.cell? ⟨gc, oc + i, none⟩ = some (.int .i64 kids[i])) := cC
  have S4 := hid s4
  have S5 := hid s5
  have S6 := hid s6
  clear pA pB pC cA cB cC s4 s5 s6 hm
  have TL : Hid (∀ k, (txs (keys.take k)).length ≤ 8 * 68) := fun k => by
    have := txs_len 64 (keys.take k) (take_mem S4.out)
    have h2 : (keys.take k).length ≤ 8 := by rw [List.length_take]; omega
    exact Nat.le_trans this (Nat.mul_le_mul_right _ h2)
  have TV : Hid (∀ k, (txs (vals.take k)).length ≤ 8 * 8196) := fun k => by
    have := txs_len 8192 (vals.take k) (take_mem S5.out)
    have h2 : (vals.take k).length ≤ 8 := by rw [List.length_take]; omega
    exact Nat.le_trans this (Nat.mul_le_mul_right _ h2)
  have TK : Hid (∀ k, (nus (kids.take k)).length ≤ 9 * 4) := fun k => by
    have := nus_len (kids.take k)
    have h2 : (kids.take k).length ≤ 9 := by rw [List.length_take]; omega
    rw [this]; omega
  obtain ⟨n1, hn1⟩ : ∃ n, keys.length = n := ⟨_, rfl⟩
  obtain ⟨n2, hn2⟩ : ∃ n, vals.length = n := ⟨_, rfl⟩
  obtain ⟨n3, hn3⟩ : ∃ n, kids.length = n := ⟨_, rfl⟩
  obtain ⟨F, hF⟩ : ∃ F, F = encL ⟨leaf, keys, vals, kids⟩ := ⟨_, rfl⟩
  rw [← hF]
  have EF := hid hF
  rw [hn1, hn2, hn3]
  rw [hn1] at s1
  rw [hn2] at s2
  rw [hn3] at s3
  have N1 := hid hn1
  have N2 := hid hn2
  have N3 := hid hn3
  clear hF hn1 hn2 hn3
  have z1 : (n1 : Int) ≤ 8 := by omega
  have z2 : (n2 : Int) ≤ 8 := by omega
  have z3 : (n3 : Int) ≤ 9 := by omega
  have z4 : IntKind.u64.wrap (n1 : Int) = n1 := by simp [IntKind.wrap, IntKind.bits, IntKind.signed]; omega
  obtain ⟨o0, ho0⟩ : ∃ o, o = numL (if leaf then 1 else 0) 1 := ⟨_, rfl⟩
  have O0 : Hid (o0 = numL (if leaf then 1 else 0) 1) := ho0
  have L0 : o0.length = 1 := by rw [ho0, numL_len]
  obtain ⟨o1, ho1⟩ : ∃ o, o = o0 ++ numL n1 (asked 1) := ⟨_, rfl⟩
  have O1 : Hid (o1 = o0 ++ numL n1 (asked 1)) := ho1
  have L1 : o1.length = 2 := by rw [ho1, List.length_append, L0, numL_len]; rfl
  clear ho0 ho1
  have C0 : Hid (∀ W, Calls Try.prog 30 #[.int .u64 n1, .int .i64 1] W fun e w' => e = .returned (.string (numS n1 (asked 1))) ∧ W.grownBy w' none) := fun W => refNumber_any n1 1 W (by omega)
  have z5 : (numS n1 (asked 1)).size = 1 := numS_size _ _
  have Z0 : Hid (∀ t : ByteArray, t.data.toList = o0 → t ++ numS n1 (asked 1) = ⟨o1.toArray⟩) := fun t ht => by
    rw [O1.out]
    apply bytes_ext
    rw [← ht]
    simp [numS]
  have BX : Hid (Blk (w.alloc (.cells #[.bool leaf, .slice pa n1 ca, .slice pb n2 cb, .slice pc n3 cc] 30)) w.heap.size 30 #[.bool leaf, .slice pa n1 ca, .slice pb n2 cb, .slice pc n3 cc]) := Blk.new w 30 _
  obtain ⟨X1, hX1⟩ : ∃ X : ByteArray, X = ⟨o1.toArray⟩ := ⟨_, rfl⟩
  rw [← hX1] at Z0
  have HX1 := hid hX1
  clear hX1
  have Z1 : Hid (leaf = true → (⟨#[1]⟩ : ByteArray) ++ numS n1 (asked 1) = X1) := fun e => Z0.out _ (by rw [O0.out, e]; rfl)
  have Z2 : Hid (leaf = false → (⟨#[0]⟩ : ByteArray) ++ numS n1 (asked 1) = X1) := fun e => Z0.out _ (by rw [O0.out, e]; rfl)
  clear Z0
  generalize numS n1 (asked 1) = NS at *
  cases leaf
  · have Z3 := Z2.out rfl
    clear Z1 Z2
    go_enter Try.func13, Try.ntmps13
    go_wp2_with (go_at_call 30; refine (C0.out _).mono ?_; rintro e w1 ⟨rfl, hg⟩; have B1 := hid (BX.out.kept hg (by simp)); have G1 : Hid (w.grownBy w1 none) := grown_none (grown_alloc (grown_refl _ _) _) hg; clear hg BX C0)
    try rw [Z3]
    clear Z3
    go_loopw [3, 4] (fun sv i wr => ∃ k : Nat, k ≤ n1 ∧ i = .int .i64 k ∧ sv = .string ⟨(o1 ++ txs (keys.take k)).toArray⟩ ∧ Blk wr w.heap.size 30 #[.bool false, .slice pa n1 ca, .slice pb n2 cb, .slice pc n3 cc] ∧ w.grownBy wr none) (fun _ i _ => n1 - (intOf i).toNat)
    case atStart => exact ⟨0, Nat.zero_le _, rfl, by rw [HX1.out]; simp [txs], B1.out, G1.out⟩
    case round =>
      obtain ⟨k, hk, rfl, rfl, hb, hg⟩ := hrel
      have B := hid hb
      have G := hid hg
      have q1 := hb.cell 1
      simp at q1
      clear hb hg B1 G1
      have k0 : (0 : Int) ≤ k := by omega
      by_cases hln : k < n1
      · have hlt : k < keys.length := by rw [N1.out]; exact hln
        have hp := PA.out (by omega)
        subst hp
        have c0 := cell_kept G.out (CA.out k hlt)
        have k1 : (k : Int) < n1 := by omega
        have ll : (⟨(o1 ++ txs (keys.take k)).toArray⟩ : ByteArray).size ≤ 600 := by
          have := TL.out k
          rw [mk_size, List.length_append]
          omega
        have sz := S4.out keys[k] (List.getElem_mem hlt)
        have CT : Hid (∀ W, Calls Try.prog 31 #[.string keys[k]] W fun e w' => e = .returned (.string (numS keys[k].size 4 ++ keys[k])) ∧ W.grownBy w' none) := fun W => refText_any keys[k] W (by omega)
        have ST : Hid ((⟨(o1 ++ txs (keys.take (k + 1))).toArray⟩ : ByteArray) = ⟨(o1 ++ txs (keys.take k)).toArray⟩ ++ (numS keys[k].size 4 ++ keys[k])) := hid (by rw [mk_app, tx_data, txs_step keys k hlt]; simp only [List.append_assoc])
        have tz : (numS keys[k].size 4 ++ keys[k]).size ≤ 10000 := by rw [ByteArray.size_append, numS_size]; omega
        clear CA CB CC TL TV TK PA PB PC S4 S5 S6
        generalize keys[k] = s at *
        generalize numS s.size 4 ++ s = Y at *
        generalize (⟨(o1 ++ txs (keys.take k)).toArray⟩ : ByteArray) = O at *
        go_wp2_with (go_at_call 31; refine (CT.out _).mono ?_; rintro e w5 ⟨rfl, hg⟩; have B5 := hid (B.out.kept hg (by simp)); have G5 := hid (grown_none G.out hg); clear hg CT)
        go_round
        case rel => exact ⟨k + 1, by omega, by go_num, by rw [ST.out], B5.out, G5.out⟩
        case measure => simp [intOf]; omega
      · obtain rfl : n1 = k := by omega
        have eT : keys.take n1 = keys := by rw [← N1.out, List.take_length]
        rw [eT]
        have lp := TL.out n1
        rw [eT] at lp
        clear eT
        have lr : (o1 ++ txs keys).length ≤ 600 := by rw [List.length_append]; omega
        go_wp2
        go_loopw [3, 5] (fun sv i wr => ∃ k : Nat, k ≤ n2 ∧ i = .int .i64 k ∧ sv = .string ⟨((o1 ++ txs keys) ++ txs (vals.take k)).toArray⟩ ∧ Blk wr w.heap.size 30 #[.bool false, .slice pa n1 ca, .slice pb n2 cb, .slice pc n3 cc] ∧ w.grownBy wr none) (fun _ i _ => n2 - (intOf i).toNat)
        case atStart => exact ⟨0, Nat.zero_le _, rfl, by simp [txs], B.out, G.out⟩
        case round =>
          obtain ⟨k, hk, rfl, rfl, hb, hg⟩ := hrel
          have B := hid hb
          have G := hid hg
          have q1 := hb.cell 2
          simp at q1
          clear hb hg 
          have k0 : (0 : Int) ≤ k := by omega
          by_cases hln : k < n2
          · have hlt : k < vals.length := by rw [N2.out]; exact hln
            have hp := PB.out (by omega)
            subst hp
            have c0 := cell_kept G.out (CB.out k hlt)
            have k1 : (k : Int) < n2 := by omega
            have ll : (⟨((o1 ++ txs keys) ++ txs (vals.take k)).toArray⟩ : ByteArray).size ≤ 70000 := by
              have := TV.out k
              rw [mk_size, List.length_append]
              omega
            have sz := S5.out vals[k] (List.getElem_mem hlt)
            have CT : Hid (∀ W, Calls Try.prog 31 #[.string vals[k]] W fun e w' => e = .returned (.string (numS vals[k].size 4 ++ vals[k])) ∧ W.grownBy w' none) := fun W => refText_any vals[k] W (by omega)
            have ST : Hid ((⟨((o1 ++ txs keys) ++ txs (vals.take (k + 1))).toArray⟩ : ByteArray) = ⟨((o1 ++ txs keys) ++ txs (vals.take k)).toArray⟩ ++ (numS vals[k].size 4 ++ vals[k])) := hid (by rw [mk_app, tx_data, txs_step vals k hlt]; simp only [List.append_assoc])
            have tz : (numS vals[k].size 4 ++ vals[k]).size ≤ 10000 := by rw [ByteArray.size_append, numS_size]; omega
            clear CA CB CC TL TV TK PA PB PC S4 S5 S6
            generalize vals[k] = s at *
            generalize numS s.size 4 ++ s = Y at *
            generalize (⟨((o1 ++ txs keys) ++ txs (vals.take k)).toArray⟩ : ByteArray) = O at *
            go_wp2_with (go_at_call 31; refine (CT.out _).mono ?_; rintro e w5 ⟨rfl, hg⟩; have B5 := hid (B.out.kept hg (by simp)); have G5 := hid (grown_none G.out hg); clear hg CT)
            go_round
            case rel => exact ⟨k + 1, by omega, by go_num, by rw [ST.out], B5.out, G5.out⟩
            case measure => simp [intOf]; omega
          · obtain rfl : n2 = k := by omega
            have eT : vals.take n2 = vals := by rw [← N2.out, List.take_length]
            rw [eT]
            have lp := TV.out n2
            rw [eT] at lp
            clear eT
            have lq : (o1 ++ txs keys ++ txs vals).length ≤ 70000 := by rw [List.length_append]; omega
            go_wp2
            go_loopw [3, 6] (fun sv i wr => ∃ k : Nat, k ≤ n3 ∧ i = .int .i64 k ∧ sv = .string ⟨((o1 ++ txs keys ++ txs vals) ++ nus (kids.take k)).toArray⟩ ∧ Blk wr w.heap.size 30 #[.bool false, .slice pa n1 ca, .slice pb n2 cb, .slice pc n3 cc] ∧ w.grownBy wr none) (fun _ i _ => n3 - (intOf i).toNat)
            case atStart => exact ⟨0, Nat.zero_le _, rfl, by simp [nus], B.out, G.out⟩
            case round =>
              obtain ⟨k, hk, rfl, rfl, hb, hg⟩ := hrel
              have B := hid hb
              have G := hid hg
              have q1 := hb.cell 3
              simp at q1
              clear hb hg 
              have k0 : (0 : Int) ≤ k := by omega
              by_cases hln : k < n3
              · have hlt : k < kids.length := by rw [N3.out]; exact hln
                have hp := PC.out (by omega)
                subst hp
                have c0 := cell_kept G.out (CC.out k hlt)
                have k1 : (k : Int) < n3 := by omega
                have ll : (⟨((o1 ++ txs keys ++ txs vals) ++ nus (kids.take k)).toArray⟩ : ByteArray).size ≤ 70100 := by
                  have := TK.out k
                  rw [mk_size, List.length_append]
                  omega
                have sz := S6.out kids[k] (List.getElem_mem hlt)
                obtain ⟨m, hm⟩ : ∃ m : Nat, kids[k] = (m : Int) := ⟨kids[k].toNat, by omega⟩
                have CT : Hid (∀ W, Calls Try.prog 30 #[.int .u64 m, .int .i64 4] W fun e w' => e = .returned (.string (numS m (asked 4))) ∧ W.grownBy w' none) := fun W => refNumber_any m 4 W (by omega)
                have ST : Hid ((⟨((o1 ++ txs keys ++ txs vals) ++ nus (kids.take (k + 1))).toArray⟩ : ByteArray) = ⟨((o1 ++ txs keys ++ txs vals) ++ nus (kids.take k)).toArray⟩ ++ numS m (asked 4)) := hid (by rw [mk_app, nus_step kids k hlt, hm]; simp only [List.append_assoc]; rfl)
                have tz : (numS m (asked 4)).size ≤ 10000 := by rw [numS_size]; decide
                rw [hm] at c0
                have mw : IntKind.u64.wrap (m : Int) = m := by rw [hm] at sz; simp [IntKind.wrap, IntKind.bits, IntKind.signed]; omega
                clear hm sz
                clear CA CB CC TL TV TK PA PB PC S4 S5 S6
                skip
                generalize numS m (asked 4) = Y at *
                generalize (⟨((o1 ++ txs keys ++ txs vals) ++ nus (kids.take k)).toArray⟩ : ByteArray) = O at *
                go_wp2_with (go_at_call 30; refine (CT.out _).mono ?_; rintro e w5 ⟨rfl, hg⟩; have B5 := hid (B.out.kept hg (by simp)); have G5 := hid (grown_none G.out hg); clear hg CT)
                go_round
                case rel => exact ⟨k + 1, by omega, by go_num, by rw [ST.out], B5.out, G5.out⟩
                case measure => simp [intOf]; omega
              · obtain rfl : n3 = k := by omega
                have eT : kids.take n3 = kids := by rw [← N3.out, List.take_length]
                rw [eT]
                have lp := TK.out n3
                rw [eT] at lp
                clear eT
                have WF : Hid (o1 ++ txs keys ++ txs vals ++ nus kids = F) := hid (by rw [EF.out, O1.out, O0.out, ← N1.out]; rfl)
                rw [WF.out]
                clear CA CB CC TL TV TK PA PB PC S4 S5 S6 WF EF O0 O1
                go_wp2
                go_ret
                exact ⟨rfl, G.out⟩

  · have Z3 := Z1.out rfl
    clear Z1 Z2
    go_enter Try.func13, Try.ntmps13
    go_wp2_with (go_at_call 30; refine (C0.out _).mono ?_; rintro e w1 ⟨rfl, hg⟩; have B1 := hid (BX.out.kept hg (by simp)); have G1 : Hid (w.grownBy w1 none) := grown_none (grown_alloc (grown_refl _ _) _) hg; clear hg BX C0)
    try rw [Z3]
    clear Z3
    go_loopw [3, 4] (fun sv i wr => ∃ k : Nat, k ≤ n1 ∧ i = .int .i64 k ∧ sv = .string ⟨(o1 ++ txs (keys.take k)).toArray⟩ ∧ Blk wr w.heap.size 30 #[.bool true, .slice pa n1 ca, .slice pb n2 cb, .slice pc n3 cc] ∧ w.grownBy wr none) (fun _ i _ => n1 - (intOf i).toNat)
    case atStart => exact ⟨0, Nat.zero_le _, rfl, by rw [HX1.out]; simp [txs], B1.out, G1.out⟩
    case round =>
      obtain ⟨k, hk, rfl, rfl, hb, hg⟩ := hrel
      have B := hid hb
      have G := hid hg
      have q1 := hb.cell 1
      simp at q1
      clear hb hg B1 G1
      have k0 : (0 : Int) ≤ k := by omega
      by_cases hln : k < n1
      · have hlt : k < keys.length := by rw [N1.out]; exact hln
        have hp := PA.out (by omega)
        subst hp
        have c0 := cell_kept G.out (CA.out k hlt)
        have k1 : (k : Int) < n1 := by omega
        have ll : (⟨(o1 ++ txs (keys.take k)).toArray⟩ : ByteArray).size ≤ 600 := by
          have := TL.out k
          rw [mk_size, List.length_append]
          omega
        have sz := S4.out keys[k] (List.getElem_mem hlt)
        have CT : Hid (∀ W, Calls Try.prog 31 #[.string keys[k]] W fun e w' => e = .returned (.string (numS keys[k].size 4 ++ keys[k])) ∧ W.grownBy w' none) := fun W => refText_any keys[k] W (by omega)
        have ST : Hid ((⟨(o1 ++ txs (keys.take (k + 1))).toArray⟩ : ByteArray) = ⟨(o1 ++ txs (keys.take k)).toArray⟩ ++ (numS keys[k].size 4 ++ keys[k])) := hid (by rw [mk_app, tx_data, txs_step keys k hlt]; simp only [List.append_assoc])
        have tz : (numS keys[k].size 4 ++ keys[k]).size ≤ 10000 := by rw [ByteArray.size_append, numS_size]; omega
        clear CA CB CC TL TV TK PA PB PC S4 S5 S6
        generalize keys[k] = s at *
        generalize numS s.size 4 ++ s = Y at *
        generalize (⟨(o1 ++ txs (keys.take k)).toArray⟩ : ByteArray) = O at *
        go_wp2_with (go_at_call 31; refine (CT.out _).mono ?_; rintro e w5 ⟨rfl, hg⟩; have B5 := hid (B.out.kept hg (by simp)); have G5 := hid (grown_none G.out hg); clear hg CT)
        go_round
        case rel => exact ⟨k + 1, by omega, by go_num, by rw [ST.out], B5.out, G5.out⟩
        case measure => simp [intOf]; omega
      · obtain rfl : n1 = k := by omega
        have eT : keys.take n1 = keys := by rw [← N1.out, List.take_length]
        rw [eT]
        have lp := TL.out n1
        rw [eT] at lp
        clear eT
        have lr : (o1 ++ txs keys).length ≤ 600 := by rw [List.length_append]; omega
        go_wp2
        go_loopw [3, 5] (fun sv i wr => ∃ k : Nat, k ≤ n2 ∧ i = .int .i64 k ∧ sv = .string ⟨((o1 ++ txs keys) ++ txs (vals.take k)).toArray⟩ ∧ Blk wr w.heap.size 30 #[.bool true, .slice pa n1 ca, .slice pb n2 cb, .slice pc n3 cc] ∧ w.grownBy wr none) (fun _ i _ => n2 - (intOf i).toNat)
        case atStart => exact ⟨0, Nat.zero_le _, rfl, by simp [txs], B.out, G.out⟩
        case round =>
          obtain ⟨k, hk, rfl, rfl, hb, hg⟩ := hrel
          have B := hid hb
          have G := hid hg
          have q1 := hb.cell 2
          simp at q1
          clear hb hg 
          have k0 : (0 : Int) ≤ k := by omega
          by_cases hln : k < n2
          · have hlt : k < vals.length := by rw [N2.out]; exact hln
            have hp := PB.out (by omega)
            subst hp
            have c0 := cell_kept G.out (CB.out k hlt)
            have k1 : (k : Int) < n2 := by omega
            have ll : (⟨((o1 ++ txs keys) ++ txs (vals.take k)).toArray⟩ : ByteArray).size ≤ 70000 := by
              have := TV.out k
              rw [mk_size, List.length_append]
              omega
            have sz := S5.out vals[k] (List.getElem_mem hlt)
            have CT : Hid (∀ W, Calls Try.prog 31 #[.string vals[k]] W fun e w' => e = .returned (.string (numS vals[k].size 4 ++ vals[k])) ∧ W.grownBy w' none) := fun W => refText_any vals[k] W (by omega)
            have ST : Hid ((⟨((o1 ++ txs keys) ++ txs (vals.take (k + 1))).toArray⟩ : ByteArray) = ⟨((o1 ++ txs keys) ++ txs (vals.take k)).toArray⟩ ++ (numS vals[k].size 4 ++ vals[k])) := hid (by rw [mk_app, tx_data, txs_step vals k hlt]; simp only [List.append_assoc])
            have tz : (numS vals[k].size 4 ++ vals[k]).size ≤ 10000 := by rw [ByteArray.size_append, numS_size]; omega
            clear CA CB CC TL TV TK PA PB PC S4 S5 S6
            generalize vals[k] = s at *
            generalize numS s.size 4 ++ s = Y at *
            generalize (⟨((o1 ++ txs keys) ++ txs (vals.take k)).toArray⟩ : ByteArray) = O at *
            go_wp2_with (go_at_call 31; refine (CT.out _).mono ?_; rintro e w5 ⟨rfl, hg⟩; have B5 := hid (B.out.kept hg (by simp)); have G5 := hid (grown_none G.out hg); clear hg CT)
            go_round
            case rel => exact ⟨k + 1, by omega, by go_num, by rw [ST.out], B5.out, G5.out⟩
            case measure => simp [intOf]; omega
          · obtain rfl : n2 = k := by omega
            have eT : vals.take n2 = vals := by rw [← N2.out, List.take_length]
            rw [eT]
            have lp := TV.out n2
            rw [eT] at lp
            clear eT
            have lq : (o1 ++ txs keys ++ txs vals).length ≤ 70000 := by rw [List.length_append]; omega
            go_wp2
            go_loopw [3, 6] (fun sv i wr => ∃ k : Nat, k ≤ n3 ∧ i = .int .i64 k ∧ sv = .string ⟨((o1 ++ txs keys ++ txs vals) ++ nus (kids.take k)).toArray⟩ ∧ Blk wr w.heap.size 30 #[.bool true, .slice pa n1 ca, .slice pb n2 cb, .slice pc n3 cc] ∧ w.grownBy wr none) (fun _ i _ => n3 - (intOf i).toNat)
            case atStart => exact ⟨0, Nat.zero_le _, rfl, by simp [nus], B.out, G.out⟩
            case round =>
              obtain ⟨k, hk, rfl, rfl, hb, hg⟩ := hrel
              have B := hid hb
              have G := hid hg
              have q1 := hb.cell 3
              simp at q1
              clear hb hg 
              have k0 : (0 : Int) ≤ k := by omega
              by_cases hln : k < n3
              · have hlt : k < kids.length := by rw [N3.out]; exact hln
                have hp := PC.out (by omega)
                subst hp
                have c0 := cell_kept G.out (CC.out k hlt)
                have k1 : (k : Int) < n3 := by omega
                have ll : (⟨((o1 ++ txs keys ++ txs vals) ++ nus (kids.take k)).toArray⟩ : ByteArray).size ≤ 70100 := by
                  have := TK.out k
                  rw [mk_size, List.length_append]
                  omega
                have sz := S6.out kids[k] (List.getElem_mem hlt)
                obtain ⟨m, hm⟩ : ∃ m : Nat, kids[k] = (m : Int) := ⟨kids[k].toNat, by omega⟩
                have CT : Hid (∀ W, Calls Try.prog 30 #[.int .u64 m, .int .i64 4] W fun e w' => e = .returned (.string (numS m (asked 4))) ∧ W.grownBy w' none) := fun W => refNumber_any m 4 W (by omega)
                have ST : Hid ((⟨((o1 ++ txs keys ++ txs vals) ++ nus (kids.take (k + 1))).toArray⟩ : ByteArray) = ⟨((o1 ++ txs keys ++ txs vals) ++ nus (kids.take k)).toArray⟩ ++ numS m (asked 4)) := hid (by rw [mk_app, nus_step kids k hlt, hm]; simp only [List.append_assoc]; rfl)
                have tz : (numS m (asked 4)).size ≤ 10000 := by rw [numS_size]; decide
                rw [hm] at c0
                have mw : IntKind.u64.wrap (m : Int) = m := by rw [hm] at sz; simp [IntKind.wrap, IntKind.bits, IntKind.signed]; omega
                clear hm sz
                clear CA CB CC TL TV TK PA PB PC S4 S5 S6
                skip
                generalize numS m (asked 4) = Y at *
                generalize (⟨((o1 ++ txs keys ++ txs vals) ++ nus (kids.take k)).toArray⟩ : ByteArray) = O at *
                go_wp2_with (go_at_call 30; refine (CT.out _).mono ?_; rintro e w5 ⟨rfl, hg⟩; have B5 := hid (B.out.kept hg (by simp)); have G5 := hid (grown_none G.out hg); clear hg CT)
                go_round
                case rel => exact ⟨k + 1, by omega, by go_num, by rw [ST.out], B5.out, G5.out⟩
                case measure => simp [intOf]; omega
              · obtain rfl : n3 = k := by omega
                have eT : kids.take n3 = kids := by rw [← N3.out, List.take_length]
                rw [eT]
                have lp := TK.out n3
                rw [eT] at lp
                clear eT
                have WF : Hid (o1 ++ txs keys ++ txs vals ++ nus kids = F) := hid (by rw [EF.out, O1.out, O0.out, ← N1.out]; rfl)
                rw [WF.out]
                clear CA CB CC TL TV TK PA PB PC S4 S5 S6 WF EF O0 O1
                go_wp2
                go_ret
                exact ⟨rfl, G.out⟩

end Go.Proofs.Ytomknaendicpkaa
