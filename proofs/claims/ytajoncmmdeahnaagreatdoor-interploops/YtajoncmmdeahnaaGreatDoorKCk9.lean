/-
  The checker: what a call answers. The checker: the type of an expression whose kids' types are found. The checker over trees that are written in place: what a call may turn; rows, node by node. The checker over trees that are written in place: a row of expressions. The checker over trees: expressions, a row of them. The checker over trees: the node that a method looks at, in memory.
-/
import Derived.Test.YtajoncmmdeahnaaGreatDoorKCk3
import Derived.Test.YtajoncmmdeahnaaGreatDoorKCb
namespace Go.Proofs.YtajoncmmdeahnaaGreatDoor
open Go.RowKit
namespace Ck
theorem zero103 (w : World) : (zeroValue 103).run Tryz.prog w = .ok (.agg #[.slice none 0 0, .int .i64 0]) w := by kernel_rfl
set_option maxRecDepth 100000 in
set_option maxHeartbeats 2000000 in
theorem call_none (n : Nd) (p : Option Addr) (c : Nat) {X : Xc} {F : Fn} {st : Cs} (w : World) (hC : CkA w X F st) (hs : n.txt.size ≤ 1000000) (hF : F n.txt = none) :
    Calls Tryz.prog 213 #[.pointer (some ⟨X.c, 0, none⟩), .agg #[.int .i64 n.kind, .int .i64 n.ty, .string n.txt, .int .i64 n.num, .slice p n.kids.length c]] w (AnP false 121 0 w) := by
  obtain ⟨pv, hR⟩ := hC
  have HB := hid (grown_drew (grown_alloc (grown_refl w none) (.cells #[.int .i64 n.kind, .int .i64 n.ty, .string n.txt, .int .i64 n.num, .slice p n.kids.length c] 27)))
  have HB2 := hid (grown_drew (grown_alloc (grown_alloc (grown_refl w none) (.cells #[.int .i64 n.kind, .int .i64 n.ty, .string n.txt, .int .i64 n.num, .slice p n.kids.length c] 27)) (.cells #[.slice none 0 0, .int .i64 0] 103)))
  obtain ⟨m, f, hm, hf⟩ := hR.fns
  have h0 := hf n.txt
  rw [hF] at h0
  have L1 := (hm.kept HB.out (by simp)).look Tryz.underlying98 (zero103 _) n.txt (Nat.le_trans hs maxLen_ge)
  have L2 := (hm.kept HB2.out (by simp)).look Tryz.underlying98 (zero103 _) n.txt (Nat.le_trans hs maxLen_ge)
  simp only at h0
  rw [h0] at L1 L2
  simp only [Option.getD_none, Option.isSome_none] at L1 L2
  have c0 := (hR.kept HB.out).blk.cell 0
  have c1 := (hR.kept HB2.out).blk.cell 0
  simp at c0 c1
  have C97 : Hid (∀ W, Calls Tryz.prog 97 #[.int .i64 (121 : Nat)] W fun e w' => e = .panicked (RjV 121) ∧ w' = W) := fun W => reject_any 121 W
  have hcl := hR.blk.lt
  have hne : X.c ≠ w.heap.size := by omega
  have hne2 : X.c ≠ w.heap.size + 1 := by omega
  clear hR hm hf hF hs h0
  go_enter Tryz.func213, Tryz.ntmps213
  go_wp2_with fail
  go_region_law (fail)
  all_goals
    go_wp2_with (go_at_call 97; refine (C97.out _).mono ?_; rintro e w9 ⟨rfl, hw⟩; replace hw := hw.symm; subst hw; clear C97)
    exact ⟨rfl, rfl, HB2.out⟩
def mtB : List Int → List Nd → Bool
  | p :: ps, x :: xs => x.ty == p && mtB ps xs
  | _, _ => true
theorem callL_eq (a : Int) (st : Cs) : ∀ (ps : List Int) (ks : List Nd), (callL ps ks >>= fun _ => (pure a : Ck Int)) st = if mtB ps ks = true then .ok (a, st) else .error (some 122)
  | [], _ => rfl
  | _ :: _, [] => rfl
  | p :: ps, x :: xs => by
    have ih := callL_eq a st ps xs
    unfold callL mtB
    cases h : (x.ty == p) with
    | true =>
      rw [Bool.true_and]
      exact ih
    | false => rfl
theorem mtB_step (ps : List Int) (ks : List Nd) (j : Nat) (h1 : j < ps.length) (h2 : j < ks.length) : mtB (ps.drop j) (ks.drop j) = ((ks[j]).ty == ps[j] && mtB (ps.drop (j + 1)) (ks.drop (j + 1))) := by
  rw [List.drop_eq_getElem_cons h1, List.drop_eq_getElem_cons h2]
  rfl
theorem mtB_end (ps : List Int) (ks : List Nd) (j : Nat) (h : ps.length ≤ j) : mtB (ps.drop j) (ks.drop j) = true := by
  rw [List.drop_eq_nil_of_le h]
  rfl
theorem int_cell {w : World} {base : Nat} {pa : Option Addr} {ps : List Int} (h : IntR w base pa ps) (j : Nat) (hj : j < ps.length) : ∃ g, pa = some ⟨g, 0, none⟩ ∧ w.cell? ⟨g, j, none⟩ = some (.int .i64 ps[j]) := by
  rcases h with h | ⟨g, cs, h1, _, h3, h4⟩
  · rw [h] at hj
    cases hj
  · refine ⟨g, h1, ?_⟩
    rw [h3.cell]
    exact h4 j _ (List.getElem?_eq_getElem hj)
set_option maxRecDepth 100000 in
set_option maxHeartbeats 4000000 in
theorem call_some (n : Nd) (p : Option Addr) (c : Nat) (P : Nat → Prop) {X : Xc} {F : Fn} {st : Cs} (w : World) (hC : CkA w X F st) (hk : KsV w P (.slice p n.kids.length c) n.kids) (hs : n.txt.size ≤ 1000000) (ps : List Int) (a : Int) (hF : F n.txt = some (ps, a)) :
    Calls Tryz.prog 213 #[.pointer (some ⟨X.c, 0, none⟩), .agg #[.int .i64 n.kind, .int .i64 n.ty, .string n.txt, .int .i64 n.num, .slice p n.kids.length c]] w (AnP (decide (n.kids.length = ps.length) && mtB ps n.kids) (if n.kids.length = ps.length then 122 else 123) a w) := by
  obtain ⟨pv, hR⟩ := hC
  have HB := hid (grown_drew (grown_alloc (grown_refl w none) (.cells #[.int .i64 n.kind, .int .i64 n.ty, .string n.txt, .int .i64 n.num, .slice p n.kids.length c] 27)))
  have HB2 := hid (grown_drew (grown_alloc (grown_alloc (grown_refl w none) (.cells #[.int .i64 n.kind, .int .i64 n.ty, .string n.txt, .int .i64 n.num, .slice p n.kids.length c] 27)) (.cells #[.slice none 0 0, .int .i64 0] 103)))
  obtain ⟨m, f, hm, hf⟩ := hR.fns
  have h0 := hf n.txt
  rw [hF] at h0
  obtain ⟨pa, cap, e0, q1, q2, q3⟩ := h0
  have HB3 := hid (grown_drew (grown_alloc (grown_alloc (grown_refl w none) (.cells #[.int .i64 n.kind, .int .i64 n.ty, .string n.txt, .int .i64 n.num, .slice p n.kids.length c] 27)) (.cells #[.slice pa ps.length cap, .int .i64 a] 103)))
  have L1 := (hm.kept HB.out (by simp)).look Tryz.underlying98 (zero103 _) n.txt (Nat.le_trans hs maxLen_ge)
  have L2 := (hm.kept HB2.out (by simp)).look Tryz.underlying98 (zero103 _) n.txt (Nat.le_trans hs maxLen_ge)
  rw [e0] at L1 L2
  simp only [Option.getD_some, Option.isSome_some] at L1 L2
  have c0 := (hR.kept HB.out).blk.cell 0
  have c1 := (hR.kept HB2.out).blk.cell 0
  simp at c0 c1
  have C97 : Hid (∀ W, Calls Tryz.prog 97 #[.int .i64 (123 : Nat)] W fun e w' => e = .panicked (RjV 123) ∧ w' = W) := fun W => reject_any 123 W
  have C245 : Hid (∀ W (x : Bool), Calls Tryz.prog 245 #[.bool x] W fun e w' => (if x = true then e = .returned (.tuple #[]) else e = .panicked (RjV 122)) ∧ w' = W) := fun W x => need_any x W
  have hcl := hR.blk.lt
  have hne : X.c ≠ w.heap.size := by omega
  have hne2 : X.c ≠ w.heap.size + 1 := by omega
  have QI : Hid (IntR (((w.alloc (.cells #[.int .i64 n.kind, .int .i64 n.ty, .string n.txt, .int .i64 n.num, .slice p n.kids.length c] 27)).alloc (.cells #[.slice pa ps.length cap, .int .i64 a] 103)).drew) X.base pa ps) := hid (q3.kept (fun g cs _ hB => hB.kept HB3.out (by simp)))
  have QK := hid (hk.kept HB3.out)
  have B0 : Hid (Blk (((w.alloc (.cells #[.int .i64 n.kind, .int .i64 n.ty, .string n.txt, .int .i64 n.num, .slice p n.kids.length c] 27)).alloc (.cells #[.slice pa ps.length cap, .int .i64 a] 103)).drew) w.heap.size 27 #[.int .i64 n.kind, .int .i64 n.ty, .string n.txt, .int .i64 n.num, .slice p n.kids.length c]) := hid (((Blk.new w 27 _).alloc _).drew)
  have B1 : Hid (Blk (((w.alloc (.cells #[.int .i64 n.kind, .int .i64 n.ty, .string n.txt, .int .i64 n.num, .slice p n.kids.length c] 27)).alloc (.cells #[.slice pa ps.length cap, .int .i64 a] 103)).drew) (w.heap.size + 1) 103 #[.slice pa ps.length cap, .int .i64 a]) := by
    have h := (Blk.new (w.alloc (.cells #[.int .i64 n.kind, .int .i64 n.ty, .string n.txt, .int .i64 n.num, .slice p n.kids.length c] 27)) 103 #[.slice pa ps.length cap, .int .i64 a]).drew
    rw [World.size_alloc] at h
    exact hid h
  have QL := hid (Nat.le_trans q1 q2)
  clear hR hm hf hF hs e0 q1 q2 q3 hk
  cases hc : decide (n.kids.length = ps.length) with
  | false =>
    have hc2 := of_decide_eq_false hc
    rw [Bool.false_and, if_neg hc2]
    have e1 : ((n.kids.length : Int) != (ps.length : Int)) = true := by simp only [bne_iff_ne]; omega
    clear hc hc2 C245
    go_enter Tryz.func213, Tryz.ntmps213
    go_wp2_with fail
    go_region_law (fail)
    all_goals
      go_wp2_with (go_at_call 97; refine (C97.out _).mono ?_; rintro e w9 ⟨rfl, hw⟩; replace hw := hw.symm; subst hw; clear C97)
      exact ⟨rfl, rfl, HB3.out⟩
  | true =>
    have hc2 := of_decide_eq_true hc
    rw [Bool.true_and, if_pos hc2]
    have e1 : ((n.kids.length : Int) != (ps.length : Int)) = false := by rw [hc2]; simp
    have HE := hid (And.intro hc2 trivial)
    clear hc hc2 C97
    obtain ⟨R, hR⟩ : ∃ R, mtB ps n.kids = R := ⟨_, rfl⟩
    have HR : Hid (mtB (ps.drop 0) (n.kids.drop 0) = R ∧ True) := hid ⟨by rw [List.drop_zero, List.drop_zero]; exact hR, trivial⟩
    rw [hR]
    clear hR
    go_enter Tryz.func213, Tryz.ntmps213
    go_wp2_with fail
    go_region_law (fail)
    all_goals
      go_wp2_with fail
      generalize (((w.alloc (.cells #[.int .i64 n.kind, .int .i64 n.ty, .string n.txt, .int .i64 n.num, .slice p n.kids.length c] 27)).alloc (.cells #[.slice pa ps.length cap, .int .i64 a] 103)).drew) = w0 at *
      have b4 := B0.out.cell 4
      have b0 := B1.out.cell 0
      have b1 := B1.out.cell 1
      simp at b4 b0 b1
      clear L1 L2 c0 c1 hne hne2 hcl e1
      have mm : (ps.length : Int) ≤ 9223372036854775807 := by have : ps.length ≤ 9223372036854775807 := QL.out; omega
      go_loopw [33, 7, 8] (fun i _ _ wr => ∃ (j : Nat), i = .int .i64 j ∧ j ≤ ps.length ∧ Hid (mtB (ps.drop j) (n.kids.drop j) = R ∧ True) ∧ wr = w0) (fun i _ _ _ => ps.length - (intOf i).toNat)
      case atStart => exact ⟨0, rfl, Nat.zero_le _, HR, rfl⟩
      case round =>
        obtain ⟨j, rfl, hj, HJ, hw⟩ := hrel
        replace hw := hw.symm
        subst hw
        have j0 : (0 : Int) ≤ j := by omega
        clear HR
        by_cases hlt : j < ps.length
        · have j1 : (j : Int) < ps.length := by omega
          have hjk : j < n.kids.length := by have := HE.out.1; omega
          have HJ2 := HJ.out.1
          rw [mtB_step ps n.kids j hlt hjk] at HJ2
          obtain ⟨gi, rfl, ci⟩ := int_cell QI.out j hlt
          obtain ⟨gk, rfl, ck0, ck⟩ := kid_at QK.out j hjk
          have jk : (j : Int) < n.kids.length := by omega
          rw [Nat.mul_comm 5 j] at ck
          have HK := hid (And.intro hlt trivial)
          generalize (n.kids[j]).ty = kt at *
          generalize ps[j] = pt at *
          clear ck0
          cases hb : (kt == pt) with
          | true =>
            rw [hb, Bool.true_and] at HJ2
            have NX := hid (And.intro HJ2 trivial)
            clear HJ2 HJ
            go_wp2_with (go_at_call 245; refine (C245.out _ _).mono ?_; rintro e w9 ⟨h9, hw⟩; replace hw := hw.symm; subst hw; (try simp only [reduceIte] at h9); subst h9)
            go_round
            case rel => exact ⟨j + 1, by go_num, by have := HK.out.1; omega, NX, by first | rfl | trivial⟩
            case measure => have := HK.out.1; simp [intOf]; omega
          | false =>
            rw [hb, Bool.false_and] at HJ2
            subst HJ2
            clear HJ
            go_wp2_with (go_at_call 245; refine (C245.out _ _).mono ?_; rintro e w9 ⟨h9, hw⟩; replace hw := hw.symm; subst hw; (try simp only [reduceIte, Bool.false_eq_true] at h9); subst h9)
            exact ⟨rfl, rfl, HB3.out⟩
        · have j1 : ¬ (j : Int) < ps.length := by omega
          have HJ2 := HJ.out.1
          rw [mtB_end ps n.kids j (by omega)] at HJ2
          subst HJ2
          clear HJ
          go_wp2_with fail
          go_ret
          exact ⟨rfl, HB3.out⟩
end Ck
end Go.Proofs.YtajoncmmdeahnaaGreatDoor
namespace Go.Proofs.YtajoncmmdeahnaaGreatDoor
open Go.RowKit
namespace Ck
section
variable (n : Nd) (p : Option Addr) (c : Nat) (P : Nat → Prop) {X : Xc} {F : Fn} {st : Cs} (w : World) (hC : CkA w X F st) (hk : KsV w P (.slice p n.kids.length c) n.kids)
include hC hk
theorem call_any (hx : callC F n st ≠ .error none) : Calls Tryz.prog 213 #[.pointer (some ⟨X.c, 0, none⟩), .agg #[.int .i64 n.kind, .int .i64 n.ty, .string n.txt, .int .i64 n.num, .slice p n.kids.length c]] w (CkP iK X F w (callC F n st)) := by
  unfold callC at hx ⊢
  by_cases hs : 1000000 < n.txt.size
  · rw [if_pos hs] at hx
    exact absurd rfl hx
  rw [if_neg hs]
  clear hx
  cases hF : F n.txt with
  | none => exact (call_none n p c w hC (Nat.le_of_not_lt hs) hF).mono fun e w' h => h.ck hC
  | some x =>
    obtain ⟨ps, a⟩ := x
    simp only []
    refine (call_some n p c P w hC hk (Nat.le_of_not_lt hs) ps a hF).mono fun e w' h => ?_
    have h2 := h.ck hC
    by_cases hl : n.kids.length = ps.length
    · rw [if_neg (fun h => h hl), callL_eq]
      rw [decide_eq_true hl, Bool.true_and, if_pos hl] at h2
      exact h2
    · rw [if_pos hl]
      rw [decide_eq_false hl, Bool.false_and, if_neg hl] at h2
      exact h2
set_option maxRecDepth 100000 in
set_option maxHeartbeats 4000000 in
theorem typeOf_any (hx : typeOfC F n st ≠ .error none) : Calls Tryz.prog 177 #[.pointer (some ⟨X.c, 0, none⟩), .agg #[.int .i64 n.kind, .int .i64 n.ty, .string n.txt, .int .i64 n.num, .slice p n.kids.length c]] w (CkP iK X F w (typeOfC F n st)) := by
  have HX := hid hx
  have GA := hid (grown_alloc (grown_refl w none) (.cells #[.int .i64 n.kind, .int .i64 n.ty, .string n.txt, .int .i64 n.num, .slice p n.kids.length c] 27))
  have HC := hid hC
  have HK := hid hk
  clear hC hk
  unfold typeOfC at hx HX ⊢
  by_cases h1 : n.kind = 20
  · rw [if_pos h1]
    rw [h1] at GA ⊢
    go_enter Tryz.func177, Tryz.ntmps177
    go_wp2_with fail
    go_ret
    exact ⟨_, rfl, rfl, HC.out.kept GA.out, FrC.nil GA.out⟩
  by_cases h2 : n.kind = 21
  · rw [if_neg h1, if_pos h2]
    rw [h2] at GA ⊢
    go_enter Tryz.func177, Tryz.ntmps177
    go_wp2_with fail
    go_ret
    exact ⟨_, rfl, rfl, HC.out.kept GA.out, FrC.nil GA.out⟩
  by_cases h3 : n.kind = 22
  · rw [if_neg h1, if_neg h2, if_pos h3]
    rw [h3] at GA ⊢
    go_enter Tryz.func177, Tryz.ntmps177
    go_wp2_with fail
    go_ret
    exact ⟨_, rfl, rfl, HC.out.kept GA.out, FrC.nil GA.out⟩
  rw [if_neg h1, if_neg h2, if_neg h3] at hx HX ⊢
  by_cases h4 : n.kind = 23
  · rw [if_pos h4] at hx HX ⊢
    have CC : Hid (∀ W, w.grownBy W none → Calls Tryz.prog 212 #[.pointer (some ⟨X.c, 0, none⟩), .string n.txt] W (CkP iK X F W (variableC n.txt st))) := fun W hW => variable_any n.txt W (HC.out.kept hW) hx
    rw [h4] at GA ⊢
    generalize variableC n.txt st = K at *
    clear h1 h2 h3 h4
    go_enter Tryz.func177, Tryz.ntmps177
    go_wp2_with (go_at_call 212; refine (CC.out _ GA.out).mono ?_; intro e w1 hh; rcases CkP.cases hh HX.out with ⟨m, hz, rfl, hF⟩ | ⟨a, s2, v, hz, rfl, hv, hA, hF⟩; (case inl => exact ⟨rfl, by rw [hz]; exact ⟨rfl, (FrC.nil GA.out).trans hF⟩⟩); have hv' : v = .int .i64 a := hv; subst hv'; have HZ := hid (And.intro hz trivial); have HA := hid hA; have HF := hid ((FrC.nil GA.out).trans hF); clear hz hA hF hh)
    go_ret
    rw [HZ.out.1]
    exact ⟨_, rfl, rfl, HA.out, HF.out⟩
  rw [if_neg h4] at hx HX ⊢
  by_cases h5 : n.kind = 24
  · rw [if_pos h5] at hx HX ⊢
    have CC : Hid (∀ W, w.grownBy W none → Calls Tryz.prog 213 #[.pointer (some ⟨X.c, 0, none⟩), .agg #[.int .i64 n.kind, .int .i64 n.ty, .string n.txt, .int .i64 n.num, .slice p n.kids.length c]] W (CkP iK X F W (callC F n st))) := fun W hW => call_any n p c P W (HC.out.kept hW) (HK.out.kept hW) hx
    rw [h5] at GA CC ⊢
    generalize callC F n st = K at *
    clear h1 h2 h3 h4 h5
    go_enter Tryz.func177, Tryz.ntmps177
    go_wp2_with (go_at_call 213; refine (CC.out _ GA.out).mono ?_; intro e w1 hh; rcases CkP.cases hh HX.out with ⟨m, hz, rfl, hF⟩ | ⟨a, s2, v, hz, rfl, hv, hA, hF⟩; (case inl => exact ⟨rfl, by rw [hz]; exact ⟨rfl, (FrC.nil GA.out).trans hF⟩⟩); have hv' : v = .int .i64 a := hv; subst hv'; have HZ := hid (And.intro hz trivial); have HA := hid hA; have HF := hid ((FrC.nil GA.out).trans hF); clear hz hA hF hh)
    go_ret
    rw [HZ.out.1]
    exact ⟨_, rfl, rfl, HA.out, HF.out⟩
  rw [if_neg h5] at hx HX ⊢
  by_cases h6 : n.kind = 25
  · rw [if_pos h6] at hx HX ⊢
    have CC : Hid (∀ W, w.grownBy W none → Calls Tryz.prog 214 #[.agg #[.int .i64 n.kind, .int .i64 n.ty, .string n.txt, .int .i64 n.num, .slice p n.kids.length c]] W (CkP iK X F W (aheadC n st))) := fun W hW => ahead_any n p c P W (HC.out.kept hW) (HK.out.kept hW)
    rw [h6] at GA CC ⊢
    generalize aheadC n st = K at *
    clear h1 h2 h3 h4 h5 h6
    go_enter Tryz.func177, Tryz.ntmps177
    go_wp2_with (go_at_call 214; refine (CC.out _ GA.out).mono ?_; intro e w1 hh; rcases CkP.cases hh HX.out with ⟨m, hz, rfl, hF⟩ | ⟨a, s2, v, hz, rfl, hv, hA, hF⟩; (case inl => exact ⟨rfl, by rw [hz]; exact ⟨rfl, (FrC.nil GA.out).trans hF⟩⟩); have hv' : v = .int .i64 a := hv; subst hv'; have HZ := hid (And.intro hz trivial); have HA := hid hA; have HF := hid ((FrC.nil GA.out).trans hF); clear hz hA hF hh)
    go_ret
    rw [HZ.out.1]
    exact ⟨_, rfl, rfl, HA.out, HF.out⟩
  rw [if_neg h6] at hx HX ⊢
  by_cases h7 : n.kind = 26
  · rw [if_pos h7] at hx HX ⊢
    have CC : Hid (∀ W, w.grownBy W none → Calls Tryz.prog 215 #[.agg #[.int .i64 n.kind, .int .i64 n.ty, .string n.txt, .int .i64 n.num, .slice p n.kids.length c]] W (CkP iK X F W (betweenC n st))) := fun W hW => between_any n p c P W (HC.out.kept hW) (HK.out.kept hW)
    rw [h7] at GA CC ⊢
    generalize betweenC n st = K at *
    clear h1 h2 h3 h4 h5 h6 h7
    go_enter Tryz.func177, Tryz.ntmps177
    go_wp2_with (go_at_call 215; refine (CC.out _ GA.out).mono ?_; intro e w1 hh; rcases CkP.cases hh HX.out with ⟨m, hz, rfl, hF⟩ | ⟨a, s2, v, hz, rfl, hv, hA, hF⟩; (case inl => exact ⟨rfl, by rw [hz]; exact ⟨rfl, (FrC.nil GA.out).trans hF⟩⟩); have hv' : v = .int .i64 a := hv; subst hv'; have HZ := hid (And.intro hz trivial); have HA := hid hA; have HF := hid ((FrC.nil GA.out).trans hF); clear hz hA hF hh)
    go_ret
    rw [HZ.out.1]
    exact ⟨_, rfl, rfl, HA.out, HF.out⟩
  rw [if_neg h7] at hx HX ⊢
  have CC : Hid (∀ W, w.grownBy W none → Calls Tryz.prog 216 #[.agg #[.int .i64 n.kind, .int .i64 n.ty, .string n.txt, .int .i64 n.num, .slice p n.kids.length c]] W (CkP iK X F W (convertedC n st))) := fun W hW => converted_any n p c P W (HC.out.kept hW) (HK.out.kept hW)
  generalize convertedC n st = K at *
  have e1 : (n.kind == 20) = false := by rw [beq_eq_false_iff_ne]; exact h1
  have e2 : (n.kind == 21) = false := by rw [beq_eq_false_iff_ne]; exact h2
  have e3 : (n.kind == 22) = false := by rw [beq_eq_false_iff_ne]; exact h3
  have e4 : (n.kind == 23) = false := by rw [beq_eq_false_iff_ne]; exact h4
  have e5 : (n.kind == 24) = false := by rw [beq_eq_false_iff_ne]; exact h5
  have e6 : (n.kind == 25) = false := by rw [beq_eq_false_iff_ne]; exact h6
  have e7 : (n.kind == 26) = false := by rw [beq_eq_false_iff_ne]; exact h7
  clear h1 h2 h3 h4 h5 h6 h7
  generalize n.kind = kd at *
  go_enter Tryz.func177, Tryz.ntmps177
  go_wp2_with (go_at_call 216; refine (CC.out _ GA.out).mono ?_; intro e w1 hh; rcases CkP.cases hh HX.out with ⟨m, hz, rfl, hF⟩ | ⟨a, s2, v, hz, rfl, hv, hA, hF⟩; (case inl => exact ⟨rfl, by rw [hz]; exact ⟨rfl, (FrC.nil GA.out).trans hF⟩⟩); have hv' : v = .int .i64 a := hv; subst hv'; have HZ := hid (And.intro hz trivial); have HA := hid hA; have HF := hid ((FrC.nil GA.out).trans hF); clear hz hA hF hh)
  go_ret
  rw [HZ.out.1]
  exact ⟨_, rfl, rfl, HA.out, HF.out⟩
end
end Ck
end Go.Proofs.YtajoncmmdeahnaaGreatDoor
namespace Go.Proofs.YtajoncmmdeahnaaGreatDoor
open Go.RowKit
namespace Ck
structure FrI (X : Xc) (lo hi : Nat) (w w' : World) : Prop where
  os : w'.os = w.os
  tape : w'.tape = w.tape
  output : w'.output = w.output
  size : w.heap.size ≤ w'.heap.size
  block : ∀ i, i < w.heap.size → i ≠ X.c → i ≠ X.mv → i ≠ X.mt → (X.base ≤ i → ¬ StrRow w i) → ¬ (lo ≤ i ∧ i < hi) → w'.heap[i]? = w.heap[i]?
structure FrN (X : Xc) (g o lo hi : Nat) (w w' : World) : Prop where
  os : w'.os = w.os
  tape : w'.tape = w.tape
  output : w'.output = w.output
  size : w.heap.size ≤ w'.heap.size
  block : ∀ i, i < w.heap.size → i ≠ X.c → i ≠ X.mv → i ≠ X.mt → (X.base ≤ i → ¬ StrRow w i) → ¬ (lo ≤ i ∧ i < hi) → i ≠ g → w'.heap[i]? = w.heap[i]?
  cell : ∀ j, (j < o ∨ o + 5 ≤ j) → w'.cell? ⟨g, j, none⟩ = w.cell? ⟨g, j, none⟩
  form : ∀ t cs, Blk w g t cs → ∃ cs', Blk w' g t cs' ∧ cs'.size = cs.size
theorem FrC.i {X : Xc} {w w' : World} (h : FrC X w w') (lo hi : Nat) : FrI X lo hi w w' := ⟨h.os, h.tape, h.output, h.size, fun i h1 h2 h3 h4 h5 _ => h.block i h1 h2 h3 h4 h5⟩
theorem FrI.refl (X : Xc) (lo hi : Nat) (w : World) : FrI X lo hi w w := (FrC.refl X w).i lo hi
theorem str_back {X : Xc} {a b : World} {i : Nat} (e : b.heap[i]? = a.heap[i]?) (h : X.base ≤ i → ¬ StrRow a i) : X.base ≤ i → ¬ StrRow b i := fun hb ⟨cs, hs⟩ => h hb ⟨cs, e.symm.trans hs⟩
theorem FrI.trans {X : Xc} {lo hi : Nat} {a b c : World} (h : FrI X lo hi a b) (k : FrI X lo hi b c) : FrI X lo hi a c := by
  refine ⟨k.os.trans h.os, k.tape.trans h.tape, k.output.trans h.output, Nat.le_trans h.size k.size, fun i hi h1 h2 h3 h4 h5 => ?_⟩
  have e := h.block i hi h1 h2 h3 h4 h5
  exact (k.block i (Nat.lt_of_lt_of_le hi h.size) h1 h2 h3 (str_back e h4) h5).trans e
theorem FrI.wide {X : Xc} {lo hi lo' hi' : Nat} {a b : World} (h : FrI X lo hi a b) (h1 : lo' ≤ lo) (h2 : hi ≤ hi') : FrI X lo' hi' a b :=
  ⟨h.os, h.tape, h.output, h.size, fun i q1 q2 q3 q4 q5 q6 => h.block i q1 q2 q3 q4 q5 (fun ⟨a, b⟩ => q6 ⟨by omega, by omega⟩)⟩
theorem FrN.i {X : Xc} {g o lo hi lo' hi' : Nat} {a b : World} (h : FrN X g o lo hi a b) (h1 : lo' ≤ lo) (h2 : hi ≤ hi') (h3 : lo' ≤ g) (h4 : g < hi') : FrI X lo' hi' a b :=
  ⟨h.os, h.tape, h.output, h.size, fun i q1 q2 q3 q4 q5 q6 => h.block i q1 q2 q3 q4 q5 (fun ⟨a, b⟩ => q6 ⟨by omega, by omega⟩) (fun e => q6 ⟨by omega, by omega⟩)⟩
theorem FrI.same {X : Xc} {lo hi : Nat} {a b : World} (h : FrI X lo hi a b) (hX : X.Ok) {i : Nat} (h1 : i < X.base) (h2 : i < a.heap.size) (h3 : ¬ (lo ≤ i ∧ i < hi)) : b.heap[i]? = a.heap[i]? :=
  h.block i h2 (by have := hX.bc; omega) (by have := hX.bv; omega) (by have := hX.bt; omega) (fun hb => by omega) h3
theorem FrI.n {X : Xc} {g o lo hi : Nat} {a b : World} (h : FrI X lo hi a b) (hX : X.Ok) (h1 : g < X.base) (h2 : g < a.heap.size) (h3 : g < lo) : FrN X g o lo hi a b := by
  have e := h.same hX h1 h2 (fun ⟨a, _⟩ => by omega)
  exact ⟨h.os, h.tape, h.output, h.size, fun i q1 q2 q3 q4 q5 q6 _ => h.block i q1 q2 q3 q4 q5 q6, fun j _ => World.cell?_of_block e, fun t cs hB => ⟨cs, e.trans hB, rfl⟩⟩
theorem FrN.trans {X : Xc} {g o lo hi : Nat} {a b c : World} (h : FrN X g o lo hi a b) (k : FrN X g o lo hi b c) : FrN X g o lo hi a c := by
  refine ⟨k.os.trans h.os, k.tape.trans h.tape, k.output.trans h.output, Nat.le_trans h.size k.size, fun i hi h1 h2 h3 h4 h5 h6 => ?_, fun j hj => (k.cell j hj).trans (h.cell j hj), fun t cs hB => ?_⟩
  · have e := h.block i hi h1 h2 h3 h4 h5 h6
    exact (k.block i (Nat.lt_of_lt_of_le hi h.size) h1 h2 h3 (str_back e h4) h5 h6).trans e
  · obtain ⟨cs1, h1, e1⟩ := h.form t cs hB
    obtain ⟨cs2, h2, e2⟩ := k.form t cs1 h1
    exact ⟨cs2, h2, e2.trans e1⟩
theorem FrN.set {X : Xc} {g o lo hi : Nat} {a b : World} (h : FrN X g o lo hi a b) (j : Nat) (v : Value) (h1 : o ≤ j) (h2 : j < o + 5) : FrN X g o lo hi a (b.setCell ⟨g, j, none⟩ v) := by
  refine ⟨h.os, h.tape, h.output, by rw [World.size_setCell]; exact h.size, fun i q1 q2 q3 q4 q5 q6 q7 => (heap_setCell_other _ _ _ _ q7).trans (h.block i q1 q2 q3 q4 q5 q6 q7), fun i hi => ?_, fun t cs hB => ?_⟩
  · rw [← h.cell i hi]
    have hne : i ≠ j := by omega
    exact World.cell?_setCell_other _ _ _ _ (by intro e; injection e with _ e; exact hne e.symm)
  · obtain ⟨cs1, q1, e1⟩ := h.form t cs hB
    exact ⟨_, q1.set j v, by rw [Array.size_setIfInBounds]; exact e1⟩
theorem CkR.keptG {w w' : World} {X : Xc} {F : Fn} {st : Cs} {pv : Value} {g : Nat} (h : CkR w X F st pv) (hg : w.grownBy w' (some g)) (h1 : X.low ≤ g) (h2 : g < X.base) : CkR w' X F st pv := by
  have hb := h.ok.bc
  have hv := h.ok.bv
  have ht := h.ok.bt
  have hf := h.ok.bf
  refine ⟨h.ok, h.blk.kept hg (fun e => by injection e with e; omega), h.fns.kept (hg.block _ (by obtain ⟨n, f, q, _⟩ := h.fns; exact q.lt) (fun e => by injection e with e; omega)) (fun i cs q hB => hB.kept hg (fun e => by injection e with e; omega)), h.vars.kept hg (fun e => by injection e with e; omega), h.tak.kept hg (fun e => by injection e with e; omega), ?_, h.short, h.gl.keptR hg (fun k e => by injection e with e; omega)⟩
  refine h.row.kept hg ?_
  cases hv : pv.ownBlock with
  | none => exact Or.inl rfl
  | some r =>
    refine Or.inr (fun e => ?_)
    obtain ⟨q, _⟩ := row_block h.row r hv
    injection e with e
    omega
theorem CkA.keptG {w w' : World} {X : Xc} {F : Fn} {st : Cs} {g : Nat} (h : CkA w X F st) (hg : w.grownBy w' (some g)) (h1 : X.low ≤ g) (h2 : g < X.base) : CkA w' X F st := by
  obtain ⟨pv, h⟩ := h
  exact ⟨pv, h.keptG hg h1 h2⟩
theorem CkA.ok {w : World} {X : Xc} {F : Fn} {st : Cs} (h : CkA w X F st) : X.Ok := by
  obtain ⟨pv, h⟩ := h
  exact h.ok
theorem row_split {w : World} {g hi : Nat} : ∀ {o lo : Nat} {l : List Nd} (j : Nat) (hj : j < l.length), RowI w g o lo hi l → ∃ m m', RowI w g o lo m (l.take j) ∧ NdI w g (o + 5 * j) m m' l[j] ∧ RowI w g (o + 5 * (j + 1)) m' hi (l.drop (j + 1))
  | _, _, [], _, hj, _ => absurd hj (Nat.not_lt_zero _)
  | o, lo, x :: r, 0, _, h => by
    rw [RowI] at h
    obtain ⟨m, h1, h2⟩ := h
    exact ⟨lo, m, by rw [List.take_zero, RowI]; exact Nat.le_refl _, h1, h2⟩
  | o, lo, x :: r, j + 1, hj, h => by
    rw [RowI] at h
    obtain ⟨m, h1, h2⟩ := h
    obtain ⟨a, b, q1, q2, q3⟩ := row_split j (by simpa using hj) h2
    refine ⟨a, b, by rw [List.take_succ_cons, RowI]; exact ⟨m, h1, q1⟩, ?_, ?_⟩
    · rw [show o + 5 * (j + 1) = o + 5 + 5 * j by omega]; exact q2
    · rw [show o + 5 * (j + 1 + 1) = o + 5 + 5 * (j + 1) by omega]; exact q3
theorem row_append {w : World} {g m hi : Nat} {b : List Nd} : ∀ {o lo : Nat} {a : List Nd}, RowI w g o lo m a → RowI w g (o + 5 * a.length) m hi b → RowI w g o lo hi (a ++ b)
  | o, lo, [], h, hb => by
    rw [RowI] at h
    rw [List.nil_append]
    rw [List.length_nil, Nat.mul_zero, Nat.add_zero] at hb
    cases b with
    | nil => rw [RowI] at hb ⊢; omega
    | cons y r =>
      rw [RowI] at hb ⊢
      obtain ⟨mid, h1, h2⟩ := hb
      refine ⟨mid, ?_, h2⟩
      obtain ⟨q, c0, c1, c2, c3, c4, c5⟩ := h1.cells
      refine NdI.mk c0 c1 c2 c3 c4 ?_
      rcases c5 with ⟨e1, e2, e3⟩ | ⟨g', cap, cs, e1, e2, e3, e4, e5, e6, e7, e8⟩
      · exact Or.inl ⟨e1, e2, by omega⟩
      · exact Or.inr ⟨g', cap, cs, e1, e2, e3, e4, by omega, e6, e7, e8⟩
  | o, lo, x :: r, h, hb => by
    rw [RowI] at h
    obtain ⟨mid, h1, h2⟩ := h
    rw [List.length_cons, show o + 5 * (r.length + 1) = o + 5 + 5 * r.length by omega] at hb
    rw [List.cons_append, RowI]
    exact ⟨mid, h1, row_append h2 hb⟩
theorem row_turn {X : Xc} {w w' : World} {g lo hi m m' : Nat} {a b : List Nd} {x : Nd} (hX : X.Ok) (hb : hi ≤ X.base) (hg : g < lo) (h1 : RowI w g 0 lo m a) (h2 : NdI w' g (5 * a.length) m m' x) (h3 : RowI w g (5 * (a.length + 1)) m' hi b) (hF : FrN X g (5 * a.length) m m' w w') (hsz : ∀ i, lo ≤ i → i < hi → i < w.heap.size ∨ w'.heap[i]? = w.heap[i]?) : RowI w' g 0 lo hi (a ++ x :: b) := by
  have l1 := RowI.le h1
  have l2 := NdI.le h2
  have l3 := RowI.le h3
  have keep : ∀ i, lo ≤ i → i < hi → ¬ (m ≤ i ∧ i < m') → w'.heap[i]? = w.heap[i]? := fun i q1 q2 q3 => by
    rcases hsz i q1 q2 with q | q
    · exact hF.block i q (by have := hX.bc; omega) (by have := hX.bv; omega) (by have := hX.bt; omega) (fun h => by omega) q3 (by omega)
    · exact q
  have r1 : RowI w' g 0 lo m a := RowI.kept (fun i q1 q2 => keep i q1 (by omega) (fun ⟨q, _⟩ => by omega)) (fun j _ hj => hF.cell j (Or.inl (by omega))) h1
  have r3 : RowI w' g (5 * (a.length + 1)) m' hi b := RowI.kept (fun i q1 q2 => keep i (by omega) q2 (fun ⟨_, q⟩ => by omega)) (fun j hj _ => hF.cell j (Or.inr (by omega))) h3
  refine row_append r1 ?_
  rw [Nat.zero_add, RowI]
  exact ⟨m', h2, r3⟩
end Ck
end Go.Proofs.YtajoncmmdeahnaaGreatDoor
namespace Go.Proofs.YtajoncmmdeahnaaGreatDoor
open Go.RowKit
namespace Ck
def CkT (X : Xc) (F : Fn) (g o lo hi : Nat) (w : World) (x : Rk Nd) (e : Ending) (w' : World) : Prop := match x with
  | .ok (n, st) => e = .returned (.tuple #[]) ∧ NdI w' g o lo hi n ∧ CkA w' X F st ∧ FrN X g o lo hi w w'
  | .error (some m) => e = .panicked (RjV m) ∧ FrN X g o lo hi w w'
  | .error none => True
def CkL (X : Xc) (F : Fn) (q : Value) (lo hi : Nat) (w : World) (x : Rk (List Nd)) (e : Ending) (w' : World) : Prop := match x with
  | .ok (l, st) => e = .returned (.tuple #[]) ∧ KsI w' lo hi q l ∧ CkA w' X F st ∧ FrI X lo hi w w'
  | .error (some m) => e = .panicked (RjV m) ∧ FrI X lo hi w w'
  | .error none => True
theorem CkT.cases {X : Xc} {F : Fn} {g o lo hi : Nat} {w w' : World} {x : Rk Nd} {e : Ending} (h : CkT X F g o lo hi w x e w') (hx : x ≠ .error none) : (∃ m, x = .error (some m) ∧ e = .panicked (RjV m) ∧ FrN X g o lo hi w w') ∨ ∃ n st, x = .ok (n, st) ∧ e = .returned (.tuple #[]) ∧ NdI w' g o lo hi n ∧ CkA w' X F st ∧ FrN X g o lo hi w w' := by
  match x, h, hx with
  | .ok (a, st), ⟨h1, h2, h3, h4⟩, _ => exact Or.inr ⟨a, st, rfl, h1, h2, h3, h4⟩
  | .error (some n), ⟨h1, h2⟩, _ => exact Or.inl ⟨n, rfl, h1, h2⟩
  | .error none, _, hx => exact absurd rfl hx
theorem CkL.cases {X : Xc} {F : Fn} {q : Value} {lo hi : Nat} {w w' : World} {x : Rk (List Nd)} {e : Ending} (h : CkL X F q lo hi w x e w') (hx : x ≠ .error none) : (∃ m, x = .error (some m) ∧ e = .panicked (RjV m) ∧ FrI X lo hi w w') ∨ ∃ l st, x = .ok (l, st) ∧ e = .returned (.tuple #[]) ∧ KsI w' lo hi q l ∧ CkA w' X F st ∧ FrI X lo hi w w' := by
  match x, h, hx with
  | .ok (a, st), ⟨h1, h2, h3, h4⟩, _ => exact Or.inr ⟨a, st, rfl, h1, h2, h3, h4⟩
  | .error (some n), ⟨h1, h2⟩, _ => exact Or.inl ⟨n, rfl, h1, h2⟩
  | .error none, _, hx => exact absurd rfl hx
def ElC (X : Xc) (F : Fn) (f : Nat) (φ : Nd → Ck Nd) : Prop := ∀ (x : Nd) (g o lo hi : Nat) (cs : Array Value) (w : World) (st : Cs), CkA w X F st → NdI w g o lo hi x → X.low ≤ g → g < lo → hi ≤ X.base → Blk w g 27 cs → φ x st ≠ .error none →
  Calls Tryz.prog f #[.pointer (some ⟨X.c, 0, none⟩), .pointer (some ⟨g, o, none⟩)] w (CkT X F g o lo hi w (φ x st))
def addF (ys : List Nd) (x : Rk (List Nd)) : Rk (List Nd) := match x with
  | .ok (l, s) => .ok (ys ++ l, s)
  | .error e => .error e
theorem mapC_cons (φ : Nd → Ck Nd) (x : Nd) (r : List Nd) (st : Cs) : mapC φ (x :: r) st = match φ x st with
    | .ok (y, s) => addF [y] (mapC φ r s)
    | .error e => .error e := by
  show Ck.bnd (φ x) _ st = _
  unfold Ck.bnd
  cases φ x st with
  | error e => rfl
  | ok z =>
    obtain ⟨y, s⟩ := z
    show Ck.bnd (mapC φ r) _ s = addF [y] (mapC φ r s)
    unfold Ck.bnd addF
    cases mapC φ r s with
    | error e => rfl
    | ok z => rfl
theorem addF_addF (a b : List Nd) (x : Rk (List Nd)) : addF a (addF b x) = addF (a ++ b) x := by
  cases x with
  | error e => rfl
  | ok z => simp [addF]
structure Half (φ : Nd → Ck Nd) (ks : List Nd) (st : Cs) (ys : List Nd) (s : Cs) : Prop where
  eq : mapC φ ks st = addF ys (mapC φ (ks.drop ys.length) s)
theorem Half.zero (φ : Nd → Ck Nd) (ks : List Nd) (st : Cs) : Half φ ks st [] st := ⟨by
  rw [List.length_nil, List.drop_zero]
  unfold addF
  cases mapC φ ks st with
  | error e => rfl
  | ok z => rfl⟩
theorem Half.done {φ : Nd → Ck Nd} {ks : List Nd} {st : Cs} {ys : List Nd} {s : Cs} (h : Half φ ks st ys s) (hl : ks.length ≤ ys.length) : mapC φ ks st = .ok (ys, s) := by
  rw [h.eq, List.drop_eq_nil_of_le hl]
  show addF ys (.ok ([], s)) = _
  simp [addF]
theorem Half.ne {φ : Nd → Ck Nd} {ks : List Nd} {st : Cs} {ys : List Nd} {s : Cs} (h : Half φ ks st ys s) (hx : mapC φ ks st ≠ .error none) (hl : ys.length < ks.length) : φ ks[ys.length] s ≠ .error none := fun e => by
  rw [h.eq, List.drop_eq_getElem_cons hl, mapC_cons, e] at hx
  exact hx rfl
theorem Half.err {φ : Nd → Ck Nd} {ks : List Nd} {st : Cs} {ys : List Nd} {s : Cs} {e : Option Nat} (h : Half φ ks st ys s) (hl : ys.length < ks.length) (he : φ ks[ys.length] s = .error e) : mapC φ ks st = .error e := by
  rw [h.eq, List.drop_eq_getElem_cons hl, mapC_cons, he]
  rfl
theorem Half.step {φ : Nd → Ck Nd} {ks : List Nd} {st : Cs} {ys : List Nd} {s s' : Cs} {y : Nd} (h : Half φ ks st ys s) (hl : ys.length < ks.length) (he : φ ks[ys.length] s = .ok (y, s')) : Half φ ks st (ys ++ [y]) s' := ⟨by
  rw [h.eq, List.drop_eq_getElem_cons hl, mapC_cons, he, List.length_append, List.length_singleton]
  exact addF_addF _ _ _⟩
structure RowH (X : Xc) (F : Fn) (g lo hi : Nat) (ks ys : List Nd) (s : Cs) (w wr : World) : Prop where
  a : CkA wr X F s
  row : RowI wr g 0 (g + 1) hi (ys ++ ks.drop ys.length)
  blk : ∃ cs, Blk wr g 27 cs ∧ cs.size = 5 * ks.length
  fr : FrI X lo hi w wr
theorem RowH.node {X : Xc} {F : Fn} {g lo hi : Nat} {ks ys : List Nd} {s : Cs} {w wr : World} (h : RowH X F g lo hi ks ys s w wr) (hl : ys.length < ks.length) (k1 : lo ≤ g) (k3 : hi ≤ X.base) : ∃ m m', g + 1 ≤ m ∧ m' ≤ hi ∧ NdI wr g (5 * ys.length) m m' ks[ys.length] ∧
    (∀ (w' : World), FrN X g (5 * ys.length) m m' wr w' → FrI X lo hi w w') ∧
    ∀ (y : Nd) (s' : Cs) (w' : World), NdI w' g (5 * ys.length) m m' y → CkA w' X F s' → FrN X g (5 * ys.length) m m' wr w' → RowH X F g lo hi ks (ys ++ [y]) s' w w' := by
  have hr := h.row
  have hsz : hi ≤ wr.heap.size := by
    obtain ⟨pv, hR⟩ := h.a
    have h1 := hR.blk.lt
    have h2 := hR.ok.bc
    omega
  have hlen : ys.length < (ys ++ ks.drop ys.length).length := by rw [List.length_append, List.length_drop]; omega
  obtain ⟨m, m', h1, h2, h3⟩ := row_split ys.length hlen hr
  rw [List.take_left] at h1
  have eg : (ys ++ ks.drop ys.length)[ys.length] = ks[ys.length] := by
    rw [List.getElem_append_right (Nat.le_refl _)]
    simp
  have ed : (ys ++ ks.drop ys.length).drop (ys.length + 1) = ks.drop (ys.length + 1) := by
    rw [List.drop_append, List.drop_eq_nil_of_le (by omega), List.nil_append, List.drop_drop]
    congr 1
    omega
  rw [eg, Nat.zero_add] at h2
  rw [ed, Nat.zero_add] at h3
  have l1 := RowI.le h1
  have l2 := NdI.le h2
  have l3 := RowI.le h3
  have fr : ∀ (w' : World), FrN X g (5 * ys.length) m m' wr w' → FrI X lo hi w w' := fun w' hF => h.fr.trans (hF.i (by omega) l3 k1 (by omega))
  refine ⟨m, m', l1, l3, h2, fr, fun y s' w' hy hA hF => ?_⟩
  obtain ⟨cs, hB, hs⟩ := h.blk
  obtain ⟨cs', hB', hs'⟩ := hF.form 27 cs hB
  refine ⟨hA, ?_, ⟨cs', hB', hs'.trans hs⟩, fr w' hF⟩
  have e2 : (ys ++ [y]) ++ ks.drop (ys ++ [y]).length = ys ++ y :: ks.drop (ys.length + 1) := by simp
  rw [e2]
  exact row_turn hA.ok k3 (Nat.lt_succ_self g) h1 hy h3 hF (fun i _ q => Or.inl (by omega))
theorem ksI_form {w : World} {lo hi : Nat} {q : Value} {ks : List Nd} (h : KsI w lo hi q ks) : (q = .slice none 0 0 ∧ ks = [] ∧ lo ≤ hi) ∨ ∃ g cap cs, q = .slice (some ⟨g, 0, none⟩) ks.length cap ∧ ks.length ≤ cap ∧ cap ≤ maxLen ∧ 0 < ks.length ∧ lo ≤ g ∧ Blk w g 27 cs ∧ cs.size = 5 * ks.length ∧ RowI w g 0 (g + 1) hi ks := h
theorem RowH.done {X : Xc} {F : Fn} {g lo hi cap : Nat} {ks ys : List Nd} {s : Cs} {w wr : World} (h : RowH X F g lo hi ks ys s w wr) (hl : ys.length = ks.length) (k0 : 0 < ks.length) (k1 : lo ≤ g) (k2 : ks.length ≤ cap) (k3 : cap ≤ maxLen) : KsI wr lo hi (.slice (some ⟨g, 0, none⟩) ks.length cap) ys := by
  obtain ⟨cs, hB, hs⟩ := h.blk
  have hr := h.row
  rw [hl, List.drop_eq_nil_of_le (Nat.le_refl _), List.append_nil] at hr
  rw [← hl] at hs k0 k2 ⊢
  exact Or.inr ⟨g, cap, cs, rfl, k2, k3, k0, k1, hB, hs, hr⟩
end Ck
end Go.Proofs.YtajoncmmdeahnaaGreatDoor
namespace Go.Proofs.YtajoncmmdeahnaaGreatDoor
open Go.RowKit
namespace Ck
theorem RowH.node5 {X : Xc} {F : Fn} {g lo hi j : Nat} {ks ys : List Nd} {s : Cs} {w wr : World} (h : RowH X F g lo hi ks ys s w wr) (hj : ys.length = j) (hl : ys.length < ks.length) (k1 : lo ≤ g) (k3 : hi ≤ X.base) : ∃ x m m', ks[ys.length] = x ∧ g + 1 ≤ m ∧ m' ≤ hi ∧ NdI wr g (j * 5) m m' x ∧
    (∀ (w' : World), FrN X g (j * 5) m m' wr w' → FrI X lo hi w w') ∧
    ∀ (y : Nd) (s' : Cs) (w' : World), NdI w' g (j * 5) m m' y → CkA w' X F s' → FrN X g (j * 5) m m' wr w' → RowH X F g lo hi ks (ys ++ [y]) s' w w' := by
  subst hj
  rw [Nat.mul_comm ys.length 5]
  obtain ⟨m, m', a1, a2, a3, a4, a5⟩ := h.node hl k1 k3
  exact ⟨_, m, m', rfl, a1, a2, a3, a4, a5⟩
set_option maxRecDepth 100000 in
theorem exprs_nil {φ : Nd → Ck Nd} {lo hi : Nat} {X : Xc} {F : Fn} {st : Cs} (w : World) (hC : CkA w X F st) (hl : lo ≤ hi) : Calls Tryz.prog 176 #[.pointer (some ⟨X.c, 0, none⟩), .slice none 0 0] w (CkL X F (.slice none 0 0) lo hi w (mapC φ [] st)) := by
  have HC := hid hC
  clear hC
  go_enter Tryz.func176, Tryz.ntmps176
  go_wp2
  go_loopw [7] (fun i wr => i = .int .i64 0 ∧ wr = w) (fun _ _ => 0)
  case atStart => exact ⟨rfl, rfl⟩
  case round =>
    obtain ⟨rfl, rfl⟩ := hrel
    go_wp2
    refine bodyPost_ret (v := .tuple #[]) (by simp [results, Tryz.results176, go_sem]) rfl ?_
    exact ⟨rfl, Or.inl ⟨rfl, rfl, hl⟩, HC.out, FrI.refl _ _ _ _⟩
set_option maxRecDepth 100000 in
set_option maxHeartbeats 1000000 in
theorem exprs_some {φ : Nd → Ck Nd} {ks : List Nd} {g cap lo hi : Nat} {cs : Array Value} {X : Xc} {F : Fn} {st : Cs} (w : World) (hE : ElC X F 211 φ) (hC : CkA w X F st) (h1 : X.low ≤ lo) (h2 : hi ≤ X.base) (hx : mapC φ ks st ≠ .error none)
    (k1 : ks.length ≤ cap) (k2 : cap ≤ maxLen) (k3 : 0 < ks.length) (k4 : lo ≤ g) (k5 : Blk w g 27 cs) (k6 : cs.size = 5 * ks.length) (k7 : RowI w g 0 (g + 1) hi ks) :
    Calls Tryz.prog 176 #[.pointer (some ⟨X.c, 0, none⟩), .slice (some ⟨g, 0, none⟩) ks.length cap] w (CkL X F (.slice (some ⟨g, 0, none⟩) ks.length cap) lo hi w (mapC φ ks st)) := by
  have HX := hid hx
  have HE := hid hE
  have R0 : Hid (RowH X F g lo hi ks [] st w w) := hid ⟨hC, k7, ⟨cs, k5, k6⟩, FrI.refl _ _ _ _⟩
  have HK := hid (And.intro k1 (And.intro k2 (And.intro k3 k4)))
  obtain ⟨L, hL⟩ : ∃ L, ks.length = L := ⟨_, rfl⟩
  have HL := hid (And.intro hL trivial)
  have Lmax : (L : Int) ≤ 9223372036854775807 := by have := maxLen_ge; unfold maxLen at k2; omega
  rw [hL]
  clear hx hE hC k1 k2 k3 k4 k5 k6 k7 hL
  go_enter Tryz.func176, Tryz.ntmps176
  go_wp2
  go_loopw [7] (fun i wr => ∃ (j : Nat) (ys : List Nd) (s : Cs), i = .int .i64 j ∧ j ≤ L ∧ (ys.length = j ∧ Half φ ks st ys s) ∧ RowH X F g lo hi ks ys s w wr) (fun i _ => L - (intOf i).toNat)
  case atStart => exact ⟨0, [], st, rfl, Nat.zero_le _, ⟨rfl, Half.zero _ _ _⟩, R0.out⟩
  case round =>
    obtain ⟨j, ys, s, rfl, hj, hh, hr⟩ := hrel
    have HH := hid hh
    have RR := hid hr
    clear hh hr R0
    have j0 : (0 : Int) ≤ j := by omega
    by_cases hlt : j < L
    · have j1 : (j : Int) < L := by omega
      have hyl : ys.length < ks.length := by rw [HH.out.1, HL.out.1]; exact hlt
      obtain ⟨x, m, m', ex, a1, a2, a3, a4, a5⟩ := RR.out.node5 HH.out.1 hyl HK.out.2.2.2 h2
      have NE : φ x s ≠ .error none := by rw [← ex]; exact HH.out.2.ne HX.out hyl
      obtain ⟨cs, hB, hs⟩ := RR.out.blk
      have CC : Hid (Calls Tryz.prog 211 #[.pointer (some ⟨X.c, 0, none⟩), .pointer (some ⟨g, j * 5, none⟩)] wr (CkT X F g (j * 5) m m' wr (φ x s))) := HE.out x g (j * 5) m m' cs wr s RR.out.a a3 (Nat.le_trans h1 HK.out.2.2.2) (by omega) (Nat.le_trans a2 h2) hB NE
      have A4 := hid a4
      have A5 := hid a5
      have HN := hid NE
      have ER : Hid (∀ m, φ x s = .error m → mapC φ ks st = .error m) := hid (fun m h => HH.out.2.err hyl (by rw [ex]; exact h))
      have ES : Hid (∀ y s', φ x s = .ok (y, s') → Half φ ks st (ys ++ [y]) s') := hid (fun y s' h => HH.out.2.step hyl (by rw [ex]; exact h))
      clear a3 a4 a5 NE hB hs hyl ex
      go_wp2_with (go_at_call 211; refine CC.out.mono ?_; intro e w1 hh; rcases CkT.cases hh HN.out with ⟨n, hz, rfl, hF⟩ | ⟨y, s', hz, rfl, hN, hA, hF⟩; (case inl => exact ⟨rfl, by rw [ER.out _ hz]; exact ⟨rfl, A4.out _ hF⟩⟩); have HZ := hid (And.intro hz trivial); have R1 := hid (A5.out y s' w1 hN hA hF); clear hz hN hA hF hh CC)
      go_roundw
      case rel => exact ⟨j + 1, ys ++ [y], s', by go_num, by omega, ⟨by rw [List.length_append, HH.out.1]; rfl, ES.out _ _ HZ.out.1⟩, R1.out⟩
      case measure => simp [intOf]; omega
    · have j1 : ¬ (j : Int) < L := by omega
      have hyl : ys.length = ks.length := by rw [HH.out.1, HL.out.1]; omega
      have E1 := hid (And.intro (HH.out.2.done (Nat.le_of_eq hyl.symm)) trivial)
      have E2 := RR.out.done (cap := cap) hyl HK.out.2.2.1 HK.out.2.2.2 HK.out.1 HK.out.2.1
      rw [HL.out.1] at E2
      have E3 := hid E2
      clear E2 hyl
      go_wp2
      refine bodyPost_ret (v := .tuple #[]) (by simp [results, Tryz.results176, go_sem]) rfl ?_
      rw [E1.out.1]
      exact ⟨rfl, E3.out, RR.out.a, RR.out.fr⟩
theorem exprs_any {φ : Nd → Ck Nd} {ks : List Nd} {q : Value} {lo hi : Nat} {X : Xc} {F : Fn} {st : Cs} (w : World) (hE : ElC X F 211 φ) (hC : CkA w X F st) (hk : KsI w lo hi q ks) (h1 : X.low ≤ lo) (h2 : hi ≤ X.base) (hx : mapC φ ks st ≠ .error none) :
    Calls Tryz.prog 176 #[.pointer (some ⟨X.c, 0, none⟩), q] w (CkL X F q lo hi w (mapC φ ks st)) := by
  rcases ksI_form hk with ⟨rfl, rfl, h⟩ | ⟨g, cap, cs, rfl, k1, k2, k3, k4, k5, k6, k7⟩
  · exact exprs_nil w hC h
  · exact exprs_some w hE hC h1 h2 hx k1 k2 k3 k4 k5 k6 k7
end Ck
end Go.Proofs.YtajoncmmdeahnaaGreatDoor
namespace Go.Proofs.YtajoncmmdeahnaaGreatDoor
open Go.RowKit
namespace Ck
theorem CkA.size {w : World} {X : Xc} {F : Fn} {st : Cs} (h : CkA w X F st) : X.base < w.heap.size := by
  obtain ⟨pv, hR⟩ := h
  have h1 := hR.blk.lt
  have h2 := hR.ok.bc
  omega
structure Pl (X : Xc) (g lo hi : Nat) : Prop where
  a : X.low ≤ g
  b : g < lo
  c : hi ≤ X.base
structure NS (X : Xc) (F : Fn) (g o lo hi : Nat) (w wr : World) (n : Nd) (st : Cs) : Prop where
  a : CkA wr X F st
  n : NdI wr g o lo hi n
  fr : FrN X g o lo hi w wr
  blk : ∃ cs, Blk wr g 27 cs
theorem FrN.refl (X : Xc) (g o lo hi : Nat) (w : World) : FrN X g o lo hi w w := ⟨rfl, rfl, rfl, Nat.le_refl _, fun _ _ _ _ _ _ _ _ => rfl, fun _ _ => rfl, fun _ cs h => ⟨cs, h, rfl⟩⟩
theorem NS.start {X : Xc} {F : Fn} {g o lo hi : Nat} {w : World} {n : Nd} {st : Cs} {cs : Array Value} (hC : CkA w X F st) (hn : NdI w g o lo hi n) (hB : Blk w g 27 cs) : NS X F g o lo hi w w n st := ⟨hC, hn, FrN.refl _ _ _ _ _ _, cs, hB⟩
theorem NS.frc {X : Xc} {F : Fn} {g o lo hi : Nat} {w wr w' : World} {n : Nd} {st st' : Cs} (h : NS X F g o lo hi w wr n st) (hp : Pl X g lo hi) (hF : FrC X wr w') (hA : CkA w' X F st') : NS X F g o lo hi w w' n st' := by
  have l1 := NdI.le h.n
  have hs := h.a.size
  have e : ∀ i, i < X.base → w'.heap[i]? = wr.heap[i]? := fun i hi => hF.low hA.ok i hi (by omega)
  have hg : g < X.base := by have := hp.b; have := hp.c; omega
  have eg := e g hg
  obtain ⟨cs, hB⟩ := h.blk
  exact ⟨hA, NdI.kept (fun b _ b2 => e b (by have := hp.c; omega)) (fun j _ _ => World.cell?_of_block eg) h.n, h.fr.trans ((hF.i lo hi).n hA.ok hg (by omega) hp.b), cs, eg.trans hB⟩
theorem NS.grown {X : Xc} {F : Fn} {g o lo hi : Nat} {w wr w' : World} {n : Nd} {st : Cs} (h : NS X F g o lo hi w wr n st) (hp : Pl X g lo hi) (hG : wr.grownBy w' none) : NS X F g o lo hi w w' n st := h.frc hp (FrC.nil hG) (h.a.kept hG)
theorem NS.cells {X : Xc} {F : Fn} {g o lo hi : Nat} {w wr : World} {n : Nd} {st : Cs} (h : NS X F g o lo hi w wr n st) : ∃ p c, wr.cell? ⟨g, o, none⟩ = some (.int .i64 n.kind) ∧ wr.cell? ⟨g, o + 1, none⟩ = some (.int .i64 n.ty) ∧ wr.cell? ⟨g, o + 2, none⟩ = some (.string n.txt) ∧ wr.cell? ⟨g, o + 3, none⟩ = some (.int .i64 n.num) ∧ wr.cell? ⟨g, o + 4, none⟩ = some (.slice p n.kids.length c) ∧ KsI wr lo hi (.slice p n.kids.length c) n.kids ∧ (∀ i, wr.frozen? ⟨g, i, none⟩ = false) := by
  obtain ⟨q, c0, c1, c2, c3, c4, hk⟩ := h.n.cells
  obtain ⟨cs, hB⟩ := h.blk
  rcases ksI_form hk with ⟨e1, e2, _⟩ | ⟨g', cap, cs', e1, _⟩
  · subst e1
    refine ⟨none, 0, c0, c1, c2, c3, ?_, ?_, fun i => hB.frozen i⟩
    · rw [e2]; exact c4
    · rw [e2]; rw [e2] at hk; exact hk
  · subst e1
    exact ⟨_, _, c0, c1, c2, c3, c4, hk, fun i => hB.frozen i⟩
theorem NS.kv {lo hi : Nat} {p : Option Addr} {c : Nat} {wr : World} {n : Nd} (h : KsI wr lo hi (.slice p n.kids.length c) n.kids) : KsV wr (fun _ => True) (.slice p n.kids.length c) n.kids := h.ks (fun _ _ _ => trivial)
theorem NS.kids {X : Xc} {F : Fn} {g o lo hi : Nat} {w wr w' : World} {n : Nd} {st st' : Cs} {p : Option Addr} {c : Nat} {ks : List Nd} (h : NS X F g o lo hi w wr n st) (hp : Pl X g lo hi) (hc : wr.cell? ⟨g, o + 4, none⟩ = some (.slice p n.kids.length c)) (hk : KsI w' lo hi (.slice p n.kids.length c) ks) (hA : CkA w' X F st') (hF : FrI X lo hi wr w') : NS X F g o lo hi w w' (withKids n ks) st' := by
  have l1 := NdI.le h.n
  have hs := h.a.size
  have hg : g < X.base := by have := hp.b; have := hp.c; omega
  have eg := hF.same hA.ok hg (by omega) (fun ⟨q, _⟩ => by have := hp.b; omega)
  obtain ⟨q, c0, c1, c2, c3, c4, _⟩ := h.n.cells
  obtain ⟨cs, hB⟩ := h.blk
  have ec : ∀ j, w'.cell? ⟨g, j, none⟩ = wr.cell? ⟨g, j, none⟩ := fun j => World.cell?_of_block eg
  rw [← ec] at c0 c1 c2 c3 hc
  exact ⟨hA, NdI.mk c0 c1 c2 c3 hc hk, h.fr.trans (hF.n hA.ok hg (by omega) hp.b), cs, eg.trans hB⟩
theorem NS.ty {X : Xc} {F : Fn} {g o lo hi : Nat} {w wr : World} {n : Nd} {st : Cs} (h : NS X F g o lo hi w wr n st) (hp : Pl X g lo hi) (t : Int) : NS X F g o lo hi w (wr.setCell ⟨g, o + 1, none⟩ (.int .i64 t)) (withTy n t) st := by
  have l1 := NdI.le h.n
  have hg : g < X.base := by have := hp.b; have := hp.c; omega
  have hG := grown_set (grown_refl wr (some g)) (o + 1) (.int .i64 t)
  obtain ⟨q, c0, c1, c2, c3, c4, hk⟩ := h.n.cells
  obtain ⟨cs, hB⟩ := h.blk
  have ec : ∀ j, j ≠ o + 1 → (wr.setCell ⟨g, o + 1, none⟩ (.int .i64 t)).cell? ⟨g, j, none⟩ = wr.cell? ⟨g, j, none⟩ := fun j hj => World.cell?_setCell_other _ _ _ _ (by intro e; injection e with _ e; exact hj e.symm)
  refine ⟨h.a.keptG hG hp.a hg, NdI.mk ((ec o (by omega)).trans c0) (World.cell?_setCell_same _ _ _ c1) ((ec (o + 2) (by omega)).trans c2) ((ec (o + 3) (by omega)).trans c3) ((ec (o + 4) (by omega)).trans c4) (hk.kept fun b b1 _ => ?_), h.fr.set (o + 1) _ (by omega) (by omega), _, hB.set (o + 1) _⟩
  have hne : b ≠ g := by have := hp.b; omega
  exact heap_setCell_other _ _ _ _ hne
theorem NS.ok {X : Xc} {F : Fn} {g o lo hi : Nat} {w wr : World} {n : Nd} {st : Cs} (h : NS X F g o lo hi w wr n st) : CkT X F g o lo hi w (.ok (n, st)) (.returned (.tuple #[])) wr := ⟨rfl, h.n, h.a, h.fr⟩
theorem NS.bad {X : Xc} {F : Fn} {g o lo hi : Nat} {w wr w' : World} {n : Nd} {st : Cs} (h : NS X F g o lo hi w wr n st) (hp : Pl X g lo hi) (hF : FrC X wr w') : FrN X g o lo hi w w' := by
  have hs := h.a.size
  have hg : g < X.base := by have := hp.b; have := hp.c; have := NdI.le h.n; omega
  exact h.fr.trans ((hF.i lo hi).n h.a.ok hg (by omega) hp.b)
theorem NS.badI {X : Xc} {F : Fn} {g o lo hi : Nat} {w wr w' : World} {n : Nd} {st : Cs} (h : NS X F g o lo hi w wr n st) (hp : Pl X g lo hi) (hF : FrI X lo hi wr w') : FrN X g o lo hi w w' := by
  have hs := h.a.size
  have hg : g < X.base := by have := hp.b; have := hp.c; have := NdI.le h.n; omega
  exact h.fr.trans (hF.n h.a.ok hg (by omega) hp.b)
end Ck
end Go.Proofs.YtajoncmmdeahnaaGreatDoor
