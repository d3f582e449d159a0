/-
  The checker: forget. The checker: define, returned, callsAlone. The checker: what a call answers.
-/
import Derived.Test.YtajoncmmdeahnaaGreatDoorKCk1
namespace Go.Proofs.YtajoncmmdeahnaaGreatDoor
open Go.RowKit
namespace Ck
theorem drops_snoc (s : ByteArray) : ∀ (l : List ByteArray) (f : Fm), drops f (l ++ [s]) = Mp.del (drops f l) s
  | [], _ => rfl
  | x :: r, f => drops_snoc s r (Mp.del f x)
theorem row_cut {w : World} {base n cap : Nat} {pa : Option Addr} {xs : List Value} (h : w.ownsRow base 9 1 (.slice pa n cap) n xs) (k : Nat) (hk : k ≤ n) : w.ownsRow base 9 1 (.slice pa k cap) k (xs.take k) := by
  obtain ⟨h1, h2⟩ := h
  refine ⟨by rw [List.length_take, h1]; omega, ?_⟩
  rcases h2 with ⟨e, h3⟩ | ⟨g, cap', cur, e, hb, hg, hn, hc, hs, hx⟩
  · left
    injection e with e1 e2 e3
    subst e1; subst e3
    refine ⟨by rw [show k = 0 by omega], by omega⟩
  · right
    injection e with e1 e2 e3
    subst e1; subst e3
    refine ⟨g, cap, cur, rfl, hb, hg, by omega, hc, hs, ?_⟩
    rw [← hx, List.take_take]
    congr 1
    omega
theorem CkR.vars_drop {w w' : World} {X : Xc} {F : Fn} {st : Cs} {pv : Value} (h : CkR w X F st pv) (hg : w.grownBy w' (some X.mv)) (f : Fm) (hf : Mp.MapR w' X.mv st.ops (iM f)) : CkR w' X F { st with vars := f } pv := by
  have h2 := h.vars_set hg f (hf.more (Nat.le_succ _))
  exact ⟨h2.ok, h2.blk, h2.fns, hf, h.tak.kept hg (fun e => h.ok.vt (Option.some.inj e).symm), h2.row, h2.short, h2.gl⟩
theorem row_cell {w : World} {base n cap g : Nat} {l : List ByteArray} (h : w.ownsRow base 9 1 (.slice (some ⟨g, 0, none⟩) n cap) n (l.map Value.string)) (i : Nat) (hi : i < l.length) : w.cell? ⟨g, i, none⟩ = some (.string l[i]) := by
  have h1 := h.cellAt (g := g) i (by have := h.1; rw [List.length_map] at this; omega)
  rw [h1, List.getElem?_map, List.getElem?_eq_getElem hi]
  rfl
/-- The row of names that pass, cut. -/
theorem CkR.cut {w : World} {X : Xc} {F : Fn} {st : Cs} {pa : Option Addr} {n cap : Nat} (h : CkR w X F st (.slice pa n cap)) (k : Nat) (hk : k ≤ st.pass.length) :
    CkR (w.setCell ⟨X.c, 2, none⟩ (.slice pa k cap)) X F { st with pass := st.pass.take k } (.slice pa k cap) ∧ FrC X w (w.setCell ⟨X.c, 2, none⟩ (.slice pa k cap)) := by
  have hbc := h.ok.bc
  have hl := h.ok.lb
  have gC := grown_set (grown_refl w (some X.c)) 2 (.slice pa k cap)
  have hn : n = st.pass.length := by
    obtain ⟨pa', cap', e, _⟩ := Lw.row_form h.row
    injection e
  subst hn
  have hr := row_cut h.row k hk
  refine ⟨⟨h.ok, by have := h.blk.set 2 (.slice pa k cap); simpa using this, h.fns.setc h.blk 2 _, h.vars.kept gC (fun e => h.vars.ne h.blk (Option.some.inj e).symm), h.tak.kept gC (fun e => h.tak.ne h.blk (Option.some.inj e).symm), ?_, fun x hx => h.short x (List.mem_of_mem_take hx), h.gl.keptR gC (fun k e => by injection e with e; omega)⟩, FrC.c gC⟩
  show World.ownsRow _ _ _ _ _ (st.pass.take k).length _
  rw [List.length_take, Nat.min_eq_left hk, List.map_take]
  refine World.ownsRow.kept hr gC ?_
  cases hv : (Value.slice pa k cap).ownBlock with
  | none => exact Or.inl rfl
  | some r =>
    refine Or.inr (fun e => ?_)
    obtain ⟨_, cs, hs⟩ := row_block hr r hv
    have e2 : r = X.c := Option.some.inj e
    subst e2
    have B1 := h.blk
    unfold Blk at B1 hs
    rw [B1] at hs
    injection hs with hs
    injection hs with _ hs
    exact absurd hs (by decide)
set_option maxRecDepth 100000 in
set_option maxHeartbeats 4000000 in
theorem forget_any (k : Nat) {X : Xc} {F : Fn} {st : Cs} (w : World) (hC : CkA w X F st) (hx : forgetC k st ≠ .error none) :
    Calls Tryz.prog 140 #[.pointer (some ⟨X.c, 0, none⟩), .int .i64 k] w (CkP uK X F w (forgetC k st)) := by
  obtain ⟨pv, hR⟩ := hC
  unfold forgetC at hx ⊢
  by_cases hk : st.pass.length < k
  · rw [if_pos hk] at hx
    exact absurd rfl hx
  rw [if_neg hk]
  clear hx
  obtain ⟨pa, cap, rfl, hcap, hmax, hnil⟩ := Lw.row_form hR.row
  have c2 := hR.blk.cell 2
  simp at c2
  have HR := hid hR
  have hpa : ∀ i, i < st.pass.length → ∃ g, pa = some ⟨g, 0, none⟩ := fun i hi => by
    rcases hR.row.2 with ⟨e, h0⟩ | ⟨g, cap', cur, e, _⟩
    · omega
    · injection e with e1
      exact ⟨g, e1⟩
  have HP := hid hpa
  obtain ⟨n, hn⟩ : ∃ n, st.pass.length = n := ⟨_, rfl⟩
  have HN := hid (And.intro hn trivial)
  rw [hn] at c2 hk hcap
  have k0 : (0 : Int) ≤ k := by omega
  have k1 : (k : Int) ≤ n := by omega
  have k2 : (k : Int) ≤ cap := by omega
  have k3 : (n : Int) ≤ cap := by omega
  clear hR hpa hn
  by_cases hkn : n = k
  · have hz : st.pass.drop k = [] := by
      rw [List.drop_eq_nil_of_le]
      have := HN.out.1
      omega
    have ht : st.pass.take k = st.pass := List.take_of_length_le (by have := HN.out.1; omega)
    have HT : Hid (st.pass.take n = st.pass ∧ True) := hid ⟨List.take_of_length_le (by have := HN.out.1; omega), trivial⟩
    rw [hz, ht]
    subst hkn
    have D0 : Hid (drops st.vars [] = st.vars ∧ True) := hid ⟨rfl, trivial⟩
    have R0 : Hid (CkR w X F st (.slice pa n cap)) := by have h := HR.out; rw [HN.out.1] at h; exact hid h
    have f2 := R0.out.blk.frozen 2
    clear hz ht HR
    go_enter Tryz.func140, Tryz.ntmps140
    go_wp2_with fail
    all_goals
      go_loopw [13] (fun i wr => i = .int .i64 0 ∧ wr = w) (fun _ _ => 0)
      case atStart => exact ⟨rfl, rfl⟩
      case round =>
        obtain ⟨rfl, hw⟩ := hrel
        replace hw := hw.symm
        subst hw
        have RC := hid (R0.out.cut n (by have := HN.out.1; omega))
        go_wp2_with fail
        go_end0
        obtain ⟨q1, q2⟩ := RC.out
        rw [HT.out.1] at q1
        first
          | exact ⟨_, rfl, rfl, ⟨_, q1⟩, q2⟩
          | (have h9 : cap = n := by assumption
             rw [h9] at q1 q2
             exact ⟨_, rfl, rfl, ⟨_, q1⟩, q2⟩)
  · obtain ⟨g, rfl⟩ := HP.out k (by have := HN.out.1; omega)
    have hc0 : ¬ cap = k := by omega
    have hc1 : ¬ (cap : Int) = k := by omega
    obtain ⟨m, hm⟩ : ∃ m, n - k = m := ⟨_, rfl⟩
    have HM := hid (And.intro hm trivial)
    have m9 : (m : Int) ≤ 9223372036854775807 := by have : cap ≤ 9223372036854775807 := hmax; omega
    have R0 : Hid (CkR w X F st (.slice (some ⟨g, 0, none⟩) n cap)) := by have h := HR.out; rw [HN.out.1] at h; exact hid h
    have HL : Hid ((st.pass.drop k).length = m ∧ True) := hid ⟨by rw [List.length_drop]; have := HN.out.1; omega, trivial⟩
    obtain ⟨D, hD⟩ : ∃ D, st.pass.drop k = D := ⟨_, rfl⟩
    have HD := hid (And.intro hD trivial)
    rw [hD] at HL
    rw [hD]
    clear hD HR hkn
    go_enter Tryz.func140, Tryz.ntmps140
    go_wp2_with fail
    go_loopw [13, 5] (fun i nm wr => ∃ (j : Nat), i = .int .i64 j ∧ j ≤ m ∧ CkR wr X F { st with vars := drops st.vars (D.take j) } (.slice (some ⟨g, 0, none⟩) n cap) ∧ FrC X w wr) (fun i _ _ => m - (intOf i).toNat)
    case atStart => exact ⟨0, rfl, Nat.zero_le _, R0.out, FrC.refl _ _⟩
    case round =>
      obtain ⟨j, rfl, hj, hR, hF⟩ := hrel
      have RR := hid hR
      have FF := hid hF
      have j0 : (0 : Int) ≤ j := by omega
      clear hR hF R0
      by_cases hlt : j < m
      · have j1 : (j : Int) < m := by omega
        have hjD : j < D.length := by have := HL.out.1; omega
        have hkp : k + j < st.pass.length := by have := HN.out.1; have := HM.out.1; omega
        have eD : st.pass[k + j] = D[j] := by
          have := HD.out.1
          subst this
          rw [List.getElem_drop]
        have cc : wr.cell? ⟨g, k + j, none⟩ = some (.string D[j]) := by
          have h := RR.out.row
          have hn := HN.out.1
          have h2 : wr.ownsRow X.base 9 1 (.slice (some ⟨g, 0, none⟩) n cap) n (st.pass.map Value.string) := by rw [← hn]; rw [← hn] at h; exact h
          have h3 := row_cell h2 (k + j) hkp
          rw [eD] at h3
          exact h3
        have SZ := hid (Nat.le_trans (RR.out.short _ (List.getElem_mem hkp)) maxLen_ge)
        rw [eD] at SZ
        have ET := hid (And.intro (List.take_succ_eq_append_getElem hjD) trivial)
        have c1 := RR.out.blk.cell 1
        simp at c1
        generalize D[j] = dj at *
        have HJ := hid (And.intro hlt hjD)
        clear eD
        go_wp2_with (at_delete; refine Mp.at_drop RR.out.vars Tryz.underlying99 dj SZ.out _ _ rfl rfl rfl rfl ?_; intro w1 hm hg; have R1 := hid (RR.out.vars_drop hg (Mp.del (drops st.vars (D.take j)) dj) (hm.congr (fun x => by unfold iM Mp.del; cases Mp.same x dj <;> rfl))); have F1 : Hid (FrC X wr w1) := hid (FrC.of hg (fun r e => by injection e with e; exact Or.inr (Or.inl e.symm))); clear hm hg)
        go_round
        case rel => exact ⟨j + 1, by go_num, by have h9 := HJ.out.1; omega, by rw [ET.out.1, drops_snoc]; exact R1.out, FF.out.trans F1.out⟩
        case measure => have h9 := HJ.out.1; simp [intOf]; omega
      · have j1 : ¬ (j : Int) < m := by omega
        have e : D.take j = D := List.take_of_length_le (by have := HL.out.1; omega)
        have RC := hid (RR.out.cut k (by have h1 := HN.out.1; show k ≤ st.pass.length; omega))
        rw [e] at RC
        have c2 := RR.out.blk.cell 2
        simp at c2
        have f2 := RR.out.blk.frozen 2
        clear e
        go_wp2_with fail
        go_end0
        exact ⟨_, rfl, rfl, ⟨_, RC.out.1⟩, FF.out.trans RC.out.2⟩
end Ck
end Go.Proofs.YtajoncmmdeahnaaGreatDoor
namespace Go.Proofs.YtajoncmmdeahnaaGreatDoor
open Go.RowKit
namespace Ck
theorem fits_ne (n : Nd) (t : Int) (st : Cs) : fitsC n t st ≠ .error none := by
  unfold fitsC
  by_cases h : n.kids.length = 1 ∧ kidT n.kids 0 ≠ t
  · rw [if_pos h]
    intro e
    have e2 : (Except.error (some 122) : Rk Unit) = .error none := e
    injection e2 with e2
    cases e2
  · rw [if_neg h]
    intro e
    cases e
section
variable (n : Nd) (p : Option Addr) (c : Nat) (P : Nat → Prop) {X : Xc} {F : Fn} {st : Cs} (w : World) (hC : CkA w X F st) (hk : KsV w P (.slice p n.kids.length c) n.kids)
include hC hk
set_option maxRecDepth 100000 in
set_option maxHeartbeats 1000000 in
theorem define_any (hx : defineC n st ≠ .error none) : Calls Tryz.prog 248 #[.pointer (some ⟨X.c, 0, none⟩), .agg #[.int .i64 n.kind, .int .i64 n.ty, .string n.txt, .int .i64 n.num, .slice p n.kids.length c]] w (CkP uK X F w (defineC n st)) := by
  unfold defineC at hx ⊢
  have C179 : Hid (∀ W, w.grownBy W none → Calls Tryz.prog 179 #[.pointer (some ⟨X.c, 0, none⟩), .string n.txt, .int .i64 (if n.kids.length = 0 then 0 else kidT n.kids 0)] W (CkP uK X F W (knowC n.txt (if n.kids.length = 0 then 0 else kidT n.kids 0) st))) := fun W hW => know_any _ _ W (hC.kept hW) hx
  have HX := hid hx
  by_cases h0 : n.kids.length = 0
  · rw [if_pos h0] at C179 HX ⊢
    have e0 : decide ((0 : Int) < (n.kids.length : Int)) = false := by rw [decide_eq_false_iff_not]; omega
    rw [h0] at e0 ⊢
    clear hx hk hC
    generalize knowC n.txt 0 st = K at *
    go_enter Tryz.func248, Tryz.ntmps248
    go_wp2_with (go_at_call 179; refine (C179.out _ (grown_alloc (grown_refl w none) _)).mono ?_; intro e w1 hh; rcases CkP.cases hh HX.out with ⟨m, hz, rfl, hF⟩ | ⟨a, s2, v, hz, rfl, hv, hA, hF⟩; (case inl => exact ⟨rfl, by rw [hz]; exact ⟨rfl, (FrC.nil (grown_alloc (grown_refl w none) _)).trans hF⟩⟩); have hv' : v = _ := hv; subst hv'; have HZ := hid (And.intro hz trivial); have HA := hid hA; have HF := hid ((FrC.nil (grown_alloc (grown_refl w none) _)).trans hF); clear hz hA hF hh)
    go_end0
    rw [HZ.out.1]
    exact ⟨_, rfl, rfl, HA.out, HF.out⟩
  · rw [if_neg h0] at C179 HX ⊢
    obtain ⟨g, rfl, c0, c1⟩ := kid_at hk 0 (by omega)
    clear c0
    rw [← kidT_at (ks := n.kids) (i := 0) (by omega)] at c1
    have e0 : decide ((0 : Int) < (n.kids.length : Int)) = true := by rw [decide_eq_true_eq]; omega
    have e1 : (0 : Int) < (n.kids.length : Int) := by omega
    have d1 := keep_al c1 (.cells #[.int .i64 n.kind, .int .i64 n.ty, .string n.txt, .int .i64 n.num, .slice (some ⟨g, 0, none⟩) n.kids.length c] 27)
    have hg := cell_lt c1
    have hne : g ≠ w.heap.size := by omega
    clear hx hk hC h0
    generalize n.kids.length = l at *
    generalize kidT n.kids 0 = t0 at *
    generalize knowC n.txt t0 st = K at *
    go_enter Tryz.func248, Tryz.ntmps248
    go_wp2_with (go_at_call 179; refine (C179.out _ (grown_alloc (grown_refl w none) _)).mono ?_; intro e w1 hh; rcases CkP.cases hh HX.out with ⟨m, hz, rfl, hF⟩ | ⟨a, s2, v, hz, rfl, hv, hA, hF⟩; (case inl => exact ⟨rfl, by rw [hz]; exact ⟨rfl, (FrC.nil (grown_alloc (grown_refl w none) _)).trans hF⟩⟩); have hv' : v = _ := hv; subst hv'; have HZ := hid (And.intro hz trivial); have HA := hid hA; have HF := hid ((FrC.nil (grown_alloc (grown_refl w none) _)).trans hF); clear hz hA hF hh)
    go_end0
    rw [HZ.out.1]
    exact ⟨_, rfl, rfl, HA.out, HF.out⟩
theorem returned_any : Calls Tryz.prog 249 #[.pointer (some ⟨X.c, 0, none⟩), .agg #[.int .i64 n.kind, .int .i64 n.ty, .string n.txt, .int .i64 n.num, .slice p n.kids.length c]] w (CkP uK X F w (returnedC n st)) := by
  unfold returnedC
  obtain ⟨pv, hR⟩ := hC
  have c7 := (hR.blk.alloc (.cells #[.int .i64 n.kind, .int .i64 n.ty, .string n.txt, .int .i64 n.num, .slice p n.kids.length c] 27)).cell 7
  have c8 := (hR.blk.alloc (.cells #[.int .i64 n.kind, .int .i64 n.ty, .string n.txt, .int .i64 n.num, .slice p n.kids.length c] 27)).cell 8
  simp at c7 c8
  have hcl := hR.blk.lt
  have C97 : Hid (∀ W, Calls Tryz.prog 97 #[.int .i64 (124 : Nat)] W fun e w' => e = .panicked (RjV 124) ∧ w' = W) := fun W => reject_any 124 W
  have C135 : Hid (∀ W, w.grownBy W none → Calls Tryz.prog 135 #[.agg #[.int .i64 n.kind, .int .i64 n.ty, .string n.txt, .int .i64 n.num, .slice p n.kids.length c], .int .i64 st.an] W (CkP uK X F W (fitsC n st.an st))) := fun W hW => fits_any n p c st.an P W ⟨pv, hR.kept hW⟩ (hk.kept hW)
  have hne : X.c ≠ w.heap.size := by omega
  clear hk hR
  cases ht : st.te with
  | true =>
    rw [ht] at c7
    rw [if_pos rfl]
    clear C135 c8 ht
    go_enter Tryz.func249, Tryz.ntmps249
    go_wp2_with (go_at_call 97; refine (C97.out _).mono ?_; rintro e w1 ⟨rfl, hw⟩; replace hw := hw.symm; subst hw; clear C97)
    exact ⟨rfl, rfl, FrC.nil (grown_alloc (grown_refl w none) _)⟩
  | false =>
    rw [ht] at c7
    rw [if_neg (by decide)]
    have HX : Hid (fitsC n st.an st ≠ .error none) := hid (fits_ne n st.an st)
    generalize fitsC n st.an st = K at *
    clear ht C97
    have GD := hid (grown_drew (grown_alloc (grown_refl w none) (.cells #[.int .i64 n.kind, .int .i64 n.ty, .string n.txt, .int .i64 n.num, .slice p n.kids.length c] 27)))
    go_enter Tryz.func249, Tryz.ntmps249
    go_wp2_with fail
    go_region_law (go_simp; go_at_call 135; refine (C135.out _ GD.out).mono ?_; intro e w1 hh; rcases CkP.cases hh HX.out with ⟨m, hz, rfl, hF⟩ | ⟨a, s2, v, hz, rfl, hv, hA, hF⟩; (case inl => exact ⟨rfl, by rw [hz]; exact ⟨rfl, (FrC.nil GD.out).trans hF⟩⟩); have hv' : v = _ := hv; subst hv'; have HZ := hid (And.intro hz trivial); have HA := hid hA; have HF := hid ((FrC.nil GD.out).trans hF); clear hz hA hF hh)
    all_goals
      go_wp2_with fail
      go_end0
      rw [HZ.out.1]
      exact ⟨_, rfl, rfl, HA.out, HF.out⟩
end
end Ck
end Go.Proofs.YtajoncmmdeahnaaGreatDoor
namespace Go.Proofs.YtajoncmmdeahnaaGreatDoor
open Go.RowKit
namespace Ck
theorem zero103 (w : World) : (zeroValue 103).run Tryz.prog w = .ok (.agg #[.slice none 0 0, .int .i64 0]) w := by kernel_rfl
set_option maxRecDepth 100000 in
set_option maxHeartbeats 2000000 in
theorem call_none (n : Nd) (p : Option Addr) (c : Nat) {X : Xc} {F : Fn} {st : Cs} (w : World) (hC : CkA w X F st) (hs : n.txt.size ≤ 1000000) (hF : F n.txt = none) :
    Calls Tryz.prog 213 #[.pointer (some ⟨X.c, 0, none⟩), .agg #[.int .i64 n.kind, .int .i64 n.ty, .string n.txt, .int .i64 n.num, .slice p n.kids.length c]] w (AnP false 121 0 w) := by
  obtain ⟨pv, hR⟩ := hC
  have HB := hid (grown_drew (grown_alloc (grown_refl w none) (.cells #[.int .i64 n.kind, .int .i64 n.ty, .string n.txt, .int .i64 n.num, .slice p n.kids.length c] 27)))
  have HB2 := hid (grown_drew (grown_alloc (grown_alloc (grown_refl w none) (.cells #[.int .i64 n.kind, .int .i64 n.ty, .string n.txt, .int .i64 n.num, .slice p n.kids.length c] 27)) (.cells #[.slice none 0 0, .int .i64 0] 103)))
  obtain ⟨m, f, hm, hf⟩ := hR.fns
  have h0 := hf n.txt
  rw [hF] at h0
  have L1 := (hm.kept HB.out (by simp)).look Tryz.underlying98 (zero103 _) n.txt (Nat.le_trans hs maxLen_ge)
  have L2 := (hm.kept HB2.out (by simp)).look Tryz.underlying98 (zero103 _) n.txt (Nat.le_trans hs maxLen_ge)
  simp only at h0
  rw [h0] at L1 L2
  simp only [Option.getD_none, Option.isSome_none] at L1 L2
  have c0 := (hR.kept HB.out).blk.cell 0
  have c1 := (hR.kept HB2.out).blk.cell 0
  simp at c0 c1
  have C97 : Hid (∀ W, Calls Tryz.prog 97 #[.int .i64 (121 : Nat)] W fun e w' => e = .panicked (RjV 121) ∧ w' = W) := fun W => reject_any 121 W
  have hcl := hR.blk.lt
  have hne : X.c ≠ w.heap.size := by omega
  have hne2 : X.c ≠ w.heap.size + 1 := by omega
  clear hR hm hf hF hs h0
  go_enter Tryz.func213, Tryz.ntmps213
  go_wp2_with fail
  go_region_law (fail)
  all_goals
    go_wp2_with (go_at_call 97; refine (C97.out _).mono ?_; rintro e w9 ⟨rfl, hw⟩; replace hw := hw.symm; subst hw; clear C97)
    exact ⟨rfl, rfl, HB2.out⟩
def mtB : List Int → List Nd → Bool
  | p :: ps, x :: xs => x.ty == p && mtB ps xs
  | _, _ => true
theorem callL_eq (a : Int) (st : Cs) : ∀ (ps : List Int) (ks : List Nd), (callL ps ks >>= fun _ => (pure a : Ck Int)) st = if mtB ps ks = true then .ok (a, st) else .error (some 122)
  | [], _ => rfl
  | _ :: _, [] => rfl
  | p :: ps, x :: xs => by
    have ih := callL_eq a st ps xs
    unfold callL mtB
    cases h : (x.ty == p) with
    | true =>
      rw [Bool.true_and]
      exact ih
    | false => rfl
theorem mtB_step (ps : List Int) (ks : List Nd) (j : Nat) (h1 : j < ps.length) (h2 : j < ks.length) : mtB (ps.drop j) (ks.drop j) = ((ks[j]).ty == ps[j] && mtB (ps.drop (j + 1)) (ks.drop (j + 1))) := by
  rw [List.drop_eq_getElem_cons h1, List.drop_eq_getElem_cons h2]
  rfl
theorem mtB_end (ps : List Int) (ks : List Nd) (j : Nat) (h : ps.length ≤ j) : mtB (ps.drop j) (ks.drop j) = true := by
  rw [List.drop_eq_nil_of_le h]
  rfl
theorem int_cell {w : World} {base : Nat} {pa : Option Addr} {ps : List Int} (h : IntR w base pa ps) (j : Nat) (hj : j < ps.length) : ∃ g, pa = some ⟨g, 0, none⟩ ∧ w.cell? ⟨g, j, none⟩ = some (.int .i64 ps[j]) := by
  rcases h with h | ⟨g, cs, h1, _, h3, h4⟩
  · rw [h] at hj
    cases hj
  · refine ⟨g, h1, ?_⟩
    rw [h3.cell]
    exact h4 j _ (List.getElem?_eq_getElem hj)
set_option maxRecDepth 100000 in
set_option maxHeartbeats 4000000 in
theorem call_some (n : Nd) (p : Option Addr) (c : Nat) (P : Nat → Prop) {X : Xc} {F : Fn} {st : Cs} (w : World) (hC : CkA w X F st) (hk : KsV w P (.slice p n.kids.length c) n.kids) (hs : n.txt.size ≤ 1000000) (ps : List Int) (a : Int) (hF : F n.txt = some (ps, a)) :
    Calls Tryz.prog 213 #[.pointer (some ⟨X.c, 0, none⟩), .agg #[.int .i64 n.kind, .int .i64 n.ty, .string n.txt, .int .i64 n.num, .slice p n.kids.length c]] w (AnP (decide (n.kids.length = ps.length) && mtB ps n.kids) (if n.kids.length = ps.length then 122 else 123) a w) := by
  obtain ⟨pv, hR⟩ := hC
  have HB := hid (grown_drew (grown_alloc (grown_refl w none) (.cells #[.int .i64 n.kind, .int .i64 n.ty, .string n.txt, .int .i64 n.num, .slice p n.kids.length c] 27)))
  have HB2 := hid (grown_drew (grown_alloc (grown_alloc (grown_refl w none) (.cells #[.int .i64 n.kind, .int .i64 n.ty, .string n.txt, .int .i64 n.num, .slice p n.kids.length c] 27)) (.cells #[.slice none 0 0, .int .i64 0] 103)))
  obtain ⟨m, f, hm, hf⟩ := hR.fns
  have h0 := hf n.txt
  rw [hF] at h0
  obtain ⟨pa, cap, e0, q1, q2, q3⟩ := h0
  have HB3 := hid (grown_drew (grown_alloc (grown_alloc (grown_refl w none) (.cells #[.int .i64 n.kind, .int .i64 n.ty, .string n.txt, .int .i64 n.num, .slice p n.kids.length c] 27)) (.cells #[.slice pa ps.length cap, .int .i64 a] 103)))
  have L1 := (hm.kept HB.out (by simp)).look Tryz.underlying98 (zero103 _) n.txt (Nat.le_trans hs maxLen_ge)
  have L2 := (hm.kept HB2.out (by simp)).look Tryz.underlying98 (zero103 _) n.txt (Nat.le_trans hs maxLen_ge)
  rw [e0] at L1 L2
  simp only [Option.getD_some, Option.isSome_some] at L1 L2
  have c0 := (hR.kept HB.out).blk.cell 0
  have c1 := (hR.kept HB2.out).blk.cell 0
  simp at c0 c1
  have C97 : Hid (∀ W, Calls Tryz.prog 97 #[.int .i64 (123 : Nat)] W fun e w' => e = .panicked (RjV 123) ∧ w' = W) := fun W => reject_any 123 W
  have C245 : Hid (∀ W (x : Bool), Calls Tryz.prog 245 #[.bool x] W fun e w' => (if x = true then e = .returned (.tuple #[]) else e = .panicked (RjV 122)) ∧ w' = W) := fun W x => need_any x W
  have hcl := hR.blk.lt
  have hne : X.c ≠ w.heap.size := by omega
  have hne2 : X.c ≠ w.heap.size + 1 := by omega
  have QI : Hid (IntR (((w.alloc (.cells #[.int .i64 n.kind, .int .i64 n.ty, .string n.txt, .int .i64 n.num, .slice p n.kids.length c] 27)).alloc (.cells #[.slice pa ps.length cap, .int .i64 a] 103)).drew) X.base pa ps) := hid (q3.kept (fun g cs _ hB => hB.kept HB3.out (by simp)))
  have QK := hid (hk.kept HB3.out)
  have B0 : Hid (Blk (((w.alloc (.cells #[.int .i64 n.kind, .int .i64 n.ty, .string n.txt, .int .i64 n.num, .slice p n.kids.length c] 27)).alloc (.cells #[.slice pa ps.length cap, .int .i64 a] 103)).drew) w.heap.size 27 #[.int .i64 n.kind, .int .i64 n.ty, .string n.txt, .int .i64 n.num, .slice p n.kids.length c]) := hid (((Blk.new w 27 _).alloc _).drew)
  have B1 : Hid (Blk (((w.alloc (.cells #[.int .i64 n.kind, .int .i64 n.ty, .string n.txt, .int .i64 n.num, .slice p n.kids.length c] 27)).alloc (.cells #[.slice pa ps.length cap, .int .i64 a] 103)).drew) (w.heap.size + 1) 103 #[.slice pa ps.length cap, .int .i64 a]) := by
    have h := (Blk.new (w.alloc (.cells #[.int .i64 n.kind, .int .i64 n.ty, .string n.txt, .int .i64 n.num, .slice p n.kids.length c] 27)) 103 #[.slice pa ps.length cap, .int .i64 a]).drew
    rw [World.size_alloc] at h
    exact hid h
  have QL := hid (Nat.le_trans q1 q2)
  clear hR hm hf hF hs e0 q1 q2 q3 hk
  cases hc : decide (n.kids.length = ps.length) with
  | false =>
    have hc2 := of_decide_eq_false hc
    rw [Bool.false_and, if_neg hc2]
    have e1 : ((n.kids.length : Int) != (ps.length : Int)) = true := by simp only [bne_iff_ne]; omega
    clear hc hc2 C245
    go_enter Tryz.func213, Tryz.ntmps213
    go_wp2_with fail
    go_region_law (fail)
    all_goals
      go_wp2_with (go_at_call 97; refine (C97.out _).mono ?_; rintro e w9 ⟨rfl, hw⟩; replace hw := hw.symm; subst hw; clear C97)
      exact ⟨rfl, rfl, HB3.out⟩
  | true =>
    have hc2 := of_decide_eq_true hc
    rw [Bool.true_and, if_pos hc2]
    have e1 : ((n.kids.length : Int) != (ps.length : Int)) = false := by rw [hc2]; simp
    have HE := hid (And.intro hc2 trivial)
    clear hc hc2 C97
    obtain ⟨R, hR⟩ : ∃ R, mtB ps n.kids = R := ⟨_, rfl⟩
    have HR : Hid (mtB (ps.drop 0) (n.kids.drop 0) = R ∧ True) := hid ⟨by rw [List.drop_zero, List.drop_zero]; exact hR, trivial⟩
    rw [hR]
    clear hR
    go_enter Tryz.func213, Tryz.ntmps213
    go_wp2_with fail
    go_region_law (fail)
    all_goals
      go_wp2_with fail
      generalize (((w.alloc (.cells #[.int .i64 n.kind, .int .i64 n.ty, .string n.txt, .int .i64 n.num, .slice p n.kids.length c] 27)).alloc (.cells #[.slice pa ps.length cap, .int .i64 a] 103)).drew) = w0 at *
      have b4 := B0.out.cell 4
      have b0 := B1.out.cell 0
      have b1 := B1.out.cell 1
      simp at b4 b0 b1
      clear L1 L2 c0 c1 hne hne2 hcl e1
      have mm : (ps.length : Int) ≤ 9223372036854775807 := by have : ps.length ≤ 9223372036854775807 := QL.out; omega
      go_loopw [33, 7, 8] (fun i _ _ wr => ∃ (j : Nat), i = .int .i64 j ∧ j ≤ ps.length ∧ Hid (mtB (ps.drop j) (n.kids.drop j) = R ∧ True) ∧ wr = w0) (fun i _ _ _ => ps.length - (intOf i).toNat)
      case atStart => exact ⟨0, rfl, Nat.zero_le _, HR, rfl⟩
      case round =>
        obtain ⟨j, rfl, hj, HJ, hw⟩ := hrel
        replace hw := hw.symm
        subst hw
        have j0 : (0 : Int) ≤ j := by omega
        clear HR
        by_cases hlt : j < ps.length
        · have j1 : (j : Int) < ps.length := by omega
          have hjk : j < n.kids.length := by have := HE.out.1; omega
          have HJ2 := HJ.out.1
          rw [mtB_step ps n.kids j hlt hjk] at HJ2
          obtain ⟨gi, rfl, ci⟩ := int_cell QI.out j hlt
          obtain ⟨gk, rfl, ck0, ck⟩ := kid_at QK.out j hjk
          have jk : (j : Int) < n.kids.length := by omega
          rw [Nat.mul_comm 5 j] at ck
          have HK := hid (And.intro hlt trivial)
          generalize (n.kids[j]).ty = kt at *
          generalize ps[j] = pt at *
          clear ck0
          cases hb : (kt == pt) with
          | true =>
            rw [hb, Bool.true_and] at HJ2
            have NX := hid (And.intro HJ2 trivial)
            clear HJ2 HJ
            go_wp2_with (go_at_call 245; refine (C245.out _ _).mono ?_; rintro e w9 ⟨h9, hw⟩; replace hw := hw.symm; subst hw; (try simp only [reduceIte] at h9); subst h9)
            go_round
            case rel => exact ⟨j + 1, by go_num, by have := HK.out.1; omega, NX, by first | rfl | trivial⟩
            case measure => have := HK.out.1; simp [intOf]; omega
          | false =>
            rw [hb, Bool.false_and] at HJ2
            subst HJ2
            clear HJ
            go_wp2_with (go_at_call 245; refine (C245.out _ _).mono ?_; rintro e w9 ⟨h9, hw⟩; replace hw := hw.symm; subst hw; (try simp only [reduceIte, Bool.false_eq_true] at h9); subst h9)
            exact ⟨rfl, rfl, HB3.out⟩
        · have j1 : ¬ (j : Int) < ps.length := by omega
          have HJ2 := HJ.out.1
          rw [mtB_end ps n.kids j (by omega)] at HJ2
          subst HJ2
          clear HJ
          go_wp2_with fail
          go_ret
          exact ⟨rfl, HB3.out⟩
end Ck
end Go.Proofs.YtajoncmmdeahnaaGreatDoor
