/-
  The checker: what a call must know of a function. The checker over trees: expression. The checker over trees: callsAlone. The checker over trees: a statement without blocks.
-/
import Derived.Test.YtajoncmmdeahnaaGreatDoorKCk9
namespace Go.Proofs.YtajoncmmdeahnaaGreatDoor
open Go.RowKit
namespace Ck
theorem info3 : (Tryz.prog.info? 3).map (fun i => (i.zero, i.size, i.bytes)) = some (some (.int .i64 0), 1, 8) := by kernel_rfl
section
variable {ops : Array Oper} {rest : List Oper} {o : Oper} {a : Act} {Q : Exit → Act → World → Prop} {w : World}
theorem append_i3 (base : Nat) (v : Value) (l : List Value) (t : Int) (ad : Addr) (cc : Nat) (hrow : w.ownsRow base 3 1 v l.length l) (hcell : w.cell? ad = some (.int .i64 t)) (hl : l.length ≤ 1000000) (hbase : base ≤ w.heap.size) (s x : Operand)
    (hgd : o.guard = none) (ho : o.op = .call { callee := .builtin .append, args := #[s, x], argTypes := #[22, 22] }) (hs : a.eval s = v) (hx : a.eval x = .slice (some ad) 1 cc)
    (h : ∀ v' w', w'.ownsRow base 3 1 v' (l.length + 1) (l ++ [.int .i64 t]) → w.grownBy w' v.ownBlock → wpList Tryz.prog ops Q rest (a.put o.dst v') w') : wpList Tryz.prog ops Q (o :: rest) a w := by
  obtain ⟨i3, hi, hz0, hz1, hz2⟩ := info_parts info3
  refine wpList_append_own w hgd s x 22 ho base 3 i3 _ 1 8 Tryz.underlying22 hi hz0 hz1 hz2 rfl (by decide) v l.length l hs hrow ad 1 cc [.int .i64 t] hx rfl (fun j u hj => ?_) (fun u hu => ?_) (by unfold maxLen; omega) (by omega) hbase ?_
  · rcases j with _ | j
    · have e : Value.int .i64 t = u := Option.some.inj hj
      have e2 : ad.add 0 = ad := rfl
      rw [e2, ← e]
      exact hcell
    · exact absurd hj (by simp)
  · rw [List.mem_singleton] at hu
    rw [hu]; rfl
  · intro v' w' h2 h3 _
    exact h v' w' h2 h3
end
def pOf (ks : List Nd) : List Int := (ks.filter fun x => x.kind == 5).map Nd.ty
theorem pOf_snoc (l : List Nd) (x : Nd) : pOf (l ++ [x]) = if x.kind = 5 then pOf l ++ [x.ty] else pOf l := by
  unfold pOf
  rw [List.filter_append, List.map_append]
  by_cases h : x.kind = 5
  · rw [if_pos h]
    simp [h]
  · rw [if_neg h]
    have : (x.kind == 5) = false := by rw [beq_eq_false_iff_ne]; exact h
    simp [this]
theorem pOf_yes (l : List Nd) (x : Nd) (h : x.kind = 5) : pOf (l ++ [x]) = pOf l ++ [x.ty] := by rw [pOf_snoc, if_pos h]
theorem pOf_no (l : List Nd) (x : Nd) (h : x.kind ≠ 5) : pOf (l ++ [x]) = pOf l := by rw [pOf_snoc, if_neg h]
theorem pOf_len (l : List Nd) : (pOf l).length ≤ l.length := by
  unfold pOf
  rw [List.length_map]
  exact List.length_filter_le _ _
def SgI (w : World) (k t : Int) (s : ByteArray) (n : Int) (q : Value) (ks : List Nd) (j : Nat) (wr : World) : Prop :=
  w.grownBy wr none ∧ Blk wr w.heap.size 27 #[.int .i64 k, .int .i64 t, .string s, .int .i64 n, q] ∧ Blk wr (w.heap.size + 1) 103 #[.slice none 0 0, .int .i64 0] ∧ ∃ v, Blk wr (w.heap.size + 1 + 1) 103 #[v, .int .i64 t] ∧ wr.ownsRow w.heap.size 3 1 v (pOf (ks.take j)).length ((pOf (ks.take j)).map (Value.int .i64))
theorem own_ne {w : World} {base e size n b : Nat} {t : TypeId} {v : Value} {xs : List Value} {cs : Array Value} (h : w.ownsRow base e size v n xs) (hB : Blk w b t cs) (ht : t ≠ e) : some b ≠ v.ownBlock := by
  rcases h.2 with ⟨rfl, _⟩ | ⟨g, cap, cur, rfl, h1, h2, _⟩
  · intro e; cases e
  · intro eq
    have eq : b = g := Option.some.inj eq
    subst eq
    unfold Blk at hB
    rw [hB] at h2
    injection h2 with h2
    injection h2 with _ h2
    exact ht h2
theorem own_kept {w w' : World} {base e size n b : Nat} {t : TypeId} {v : Value} {xs : List Value} {cs : Array Value} (h : w.ownsRow base e size v n xs) (hg : w.grownBy w' (some b)) (hB : Blk w b t cs) (ht : t ≠ e) : w'.ownsRow base e size v n xs := by
  refine h.kept hg ?_
  have h2 := own_ne h hB ht
  cases hv : v.ownBlock with
  | none => exact Or.inl rfl
  | some r =>
    refine Or.inr (fun e => h2 ?_)
    rw [hv, e]
set_option maxRecDepth 100000 in
set_option maxHeartbeats 2000000 in
theorem sig_any (k t : Int) (s : ByteArray) (n : Int) (q : Value) (ks : List Nd) (P : Nat → Prop) (w : World) (hl : ks.length ≤ 255) (hks : KsV w P q ks) :
    Calls Tryz.prog 53 #[.agg #[.int .i64 k, .int .i64 t, .string s, .int .i64 n, q]] w fun e w' => ∃ pa cap, e = .returned (.agg #[.slice pa (pOf ks).length cap, .int .i64 t]) ∧ w'.ownsRow w.heap.size 3 1 (.slice pa (pOf ks).length cap) (pOf ks).length ((pOf ks).map (Value.int .i64)) ∧ w.grownBy w' none := by
  obtain ⟨p, c, rfl, _, _, _⟩ := hks.form
  have HK := hid hks
  obtain ⟨L, hL⟩ : ∃ L, ks.length = L := ⟨_, rfl⟩
  have HL : Hid (ks.length = L) := hL
  rw [hL] at hl
  have HK' : Hid (KsV w P (.slice p L c) ks) := by rw [← hL]; exact HK.out
  rw [hL]
  clear HK hL hks
  have i1 : (L : Int) ≤ 255 := by omega
  go_enter Tryz.func53, Tryz.ntmps53
  go_wp2
  go_loopw [12] (fun i wr => ∃ j : Nat, j ≤ L ∧ i = .int .i64 j ∧ SgI w k t s n (.slice p L c) ks j wr) (fun i _ => L - (intOf i).toNat)
  case atStart =>
    refine ⟨0, Nat.zero_le _, rfl, grown_alloc (grown_alloc (grown_alloc (grown_refl w none) _) _) _, ((Blk.new w 27 _).alloc _).alloc _, ?_, _, ?_, World.ownsRow_nil _ _ _ _⟩
    · have := (Blk.new (w.alloc (.cells #[.int .i64 k, .int .i64 t, .string s, .int .i64 n, .slice p L c] 27)) 103 #[.slice none 0 0, .int .i64 0]).alloc (.cells #[.slice none 0 0, .int .i64 t] 103)
      rw [World.size_alloc] at this
      exact this
    · have := Blk.new ((w.alloc (.cells #[.int .i64 k, .int .i64 t, .string s, .int .i64 n, .slice p L c] 27)).alloc (.cells #[.slice none 0 0, .int .i64 0] 103)) 103 #[.slice none 0 0, .int .i64 t]
      rw [World.size_alloc, World.size_alloc] at this
      exact this
  case round =>
    obtain ⟨j, hj, rfl, hI⟩ := hrel
    have j0 : (0 : Int) ≤ j := by omega
    obtain ⟨hg, hB0, hB1, v, hB2, hrow⟩ := hI
    have G := hid hg
    have B0 := hid hB0
    have B1 := hid hB1
    have B2 := hid hB2
    have RW := hid hrow
    by_cases hlt : j < L
    · have j1 : (j : Int) < L := by omega
      have hjk : j < ks.length := by rw [HL.out]; exact hlt
      obtain ⟨g', hp, _, hat⟩ := (HK'.out.kept hg).at j hjk
      subst hp
      have TK : ks.take (j + 1) = ks.take j ++ [ks[j]] := List.take_succ_eq_append_getElem hjk
      obtain ⟨q, c0, c1, c2, c3, c4, hkq⟩ := hat.cells
      rw [Nat.mul_comm 5 j] at c0 c1 c2 c3 c4
      obtain ⟨p', cap', hq, _⟩ := hkq.form
      subst hq
      have LE := hid (pOf_len (ks.take j))
      have LT : Hid ((ks.take j).length ≤ j ∧ True) := hid ⟨by rw [List.length_take]; omega, trivial⟩
      clear hat hkq
      generalize ks[j] = x at *
      obtain ⟨kd, ty, tx, nm, kk⟩ := x
      simp only [Nd.kind, Nd.ty, Nd.txt, Nd.num, Nd.kids] at c0 c1 c2 c3 c4
      generalize kk.length = kl at *
      have hz := hB0.lt
      have hz1 := hB1.lt
      have hz2 := hB2.lt
      obtain ⟨vp, vc, rfl, _⟩ := Lw.row_form hrow
      have OB : Blk (wr.alloc (.cells #[.int .i64 kd, .int .i64 ty, .string tx, .int .i64 nm, .slice p' kl cap'] 27)) (w.heap.size + 1 + 1) 103 _ := hB2.alloc _
      have y0 := OB.cell 0
      have z0 := OB.frozen 0
      simp at y0
      have gA := grown_alloc (grown_refl wr none) (.cells #[.int .i64 kd, .int .i64 ty, .string tx, .int .i64 nm, .slice p' kl cap'] 27)
      have RA := Lw.row_none hrow gA
      have GA := hid gA
      by_cases hk : kd = 5
      · subst hk
        have ET : pOf (ks.take (j + 1)) = pOf (ks.take j) ++ [ty] := by rw [TK]; exact pOf_yes _ _ rfl
        clear TK
        have ET := hid ET
        have gB := grown_alloc gA (.cells #[.int .i64 ty] 3)
        have RB := hid (Lw.row_none hrow gB)
        have GB := hid gB
        have OC := hid (OB.alloc (.cells #[.int .i64 ty] 3))
        have CL : Hid (((wr.alloc (.cells #[.int .i64 5, .int .i64 ty, .string tx, .int .i64 nm, .slice p' kl cap'] 27)).alloc (.cells #[.int .i64 ty] 3)).cell? ⟨wr.heap.size + 1, 0, none⟩ = some (.int .i64 ty) ∧ True) := hid ⟨by have h := (Blk.new (wr.alloc (.cells #[.int .i64 5, .int .i64 ty, .string tx, .int .i64 nm, .slice p' kl cap'] 27)) 3 #[.int .i64 ty]).cell 0; rw [World.size_alloc] at h; exact h, trivial⟩
        have SZ : Hid (w.heap.size ≤ wr.heap.size ∧ True) := hid ⟨by omega, trivial⟩
        have B0 := hid (B0.out.kept gB (by simp))
        have B1 := hid (B1.out.kept gB (by simp))
        have GN := hid (grown_none hg gB)
        clear hB0 hB1 hB2 hrow hg gA gB OB RA GA RW G B2
        go_wp2_with (at_builtin; refine append_i3 w.heap.size _ ((pOf (ks.take j)).map (Value.int .i64)) ty ⟨wr.heap.size + 1, 0, none⟩ 1 (by rw [List.length_map]; exact RB.out) (CL.out.1) (by rw [List.length_map]; have := LE.out; have := LT.out.1; omega) (by rw [World.size_alloc, World.size_alloc]; have := SZ.out.1; omega) _ _ rfl rfl rfl rfl ?_; intro v3 w3 hr hg3; rw [List.length_map] at hr; have OD := hid (OC.out.kept hg3 (own_ne RB.out OC.out (by decide))); have B0 := hid (B0.out.kept hg3 (own_ne RB.out B0.out (by decide))); have B1 := hid (B1.out.kept hg3 (own_ne RB.out B1.out (by decide))); have G3 := hid (Lw.grown_own GN.out RB.out hg3); obtain ⟨p3, k3, e3, _⟩ := Lw.row_form hr; subst e3; have RD := hid hr; have d0 := OD.out.cell 0; simp at d0; have f0 := OD.out.frozen 0; clear hr hg3)
        go_roundw
        case rel =>
          have gS := grown_set (grown_refl w3 (some (w.heap.size + 1 + 1))) 0 (.slice p3 ((pOf (ks.take j)).length + 1) k3)
          refine ⟨j + 1, by omega, by go_num, grown_set_new G3.out (a := ⟨w.heap.size + 1 + 1, 0, none⟩) _ (by show _ ≤ w.heap.size + 1 + 1; omega), B0.out.kept gS (by simp; omega), B1.out.kept gS (by simp), _, by have := OD.out.set 0 (.slice p3 ((pOf (ks.take j)).length + 1) k3); simp at this; exact this, ?_⟩
          have := own_kept RD.out gS OD.out (by decide)
          rw [ET.out, List.length_append, List.map_append]
          exact this
        case measure => simp [intOf]; omega
      · have ET : pOf (ks.take (j + 1)) = pOf (ks.take j) := by rw [TK]; exact pOf_no _ _ hk
        clear TK
        have ET := hid ET
        have RA := hid RA
        have B0 := hid (B0.out.kept gA (by simp))
        have B1 := hid (B1.out.kept gA (by simp))
        have B2 := hid OB
        have GN := hid (grown_none hg gA)
        clear hB0 hB1 hB2 hrow hg gA OB GA RW G
        go_wp2
        go_roundw
        case rel =>
          refine ⟨j + 1, by omega, by go_num, GN.out, B0.out, B1.out, _, B2.out, ?_⟩
          rw [ET.out]
          exact RA.out
        case measure => simp [intOf]; omega
    · have hjL : j = L := by omega
      subst hjL
      have j1 : ¬ (j : Int) < j := by omega
      obtain ⟨vp, vc, rfl, _⟩ := Lw.row_form hrow
      have z0 : wr.cell? ⟨w.heap.size + 1, 0, none⟩ = some (.slice none 0 0) := by rw [hB1.cell]; rfl
      have z1 : wr.cell? ⟨w.heap.size + 1, 1, none⟩ = some (.int .i64 0) := by rw [hB1.cell]; rfl
      have x0 := hB2.cell 0
      have x1 := hB2.cell 1
      simp at x0 x1
      have f0 := hB1.frozen 0
      have f1 := hB1.frozen 1
      have hw2 := hB2.lt
      have ET : ks.take j = ks := List.take_of_length_le (by rw [HL.out]; exact Nat.le_refl _)
      rw [ET] at hrow x0 hB2
      have RW := hid hrow
      clear hB0 hB1 hB2 hrow hg HK' ET
      go_wp2
      have gF := grown_set (grown_set (grown_refl wr (some (w.heap.size + 1))) 0 (.slice vp (pOf ks).length vc)) 1 (.int .i64 t)
      refine bodyPost_ret (v := .agg #[.slice vp (pOf ks).length vc, .int .i64 t]) (by simp [results, Tryz.results53, go_sem, z0, z1]) rfl ?_
      exact ⟨vp, vc, rfl, own_kept RW.out gF B1.out (by decide), grown_set_new (grown_set_new G.out (a := ⟨w.heap.size + 1, 0, none⟩) _ (by show _ ≤ w.heap.size + 1; omega)) (a := ⟨w.heap.size + 1, 1, none⟩) _ (by show _ ≤ w.heap.size + 1; omega)⟩
end Ck
end Go.Proofs.YtajoncmmdeahnaaGreatDoor
namespace Go.Proofs.YtajoncmmdeahnaaGreatDoor
open Go.RowKit
namespace Ck
theorem expr_eq (F : Fn) (k : Nat) (n : Nd) (st : Cs) (h : exprK n.kind = true) : exprC F (k + 1) n st = (mapC (exprC F k) n.kids >>= fun ks => typeOfC F (withKids n ks) >>= fun t => doneC (withTy (withKids n ks) t) >>= fun _ => (pure (withTy (withKids n ks) t) : Ck Nd)) st := by
  conv => lhs; unfold exprC
  rw [if_neg (by rw [h]; decide)]
theorem expr_not (F : Fn) (k : Nat) (n : Nd) (st : Cs) (h : exprK n.kind = false) : exprC F (k + 1) n st = .error (some 125) := by
  conv => lhs; unfold exprC
  rw [if_pos h]
  rfl
set_option maxRecDepth 100000 in
set_option maxHeartbeats 2000000 in
theorem expr_step (X : Xc) (F : Fn) (k : Nat) (hE : ElC X F 211 (exprC F k)) : ElC X F 211 (exprC F (k + 1)) := by
  intro n g o lo hi cs w st hC hn p1 p2 p3 hB hx
  have hp : Pl X g lo hi := ⟨p1, p2, p3⟩
  have HP := hid hp
  have N0 := hid (NS.start hC hn hB)
  obtain ⟨p, c, c0, c1, c2, c3, c4, hk, hf⟩ := N0.out.cells
  have HK := hid hk
  have C97 : Hid (∀ W, Calls Tryz.prog 97 #[.int .i64 (125 : Nat)] W fun e w' => e = .panicked (RjV 125) ∧ w' = W) := fun W => reject_any 125 W
  have C244 : Hid (∀ W, Calls Tryz.prog 244 #[.int .i64 n.kind] W fun e w' => e = .returned (.bool (exprK n.kind)) ∧ w' = W) := fun W => isExpression_any n.kind W
  have HE := hid hE
  have LB : Hid (X.low ≤ lo) := hid (by omega)
  have HX := hid hx
  clear hE hk hx hC hn hp
  cases hkd : exprK n.kind with
  | false =>
    rw [hkd] at C244
    rw [expr_not F k n st hkd]
    clear hkd HX HE HK c1 c2 c3
    go_enter Tryz.func211, Tryz.ntmps211
    go_wp2_with (first
      | (go_at_call 244; refine (C244.out _).mono ?_; rintro e w2 ⟨rfl, hw⟩; replace hw := hw.symm; subst hw; clear C244)
      | (go_at_call 97; refine (C97.out _).mono ?_; rintro e w2 ⟨rfl, hw⟩; replace hw := hw.symm; subst hw; clear C97))
    exact ⟨rfl, rfl, FrN.refl _ _ _ _ _ _⟩
  | true =>
    rw [hkd] at C244
    have EQ := hid (And.intro (expr_eq F k n st hkd) trivial)
    have HN : Hid ((mapC (exprC F k) n.kids >>= fun ks => typeOfC F (withKids n ks) >>= fun t => doneC (withTy (withKids n ks) t) >>= fun _ => (pure (withTy (withKids n ks) t) : Ck Nd)) st ≠ .error none) := hid (by rw [← EQ.out.1]; exact HX.out)
    clear hkd C97
    go_enter Tryz.func211, Tryz.ntmps211
    go_wp2_with (first
      | (go_at_call 244; refine (C244.out _).mono ?_; rintro e w2 ⟨rfl, hw⟩; replace hw := hw.symm; subst hw; clear C244)
      | (go_at_call 176; refine (exprs_any _ HE.out N0.out.a HK.out LB.out p3 (bnd_ne HN.out)).mono ?_; intro e w1 hh; rcases CkL.cases hh (bnd_ne HN.out) with ⟨m, hz, rfl, hF⟩ | ⟨ks, s1, hz, rfl, hK, hA, hF⟩; (case inl => exact ⟨rfl, by rw [EQ.out.1, bnd_err hz]; exact ⟨rfl, N0.out.badI HP.out hF⟩⟩); have HZ1 := hid (And.intro hz trivial); have N1 := hid (N0.out.kids HP.out c4 hK hA hF); obtain ⟨p1', c1', d0, d1, d2, d3, d4, hk1, hf1⟩ := N1.out.cells; have HK1 := hid hk1; have hn2 : typeOfC F (withKids n ks) s1 ≠ .error none := (by have h := HN.out; rw [bnd_ok hz] at h; exact bnd_ne h); clear c0 c1 c2 c3 c4 hz hK hA hF hh hk1; have HN2 := hid hn2; clear hn2)
      | (go_at_call 177; refine (typeOf_any (withKids n ks) p1' c1' _ _ N1.out.a (NS.kv HK1.out) HN2.out).mono ?_; intro e w2 hh; rcases CkP.cases hh HN2.out with ⟨m, hz, rfl, hF⟩ | ⟨t, s2, v, hz, rfl, hv, hA, hF⟩; (case inl => exact ⟨rfl, by rw [EQ.out.1, bnd_ok HZ1.out.1, bnd_err hz]; exact ⟨rfl, N1.out.bad HP.out hF⟩⟩); have hv' : v = .int .i64 t := hv; subst hv'; have HZ2 := hid (And.intro hz trivial); have N2 := hid (N1.out.frc HP.out hF hA); obtain ⟨p2', c2', e0, e1, e2, e3, e4, hk2, hf2⟩ := N2.out.cells; have ff := hf2 (o + 1); have N3 := hid (N2.out.ty HP.out t); obtain ⟨p3', c3', f0, f1, f2, f3, f4, hk3, hf3⟩ := N3.out.cells; have HN3 : Hid (doneC (withTy (withKids n ks) t) s2 ≠ .error none) := hid (by have h := HN.out; rw [bnd_ok HZ1.out.1, bnd_ok hz] at h; exact bnd_ne h); clear d0 d1 d2 d3 d4 hz hA hF hh hk2 hk3)
      | (go_at_call 136; refine (done_any (withTy (withKids n ks) t) p3' c3' _ N3.out.a HN3.out).mono ?_; intro e w3 hh; rcases CkP.cases hh HN3.out with ⟨m, hz, rfl, hF⟩ | ⟨u, s3, v, hz, rfl, hv, hA, hF⟩; (case inl => exact ⟨rfl, by rw [EQ.out.1, bnd_ok HZ1.out.1, bnd_ok HZ2.out.1, bnd_err hz]; exact ⟨rfl, N3.out.bad HP.out hF⟩⟩); have hv' : v = .tuple #[] := hv; subst hv'; have HZ3 := hid (And.intro hz trivial); have N4 := hid (N3.out.frc HP.out hF hA); clear hz hA hF hh))
    go_end0
    rw [EQ.out.1, bnd_ok HZ1.out.1, bnd_ok HZ2.out.1, bnd_ok HZ3.out.1]
    exact N4.out.ok
theorem expr_any (X : Xc) (F : Fn) : ∀ k, ElC X F 211 (exprC F k)
  | 0 => fun _ _ _ _ _ _ _ _ _ _ _ _ _ _ hx => absurd rfl hx
  | k + 1 => expr_step X F k (expr_any X F k)
end Ck
end Go.Proofs.YtajoncmmdeahnaaGreatDoor
namespace Go.Proofs.YtajoncmmdeahnaaGreatDoor
open Go.RowKit
namespace Ck
def AlP (b : Bool) (w : World) (e : Ending) (w' : World) : Prop := (e = if b = true then .returned (.tuple #[]) else .panicked (RjV 125)) ∧ w.grownBy w' none
theorem alone_drop {ks : List Nd} {j : Nat} (h : j < ks.length) : aloneB (ks.drop j) = ((ks[j].kind == 24) && aloneB (ks.drop (j + 1))) := by
  rw [List.drop_eq_getElem_cons h]
  rfl
set_option maxRecDepth 100000 in
theorem alone_nil (w : World) : Calls Tryz.prog 247 #[.slice none 0 0] w (AlP true w) := by
  go_enter Tryz.func247, Tryz.ntmps247
  go_wp2
  go_loopw [6] (fun i wr => i = .int .i64 0 ∧ wr = w) (fun _ _ => 0)
  case atStart => exact ⟨rfl, rfl⟩
  case round =>
    obtain ⟨rfl, rfl⟩ := hrel
    go_wp2
    refine bodyPost_ret (v := .tuple #[]) (by simp [results, Tryz.results247, go_sem]) rfl ?_
    exact ⟨rfl, grown_refl _ _⟩
set_option maxRecDepth 100000 in
set_option maxHeartbeats 1000000 in
theorem alone_some {ks : List Nd} {g cap : Nat} {P : Nat → Prop} (w : World) (hk : KsV w P (.slice (some ⟨g, 0, none⟩) ks.length cap) ks) (k2 : ks.length ≤ maxLen) :
    Calls Tryz.prog 247 #[.slice (some ⟨g, 0, none⟩) ks.length cap] w (AlP (aloneB ks) w) := by
  have HK := hid hk
  obtain ⟨L, hL⟩ : ∃ L, ks.length = L := ⟨_, rfl⟩
  have HL := hid (And.intro hL trivial)
  have Lmax : (L : Int) ≤ 9223372036854775807 := by unfold maxLen at k2; omega
  obtain ⟨R, hR⟩ : ∃ R, aloneB ks = R := ⟨_, rfl⟩
  have hR0 : Hid (aloneB (ks.drop 0) = R) := hR
  have C97 : Hid (∀ W, Calls Tryz.prog 97 #[.int .i64 (125 : Nat)] W fun e w' => e = .panicked (RjV 125) ∧ w' = W) := fun W => reject_any 125 W
  rw [hL, hR]
  rw [hL] at HK
  clear hk k2 hL hR
  go_enter Tryz.func247, Tryz.ntmps247
  go_wp2
  go_loopw [6] (fun i wr => ∃ (j : Nat), i = .int .i64 j ∧ j ≤ L ∧ Hid (aloneB (ks.drop j) = R) ∧ w.grownBy wr none) (fun i _ => L - (intOf i).toNat)
  case atStart => exact ⟨0, rfl, Nat.zero_le _, hR0, grown_refl _ _⟩
  case round =>
    obtain ⟨j, rfl, hj, hA, hg⟩ := hrel
    have G := hid hg
    clear hR0
    have j0 : (0 : Int) ≤ j := by omega
    by_cases hlt : j < L
    · have j1 : (j : Int) < L := by omega
      have hjk : j < ks.length := by rw [HL.out.1]; exact hlt
      obtain ⟨g', hg', _, hat⟩ := (HK.out.kept hg).at j hjk
      injection hg' with hg'
      injection hg' with hg'
      subst hg'
      obtain ⟨q, c0, c1, c2, c3, c4, hkq⟩ := hat.cells
      rw [Nat.mul_comm 5 j] at c0 c1 c2 c3 c4
      have AD := alone_drop hjk
      rw [hA.out] at AD
      obtain ⟨kd, ekd⟩ : ∃ kd, (ks[j]).kind = kd := ⟨_, rfl⟩
      rw [ekd] at c0 AD
      obtain ⟨p', cap', hq, _⟩ := hkq.form
      subst hq
      have G1 := hid (grown_alloc hg (.cells #[.int .i64 kd, .int .i64 ks[j].ty, .string ks[j].txt, .int .i64 ks[j].num, .slice p' ks[j].kids.length cap'] 27))
      clear hg hkq hat ekd
      cases hb : kd == 24 with
      | false =>
        have hne : ¬ kd = 24 := by rw [beq_eq_false_iff_ne] at hb; exact hb
        rw [hb, Bool.false_and] at AD
        have hb' : decide (kd = 24) = false := decide_eq_false hne
        clear hA
        go_wp2_with (go_at_call 97; refine (C97.out _).mono ?_; rintro e w2 ⟨rfl, hw⟩; replace hw := hw.symm; subst hw; clear C97)
        exact ⟨rfl, by rw [AD]; rfl, G1.out⟩
      | true =>
        have he : kd = 24 := by rw [beq_iff_eq] at hb; exact hb
        rw [hb, Bool.true_and] at AD
        subst he
        clear C97 hA
        go_wp2
        go_roundw
        case rel => exact ⟨j + 1, by go_num, by omega, hid AD.symm, G1.out⟩
        case measure => simp [intOf]; omega
    · have j1 : ¬ (j : Int) < L := by omega
      have e1 : j = L := by omega
      have hA2 := hA.out
      rw [List.drop_eq_nil_of_le (by rw [HL.out.1]; omega)] at hA2
      have hA3 : Hid (R = true) := hid hA2.symm
      clear hA hA2
      go_wp2
      refine bodyPost_ret (v := .tuple #[]) (by simp [results, Tryz.results247, go_sem]) rfl ?_
      rw [hA3.out]
      exact ⟨rfl, G.out⟩
theorem alone_any {ks : List Nd} {p : Option Addr} {c : Nat} {lo hi : Nat} (w : World) (hk : KsI w lo hi (.slice p ks.length c) ks) : Calls Tryz.prog 247 #[.slice p ks.length c] w (AlP (aloneB ks) w) := by
  have hv := hk.ks (P := fun _ => True) (fun _ _ _ => trivial)
  rcases ksI_form hk with ⟨e1, e2, _⟩ | ⟨g, cap, cs, e1, k1, k2, _⟩
  · subst e2
    injection e1 with e1 e2 e3
    subst e1 e3
    exact alone_nil w
  · injection e1 with e1 e2 e3
    subst e1 e3
    exact alone_some w hv (Nat.le_trans k1 k2)
end Ck
end Go.Proofs.YtajoncmmdeahnaaGreatDoor
namespace Go.Proofs.YtajoncmmdeahnaaGreatDoor
open Go.RowKit
namespace Ck
def lineT (n : Nd) : Ck Unit := if n.kind = 7 then defineC n
    else if n.kind = 8 then (do let t ← variableC n.txt; fitsC n t)
    else if n.kind = 11 then returnedC n
    else if n.kind = 12 then fitsC n 3
    else pure ()
def lineM (F : Fn) (k : Nat) (n : Nd) : Ck Nd := mapC (exprC F k) n.kids >>= fun ks => lineT (withKids n ks) >>= fun _ => pure (withKids n ks)
theorem line_eq (F : Fn) (k : Nat) (n : Nd) (st : Cs) (h : ¬ (n.kind = 13 ∧ aloneB n.kids = false)) : lineC F k n st = lineM F k n st := by
  unfold lineC
  rw [if_neg h]
  rfl
theorem line_not (F : Fn) (k : Nat) (n : Nd) (st : Cs) (h : n.kind = 13 ∧ aloneB n.kids = false) : lineC F k n st = .error (some 125) := by
  unfold lineC
  rw [if_pos h]
  rfl
theorem NS.at {X : Xc} {F : Fn} {g o lo hi : Nat} {w wr w' : World} {n : Nd} {st st' : Cs} (h : NS X F g o lo hi w wr n st) (hp : Pl X g lo hi) (hF : FrC X wr w') (hA : CkA w' X F st') : w'.heap[g]? = wr.heap[g]? :=
  hF.low hA.ok g (by have := hp.b; have := hp.c; have := NdI.le h.n; omega) (by have := hp.b; have := hp.c; have := NdI.le h.n; have := h.a.size; omega)
theorem NS.rows {X : Xc} {F : Fn} {g o lo hi : Nat} {w wr w' : World} {n : Nd} {st st' : Cs} {q : Value} {ks : List Nd} (h : NS X F g o lo hi w wr n st) (hp : Pl X g lo hi) (hF : FrC X wr w') (hA : CkA w' X F st') (hk : KsI wr lo hi q ks) : KsI w' lo hi q ks :=
  hk.kept fun b _ b2 => hF.low hA.ok b (by have := hp.c; omega) (by have := hp.c; have := h.a.size; omega)
set_option maxRecDepth 100000 in
set_option maxHeartbeats 2000000 in
theorem line_define {X : Xc} {F : Fn} {k : Nat} (hE : ElC X F 211 (exprC F k)) {n : Nd} {g o lo hi : Nat} {cs : Array Value} {w : World} {st : Cs} (hC : CkA w X F st) (hn : NdI w g o lo hi n) (p1 : X.low ≤ g) (p2 : g < lo) (p3 : hi ≤ X.base) (hB : Blk w g 27 cs) (hx : lineM F k n st ≠ .error none) (hkd : n.kind = 7) :
    Calls Tryz.prog 218 #[.pointer (some ⟨X.c, 0, none⟩), .pointer (some ⟨g, o, none⟩)] w (CkT X F g o lo hi w (lineM F k n st)) := by
  have hp : Pl X g lo hi := ⟨p1, p2, p3⟩
  have HP := hid hp
  have N0 := hid (NS.start hC hn hB)
  obtain ⟨p, c, c0, c1, c2, c3, c4, hk, hf⟩ := N0.out.cells
  have HK := hid hk
  have HE := hid hE
  have LB : Hid (X.low ≤ lo) := hid (by omega)
  have HN := hid hx
  clear hE hk hx hC hn hp
  rw [hkd] at c0
  go_enter Tryz.func218, Tryz.ntmps218
  go_wp2_with (first
    | (go_at_call 176; refine (exprs_any _ HE.out N0.out.a HK.out LB.out p3 (bnd_ne HN.out)).mono ?_; intro e w1 hh; rcases CkL.cases hh (bnd_ne HN.out) with ⟨m, hz, rfl, hF⟩ | ⟨ks, s1, hz, rfl, hK, hA, hF⟩; (case inl => exact ⟨rfl, by unfold lineM; rw [bnd_err hz]; exact ⟨rfl, N0.out.badI HP.out hF⟩⟩); have HZ1 := hid (And.intro hz trivial); have N1 := hid (N0.out.kids HP.out c4 hK hA hF); obtain ⟨p1', c1', d0, d1, d2, d3, d4, hk1, hf1⟩ := N1.out.cells; have HK1 := hid hk1; have hkw : (withKids n ks).kind = 7 := hkd; rw [hkw] at d0; have HN2 : Hid (lineT (withKids n ks) s1 ≠ .error none) := hid (by have h := HN.out; unfold lineM at h; rw [bnd_ok hz] at h; exact bnd_ne h); clear c0 c1 c2 c3 c4 hz hK hA hF hh hk1)
    | (go_at_call 248; refine (show Calls _ _ _ _ (CkP uK X F _ (defineC (withKids n ks) s1)) from (by have h := define_any (withKids n ks) p1' c1' (fun _ => True) w1 N1.out.a (NS.kv HK1.out) (by have h := HN2.out; rw [show lineT (withKids n ks) = _ from if_pos hkw] at h; exact h); rw [hkw] at h; exact h)).mono ?_; intro e w2 hh; rw [show lineT (withKids n ks) = _ from if_pos hkw] at HN2; rcases CkP.cases hh HN2.out with ⟨m, hz, rfl, hF⟩ | ⟨t, s2, v, hz, rfl, hv, hA, hF⟩; (case inl => exact ⟨rfl, by unfold lineM; rw [bnd_ok HZ1.out.1, show lineT (withKids n ks) = _ from if_pos hkw, bnd_err hz]; exact ⟨rfl, N1.out.bad HP.out hF⟩⟩); have hv' : v = .tuple #[] := hv; subst hv'; have HZ2 := hid (And.intro hz trivial); have N2 := hid (N1.out.frc HP.out hF hA); clear hz hA hF hh))
  go_end0
  unfold lineM
  rw [bnd_ok HZ1.out.1, bnd_ok (x := lineT (withKids n ks)) (by rw [show lineT (withKids n ks) = _ from if_pos hkw]; exact HZ2.out.1)]
  exact N2.out.ok
set_option maxRecDepth 100000 in
set_option maxHeartbeats 2000000 in
theorem line_returned {X : Xc} {F : Fn} {k : Nat} (hE : ElC X F 211 (exprC F k)) {n : Nd} {g o lo hi : Nat} {cs : Array Value} {w : World} {st : Cs} (hC : CkA w X F st) (hn : NdI w g o lo hi n) (p1 : X.low ≤ g) (p2 : g < lo) (p3 : hi ≤ X.base) (hB : Blk w g 27 cs) (hx : lineM F k n st ≠ .error none) (hkd : n.kind = 11) :
    Calls Tryz.prog 218 #[.pointer (some ⟨X.c, 0, none⟩), .pointer (some ⟨g, o, none⟩)] w (CkT X F g o lo hi w (lineM F k n st)) := by
  have hp : Pl X g lo hi := ⟨p1, p2, p3⟩
  have HP := hid hp
  have N0 := hid (NS.start hC hn hB)
  obtain ⟨p, c, c0, c1, c2, c3, c4, hk, hf⟩ := N0.out.cells
  have HK := hid hk
  have HE := hid hE
  have LB : Hid (X.low ≤ lo) := hid (by omega)
  have HN := hid hx
  clear hE hk hx hC hn hp
  rw [hkd] at c0
  go_enter Tryz.func218, Tryz.ntmps218
  go_wp2_with (first
    | (go_at_call 176; refine (exprs_any _ HE.out N0.out.a HK.out LB.out p3 (bnd_ne HN.out)).mono ?_; intro e w1 hh; rcases CkL.cases hh (bnd_ne HN.out) with ⟨m, hz, rfl, hF⟩ | ⟨ks, s1, hz, rfl, hK, hA, hF⟩; (case inl => exact ⟨rfl, by unfold lineM; rw [bnd_err hz]; exact ⟨rfl, N0.out.badI HP.out hF⟩⟩); have HZ1 := hid (And.intro hz trivial); have N1 := hid (N0.out.kids HP.out c4 hK hA hF); obtain ⟨p1', c1', d0, d1, d2, d3, d4, hk1, hf1⟩ := N1.out.cells; have HK1 := hid hk1; have hkw : (withKids n ks).kind = 11 := hkd; rw [hkw] at d0; have HN2 : Hid (lineT (withKids n ks) s1 ≠ .error none) := hid (by have h := HN.out; unfold lineM at h; rw [bnd_ok hz] at h; exact bnd_ne h); clear c0 c1 c2 c3 c4 hz hK hA hF hh hk1)
    | (go_at_call 249; refine (show Calls _ _ _ _ (CkP uK X F _ (returnedC (withKids n ks) s1)) from (by have h := returned_any (st := s1) (withKids n ks) p1' c1' (fun _ => True) w1 N1.out.a (NS.kv HK1.out); rw [hkw] at h; exact h)).mono ?_; intro e w2 hh; rw [show lineT (withKids n ks) = _ from (if_neg (by rw [hkw]; decide)).trans ((if_neg (by rw [hkw]; decide)).trans (if_pos hkw))] at HN2; rcases CkP.cases hh HN2.out with ⟨m, hz, rfl, hF⟩ | ⟨t, s2, v, hz, rfl, hv, hA, hF⟩; (case inl => exact ⟨rfl, by unfold lineM; rw [bnd_ok HZ1.out.1, show lineT (withKids n ks) = _ from (if_neg (by rw [hkw]; decide)).trans ((if_neg (by rw [hkw]; decide)).trans (if_pos hkw)), bnd_err hz]; exact ⟨rfl, N1.out.bad HP.out hF⟩⟩); have hv' : v = .tuple #[] := hv; subst hv'; have HZ2 := hid (And.intro hz trivial); have N2 := hid (N1.out.frc HP.out hF hA); clear hz hA hF hh))
  go_end0
  unfold lineM
  rw [bnd_ok HZ1.out.1, bnd_ok (x := lineT (withKids n ks)) (by rw [show lineT (withKids n ks) = _ from (if_neg (by rw [hkw]; decide)).trans ((if_neg (by rw [hkw]; decide)).trans (if_pos hkw))]; exact HZ2.out.1)]
  exact N2.out.ok
set_option maxRecDepth 100000 in
set_option maxHeartbeats 2000000 in
theorem line_assert {X : Xc} {F : Fn} {k : Nat} (hE : ElC X F 211 (exprC F k)) {n : Nd} {g o lo hi : Nat} {cs : Array Value} {w : World} {st : Cs} (hC : CkA w X F st) (hn : NdI w g o lo hi n) (p1 : X.low ≤ g) (p2 : g < lo) (p3 : hi ≤ X.base) (hB : Blk w g 27 cs) (hx : lineM F k n st ≠ .error none) (hkd : n.kind = 12) :
    Calls Tryz.prog 218 #[.pointer (some ⟨X.c, 0, none⟩), .pointer (some ⟨g, o, none⟩)] w (CkT X F g o lo hi w (lineM F k n st)) := by
  have hp : Pl X g lo hi := ⟨p1, p2, p3⟩
  have HP := hid hp
  have N0 := hid (NS.start hC hn hB)
  obtain ⟨p, c, c0, c1, c2, c3, c4, hk, hf⟩ := N0.out.cells
  have HK := hid hk
  have HE := hid hE
  have LB : Hid (X.low ≤ lo) := hid (by omega)
  have HN := hid hx
  clear hE hk hx hC hn hp
  rw [hkd] at c0
  go_enter Tryz.func218, Tryz.ntmps218
  go_wp2_with (first
    | (go_at_call 176; refine (exprs_any _ HE.out N0.out.a HK.out LB.out p3 (bnd_ne HN.out)).mono ?_; intro e w1 hh; rcases CkL.cases hh (bnd_ne HN.out) with ⟨m, hz, rfl, hF⟩ | ⟨ks, s1, hz, rfl, hK, hA, hF⟩; (case inl => exact ⟨rfl, by unfold lineM; rw [bnd_err hz]; exact ⟨rfl, N0.out.badI HP.out hF⟩⟩); have HZ1 := hid (And.intro hz trivial); have N1 := hid (N0.out.kids HP.out c4 hK hA hF); obtain ⟨p1', c1', d0, d1, d2, d3, d4, hk1, hf1⟩ := N1.out.cells; have HK1 := hid hk1; have hkw : (withKids n ks).kind = 12 := hkd; rw [hkw] at d0; have HN2 : Hid (lineT (withKids n ks) s1 ≠ .error none) := hid (by have h := HN.out; unfold lineM at h; rw [bnd_ok hz] at h; exact bnd_ne h); clear c0 c1 c2 c3 c4 hz hK hA hF hh hk1)
    | (go_at_call 135; refine (show Calls _ _ _ _ (CkP uK X F _ (fitsC (withKids n ks) 3 s1)) from (by have h := fits_any (st := s1) (withKids n ks) p1' c1' 3 (fun _ => True) w1 N1.out.a (NS.kv HK1.out); rw [hkw] at h; exact h)).mono ?_; intro e w2 hh; rw [show lineT (withKids n ks) = _ from (if_neg (by rw [hkw]; decide)).trans ((if_neg (by rw [hkw]; decide)).trans ((if_neg (by rw [hkw]; decide)).trans (if_pos hkw)))] at HN2; rcases CkP.cases hh HN2.out with ⟨m, hz, rfl, hF⟩ | ⟨t, s2, v, hz, rfl, hv, hA, hF⟩; (case inl => exact ⟨rfl, by unfold lineM; rw [bnd_ok HZ1.out.1, show lineT (withKids n ks) = _ from (if_neg (by rw [hkw]; decide)).trans ((if_neg (by rw [hkw]; decide)).trans ((if_neg (by rw [hkw]; decide)).trans (if_pos hkw))), bnd_err hz]; exact ⟨rfl, N1.out.bad HP.out hF⟩⟩); have hv' : v = .tuple #[] := hv; subst hv'; have HZ2 := hid (And.intro hz trivial); have N2 := hid (N1.out.frc HP.out hF hA); clear hz hA hF hh))
  go_end0
  unfold lineM
  rw [bnd_ok HZ1.out.1, bnd_ok (x := lineT (withKids n ks)) (by rw [show lineT (withKids n ks) = _ from (if_neg (by rw [hkw]; decide)).trans ((if_neg (by rw [hkw]; decide)).trans ((if_neg (by rw [hkw]; decide)).trans (if_pos hkw)))]; exact HZ2.out.1)]
  exact N2.out.ok
set_option maxRecDepth 100000 in
set_option maxHeartbeats 2000000 in
theorem line_assign {X : Xc} {F : Fn} {k : Nat} (hE : ElC X F 211 (exprC F k)) {n : Nd} {g o lo hi : Nat} {cs : Array Value} {w : World} {st : Cs} (hC : CkA w X F st) (hn : NdI w g o lo hi n) (p1 : X.low ≤ g) (p2 : g < lo) (p3 : hi ≤ X.base) (hB : Blk w g 27 cs) (hx : lineM F k n st ≠ .error none) (hkd : n.kind = 8) :
    Calls Tryz.prog 218 #[.pointer (some ⟨X.c, 0, none⟩), .pointer (some ⟨g, o, none⟩)] w (CkT X F g o lo hi w (lineM F k n st)) := by
  have hp : Pl X g lo hi := ⟨p1, p2, p3⟩
  have HP := hid hp
  have N0 := hid (NS.start hC hn hB)
  obtain ⟨p, c, c0, c1, c2, c3, c4, hk, hf⟩ := N0.out.cells
  have HK := hid hk
  have HE := hid hE
  have LB : Hid (X.low ≤ lo) := hid (by omega)
  have HN := hid hx
  clear hE hk hx hC hn hp
  rw [hkd] at c0
  go_enter Tryz.func218, Tryz.ntmps218
  go_wp2_with (first
    | (go_at_call 176; refine (exprs_any _ HE.out N0.out.a HK.out LB.out p3 (bnd_ne HN.out)).mono ?_; intro e w1 hh; rcases CkL.cases hh (bnd_ne HN.out) with ⟨m, hz, rfl, hF⟩ | ⟨ks, s1, hz, rfl, hK, hA, hF⟩; (case inl => exact ⟨rfl, by unfold lineM; rw [bnd_err hz]; exact ⟨rfl, N0.out.badI HP.out hF⟩⟩); have HZ1 := hid (And.intro hz trivial); have N1 := hid (N0.out.kids HP.out c4 hK hA hF); obtain ⟨p1', c1', d0, d1, d2, d3, d4, hk1, hf1⟩ := N1.out.cells; have HK1 := hid hk1; have hkw : (withKids n ks).kind = 8 := hkd; rw [hkw] at d0; have HN2 : Hid (lineT (withKids n ks) s1 ≠ .error none) := hid (by have h := HN.out; unfold lineM at h; rw [bnd_ok hz] at h; exact bnd_ne h); clear c0 c1 c2 c3 c4 hz hK hA hF hh hk1))
  have hkw : (withKids n ks).kind = 8 := hkd
  have LT : Hid (lineT (withKids n ks) = (variableC (withKids n ks).txt >>= fun t => fitsC (withKids n ks) t) ∧ True) := hid ⟨(if_neg (by rw [hkw]; decide)).trans (if_pos hkw), trivial⟩
  rw [LT.out.1] at HN2
  have HN3 := hid (bnd_ne HN2.out)
  have VA : Hid (∀ W, w1.grownBy W none → Calls Tryz.prog 212 #[.pointer (some ⟨X.c, 0, none⟩), .string (withKids n ks).txt] W (CkP iK X F W (variableC (withKids n ks).txt s1))) := hid (fun W hW => variable_any _ W (N1.out.a.kept hW) HN3.out)
  have GD : Hid (w1.grownBy w1.drew none) := hid (grown_drew (grown_refl _ _))
  go_region_law (first
    | (go_simp; go_at_call 212; refine (VA.out _ GD.out).mono ?_; intro e w2 hh; rcases CkP.cases hh HN3.out with ⟨m, hz, rfl, hF⟩ | ⟨t, s2, v, hz, rfl, hv, hA, hF⟩; (case inl => exact ⟨rfl, by unfold lineM; rw [bnd_ok HZ1.out.1, LT.out.1, bnd_err (x := variableC (withKids n ks).txt >>= fun t => fitsC (withKids n ks) t) (bnd_err hz)]; exact ⟨rfl, N1.out.bad HP.out ((FrC.nil GD.out).trans hF)⟩⟩); have hv' : v = .int .i64 t := hv; subst hv'; have HZ2 := hid (And.intro hz trivial); have F2 := hid ((FrC.nil (X := X) GD.out).trans hF); have N2 := hid (N1.out.frc HP.out F2.out hA); have eg := N1.out.at HP.out F2.out hA; have e0 := (World.cell?_of_block (a := ⟨g, o, none⟩) eg).trans d0; have e1 := (World.cell?_of_block (a := ⟨g, o + 1, none⟩) eg).trans d1; have e2 := (World.cell?_of_block (a := ⟨g, o + 2, none⟩) eg).trans d2; have e3 := (World.cell?_of_block (a := ⟨g, o + 3, none⟩) eg).trans d3; have e4 := (World.cell?_of_block (a := ⟨g, o + 4, none⟩) eg).trans d4; have HK2 := hid (N1.out.rows HP.out F2.out hA HK1.out); have HN4 : Hid (fitsC (withKids n ks) t s2 ≠ .error none) := hid (fits_ne _ _ _); clear hz hA hF hh eg)
    | (go_simp; go_at_call 135; refine (show Calls _ _ _ _ (CkP uK X F _ (fitsC (withKids n ks) t s2)) from (by have h := fits_any (st := s2) (withKids n ks) p1' c1' t (fun _ => True) w2 N2.out.a (NS.kv HK2.out); rw [hkw] at h; exact h)).mono ?_; intro e w3 hh; rcases CkP.cases hh HN4.out with ⟨m, hz, rfl, hF⟩ | ⟨u, s3, v, hz, rfl, hv, hA, hF⟩; (case inl => exact ⟨rfl, by unfold lineM; rw [bnd_ok HZ1.out.1, LT.out.1, bnd_err (x := variableC (withKids n ks).txt >>= fun t => fitsC (withKids n ks) t) (by rw [bnd_ok HZ2.out.1]; exact hz)]; exact ⟨rfl, N2.out.bad HP.out hF⟩⟩); have hv' : v = .tuple #[] := hv; subst hv'; have HZ3 := hid (And.intro hz trivial); have N3 := hid (N2.out.frc HP.out hF hA); clear hz hA hF hh))
  all_goals
    go_wp2_with fail
    go_end0
    unfold lineM
    rw [bnd_ok HZ1.out.1, LT.out.1, bnd_ok (x := variableC (withKids n ks).txt >>= fun t => fitsC (withKids n ks) t) (by rw [bnd_ok HZ2.out.1]; exact HZ3.out.1)]
    exact N3.out.ok
set_option maxRecDepth 100000 in
set_option maxHeartbeats 2000000 in
theorem line_skip {X : Xc} {F : Fn} {k : Nat} (hE : ElC X F 211 (exprC F k)) {n : Nd} {g o lo hi : Nat} {cs : Array Value} {w : World} {st : Cs} (hC : CkA w X F st) (hn : NdI w g o lo hi n) (p1 : X.low ≤ g) (p2 : g < lo) (p3 : hi ≤ X.base) (hB : Blk w g 27 cs) (hx : lineM F k n st ≠ .error none) (hkd : n.kind = 14) :
    Calls Tryz.prog 218 #[.pointer (some ⟨X.c, 0, none⟩), .pointer (some ⟨g, o, none⟩)] w (CkT X F g o lo hi w (lineM F k n st)) := by
  have hp : Pl X g lo hi := ⟨p1, p2, p3⟩
  have HP := hid hp
  have N0 := hid (NS.start hC hn hB)
  obtain ⟨p, c, c0, c1, c2, c3, c4, hk, hf⟩ := N0.out.cells
  have HK := hid hk
  have HE := hid hE
  have LB : Hid (X.low ≤ lo) := hid (by omega)
  have HN := hid hx
  clear hE hk hx hC hn hp
  rw [hkd] at c0
  go_enter Tryz.func218, Tryz.ntmps218
  go_wp2_with (first
    | (go_at_call 176; refine (exprs_any _ HE.out N0.out.a HK.out LB.out p3 (bnd_ne HN.out)).mono ?_; intro e w1 hh; rcases CkL.cases hh (bnd_ne HN.out) with ⟨m, hz, rfl, hF⟩ | ⟨ks, s1, hz, rfl, hK, hA, hF⟩; (case inl => exact ⟨rfl, by unfold lineM; rw [bnd_err hz]; exact ⟨rfl, N0.out.badI HP.out hF⟩⟩); have HZ1 := hid (And.intro hz trivial); have N1 := hid (N0.out.kids HP.out c4 hK hA hF); obtain ⟨p1', c1', d0, d1, d2, d3, d4, hk1, hf1⟩ := N1.out.cells; have HK1 := hid hk1; have hkw : (withKids n ks).kind = 14 := hkd; rw [hkw] at d0; have HN2 : Hid (lineT (withKids n ks) s1 ≠ .error none) := hid (by have h := HN.out; unfold lineM at h; rw [bnd_ok hz] at h; exact bnd_ne h); clear c0 c1 c2 c3 c4 hz hK hA hF hh hk1))
  go_end0
  have hkw : (withKids n ks).kind = 14 := hkd
  unfold lineM
  rw [bnd_ok HZ1.out.1, bnd_ok (x := lineT (withKids n ks)) (by rw [show lineT (withKids n ks) = _ from (if_neg (by rw [hkw]; decide)).trans ((if_neg (by rw [hkw]; decide)).trans ((if_neg (by rw [hkw]; decide)).trans (if_neg (by rw [hkw]; decide))))]; rfl)]
  exact N1.out.ok
set_option maxRecDepth 100000 in
set_option maxHeartbeats 2000000 in
theorem line_do {X : Xc} {F : Fn} {k : Nat} (hE : ElC X F 211 (exprC F k)) {n : Nd} {g o lo hi : Nat} {cs : Array Value} {w : World} {st : Cs} (hC : CkA w X F st) (hn : NdI w g o lo hi n) (p1 : X.low ≤ g) (p2 : g < lo) (p3 : hi ≤ X.base) (hB : Blk w g 27 cs) (hx : lineM F k n st ≠ .error none) (hkd : n.kind = 13) (hal : aloneB n.kids = true) :
    Calls Tryz.prog 218 #[.pointer (some ⟨X.c, 0, none⟩), .pointer (some ⟨g, o, none⟩)] w (CkT X F g o lo hi w (lineM F k n st)) := by
  have hp : Pl X g lo hi := ⟨p1, p2, p3⟩
  have HP := hid hp
  have N0 := hid (NS.start hC hn hB)
  obtain ⟨p, c, c0, c1, c2, c3, c4, hk, hf⟩ := N0.out.cells
  have HK := hid hk
  have HE := hid hE
  have LB : Hid (X.low ≤ lo) := hid (by omega)
  have HN := hid hx
  clear hE hk hx hC hn hp
  rw [hkd] at c0
  have AL : Hid (Calls Tryz.prog 247 #[.slice p n.kids.length c] w (fun e w' => e = .returned (.tuple #[]) ∧ w.grownBy w' none)) := hid ((alone_any w HK.out).mono (fun e w' h => ⟨h.1.trans (if_pos hal), h.2⟩))
  clear hal
  go_enter Tryz.func218, Tryz.ntmps218
  go_wp2_with (first
    | (go_at_call 247; refine (AL.out).mono ?_; rintro e w0 ⟨rfl, hg⟩; have F0 := hid (FrC.nil (X := X) hg); have A0 := N0.out.a.kept hg; have eg := N0.out.at HP.out F0.out A0; replace c0 := (World.cell?_of_block (a := ⟨g, o, none⟩) eg).trans c0; replace c1 := (World.cell?_of_block (a := ⟨g, o + 1, none⟩) eg).trans c1; replace c2 := (World.cell?_of_block (a := ⟨g, o + 2, none⟩) eg).trans c2; replace c3 := (World.cell?_of_block (a := ⟨g, o + 3, none⟩) eg).trans c3; replace c4 := (World.cell?_of_block (a := ⟨g, o + 4, none⟩) eg).trans c4; replace HK := hid (N0.out.rows HP.out F0.out A0 HK.out); replace N0 := hid (N0.out.grown HP.out hg); clear F0 A0 eg hg AL)
    | (go_at_call 176; refine (exprs_any _ HE.out N0.out.a HK.out LB.out p3 (bnd_ne HN.out)).mono ?_; intro e w1 hh; rcases CkL.cases hh (bnd_ne HN.out) with ⟨m, hz, rfl, hF⟩ | ⟨ks, s1, hz, rfl, hK, hA, hF⟩; (case inl => exact ⟨rfl, by unfold lineM; rw [bnd_err hz]; exact ⟨rfl, N0.out.badI HP.out hF⟩⟩); have HZ1 := hid (And.intro hz trivial); have N1 := hid (N0.out.kids HP.out c4 hK hA hF); obtain ⟨p1', c1', d0, d1, d2, d3, d4, hk1, hf1⟩ := N1.out.cells; have HK1 := hid hk1; have hkw : (withKids n ks).kind = 13 := hkd; rw [hkw] at d0; have HN2 : Hid (lineT (withKids n ks) s1 ≠ .error none) := hid (by have h := HN.out; unfold lineM at h; rw [bnd_ok hz] at h; exact bnd_ne h); clear c0 c1 c2 c3 c4 hz hK hA hF hh hk1))
  go_end0
  have hkw : (withKids n ks).kind = 13 := hkd
  unfold lineM
  rw [bnd_ok HZ1.out.1, bnd_ok (x := lineT (withKids n ks)) (by rw [show lineT (withKids n ks) = _ from (if_neg (by rw [hkw]; decide)).trans ((if_neg (by rw [hkw]; decide)).trans ((if_neg (by rw [hkw]; decide)).trans (if_neg (by rw [hkw]; decide))))]; rfl)]
  exact N1.out.ok
set_option maxRecDepth 100000 in
set_option maxHeartbeats 2000000 in
theorem line_lone {X : Xc} {F : Fn} {n : Nd} {g o lo hi : Nat} {cs : Array Value} {w : World} {st : Cs} (hC : CkA w X F st) (hn : NdI w g o lo hi n) (p1 : X.low ≤ g) (p2 : g < lo) (p3 : hi ≤ X.base) (hB : Blk w g 27 cs) (hkd : n.kind = 13) (hal : aloneB n.kids = false) :
    Calls Tryz.prog 218 #[.pointer (some ⟨X.c, 0, none⟩), .pointer (some ⟨g, o, none⟩)] w (CkT X F g o lo hi w (.error (some 125))) := by
  have hp : Pl X g lo hi := ⟨p1, p2, p3⟩
  have HP := hid hp
  have N0 := hid (NS.start hC hn hB)
  obtain ⟨p, c, c0, c1, c2, c3, c4, hk, hf⟩ := N0.out.cells
  have HK := hid hk
  clear hk hC hn hp
  rw [hkd] at c0
  have AL : Hid (Calls Tryz.prog 247 #[.slice p n.kids.length c] w (fun e w' => e = .panicked (RjV 125) ∧ w.grownBy w' none)) := hid ((alone_any w HK.out).mono (fun e w' h => ⟨h.1.trans (if_neg (by rw [hal]; decide)), h.2⟩))
  clear hal
  go_enter Tryz.func218, Tryz.ntmps218
  go_wp2_with (go_at_call 247; refine (AL.out).mono ?_; rintro e w0 ⟨rfl, hg⟩; have F0 := hid (FrC.nil (X := X) hg); clear hg)
  exact ⟨rfl, rfl, N0.out.bad HP.out F0.out⟩
theorem line_any {X : Xc} {F : Fn} {k : Nat} (hE : ElC X F 211 (exprC F k)) {n : Nd} {g o lo hi : Nat} {cs : Array Value} {w : World} {st : Cs} (hC : CkA w X F st) (hn : NdI w g o lo hi n) (p1 : X.low ≤ g) (p2 : g < lo) (p3 : hi ≤ X.base) (hB : Blk w g 27 cs) (hx : lineC F k n st ≠ .error none) (hkd : n.kind = 7 ∨ n.kind = 8 ∨ n.kind = 11 ∨ n.kind = 12 ∨ n.kind = 13 ∨ n.kind = 14) :
    Calls Tryz.prog 218 #[.pointer (some ⟨X.c, 0, none⟩), .pointer (some ⟨g, o, none⟩)] w (CkT X F g o lo hi w (lineC F k n st)) := by
  by_cases hb : n.kind = 13 ∧ aloneB n.kids = false
  · rw [line_not F k n st hb]
    exact line_lone hC hn p1 p2 p3 hB hb.1 hb.2
  · rw [line_eq F k n st hb] at hx ⊢
    rcases hkd with h | h | h | h | h | h
    · exact line_define hE hC hn p1 p2 p3 hB hx h
    · exact line_assign hE hC hn p1 p2 p3 hB hx h
    · exact line_returned hE hC hn p1 p2 p3 hB hx h
    · exact line_assert hE hC hn p1 p2 p3 hB hx h
    · exact line_do hE hC hn p1 p2 p3 hB hx h (by cases ha : aloneB n.kids with | true => rfl | false => exact absurd ⟨h, ha⟩ hb)
    · exact line_skip hE hC hn p1 p2 p3 hB hx h
end Ck
end Go.Proofs.YtajoncmmdeahnaaGreatDoor
