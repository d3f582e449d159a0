/-
  The checker: the type of an expression whose kids' types are found. The checker: what a call must know of a function. The checker over trees that are written in place: what a call may turn; rows, node by node. The checker over trees that are written in place: a row of expressions.
-/
import Derived.Test.YtajoncmmdeahnaaGreatDoorKCk4
import Derived.Test.YtajoncmmdeahnaaGreatDoorKAIv
namespace Go.Proofs.YtajoncmmdeahnaaGreatDoor
open Go.RowKit
namespace Ck
section
variable (n : Nd) (p : Option Addr) (c : Nat) (P : Nat → Prop) {X : Xc} {F : Fn} {st : Cs} (w : World) (hC : CkA w X F st) (hk : KsV w P (.slice p n.kids.length c) n.kids)
include hC hk
theorem call_any (hx : callC F n st ≠ .error none) : Calls Tryz.prog 213 #[.pointer (some ⟨X.c, 0, none⟩), .agg #[.int .i64 n.kind, .int .i64 n.ty, .string n.txt, .int .i64 n.num, .slice p n.kids.length c]] w (CkP iK X F w (callC F n st)) := by
  unfold callC at hx ⊢
  by_cases hs : 1000000 < n.txt.size
  · rw [if_pos hs] at hx
    exact absurd rfl hx
  rw [if_neg hs]
  clear hx
  cases hF : F n.txt with
  | none => exact (call_none n p c w hC (Nat.le_of_not_lt hs) hF).mono fun e w' h => h.ck hC
  | some x =>
    obtain ⟨ps, a⟩ := x
    simp only []
    refine (call_some n p c P w hC hk (Nat.le_of_not_lt hs) ps a hF).mono fun e w' h => ?_
    have h2 := h.ck hC
    by_cases hl : n.kids.length = ps.length
    · rw [if_neg (fun h => h hl), callL_eq]
      rw [decide_eq_true hl, Bool.true_and, if_pos hl] at h2
      exact h2
    · rw [if_pos hl]
      rw [decide_eq_false hl, Bool.false_and, if_neg hl] at h2
      exact h2
set_option maxRecDepth 100000 in
set_option maxHeartbeats 4000000 in
theorem typeOf_any (hx : typeOfC F n st ≠ .error none) : Calls Tryz.prog 177 #[.pointer (some ⟨X.c, 0, none⟩), .agg #[.int .i64 n.kind, .int .i64 n.ty, .string n.txt, .int .i64 n.num, .slice p n.kids.length c]] w (CkP iK X F w (typeOfC F n st)) := by
  have HX := hid hx
  have GA := hid (grown_alloc (grown_refl w none) (.cells #[.int .i64 n.kind, .int .i64 n.ty, .string n.txt, .int .i64 n.num, .slice p n.kids.length c] 27))
  have HC := hid hC
  have HK := hid hk
  clear hC hk
  unfold typeOfC at hx HX ⊢
  by_cases h1 : n.kind = 20
  · rw [if_pos h1]
    rw [h1] at GA ⊢
    go_enter Tryz.func177, Tryz.ntmps177
    go_wp2_with fail
    go_ret
    exact ⟨_, rfl, rfl, HC.out.kept GA.out, FrC.nil GA.out⟩
  by_cases h2 : n.kind = 21
  · rw [if_neg h1, if_pos h2]
    rw [h2] at GA ⊢
    go_enter Tryz.func177, Tryz.ntmps177
    go_wp2_with fail
    go_ret
    exact ⟨_, rfl, rfl, HC.out.kept GA.out, FrC.nil GA.out⟩
  by_cases h3 : n.kind = 22
  · rw [if_neg h1, if_neg h2, if_pos h3]
    rw [h3] at GA ⊢
    go_enter Tryz.func177, Tryz.ntmps177
    go_wp2_with fail
    go_ret
    exact ⟨_, rfl, rfl, HC.out.kept GA.out, FrC.nil GA.out⟩
  rw [if_neg h1, if_neg h2, if_neg h3] at hx HX ⊢
  by_cases h4 : n.kind = 23
  · rw [if_pos h4] at hx HX ⊢
    have CC : Hid (∀ W, w.grownBy W none → Calls Tryz.prog 212 #[.pointer (some ⟨X.c, 0, none⟩), .string n.txt] W (CkP iK X F W (variableC n.txt st))) := fun W hW => variable_any n.txt W (HC.out.kept hW) hx
    rw [h4] at GA ⊢
    generalize variableC n.txt st = K at *
    clear h1 h2 h3 h4
    go_enter Tryz.func177, Tryz.ntmps177
    go_wp2_with (go_at_call 212; refine (CC.out _ GA.out).mono ?_; intro e w1 hh; rcases CkP.cases hh HX.out with ⟨m, hz, rfl, hF⟩ | ⟨a, s2, v, hz, rfl, hv, hA, hF⟩; (case inl => exact ⟨rfl, by rw [hz]; exact ⟨rfl, (FrC.nil GA.out).trans hF⟩⟩); have hv' : v = .int .i64 a := hv; subst hv'; have HZ := hid (And.intro hz trivial); have HA := hid hA; have HF := hid ((FrC.nil GA.out).trans hF); clear hz hA hF hh)
    go_ret
    rw [HZ.out.1]
    exact ⟨_, rfl, rfl, HA.out, HF.out⟩
  rw [if_neg h4] at hx HX ⊢
  by_cases h5 : n.kind = 24
  · rw [if_pos h5] at hx HX ⊢
    have CC : Hid (∀ W, w.grownBy W none → Calls Tryz.prog 213 #[.pointer (some ⟨X.c, 0, none⟩), .agg #[.int .i64 n.kind, .int .i64 n.ty, .string n.txt, .int .i64 n.num, .slice p n.kids.length c]] W (CkP iK X F W (callC F n st))) := fun W hW => call_any n p c P W (HC.out.kept hW) (HK.out.kept hW) hx
    rw [h5] at GA CC ⊢
    generalize callC F n st = K at *
    clear h1 h2 h3 h4 h5
    go_enter Tryz.func177, Tryz.ntmps177
    go_wp2_with (go_at_call 213; refine (CC.out _ GA.out).mono ?_; intro e w1 hh; rcases CkP.cases hh HX.out with ⟨m, hz, rfl, hF⟩ | ⟨a, s2, v, hz, rfl, hv, hA, hF⟩; (case inl => exact ⟨rfl, by rw [hz]; exact ⟨rfl, (FrC.nil GA.out).trans hF⟩⟩); have hv' : v = .int .i64 a := hv; subst hv'; have HZ := hid (And.intro hz trivial); have HA := hid hA; have HF := hid ((FrC.nil GA.out).trans hF); clear hz hA hF hh)
    go_ret
    rw [HZ.out.1]
    exact ⟨_, rfl, rfl, HA.out, HF.out⟩
  rw [if_neg h5] at hx HX ⊢
  by_cases h6 : n.kind = 25
  · rw [if_pos h6] at hx HX ⊢
    have CC : Hid (∀ W, w.grownBy W none → Calls Tryz.prog 214 #[.agg #[.int .i64 n.kind, .int .i64 n.ty, .string n.txt, .int .i64 n.num, .slice p n.kids.length c]] W (CkP iK X F W (aheadC n st))) := fun W hW => ahead_any n p c P W (HC.out.kept hW) (HK.out.kept hW)
    rw [h6] at GA CC ⊢
    generalize aheadC n st = K at *
    clear h1 h2 h3 h4 h5 h6
    go_enter Tryz.func177, Tryz.ntmps177
    go_wp2_with (go_at_call 214; refine (CC.out _ GA.out).mono ?_; intro e w1 hh; rcases CkP.cases hh HX.out with ⟨m, hz, rfl, hF⟩ | ⟨a, s2, v, hz, rfl, hv, hA, hF⟩; (case inl => exact ⟨rfl, by rw [hz]; exact ⟨rfl, (FrC.nil GA.out).trans hF⟩⟩); have hv' : v = .int .i64 a := hv; subst hv'; have HZ := hid (And.intro hz trivial); have HA := hid hA; have HF := hid ((FrC.nil GA.out).trans hF); clear hz hA hF hh)
    go_ret
    rw [HZ.out.1]
    exact ⟨_, rfl, rfl, HA.out, HF.out⟩
  rw [if_neg h6] at hx HX ⊢
  by_cases h7 : n.kind = 26
  · rw [if_pos h7] at hx HX ⊢
    have CC : Hid (∀ W, w.grownBy W none → Calls Tryz.prog 215 #[.agg #[.int .i64 n.kind, .int .i64 n.ty, .string n.txt, .int .i64 n.num, .slice p n.kids.length c]] W (CkP iK X F W (betweenC n st))) := fun W hW => between_any n p c P W (HC.out.kept hW) (HK.out.kept hW)
    rw [h7] at GA CC ⊢
    generalize betweenC n st = K at *
    clear h1 h2 h3 h4 h5 h6 h7
    go_enter Tryz.func177, Tryz.ntmps177
    go_wp2_with (go_at_call 215; refine (CC.out _ GA.out).mono ?_; intro e w1 hh; rcases CkP.cases hh HX.out with ⟨m, hz, rfl, hF⟩ | ⟨a, s2, v, hz, rfl, hv, hA, hF⟩; (case inl => exact ⟨rfl, by rw [hz]; exact ⟨rfl, (FrC.nil GA.out).trans hF⟩⟩); have hv' : v = .int .i64 a := hv; subst hv'; have HZ := hid (And.intro hz trivial); have HA := hid hA; have HF := hid ((FrC.nil GA.out).trans hF); clear hz hA hF hh)
    go_ret
    rw [HZ.out.1]
    exact ⟨_, rfl, rfl, HA.out, HF.out⟩
  rw [if_neg h7] at hx HX ⊢
  have CC : Hid (∀ W, w.grownBy W none → Calls Tryz.prog 216 #[.agg #[.int .i64 n.kind, .int .i64 n.ty, .string n.txt, .int .i64 n.num, .slice p n.kids.length c]] W (CkP iK X F W (convertedC n st))) := fun W hW => converted_any n p c P W (HC.out.kept hW) (HK.out.kept hW)
  generalize convertedC n st = K at *
  have e1 : (n.kind == 20) = false := by rw [beq_eq_false_iff_ne]; exact h1
  have e2 : (n.kind == 21) = false := by rw [beq_eq_false_iff_ne]; exact h2
  have e3 : (n.kind == 22) = false := by rw [beq_eq_false_iff_ne]; exact h3
  have e4 : (n.kind == 23) = false := by rw [beq_eq_false_iff_ne]; exact h4
  have e5 : (n.kind == 24) = false := by rw [beq_eq_false_iff_ne]; exact h5
  have e6 : (n.kind == 25) = false := by rw [beq_eq_false_iff_ne]; exact h6
  have e7 : (n.kind == 26) = false := by rw [beq_eq_false_iff_ne]; exact h7
  clear h1 h2 h3 h4 h5 h6 h7
  generalize n.kind = kd at *
  go_enter Tryz.func177, Tryz.ntmps177
  go_wp2_with (go_at_call 216; refine (CC.out _ GA.out).mono ?_; intro e w1 hh; rcases CkP.cases hh HX.out with ⟨m, hz, rfl, hF⟩ | ⟨a, s2, v, hz, rfl, hv, hA, hF⟩; (case inl => exact ⟨rfl, by rw [hz]; exact ⟨rfl, (FrC.nil GA.out).trans hF⟩⟩); have hv' : v = .int .i64 a := hv; subst hv'; have HZ := hid (And.intro hz trivial); have HA := hid hA; have HF := hid ((FrC.nil GA.out).trans hF); clear hz hA hF hh)
  go_ret
  rw [HZ.out.1]
  exact ⟨_, rfl, rfl, HA.out, HF.out⟩
end
end Ck
end Go.Proofs.YtajoncmmdeahnaaGreatDoor
namespace Go.Proofs.YtajoncmmdeahnaaGreatDoor
open Go.RowKit
namespace Ck
theorem info3 : (Tryz.prog.info? 3).map (fun i => (i.zero, i.size, i.bytes)) = some (some (.int .i64 0), 1, 8) := by kernel_rfl
section
variable {ops : Array Oper} {rest : List Oper} {o : Oper} {a : Act} {Q : Exit → Act → World → Prop} {w : World}
theorem append_i3 (base : Nat) (v : Value) (l : List Value) (t : Int) (ad : Addr) (cc : Nat) (hrow : w.ownsRow base 3 1 v l.length l) (hcell : w.cell? ad = some (.int .i64 t)) (hl : l.length ≤ 1000000) (hbase : base ≤ w.heap.size) (s x : Operand)
    (hgd : o.guard = none) (ho : o.op = .call { callee := .builtin .append, args := #[s, x], argTypes := #[22, 22] }) (hs : a.eval s = v) (hx : a.eval x = .slice (some ad) 1 cc)
    (h : ∀ v' w', w'.ownsRow base 3 1 v' (l.length + 1) (l ++ [.int .i64 t]) → w.grownBy w' v.ownBlock → wpList Tryz.prog ops Q rest (a.put o.dst v') w') : wpList Tryz.prog ops Q (o :: rest) a w := by
  obtain ⟨i3, hi, hz0, hz1, hz2⟩ := info_parts info3
  refine wpList_append_own w hgd s x 22 ho base 3 i3 _ 1 8 Tryz.underlying22 hi hz0 hz1 hz2 rfl (by decide) v l.length l hs hrow ad 1 cc [.int .i64 t] hx rfl (fun j u hj => ?_) (fun u hu => ?_) (by unfold maxLen; omega) (by omega) hbase ?_
  · rcases j with _ | j
    · have e : Value.int .i64 t = u := Option.some.inj hj
      have e2 : ad.add 0 = ad := rfl
      rw [e2, ← e]
      exact hcell
    · exact absurd hj (by simp)
  · rw [List.mem_singleton] at hu
    rw [hu]; rfl
  · intro v' w' h2 h3 _
    exact h v' w' h2 h3
end
/-- The types of the parameters. -/
def pOf (ks : List Nd) : List Int := (ks.filter fun x => x.kind == 5).map Nd.ty
theorem pOf_snoc (l : List Nd) (x : Nd) : pOf (l ++ [x]) = if x.kind = 5 then pOf l ++ [x.ty] else pOf l := by
  unfold pOf
  rw [List.filter_append, List.map_append]
  by_cases h : x.kind = 5
  · rw [if_pos h]
    simp [h]
  · rw [if_neg h]
    have : (x.kind == 5) = false := by rw [beq_eq_false_iff_ne]; exact h
    simp [this]
theorem pOf_yes (l : List Nd) (x : Nd) (h : x.kind = 5) : pOf (l ++ [x]) = pOf l ++ [x.ty] := by rw [pOf_snoc, if_pos h]
theorem pOf_no (l : List Nd) (x : Nd) (h : x.kind ≠ 5) : pOf (l ++ [x]) = pOf l := by rw [pOf_snoc, if_neg h]
theorem pOf_len (l : List Nd) : (pOf l).length ≤ l.length := by
  unfold pOf
  rw [List.length_map]
  exact List.length_filter_le _ _
/-- The loop's head: j kids were looked at. -/
def SgI (w : World) (k t : Int) (s : ByteArray) (n : Int) (q : Value) (ks : List Nd) (j : Nat) (wr : World) : Prop :=
  w.grownBy wr none ∧ Blk wr w.heap.size 27 #[.int .i64 k, .int .i64 t, .string s, .int .i64 n, q] ∧ Blk wr (w.heap.size + 1) 103 #[.slice none 0 0, .int .i64 0] ∧ ∃ v, Blk wr (w.heap.size + 1 + 1) 103 #[v, .int .i64 t] ∧ wr.ownsRow w.heap.size 3 1 v (pOf (ks.take j)).length ((pOf (ks.take j)).map (Value.int .i64))
theorem own_ne {w : World} {base e size n b : Nat} {t : TypeId} {v : Value} {xs : List Value} {cs : Array Value} (h : w.ownsRow base e size v n xs) (hB : Blk w b t cs) (ht : t ≠ e) : some b ≠ v.ownBlock := by
  rcases h.2 with ⟨rfl, _⟩ | ⟨g, cap, cur, rfl, h1, h2, _⟩
  · intro e; cases e
  · intro eq
    have eq : b = g := Option.some.inj eq
    subst eq
    unfold Blk at hB
    rw [hB] at h2
    injection h2 with h2
    injection h2 with _ h2
    exact ht h2
theorem own_kept {w w' : World} {base e size n b : Nat} {t : TypeId} {v : Value} {xs : List Value} {cs : Array Value} (h : w.ownsRow base e size v n xs) (hg : w.grownBy w' (some b)) (hB : Blk w b t cs) (ht : t ≠ e) : w'.ownsRow base e size v n xs := by
  refine h.kept hg ?_
  have h2 := own_ne h hB ht
  cases hv : v.ownBlock with
  | none => exact Or.inl rfl
  | some r =>
    refine Or.inr (fun e => h2 ?_)
    rw [hv, e]
set_option maxRecDepth 100000 in
set_option maxHeartbeats 2000000 in
theorem sig_any (k t : Int) (s : ByteArray) (n : Int) (q : Value) (ks : List Nd) (P : Nat → Prop) (w : World) (hl : ks.length ≤ 255) (hks : KsV w P q ks) :
    Calls Tryz.prog 53 #[.agg #[.int .i64 k, .int .i64 t, .string s, .int .i64 n, q]] w fun e w' => ∃ pa cap, e = .returned (.agg #[.slice pa (pOf ks).length cap, .int .i64 t]) ∧ w'.ownsRow w.heap.size 3 1 (.slice pa (pOf ks).length cap) (pOf ks).length ((pOf ks).map (Value.int .i64)) ∧ w.grownBy w' none := by
  obtain ⟨p, c, rfl, _, _, _⟩ := hks.form
  have HK := hid hks
  obtain ⟨L, hL⟩ : ∃ L, ks.length = L := ⟨_, rfl⟩
  have HL : Hid (ks.length = L) := hL
  rw [hL] at hl
  have HK' : Hid (KsV w P (.slice p L c) ks) := by rw [← hL]; exact HK.out
  rw [hL]
  clear HK hL hks
  have i1 : (L : Int) ≤ 255 := by omega
  go_enter Tryz.func53, Tryz.ntmps53
  go_wp2
  go_loopw [12] (fun i wr => ∃ j : Nat, j ≤ L ∧ i = .int .i64 j ∧ SgI w k t s n (.slice p L c) ks j wr) (fun i _ => L - (intOf i).toNat)
  case atStart =>
    refine ⟨0, Nat.zero_le _, rfl, grown_alloc (grown_alloc (grown_alloc (grown_refl w none) _) _) _, ((Blk.new w 27 _).alloc _).alloc _, ?_, _, ?_, World.ownsRow_nil _ _ _ _⟩
    · have := (Blk.new (w.alloc (.cells #[.int .i64 k, .int .i64 t, .string s, .int .i64 n, .slice p L c] 27)) 103 #[.slice none 0 0, .int .i64 0]).alloc (.cells #[.slice none 0 0, .int .i64 t] 103)
      rw [World.size_alloc] at this
      exact this
    · have := Blk.new ((w.alloc (.cells #[.int .i64 k, .int .i64 t, .string s, .int .i64 n, .slice p L c] 27)).alloc (.cells #[.slice none 0 0, .int .i64 0] 103)) 103 #[.slice none 0 0, .int .i64 t]
      rw [World.size_alloc, World.size_alloc] at this
      exact this
  case round =>
    obtain ⟨j, hj, rfl, hI⟩ := hrel
    have j0 : (0 : Int) ≤ j := by omega
    obtain ⟨hg, hB0, hB1, v, hB2, hrow⟩ := hI
    have G := hid hg
    have B0 := hid hB0
    have B1 := hid hB1
    have B2 := hid hB2
    have RW := hid hrow
    by_cases hlt : j < L
    · have j1 : (j : Int) < L := by omega
      have hjk : j < ks.length := by rw [HL.out]; exact hlt
      obtain ⟨g', hp, _, hat⟩ := (HK'.out.kept hg).at j hjk
      subst hp
      have TK : ks.take (j + 1) = ks.take j ++ [ks[j]] := List.take_succ_eq_append_getElem hjk
      obtain ⟨q, c0, c1, c2, c3, c4, hkq⟩ := hat.cells
      rw [Nat.mul_comm 5 j] at c0 c1 c2 c3 c4
      obtain ⟨p', cap', hq, _⟩ := hkq.form
      subst hq
      have LE := hid (pOf_len (ks.take j))
      have LT : Hid ((ks.take j).length ≤ j ∧ True) := hid ⟨by rw [List.length_take]; omega, trivial⟩
      clear hat hkq
      generalize ks[j] = x at *
      obtain ⟨kd, ty, tx, nm, kk⟩ := x
      simp only [Nd.kind, Nd.ty, Nd.txt, Nd.num, Nd.kids] at c0 c1 c2 c3 c4
      generalize kk.length = kl at *
      have hz := hB0.lt
      have hz1 := hB1.lt
      have hz2 := hB2.lt
      obtain ⟨vp, vc, rfl, _⟩ := Lw.row_form hrow
      have OB : Blk (wr.alloc (.cells #[.int .i64 kd, .int .i64 ty, .string tx, .int .i64 nm, .slice p' kl cap'] 27)) (w.heap.size + 1 + 1) 103 _ := hB2.alloc _
      have y0 := OB.cell 0
      have z0 := OB.frozen 0
      simp at y0
      have gA := grown_alloc (grown_refl wr none) (.cells #[.int .i64 kd, .int .i64 ty, .string tx, .int .i64 nm, .slice p' kl cap'] 27)
      have RA := Lw.row_none hrow gA
      have GA := hid gA
      by_cases hk : kd = 5
      · subst hk
        have ET : pOf (ks.take (j + 1)) = pOf (ks.take j) ++ [ty] := by rw [TK]; exact pOf_yes _ _ rfl
        clear TK
        have ET := hid ET
        have gB := grown_alloc gA (.cells #[.int .i64 ty] 3)
        have RB := hid (Lw.row_none hrow gB)
        have GB := hid gB
        have OC := hid (OB.alloc (.cells #[.int .i64 ty] 3))
        have CL : Hid (((wr.alloc (.cells #[.int .i64 5, .int .i64 ty, .string tx, .int .i64 nm, .slice p' kl cap'] 27)).alloc (.cells #[.int .i64 ty] 3)).cell? ⟨wr.heap.size + 1, 0, none⟩ = some (.int .i64 ty) ∧ True) := hid ⟨by have h := (Blk.new (wr.alloc (.cells #[.int .i64 5, .int .i64 ty, .string tx, .int .i64 nm, .slice p' kl cap'] 27)) 3 #[.int .i64 ty]).cell 0; rw [World.size_alloc] at h; exact h, trivial⟩
        have SZ : Hid (w.heap.size ≤ wr.heap.size ∧ True) := hid ⟨by omega, trivial⟩
        have B0 := hid (B0.out.kept gB (by simp))
        have B1 := hid (B1.out.kept gB (by simp))
        have GN := hid (grown_none hg gB)
        clear hB0 hB1 hB2 hrow hg gA gB OB RA GA RW G B2
        go_wp2_with (at_builtin; refine append_i3 w.heap.size _ ((pOf (ks.take j)).map (Value.int .i64)) ty ⟨wr.heap.size + 1, 0, none⟩ 1 (by rw [List.length_map]; exact RB.out) (CL.out.1) (by rw [List.length_map]; have := LE.out; have := LT.out.1; omega) (by rw [World.size_alloc, World.size_alloc]; have := SZ.out.1; omega) _ _ rfl rfl rfl rfl ?_; intro v3 w3 hr hg3; rw [List.length_map] at hr; have OD := hid (OC.out.kept hg3 (own_ne RB.out OC.out (by decide))); have B0 := hid (B0.out.kept hg3 (own_ne RB.out B0.out (by decide))); have B1 := hid (B1.out.kept hg3 (own_ne RB.out B1.out (by decide))); have G3 := hid (Lw.grown_own GN.out RB.out hg3); obtain ⟨p3, k3, e3, _⟩ := Lw.row_form hr; subst e3; have RD := hid hr; have d0 := OD.out.cell 0; simp at d0; have f0 := OD.out.frozen 0; clear hr hg3)
        go_roundw
        case rel =>
          have gS := grown_set (grown_refl w3 (some (w.heap.size + 1 + 1))) 0 (.slice p3 ((pOf (ks.take j)).length + 1) k3)
          refine ⟨j + 1, by omega, by go_num, grown_set_new G3.out (a := ⟨w.heap.size + 1 + 1, 0, none⟩) _ (by show _ ≤ w.heap.size + 1 + 1; omega), B0.out.kept gS (by simp; omega), B1.out.kept gS (by simp), _, by have := OD.out.set 0 (.slice p3 ((pOf (ks.take j)).length + 1) k3); simp at this; exact this, ?_⟩
          have := own_kept RD.out gS OD.out (by decide)
          rw [ET.out, List.length_append, List.map_append]
          exact this
        case measure => simp [intOf]; omega
      · have ET : pOf (ks.take (j + 1)) = pOf (ks.take j) := by rw [TK]; exact pOf_no _ _ hk
        clear TK
        have ET := hid ET
        have RA := hid RA
        have B0 := hid (B0.out.kept gA (by simp))
        have B1 := hid (B1.out.kept gA (by simp))
        have B2 := hid OB
        have GN := hid (grown_none hg gA)
        clear hB0 hB1 hB2 hrow hg gA OB GA RW G
        go_wp2
        go_roundw
        case rel =>
          refine ⟨j + 1, by omega, by go_num, GN.out, B0.out, B1.out, _, B2.out, ?_⟩
          rw [ET.out]
          exact RA.out
        case measure => simp [intOf]; omega
    · have hjL : j = L := by omega
      subst hjL
      have j1 : ¬ (j : Int) < j := by omega
      obtain ⟨vp, vc, rfl, _⟩ := Lw.row_form hrow
      have z0 : wr.cell? ⟨w.heap.size + 1, 0, none⟩ = some (.slice none 0 0) := by rw [hB1.cell]; rfl
      have z1 : wr.cell? ⟨w.heap.size + 1, 1, none⟩ = some (.int .i64 0) := by rw [hB1.cell]; rfl
      have x0 := hB2.cell 0
      have x1 := hB2.cell 1
      simp at x0 x1
      have f0 := hB1.frozen 0
      have f1 := hB1.frozen 1
      have hw2 := hB2.lt
      have ET : ks.take j = ks := List.take_of_length_le (by rw [HL.out]; exact Nat.le_refl _)
      rw [ET] at hrow x0 hB2
      have RW := hid hrow
      clear hB0 hB1 hB2 hrow hg HK' ET
      go_wp2
      have gF := grown_set (grown_set (grown_refl wr (some (w.heap.size + 1))) 0 (.slice vp (pOf ks).length vc)) 1 (.int .i64 t)
      refine bodyPost_ret (v := .agg #[.slice vp (pOf ks).length vc, .int .i64 t]) (by simp [results, Tryz.results53, go_sem, z0, z1]) rfl ?_
      exact ⟨vp, vc, rfl, own_kept RW.out gF B1.out (by decide), grown_set_new (grown_set_new G.out (a := ⟨w.heap.size + 1, 0, none⟩) _ (by show _ ≤ w.heap.size + 1; omega)) (a := ⟨w.heap.size + 1, 1, none⟩) _ (by show _ ≤ w.heap.size + 1; omega)⟩
end Ck
end Go.Proofs.YtajoncmmdeahnaaGreatDoor
namespace Go.Proofs.YtajoncmmdeahnaaGreatDoor
open Go.RowKit
namespace Ck
/-- The checker's own, and the blocks from lo on and below hi. -/
structure FrI (X : Xc) (lo hi : Nat) (w w' : World) : Prop where
  os : w'.os = w.os
  tape : w'.tape = w.tape
  output : w'.output = w.output
  size : w.heap.size ≤ w'.heap.size
  block : ∀ i, i < w.heap.size → i ≠ X.c → i ≠ X.mv → i ≠ X.mt → (X.base ≤ i → ¬ StrRow w i) → ¬ (lo ≤ i ∧ i < hi) → w'.heap[i]? = w.heap[i]?
/-- .. and five cells of block g, from o on. -/
structure FrN (X : Xc) (g o lo hi : Nat) (w w' : World) : Prop where
  os : w'.os = w.os
  tape : w'.tape = w.tape
  output : w'.output = w.output
  size : w.heap.size ≤ w'.heap.size
  block : ∀ i, i < w.heap.size → i ≠ X.c → i ≠ X.mv → i ≠ X.mt → (X.base ≤ i → ¬ StrRow w i) → ¬ (lo ≤ i ∧ i < hi) → i ≠ g → w'.heap[i]? = w.heap[i]?
  cell : ∀ j, (j < o ∨ o + 5 ≤ j) → w'.cell? ⟨g, j, none⟩ = w.cell? ⟨g, j, none⟩
  form : ∀ t cs, Blk w g t cs → ∃ cs', Blk w' g t cs' ∧ cs'.size = cs.size
theorem FrC.i {X : Xc} {w w' : World} (h : FrC X w w') (lo hi : Nat) : FrI X lo hi w w' := ⟨h.os, h.tape, h.output, h.size, fun i h1 h2 h3 h4 h5 _ => h.block i h1 h2 h3 h4 h5⟩
theorem FrI.refl (X : Xc) (lo hi : Nat) (w : World) : FrI X lo hi w w := (FrC.refl X w).i lo hi
theorem str_back {X : Xc} {a b : World} {i : Nat} (e : b.heap[i]? = a.heap[i]?) (h : X.base ≤ i → ¬ StrRow a i) : X.base ≤ i → ¬ StrRow b i := fun hb ⟨cs, hs⟩ => h hb ⟨cs, e.symm.trans hs⟩
theorem FrI.trans {X : Xc} {lo hi : Nat} {a b c : World} (h : FrI X lo hi a b) (k : FrI X lo hi b c) : FrI X lo hi a c := by
  refine ⟨k.os.trans h.os, k.tape.trans h.tape, k.output.trans h.output, Nat.le_trans h.size k.size, fun i hi h1 h2 h3 h4 h5 => ?_⟩
  have e := h.block i hi h1 h2 h3 h4 h5
  exact (k.block i (Nat.lt_of_lt_of_le hi h.size) h1 h2 h3 (str_back e h4) h5).trans e
theorem FrI.wide {X : Xc} {lo hi lo' hi' : Nat} {a b : World} (h : FrI X lo hi a b) (h1 : lo' ≤ lo) (h2 : hi ≤ hi') : FrI X lo' hi' a b :=
  ⟨h.os, h.tape, h.output, h.size, fun i q1 q2 q3 q4 q5 q6 => h.block i q1 q2 q3 q4 q5 (fun ⟨a, b⟩ => q6 ⟨by omega, by omega⟩)⟩
theorem FrN.i {X : Xc} {g o lo hi lo' hi' : Nat} {a b : World} (h : FrN X g o lo hi a b) (h1 : lo' ≤ lo) (h2 : hi ≤ hi') (h3 : lo' ≤ g) (h4 : g < hi') : FrI X lo' hi' a b :=
  ⟨h.os, h.tape, h.output, h.size, fun i q1 q2 q3 q4 q5 q6 => h.block i q1 q2 q3 q4 q5 (fun ⟨a, b⟩ => q6 ⟨by omega, by omega⟩) (fun e => q6 ⟨by omega, by omega⟩)⟩
theorem FrI.same {X : Xc} {lo hi : Nat} {a b : World} (h : FrI X lo hi a b) (hX : X.Ok) {i : Nat} (h1 : i < X.base) (h2 : i < a.heap.size) (h3 : ¬ (lo ≤ i ∧ i < hi)) : b.heap[i]? = a.heap[i]? :=
  h.block i h2 (by have := hX.bc; omega) (by have := hX.bv; omega) (by have := hX.bt; omega) (fun hb => by omega) h3
theorem FrI.n {X : Xc} {g o lo hi : Nat} {a b : World} (h : FrI X lo hi a b) (hX : X.Ok) (h1 : g < X.base) (h2 : g < a.heap.size) (h3 : g < lo) : FrN X g o lo hi a b := by
  have e := h.same hX h1 h2 (fun ⟨a, _⟩ => by omega)
  exact ⟨h.os, h.tape, h.output, h.size, fun i q1 q2 q3 q4 q5 q6 _ => h.block i q1 q2 q3 q4 q5 q6, fun j _ => World.cell?_of_block e, fun t cs hB => ⟨cs, e.trans hB, rfl⟩⟩
theorem FrN.trans {X : Xc} {g o lo hi : Nat} {a b c : World} (h : FrN X g o lo hi a b) (k : FrN X g o lo hi b c) : FrN X g o lo hi a c := by
  refine ⟨k.os.trans h.os, k.tape.trans h.tape, k.output.trans h.output, Nat.le_trans h.size k.size, fun i hi h1 h2 h3 h4 h5 h6 => ?_, fun j hj => (k.cell j hj).trans (h.cell j hj), fun t cs hB => ?_⟩
  · have e := h.block i hi h1 h2 h3 h4 h5 h6
    exact (k.block i (Nat.lt_of_lt_of_le hi h.size) h1 h2 h3 (str_back e h4) h5 h6).trans e
  · obtain ⟨cs1, h1, e1⟩ := h.form t cs hB
    obtain ⟨cs2, h2, e2⟩ := k.form t cs1 h1
    exact ⟨cs2, h2, e2.trans e1⟩
/-- A cell of the node's own is written. -/
theorem FrN.set {X : Xc} {g o lo hi : Nat} {a b : World} (h : FrN X g o lo hi a b) (j : Nat) (v : Value) (h1 : o ≤ j) (h2 : j < o + 5) : FrN X g o lo hi a (b.setCell ⟨g, j, none⟩ v) := by
  refine ⟨h.os, h.tape, h.output, by rw [World.size_setCell]; exact h.size, fun i q1 q2 q3 q4 q5 q6 q7 => (heap_setCell_other _ _ _ _ q7).trans (h.block i q1 q2 q3 q4 q5 q6 q7), fun i hi => ?_, fun t cs hB => ?_⟩
  · rw [← h.cell i hi]
    have hne : i ≠ j := by omega
    exact World.cell?_setCell_other _ _ _ _ (by intro e; injection e with _ e; exact hne e.symm)
  · obtain ⟨cs1, q1, e1⟩ := h.form t cs hB
    exact ⟨_, q1.set j v, by rw [Array.size_setIfInBounds]; exact e1⟩
theorem CkR.keptG {w w' : World} {X : Xc} {F : Fn} {st : Cs} {pv : Value} {g : Nat} (h : CkR w X F st pv) (hg : w.grownBy w' (some g)) (h1 : X.low ≤ g) (h2 : g < X.base) : CkR w' X F st pv := by
  have hb := h.ok.bc
  have hv := h.ok.bv
  have ht := h.ok.bt
  have hf := h.ok.bf
  refine ⟨h.ok, h.blk.kept hg (fun e => by injection e with e; omega), h.fns.kept (hg.block _ (by obtain ⟨n, f, q, _⟩ := h.fns; exact q.lt) (fun e => by injection e with e; omega)) (fun i cs q hB => hB.kept hg (fun e => by injection e with e; omega)), h.vars.kept hg (fun e => by injection e with e; omega), h.tak.kept hg (fun e => by injection e with e; omega), ?_, h.short, h.gl.keptR hg (fun k e => by injection e with e; omega)⟩
  refine h.row.kept hg ?_
  cases hv : pv.ownBlock with
  | none => exact Or.inl rfl
  | some r =>
    refine Or.inr (fun e => ?_)
    obtain ⟨q, _⟩ := row_block h.row r hv
    injection e with e
    omega
theorem CkA.keptG {w w' : World} {X : Xc} {F : Fn} {st : Cs} {g : Nat} (h : CkA w X F st) (hg : w.grownBy w' (some g)) (h1 : X.low ≤ g) (h2 : g < X.base) : CkA w' X F st := by
  obtain ⟨pv, h⟩ := h
  exact ⟨pv, h.keptG hg h1 h2⟩
theorem CkA.ok {w : World} {X : Xc} {F : Fn} {st : Cs} (h : CkA w X F st) : X.Ok := by
  obtain ⟨pv, h⟩ := h
  exact h.ok
theorem row_split {w : World} {g hi : Nat} : ∀ {o lo : Nat} {l : List Nd} (j : Nat) (hj : j < l.length), RowI w g o lo hi l → ∃ m m', RowI w g o lo m (l.take j) ∧ NdI w g (o + 5 * j) m m' l[j] ∧ RowI w g (o + 5 * (j + 1)) m' hi (l.drop (j + 1))
  | _, _, [], _, hj, _ => absurd hj (Nat.not_lt_zero _)
  | o, lo, x :: r, 0, _, h => by
    rw [RowI] at h
    obtain ⟨m, h1, h2⟩ := h
    exact ⟨lo, m, by rw [List.take_zero, RowI]; exact Nat.le_refl _, h1, h2⟩
  | o, lo, x :: r, j + 1, hj, h => by
    rw [RowI] at h
    obtain ⟨m, h1, h2⟩ := h
    obtain ⟨a, b, q1, q2, q3⟩ := row_split j (by simpa using hj) h2
    refine ⟨a, b, by rw [List.take_succ_cons, RowI]; exact ⟨m, h1, q1⟩, ?_, ?_⟩
    · rw [show o + 5 * (j + 1) = o + 5 + 5 * j by omega]; exact q2
    · rw [show o + 5 * (j + 1 + 1) = o + 5 + 5 * (j + 1) by omega]; exact q3
theorem row_append {w : World} {g m hi : Nat} {b : List Nd} : ∀ {o lo : Nat} {a : List Nd}, RowI w g o lo m a → RowI w g (o + 5 * a.length) m hi b → RowI w g o lo hi (a ++ b)
  | o, lo, [], h, hb => by
    rw [RowI] at h
    rw [List.nil_append]
    rw [List.length_nil, Nat.mul_zero, Nat.add_zero] at hb
    cases b with
    | nil => rw [RowI] at hb ⊢; omega
    | cons y r =>
      rw [RowI] at hb ⊢
      obtain ⟨mid, h1, h2⟩ := hb
      refine ⟨mid, ?_, h2⟩
      obtain ⟨q, c0, c1, c2, c3, c4, c5⟩ := h1.cells
      refine NdI.mk c0 c1 c2 c3 c4 ?_
      rcases c5 with ⟨e1, e2, e3⟩ | ⟨g', cap, cs, e1, e2, e3, e4, e5, e6, e7, e8⟩
      · exact Or.inl ⟨e1, e2, by omega⟩
      · exact Or.inr ⟨g', cap, cs, e1, e2, e3, e4, by omega, e6, e7, e8⟩
  | o, lo, x :: r, h, hb => by
    rw [RowI] at h
    obtain ⟨mid, h1, h2⟩ := h
    rw [List.length_cons, show o + 5 * (r.length + 1) = o + 5 + 5 * r.length by omega] at hb
    rw [List.cons_append, RowI]
    exact ⟨mid, h1, row_append h2 hb⟩
/-- One node of a row was turned; the others stay. -/
theorem row_turn {X : Xc} {w w' : World} {g lo hi m m' : Nat} {a b : List Nd} {x : Nd} (hX : X.Ok) (hb : hi ≤ X.base) (hg : g < lo) (h1 : RowI w g 0 lo m a) (h2 : NdI w' g (5 * a.length) m m' x) (h3 : RowI w g (5 * (a.length + 1)) m' hi b) (hF : FrN X g (5 * a.length) m m' w w') (hsz : ∀ i, lo ≤ i → i < hi → i < w.heap.size ∨ w'.heap[i]? = w.heap[i]?) : RowI w' g 0 lo hi (a ++ x :: b) := by
  have l1 := RowI.le h1
  have l2 := NdI.le h2
  have l3 := RowI.le h3
  have keep : ∀ i, lo ≤ i → i < hi → ¬ (m ≤ i ∧ i < m') → w'.heap[i]? = w.heap[i]? := fun i q1 q2 q3 => by
    rcases hsz i q1 q2 with q | q
    · exact hF.block i q (by have := hX.bc; omega) (by have := hX.bv; omega) (by have := hX.bt; omega) (fun h => by omega) q3 (by omega)
    · exact q
  have r1 : RowI w' g 0 lo m a := RowI.kept (fun i q1 q2 => keep i q1 (by omega) (fun ⟨q, _⟩ => by omega)) (fun j _ hj => hF.cell j (Or.inl (by omega))) h1
  have r3 : RowI w' g (5 * (a.length + 1)) m' hi b := RowI.kept (fun i q1 q2 => keep i (by omega) q2 (fun ⟨_, q⟩ => by omega)) (fun j hj _ => hF.cell j (Or.inr (by omega))) h3
  refine row_append r1 ?_
  rw [Nat.zero_add, RowI]
  exact ⟨m', h2, r3⟩
end Ck
end Go.Proofs.YtajoncmmdeahnaaGreatDoor
namespace Go.Proofs.YtajoncmmdeahnaaGreatDoor
open Go.RowKit
namespace Ck
/-- What a call over a node leaves. -/
def CkT (X : Xc) (F : Fn) (g o lo hi : Nat) (w : World) (x : Rk Nd) (e : Ending) (w' : World) : Prop := match x with
  | .ok (n, st) => e = .returned (.tuple #[]) ∧ NdI w' g o lo hi n ∧ CkA w' X F st ∧ FrN X g o lo hi w w'
  | .error (some m) => e = .panicked (RjV m) ∧ FrN X g o lo hi w w'
  | .error none => True
/-- .. over a row. -/
def CkL (X : Xc) (F : Fn) (q : Value) (lo hi : Nat) (w : World) (x : Rk (List Nd)) (e : Ending) (w' : World) : Prop := match x with
  | .ok (l, st) => e = .returned (.tuple #[]) ∧ KsI w' lo hi q l ∧ CkA w' X F st ∧ FrI X lo hi w w'
  | .error (some m) => e = .panicked (RjV m) ∧ FrI X lo hi w w'
  | .error none => True
theorem CkT.cases {X : Xc} {F : Fn} {g o lo hi : Nat} {w w' : World} {x : Rk Nd} {e : Ending} (h : CkT X F g o lo hi w x e w') (hx : x ≠ .error none) : (∃ m, x = .error (some m) ∧ e = .panicked (RjV m) ∧ FrN X g o lo hi w w') ∨ ∃ n st, x = .ok (n, st) ∧ e = .returned (.tuple #[]) ∧ NdI w' g o lo hi n ∧ CkA w' X F st ∧ FrN X g o lo hi w w' := by
  match x, h, hx with
  | .ok (a, st), ⟨h1, h2, h3, h4⟩, _ => exact Or.inr ⟨a, st, rfl, h1, h2, h3, h4⟩
  | .error (some n), ⟨h1, h2⟩, _ => exact Or.inl ⟨n, rfl, h1, h2⟩
  | .error none, _, hx => exact absurd rfl hx
theorem CkL.cases {X : Xc} {F : Fn} {q : Value} {lo hi : Nat} {w w' : World} {x : Rk (List Nd)} {e : Ending} (h : CkL X F q lo hi w x e w') (hx : x ≠ .error none) : (∃ m, x = .error (some m) ∧ e = .panicked (RjV m) ∧ FrI X lo hi w w') ∨ ∃ l st, x = .ok (l, st) ∧ e = .returned (.tuple #[]) ∧ KsI w' lo hi q l ∧ CkA w' X F st ∧ FrI X lo hi w w' := by
  match x, h, hx with
  | .ok (a, st), ⟨h1, h2, h3, h4⟩, _ => exact Or.inr ⟨a, st, rfl, h1, h2, h3, h4⟩
  | .error (some n), ⟨h1, h2⟩, _ => exact Or.inl ⟨n, rfl, h1, h2⟩
  | .error none, _, hx => exact absurd rfl hx
/-- The contract of a method over a node. -/
def ElC (X : Xc) (F : Fn) (f : Nat) (φ : Nd → Ck Nd) : Prop := ∀ (x : Nd) (g o lo hi : Nat) (cs : Array Value) (w : World) (st : Cs), CkA w X F st → NdI w g o lo hi x → X.low ≤ g → g < lo → hi ≤ X.base → Blk w g 27 cs → φ x st ≠ .error none →
  Calls Tryz.prog f #[.pointer (some ⟨X.c, 0, none⟩), .pointer (some ⟨g, o, none⟩)] w (CkT X F g o lo hi w (φ x st))
def addF (ys : List Nd) (x : Rk (List Nd)) : Rk (List Nd) := match x with
  | .ok (l, s) => .ok (ys ++ l, s)
  | .error e => .error e
theorem mapC_cons (φ : Nd → Ck Nd) (x : Nd) (r : List Nd) (st : Cs) : mapC φ (x :: r) st = match φ x st with
    | .ok (y, s) => addF [y] (mapC φ r s)
    | .error e => .error e := by
  show Ck.bnd (φ x) _ st = _
  unfold Ck.bnd
  cases φ x st with
  | error e => rfl
  | ok z =>
    obtain ⟨y, s⟩ := z
    show Ck.bnd (mapC φ r) _ s = addF [y] (mapC φ r s)
    unfold Ck.bnd addF
    cases mapC φ r s with
    | error e => rfl
    | ok z => rfl
theorem addF_addF (a b : List Nd) (x : Rk (List Nd)) : addF a (addF b x) = addF (a ++ b) x := by
  cases x with
  | error e => rfl
  | ok z => simp [addF]
/-- Some nodes of a row are looked at. -/
structure Half (φ : Nd → Ck Nd) (ks : List Nd) (st : Cs) (ys : List Nd) (s : Cs) : Prop where
  eq : mapC φ ks st = addF ys (mapC φ (ks.drop ys.length) s)
theorem Half.zero (φ : Nd → Ck Nd) (ks : List Nd) (st : Cs) : Half φ ks st [] st := ⟨by
  rw [List.length_nil, List.drop_zero]
  unfold addF
  cases mapC φ ks st with
  | error e => rfl
  | ok z => rfl⟩
theorem Half.done {φ : Nd → Ck Nd} {ks : List Nd} {st : Cs} {ys : List Nd} {s : Cs} (h : Half φ ks st ys s) (hl : ks.length ≤ ys.length) : mapC φ ks st = .ok (ys, s) := by
  rw [h.eq, List.drop_eq_nil_of_le hl]
  show addF ys (.ok ([], s)) = _
  simp [addF]
theorem Half.ne {φ : Nd → Ck Nd} {ks : List Nd} {st : Cs} {ys : List Nd} {s : Cs} (h : Half φ ks st ys s) (hx : mapC φ ks st ≠ .error none) (hl : ys.length < ks.length) : φ ks[ys.length] s ≠ .error none := fun e => by
  rw [h.eq, List.drop_eq_getElem_cons hl, mapC_cons, e] at hx
  exact hx rfl
theorem Half.err {φ : Nd → Ck Nd} {ks : List Nd} {st : Cs} {ys : List Nd} {s : Cs} {e : Option Nat} (h : Half φ ks st ys s) (hl : ys.length < ks.length) (he : φ ks[ys.length] s = .error e) : mapC φ ks st = .error e := by
  rw [h.eq, List.drop_eq_getElem_cons hl, mapC_cons, he]
  rfl
theorem Half.step {φ : Nd → Ck Nd} {ks : List Nd} {st : Cs} {ys : List Nd} {s s' : Cs} {y : Nd} (h : Half φ ks st ys s) (hl : ys.length < ks.length) (he : φ ks[ys.length] s = .ok (y, s')) : Half φ ks st (ys ++ [y]) s' := ⟨by
  rw [h.eq, List.drop_eq_getElem_cons hl, mapC_cons, he, List.length_append, List.length_singleton]
  exact addF_addF _ _ _⟩
/-- A row of which some nodes were looked at. -/
structure RowH (X : Xc) (F : Fn) (g lo hi : Nat) (ks ys : List Nd) (s : Cs) (w wr : World) : Prop where
  a : CkA wr X F s
  row : RowI wr g 0 (g + 1) hi (ys ++ ks.drop ys.length)
  blk : ∃ cs, Blk wr g 27 cs ∧ cs.size = 5 * ks.length
  fr : FrI X lo hi w wr
/-- The next node of it. -/
theorem RowH.node {X : Xc} {F : Fn} {g lo hi : Nat} {ks ys : List Nd} {s : Cs} {w wr : World} (h : RowH X F g lo hi ks ys s w wr) (hl : ys.length < ks.length) (k1 : lo ≤ g) (k3 : hi ≤ X.base) : ∃ m m', g + 1 ≤ m ∧ m' ≤ hi ∧ NdI wr g (5 * ys.length) m m' ks[ys.length] ∧
    (∀ (w' : World), FrN X g (5 * ys.length) m m' wr w' → FrI X lo hi w w') ∧
    ∀ (y : Nd) (s' : Cs) (w' : World), NdI w' g (5 * ys.length) m m' y → CkA w' X F s' → FrN X g (5 * ys.length) m m' wr w' → RowH X F g lo hi ks (ys ++ [y]) s' w w' := by
  have hr := h.row
  have hsz : hi ≤ wr.heap.size := by
    obtain ⟨pv, hR⟩ := h.a
    have h1 := hR.blk.lt
    have h2 := hR.ok.bc
    omega
  have hlen : ys.length < (ys ++ ks.drop ys.length).length := by rw [List.length_append, List.length_drop]; omega
  obtain ⟨m, m', h1, h2, h3⟩ := row_split ys.length hlen hr
  rw [List.take_left] at h1
  have eg : (ys ++ ks.drop ys.length)[ys.length] = ks[ys.length] := by
    rw [List.getElem_append_right (Nat.le_refl _)]
    simp
  have ed : (ys ++ ks.drop ys.length).drop (ys.length + 1) = ks.drop (ys.length + 1) := by
    rw [List.drop_append, List.drop_eq_nil_of_le (by omega), List.nil_append, List.drop_drop]
    congr 1
    omega
  rw [eg, Nat.zero_add] at h2
  rw [ed, Nat.zero_add] at h3
  have l1 := RowI.le h1
  have l2 := NdI.le h2
  have l3 := RowI.le h3
  have fr : ∀ (w' : World), FrN X g (5 * ys.length) m m' wr w' → FrI X lo hi w w' := fun w' hF => h.fr.trans (hF.i (by omega) l3 k1 (by omega))
  refine ⟨m, m', l1, l3, h2, fr, fun y s' w' hy hA hF => ?_⟩
  obtain ⟨cs, hB, hs⟩ := h.blk
  obtain ⟨cs', hB', hs'⟩ := hF.form 27 cs hB
  refine ⟨hA, ?_, ⟨cs', hB', hs'.trans hs⟩, fr w' hF⟩
  have e2 : (ys ++ [y]) ++ ks.drop (ys ++ [y]).length = ys ++ y :: ks.drop (ys.length + 1) := by simp
  rw [e2]
  exact row_turn hA.ok k3 (Nat.lt_succ_self g) h1 hy h3 hF (fun i _ q => Or.inl (by omega))
theorem ksI_form {w : World} {lo hi : Nat} {q : Value} {ks : List Nd} (h : KsI w lo hi q ks) : (q = .slice none 0 0 ∧ ks = [] ∧ lo ≤ hi) ∨ ∃ g cap cs, q = .slice (some ⟨g, 0, none⟩) ks.length cap ∧ ks.length ≤ cap ∧ cap ≤ maxLen ∧ 0 < ks.length ∧ lo ≤ g ∧ Blk w g 27 cs ∧ cs.size = 5 * ks.length ∧ RowI w g 0 (g + 1) hi ks := h
theorem RowH.done {X : Xc} {F : Fn} {g lo hi cap : Nat} {ks ys : List Nd} {s : Cs} {w wr : World} (h : RowH X F g lo hi ks ys s w wr) (hl : ys.length = ks.length) (k0 : 0 < ks.length) (k1 : lo ≤ g) (k2 : ks.length ≤ cap) (k3 : cap ≤ maxLen) : KsI wr lo hi (.slice (some ⟨g, 0, none⟩) ks.length cap) ys := by
  obtain ⟨cs, hB, hs⟩ := h.blk
  have hr := h.row
  rw [hl, List.drop_eq_nil_of_le (Nat.le_refl _), List.append_nil] at hr
  rw [← hl] at hs k0 k2 ⊢
  exact Or.inr ⟨g, cap, cs, rfl, k2, k3, k0, k1, hB, hs, hr⟩
end Ck
end Go.Proofs.YtajoncmmdeahnaaGreatDoor
