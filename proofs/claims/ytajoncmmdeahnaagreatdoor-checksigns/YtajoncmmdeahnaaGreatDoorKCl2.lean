/-
  The checker over trees: expressions, a row of them. The checker over trees: the node that a method looks at, in memory. The checker over trees: expression. The checker over trees: callsAlone.
-/
import Derived.Test.YtajoncmmdeahnaaGreatDoorKCk7
namespace Go.Proofs.YtajoncmmdeahnaaGreatDoor
open Go.RowKit
namespace Ck
theorem RowH.node5 {X : Xc} {F : Fn} {g lo hi j : Nat} {ks ys : List Nd} {s : Cs} {w wr : World} (h : RowH X F g lo hi ks ys s w wr) (hj : ys.length = j) (hl : ys.length < ks.length) (k1 : lo ≤ g) (k3 : hi ≤ X.base) : ∃ x m m', ks[ys.length] = x ∧ g + 1 ≤ m ∧ m' ≤ hi ∧ NdI wr g (j * 5) m m' x ∧
    (∀ (w' : World), FrN X g (j * 5) m m' wr w' → FrI X lo hi w w') ∧
    ∀ (y : Nd) (s' : Cs) (w' : World), NdI w' g (j * 5) m m' y → CkA w' X F s' → FrN X g (j * 5) m m' wr w' → RowH X F g lo hi ks (ys ++ [y]) s' w w' := by
  subst hj
  rw [Nat.mul_comm ys.length 5]
  obtain ⟨m, m', a1, a2, a3, a4, a5⟩ := h.node hl k1 k3
  exact ⟨_, m, m', rfl, a1, a2, a3, a4, a5⟩
set_option maxRecDepth 100000 in
theorem exprs_nil {φ : Nd → Ck Nd} {lo hi : Nat} {X : Xc} {F : Fn} {st : Cs} (w : World) (hC : CkA w X F st) (hl : lo ≤ hi) : Calls Tryz.prog 176 #[.pointer (some ⟨X.c, 0, none⟩), .slice none 0 0] w (CkL X F (.slice none 0 0) lo hi w (mapC φ [] st)) := by
  have HC := hid hC
  clear hC
  go_enter Tryz.func176, Tryz.ntmps176
  go_wp2
  go_loopw [7] (fun i wr => i = .int .i64 0 ∧ wr = w) (fun _ _ => 0)
  case atStart => exact ⟨rfl, rfl⟩
  case round =>
    obtain ⟨rfl, rfl⟩ := hrel
    go_wp2
    refine bodyPost_ret (v := .tuple #[]) (by simp [results, Tryz.results176, go_sem]) rfl ?_
    exact ⟨rfl, Or.inl ⟨rfl, rfl, hl⟩, HC.out, FrI.refl _ _ _ _⟩
set_option maxRecDepth 100000 in
set_option maxHeartbeats 1000000 in
theorem exprs_some {φ : Nd → Ck Nd} {ks : List Nd} {g cap lo hi : Nat} {cs : Array Value} {X : Xc} {F : Fn} {st : Cs} (w : World) (hE : ElC X F 211 φ) (hC : CkA w X F st) (h1 : X.low ≤ lo) (h2 : hi ≤ X.base) (hx : mapC φ ks st ≠ .error none)
    (k1 : ks.length ≤ cap) (k2 : cap ≤ maxLen) (k3 : 0 < ks.length) (k4 : lo ≤ g) (k5 : Blk w g 27 cs) (k6 : cs.size = 5 * ks.length) (k7 : RowI w g 0 (g + 1) hi ks) :
    Calls Tryz.prog 176 #[.pointer (some ⟨X.c, 0, none⟩), .slice (some ⟨g, 0, none⟩) ks.length cap] w (CkL X F (.slice (some ⟨g, 0, none⟩) ks.length cap) lo hi w (mapC φ ks st)) := by
  have HX := hid hx
  have HE := hid hE
  have R0 : Hid (RowH X F g lo hi ks [] st w w) := hid ⟨hC, k7, ⟨cs, k5, k6⟩, FrI.refl _ _ _ _⟩
  have HK := hid (And.intro k1 (And.intro k2 (And.intro k3 k4)))
  obtain ⟨L, hL⟩ : ∃ L, ks.length = L := ⟨_, rfl⟩
  have HL := hid (And.intro hL trivial)
  have Lmax : (L : Int) ≤ 9223372036854775807 := by have := maxLen_ge; unfold maxLen at k2; omega
  rw [hL]
  clear hx hE hC k1 k2 k3 k4 k5 k6 k7 hL
  go_enter Tryz.func176, Tryz.ntmps176
  go_wp2
  go_loopw [7] (fun i wr => ∃ (j : Nat) (ys : List Nd) (s : Cs), i = .int .i64 j ∧ j ≤ L ∧ (ys.length = j ∧ Half φ ks st ys s) ∧ RowH X F g lo hi ks ys s w wr) (fun i _ => L - (intOf i).toNat)
  case atStart => exact ⟨0, [], st, rfl, Nat.zero_le _, ⟨rfl, Half.zero _ _ _⟩, R0.out⟩
  case round =>
    obtain ⟨j, ys, s, rfl, hj, hh, hr⟩ := hrel
    have HH := hid hh
    have RR := hid hr
    clear hh hr R0
    have j0 : (0 : Int) ≤ j := by omega
    by_cases hlt : j < L
    · have j1 : (j : Int) < L := by omega
      have hyl : ys.length < ks.length := by rw [HH.out.1, HL.out.1]; exact hlt
      obtain ⟨x, m, m', ex, a1, a2, a3, a4, a5⟩ := RR.out.node5 HH.out.1 hyl HK.out.2.2.2 h2
      have NE : φ x s ≠ .error none := by rw [← ex]; exact HH.out.2.ne HX.out hyl
      obtain ⟨cs, hB, hs⟩ := RR.out.blk
      have CC : Hid (Calls Tryz.prog 211 #[.pointer (some ⟨X.c, 0, none⟩), .pointer (some ⟨g, j * 5, none⟩)] wr (CkT X F g (j * 5) m m' wr (φ x s))) := HE.out x g (j * 5) m m' cs wr s RR.out.a a3 (Nat.le_trans h1 HK.out.2.2.2) (by omega) (Nat.le_trans a2 h2) hB NE
      have A4 := hid a4
      have A5 := hid a5
      have HN := hid NE
      have ER : Hid (∀ m, φ x s = .error m → mapC φ ks st = .error m) := hid (fun m h => HH.out.2.err hyl (by rw [ex]; exact h))
      have ES : Hid (∀ y s', φ x s = .ok (y, s') → Half φ ks st (ys ++ [y]) s') := hid (fun y s' h => HH.out.2.step hyl (by rw [ex]; exact h))
      clear a3 a4 a5 NE hB hs hyl ex
      go_wp2_with (go_at_call 211; refine CC.out.mono ?_; intro e w1 hh; rcases CkT.cases hh HN.out with ⟨n, hz, rfl, hF⟩ | ⟨y, s', hz, rfl, hN, hA, hF⟩; (case inl => exact ⟨rfl, by rw [ER.out _ hz]; exact ⟨rfl, A4.out _ hF⟩⟩); have HZ := hid (And.intro hz trivial); have R1 := hid (A5.out y s' w1 hN hA hF); clear hz hN hA hF hh CC)
      go_roundw
      case rel => exact ⟨j + 1, ys ++ [y], s', by go_num, by omega, ⟨by rw [List.length_append, HH.out.1]; rfl, ES.out _ _ HZ.out.1⟩, R1.out⟩
      case measure => simp [intOf]; omega
    · have j1 : ¬ (j : Int) < L := by omega
      have hyl : ys.length = ks.length := by rw [HH.out.1, HL.out.1]; omega
      have E1 := hid (And.intro (HH.out.2.done (Nat.le_of_eq hyl.symm)) trivial)
      have E2 := RR.out.done (cap := cap) hyl HK.out.2.2.1 HK.out.2.2.2 HK.out.1 HK.out.2.1
      rw [HL.out.1] at E2
      have E3 := hid E2
      clear E2 hyl
      go_wp2
      refine bodyPost_ret (v := .tuple #[]) (by simp [results, Tryz.results176, go_sem]) rfl ?_
      rw [E1.out.1]
      exact ⟨rfl, E3.out, RR.out.a, RR.out.fr⟩
theorem exprs_any {φ : Nd → Ck Nd} {ks : List Nd} {q : Value} {lo hi : Nat} {X : Xc} {F : Fn} {st : Cs} (w : World) (hE : ElC X F 211 φ) (hC : CkA w X F st) (hk : KsI w lo hi q ks) (h1 : X.low ≤ lo) (h2 : hi ≤ X.base) (hx : mapC φ ks st ≠ .error none) :
    Calls Tryz.prog 176 #[.pointer (some ⟨X.c, 0, none⟩), q] w (CkL X F q lo hi w (mapC φ ks st)) := by
  rcases ksI_form hk with ⟨rfl, rfl, h⟩ | ⟨g, cap, cs, rfl, k1, k2, k3, k4, k5, k6, k7⟩
  · exact exprs_nil w hC h
  · exact exprs_some w hE hC h1 h2 hx k1 k2 k3 k4 k5 k6 k7
end Ck
end Go.Proofs.YtajoncmmdeahnaaGreatDoor
namespace Go.Proofs.YtajoncmmdeahnaaGreatDoor
open Go.RowKit
namespace Ck
theorem CkA.size {w : World} {X : Xc} {F : Fn} {st : Cs} (h : CkA w X F st) : X.base < w.heap.size := by
  obtain ⟨pv, hR⟩ := h
  have h1 := hR.blk.lt
  have h2 := hR.ok.bc
  omega
/-- Where a node may stand. -/
structure Pl (X : Xc) (g lo hi : Nat) : Prop where
  a : X.low ≤ g
  b : g < lo
  c : hi ≤ X.base
/-- The node n is what a method has made of what it was handed, so far. -/
structure NS (X : Xc) (F : Fn) (g o lo hi : Nat) (w wr : World) (n : Nd) (st : Cs) : Prop where
  a : CkA wr X F st
  n : NdI wr g o lo hi n
  fr : FrN X g o lo hi w wr
  blk : ∃ cs, Blk wr g 27 cs
theorem FrN.refl (X : Xc) (g o lo hi : Nat) (w : World) : FrN X g o lo hi w w := ⟨rfl, rfl, rfl, Nat.le_refl _, fun _ _ _ _ _ _ _ _ => rfl, fun _ _ => rfl, fun _ cs h => ⟨cs, h, rfl⟩⟩
theorem NS.start {X : Xc} {F : Fn} {g o lo hi : Nat} {w : World} {n : Nd} {st : Cs} {cs : Array Value} (hC : CkA w X F st) (hn : NdI w g o lo hi n) (hB : Blk w g 27 cs) : NS X F g o lo hi w w n st := ⟨hC, hn, FrN.refl _ _ _ _ _ _, cs, hB⟩
theorem NS.frc {X : Xc} {F : Fn} {g o lo hi : Nat} {w wr w' : World} {n : Nd} {st st' : Cs} (h : NS X F g o lo hi w wr n st) (hp : Pl X g lo hi) (hF : FrC X wr w') (hA : CkA w' X F st') : NS X F g o lo hi w w' n st' := by
  have l1 := NdI.le h.n
  have hs := h.a.size
  have e : ∀ i, i < X.base → w'.heap[i]? = wr.heap[i]? := fun i hi => hF.low hA.ok i hi (by omega)
  have hg : g < X.base := by have := hp.b; have := hp.c; omega
  have eg := e g hg
  obtain ⟨cs, hB⟩ := h.blk
  exact ⟨hA, NdI.kept (fun b _ b2 => e b (by have := hp.c; omega)) (fun j _ _ => World.cell?_of_block eg) h.n, h.fr.trans ((hF.i lo hi).n hA.ok hg (by omega) hp.b), cs, eg.trans hB⟩
theorem NS.grown {X : Xc} {F : Fn} {g o lo hi : Nat} {w wr w' : World} {n : Nd} {st : Cs} (h : NS X F g o lo hi w wr n st) (hp : Pl X g lo hi) (hG : wr.grownBy w' none) : NS X F g o lo hi w w' n st := h.frc hp (FrC.nil hG) (h.a.kept hG)
/-- The five cells of it. -/
theorem NS.cells {X : Xc} {F : Fn} {g o lo hi : Nat} {w wr : World} {n : Nd} {st : Cs} (h : NS X F g o lo hi w wr n st) : ∃ p c, wr.cell? ⟨g, o, none⟩ = some (.int .i64 n.kind) ∧ wr.cell? ⟨g, o + 1, none⟩ = some (.int .i64 n.ty) ∧ wr.cell? ⟨g, o + 2, none⟩ = some (.string n.txt) ∧ wr.cell? ⟨g, o + 3, none⟩ = some (.int .i64 n.num) ∧ wr.cell? ⟨g, o + 4, none⟩ = some (.slice p n.kids.length c) ∧ KsI wr lo hi (.slice p n.kids.length c) n.kids ∧ (∀ i, wr.frozen? ⟨g, i, none⟩ = false) := by
  obtain ⟨q, c0, c1, c2, c3, c4, hk⟩ := h.n.cells
  obtain ⟨cs, hB⟩ := h.blk
  rcases ksI_form hk with ⟨e1, e2, _⟩ | ⟨g', cap, cs', e1, _⟩
  · subst e1
    refine ⟨none, 0, c0, c1, c2, c3, ?_, ?_, fun i => hB.frozen i⟩
    · rw [e2]; exact c4
    · rw [e2]; rw [e2] at hk; exact hk
  · subst e1
    exact ⟨_, _, c0, c1, c2, c3, c4, hk, fun i => hB.frozen i⟩
theorem NS.kv {lo hi : Nat} {p : Option Addr} {c : Nat} {wr : World} {n : Nd} (h : KsI wr lo hi (.slice p n.kids.length c) n.kids) : KsV wr (fun _ => True) (.slice p n.kids.length c) n.kids := h.ks (fun _ _ _ => trivial)
/-- Its kids are looked at. -/
theorem NS.kids {X : Xc} {F : Fn} {g o lo hi : Nat} {w wr w' : World} {n : Nd} {st st' : Cs} {p : Option Addr} {c : Nat} {ks : List Nd} (h : NS X F g o lo hi w wr n st) (hp : Pl X g lo hi) (hc : wr.cell? ⟨g, o + 4, none⟩ = some (.slice p n.kids.length c)) (hk : KsI w' lo hi (.slice p n.kids.length c) ks) (hA : CkA w' X F st') (hF : FrI X lo hi wr w') : NS X F g o lo hi w w' (withKids n ks) st' := by
  have l1 := NdI.le h.n
  have hs := h.a.size
  have hg : g < X.base := by have := hp.b; have := hp.c; omega
  have eg := hF.same hA.ok hg (by omega) (fun ⟨q, _⟩ => by have := hp.b; omega)
  obtain ⟨q, c0, c1, c2, c3, c4, _⟩ := h.n.cells
  obtain ⟨cs, hB⟩ := h.blk
  have ec : ∀ j, w'.cell? ⟨g, j, none⟩ = wr.cell? ⟨g, j, none⟩ := fun j => World.cell?_of_block eg
  rw [← ec] at c0 c1 c2 c3 hc
  exact ⟨hA, NdI.mk c0 c1 c2 c3 hc hk, h.fr.trans (hF.n hA.ok hg (by omega) hp.b), cs, eg.trans hB⟩
/-- Its type is written. -/
theorem NS.ty {X : Xc} {F : Fn} {g o lo hi : Nat} {w wr : World} {n : Nd} {st : Cs} (h : NS X F g o lo hi w wr n st) (hp : Pl X g lo hi) (t : Int) : NS X F g o lo hi w (wr.setCell ⟨g, o + 1, none⟩ (.int .i64 t)) (withTy n t) st := by
  have l1 := NdI.le h.n
  have hg : g < X.base := by have := hp.b; have := hp.c; omega
  have hG := grown_set (grown_refl wr (some g)) (o + 1) (.int .i64 t)
  obtain ⟨q, c0, c1, c2, c3, c4, hk⟩ := h.n.cells
  obtain ⟨cs, hB⟩ := h.blk
  have ec : ∀ j, j ≠ o + 1 → (wr.setCell ⟨g, o + 1, none⟩ (.int .i64 t)).cell? ⟨g, j, none⟩ = wr.cell? ⟨g, j, none⟩ := fun j hj => World.cell?_setCell_other _ _ _ _ (by intro e; injection e with _ e; exact hj e.symm)
  refine ⟨h.a.keptG hG hp.a hg, NdI.mk ((ec o (by omega)).trans c0) (World.cell?_setCell_same _ _ _ c1) ((ec (o + 2) (by omega)).trans c2) ((ec (o + 3) (by omega)).trans c3) ((ec (o + 4) (by omega)).trans c4) (hk.kept fun b b1 _ => ?_), h.fr.set (o + 1) _ (by omega) (by omega), _, hB.set (o + 1) _⟩
  have hne : b ≠ g := by have := hp.b; omega
  exact heap_setCell_other _ _ _ _ hne
theorem NS.ok {X : Xc} {F : Fn} {g o lo hi : Nat} {w wr : World} {n : Nd} {st : Cs} (h : NS X F g o lo hi w wr n st) : CkT X F g o lo hi w (.ok (n, st)) (.returned (.tuple #[])) wr := ⟨rfl, h.n, h.a, h.fr⟩
theorem NS.bad {X : Xc} {F : Fn} {g o lo hi : Nat} {w wr w' : World} {n : Nd} {st : Cs} (h : NS X F g o lo hi w wr n st) (hp : Pl X g lo hi) (hF : FrC X wr w') : FrN X g o lo hi w w' := by
  have hs := h.a.size
  have hg : g < X.base := by have := hp.b; have := hp.c; have := NdI.le h.n; omega
  exact h.fr.trans ((hF.i lo hi).n h.a.ok hg (by omega) hp.b)
theorem NS.badI {X : Xc} {F : Fn} {g o lo hi : Nat} {w wr w' : World} {n : Nd} {st : Cs} (h : NS X F g o lo hi w wr n st) (hp : Pl X g lo hi) (hF : FrI X lo hi wr w') : FrN X g o lo hi w w' := by
  have hs := h.a.size
  have hg : g < X.base := by have := hp.b; have := hp.c; have := NdI.le h.n; omega
  exact h.fr.trans (hF.n h.a.ok hg (by omega) hp.b)
end Ck
end Go.Proofs.YtajoncmmdeahnaaGreatDoor
namespace Go.Proofs.YtajoncmmdeahnaaGreatDoor
open Go.RowKit
namespace Ck
theorem expr_eq (F : Fn) (k : Nat) (n : Nd) (st : Cs) (h : exprK n.kind = true) : exprC F (k + 1) n st = (mapC (exprC F k) n.kids >>= fun ks => typeOfC F (withKids n ks) >>= fun t => doneC (withTy (withKids n ks) t) >>= fun _ => (pure (withTy (withKids n ks) t) : Ck Nd)) st := by
  conv => lhs; unfold exprC
  rw [if_neg (by rw [h]; decide)]
theorem expr_not (F : Fn) (k : Nat) (n : Nd) (st : Cs) (h : exprK n.kind = false) : exprC F (k + 1) n st = .error (some 125) := by
  conv => lhs; unfold exprC
  rw [if_pos h]
  rfl
set_option maxRecDepth 100000 in
set_option maxHeartbeats 2000000 in
theorem expr_step (X : Xc) (F : Fn) (k : Nat) (hE : ElC X F 211 (exprC F k)) : ElC X F 211 (exprC F (k + 1)) := by
  intro n g o lo hi cs w st hC hn p1 p2 p3 hB hx
  have hp : Pl X g lo hi := ⟨p1, p2, p3⟩
  have HP := hid hp
  have N0 := hid (NS.start hC hn hB)
  obtain ⟨p, c, c0, c1, c2, c3, c4, hk, hf⟩ := N0.out.cells
  have HK := hid hk
  have C97 : Hid (∀ W, Calls Tryz.prog 97 #[.int .i64 (125 : Nat)] W fun e w' => e = .panicked (RjV 125) ∧ w' = W) := fun W => reject_any 125 W
  have C244 : Hid (∀ W, Calls Tryz.prog 244 #[.int .i64 n.kind] W fun e w' => e = .returned (.bool (exprK n.kind)) ∧ w' = W) := fun W => isExpression_any n.kind W
  have HE := hid hE
  have LB : Hid (X.low ≤ lo) := hid (by omega)
  have HX := hid hx
  clear hE hk hx hC hn hp
  cases hkd : exprK n.kind with
  | false =>
    rw [hkd] at C244
    rw [expr_not F k n st hkd]
    clear hkd HX HE HK c1 c2 c3
    go_enter Tryz.func211, Tryz.ntmps211
    go_wp2_with (first
      | (go_at_call 244; refine (C244.out _).mono ?_; rintro e w2 ⟨rfl, hw⟩; replace hw := hw.symm; subst hw; clear C244)
      | (go_at_call 97; refine (C97.out _).mono ?_; rintro e w2 ⟨rfl, hw⟩; replace hw := hw.symm; subst hw; clear C97))
    exact ⟨rfl, rfl, FrN.refl _ _ _ _ _ _⟩
  | true =>
    rw [hkd] at C244
    have EQ := hid (And.intro (expr_eq F k n st hkd) trivial)
    have HN : Hid ((mapC (exprC F k) n.kids >>= fun ks => typeOfC F (withKids n ks) >>= fun t => doneC (withTy (withKids n ks) t) >>= fun _ => (pure (withTy (withKids n ks) t) : Ck Nd)) st ≠ .error none) := hid (by rw [← EQ.out.1]; exact HX.out)
    clear hkd C97
    go_enter Tryz.func211, Tryz.ntmps211
    go_wp2_with (first
      | (go_at_call 244; refine (C244.out _).mono ?_; rintro e w2 ⟨rfl, hw⟩; replace hw := hw.symm; subst hw; clear C244)
      | (go_at_call 176; refine (exprs_any _ HE.out N0.out.a HK.out LB.out p3 (bnd_ne HN.out)).mono ?_; intro e w1 hh; rcases CkL.cases hh (bnd_ne HN.out) with ⟨m, hz, rfl, hF⟩ | ⟨ks, s1, hz, rfl, hK, hA, hF⟩; (case inl => exact ⟨rfl, by rw [EQ.out.1, bnd_err hz]; exact ⟨rfl, N0.out.badI HP.out hF⟩⟩); have HZ1 := hid (And.intro hz trivial); have N1 := hid (N0.out.kids HP.out c4 hK hA hF); obtain ⟨p1', c1', d0, d1, d2, d3, d4, hk1, hf1⟩ := N1.out.cells; have HK1 := hid hk1; have hn2 : typeOfC F (withKids n ks) s1 ≠ .error none := (by have h := HN.out; rw [bnd_ok hz] at h; exact bnd_ne h); clear c0 c1 c2 c3 c4 hz hK hA hF hh hk1; have HN2 := hid hn2; clear hn2)
      | (go_at_call 177; refine (typeOf_any (withKids n ks) p1' c1' _ _ N1.out.a (NS.kv HK1.out) HN2.out).mono ?_; intro e w2 hh; rcases CkP.cases hh HN2.out with ⟨m, hz, rfl, hF⟩ | ⟨t, s2, v, hz, rfl, hv, hA, hF⟩; (case inl => exact ⟨rfl, by rw [EQ.out.1, bnd_ok HZ1.out.1, bnd_err hz]; exact ⟨rfl, N1.out.bad HP.out hF⟩⟩); have hv' : v = .int .i64 t := hv; subst hv'; have HZ2 := hid (And.intro hz trivial); have N2 := hid (N1.out.frc HP.out hF hA); obtain ⟨p2', c2', e0, e1, e2, e3, e4, hk2, hf2⟩ := N2.out.cells; have ff := hf2 (o + 1); have N3 := hid (N2.out.ty HP.out t); obtain ⟨p3', c3', f0, f1, f2, f3, f4, hk3, hf3⟩ := N3.out.cells; have HN3 : Hid (doneC (withTy (withKids n ks) t) s2 ≠ .error none) := hid (by have h := HN.out; rw [bnd_ok HZ1.out.1, bnd_ok hz] at h; exact bnd_ne h); clear d0 d1 d2 d3 d4 hz hA hF hh hk2 hk3)
      | (go_at_call 136; refine (done_any (withTy (withKids n ks) t) p3' c3' _ N3.out.a HN3.out).mono ?_; intro e w3 hh; rcases CkP.cases hh HN3.out with ⟨m, hz, rfl, hF⟩ | ⟨u, s3, v, hz, rfl, hv, hA, hF⟩; (case inl => exact ⟨rfl, by rw [EQ.out.1, bnd_ok HZ1.out.1, bnd_ok HZ2.out.1, bnd_err hz]; exact ⟨rfl, N3.out.bad HP.out hF⟩⟩); have hv' : v = .tuple #[] := hv; subst hv'; have HZ3 := hid (And.intro hz trivial); have N4 := hid (N3.out.frc HP.out hF hA); clear hz hA hF hh))
    go_end0
    rw [EQ.out.1, bnd_ok HZ1.out.1, bnd_ok HZ2.out.1, bnd_ok HZ3.out.1]
    exact N4.out.ok
theorem expr_any (X : Xc) (F : Fn) : ∀ k, ElC X F 211 (exprC F k)
  | 0 => fun _ _ _ _ _ _ _ _ _ _ _ _ _ _ hx => absurd rfl hx
  | k + 1 => expr_step X F k (expr_any X F k)
end Ck
end Go.Proofs.YtajoncmmdeahnaaGreatDoor
namespace Go.Proofs.YtajoncmmdeahnaaGreatDoor
open Go.RowKit
namespace Ck
def AlP (b : Bool) (w : World) (e : Ending) (w' : World) : Prop := (e = if b = true then .returned (.tuple #[]) else .panicked (RjV 125)) ∧ w.grownBy w' none
theorem alone_drop {ks : List Nd} {j : Nat} (h : j < ks.length) : aloneB (ks.drop j) = ((ks[j].kind == 24) && aloneB (ks.drop (j + 1))) := by
  rw [List.drop_eq_getElem_cons h]
  rfl
set_option maxRecDepth 100000 in
theorem alone_nil (w : World) : Calls Tryz.prog 247 #[.slice none 0 0] w (AlP true w) := by
  go_enter Tryz.func247, Tryz.ntmps247
  go_wp2
  go_loopw [6] (fun i wr => i = .int .i64 0 ∧ wr = w) (fun _ _ => 0)
  case atStart => exact ⟨rfl, rfl⟩
  case round =>
    obtain ⟨rfl, rfl⟩ := hrel
    go_wp2
    refine bodyPost_ret (v := .tuple #[]) (by simp [results, Tryz.results247, go_sem]) rfl ?_
    exact ⟨rfl, grown_refl _ _⟩
set_option maxRecDepth 100000 in
set_option maxHeartbeats 1000000 in
theorem alone_some {ks : List Nd} {g cap : Nat} {P : Nat → Prop} (w : World) (hk : KsV w P (.slice (some ⟨g, 0, none⟩) ks.length cap) ks) (k2 : ks.length ≤ maxLen) :
    Calls Tryz.prog 247 #[.slice (some ⟨g, 0, none⟩) ks.length cap] w (AlP (aloneB ks) w) := by
  have HK := hid hk
  obtain ⟨L, hL⟩ : ∃ L, ks.length = L := ⟨_, rfl⟩
  have HL := hid (And.intro hL trivial)
  have Lmax : (L : Int) ≤ 9223372036854775807 := by unfold maxLen at k2; omega
  obtain ⟨R, hR⟩ : ∃ R, aloneB ks = R := ⟨_, rfl⟩
  have hR0 : Hid (aloneB (ks.drop 0) = R) := hR
  have C97 : Hid (∀ W, Calls Tryz.prog 97 #[.int .i64 (125 : Nat)] W fun e w' => e = .panicked (RjV 125) ∧ w' = W) := fun W => reject_any 125 W
  rw [hL, hR]
  rw [hL] at HK
  clear hk k2 hL hR
  go_enter Tryz.func247, Tryz.ntmps247
  go_wp2
  go_loopw [6] (fun i wr => ∃ (j : Nat), i = .int .i64 j ∧ j ≤ L ∧ Hid (aloneB (ks.drop j) = R) ∧ w.grownBy wr none) (fun i _ => L - (intOf i).toNat)
  case atStart => exact ⟨0, rfl, Nat.zero_le _, hR0, grown_refl _ _⟩
  case round =>
    obtain ⟨j, rfl, hj, hA, hg⟩ := hrel
    have G := hid hg
    clear hR0
    have j0 : (0 : Int) ≤ j := by omega
    by_cases hlt : j < L
    · have j1 : (j : Int) < L := by omega
      have hjk : j < ks.length := by rw [HL.out.1]; exact hlt
      obtain ⟨g', hg', _, hat⟩ := (HK.out.kept hg).at j hjk
      injection hg' with hg'
      injection hg' with hg'
      subst hg'
      obtain ⟨q, c0, c1, c2, c3, c4, hkq⟩ := hat.cells
      rw [Nat.mul_comm 5 j] at c0 c1 c2 c3 c4
      have AD := alone_drop hjk
      rw [hA.out] at AD
      obtain ⟨kd, ekd⟩ : ∃ kd, (ks[j]).kind = kd := ⟨_, rfl⟩
      rw [ekd] at c0 AD
      obtain ⟨p', cap', hq, _⟩ := hkq.form
      subst hq
      have G1 := hid (grown_alloc hg (.cells #[.int .i64 kd, .int .i64 ks[j].ty, .string ks[j].txt, .int .i64 ks[j].num, .slice p' ks[j].kids.length cap'] 27))
      clear hg hkq hat ekd
      cases hb : kd == 24 with
      | false =>
        have hne : ¬ kd = 24 := by rw [beq_eq_false_iff_ne] at hb; exact hb
        rw [hb, Bool.false_and] at AD
        have hb' : decide (kd = 24) = false := decide_eq_false hne
        clear hA
        go_wp2_with (go_at_call 97; refine (C97.out _).mono ?_; rintro e w2 ⟨rfl, hw⟩; replace hw := hw.symm; subst hw; clear C97)
        exact ⟨rfl, by rw [AD]; rfl, G1.out⟩
      | true =>
        have he : kd = 24 := by rw [beq_iff_eq] at hb; exact hb
        rw [hb, Bool.true_and] at AD
        subst he
        clear C97 hA
        go_wp2
        go_roundw
        case rel => exact ⟨j + 1, by go_num, by omega, hid AD.symm, G1.out⟩
        case measure => simp [intOf]; omega
    · have j1 : ¬ (j : Int) < L := by omega
      have e1 : j = L := by omega
      have hA2 := hA.out
      rw [List.drop_eq_nil_of_le (by rw [HL.out.1]; omega)] at hA2
      have hA3 : Hid (R = true) := hid hA2.symm
      clear hA hA2
      go_wp2
      refine bodyPost_ret (v := .tuple #[]) (by simp [results, Tryz.results247, go_sem]) rfl ?_
      rw [hA3.out]
      exact ⟨rfl, G.out⟩
theorem alone_any {ks : List Nd} {p : Option Addr} {c : Nat} {lo hi : Nat} (w : World) (hk : KsI w lo hi (.slice p ks.length c) ks) : Calls Tryz.prog 247 #[.slice p ks.length c] w (AlP (aloneB ks) w) := by
  have hv := hk.ks (P := fun _ => True) (fun _ _ _ => trivial)
  rcases ksI_form hk with ⟨e1, e2, _⟩ | ⟨g, cap, cs, e1, k1, k2, _⟩
  · subst e2
    injection e1 with e1 e2 e3
    subst e1 e3
    exact alone_nil w
  · injection e1 with e1 e2 e3
    subst e1 e3
    exact alone_some w hv (Nat.le_trans k1 k2)
end Ck
end Go.Proofs.YtajoncmmdeahnaaGreatDoor
