/-
  The checker over trees: a statement without blocks.
-/
import Derived.Test.YtajoncmmdeahnaaGreatDoorKCl2
namespace Go.Proofs.YtajoncmmdeahnaaGreatDoor
open Go.RowKit
namespace Ck
/-- What is asked of a statement whose kids are looked at. -/
def lineT (n : Nd) : Ck Unit := if n.kind = 7 then defineC n
    else if n.kind = 8 then (do let t ← variableC n.txt; fitsC n t)
    else if n.kind = 11 then returnedC n
    else if n.kind = 12 then fitsC n 3
    else pure ()
def lineM (F : Fn) (k : Nat) (n : Nd) : Ck Nd := mapC (exprC F k) n.kids >>= fun ks => lineT (withKids n ks) >>= fun _ => pure (withKids n ks)
theorem line_eq (F : Fn) (k : Nat) (n : Nd) (st : Cs) (h : ¬ (n.kind = 13 ∧ aloneB n.kids = false)) : lineC F k n st = lineM F k n st := by
  unfold lineC
  rw [if_neg h]
  rfl
theorem line_not (F : Fn) (k : Nat) (n : Nd) (st : Cs) (h : n.kind = 13 ∧ aloneB n.kids = false) : lineC F k n st = .error (some 125) := by
  unfold lineC
  rw [if_pos h]
  rfl
theorem NS.at {X : Xc} {F : Fn} {g o lo hi : Nat} {w wr w' : World} {n : Nd} {st st' : Cs} (h : NS X F g o lo hi w wr n st) (hp : Pl X g lo hi) (hF : FrC X wr w') (hA : CkA w' X F st') : w'.heap[g]? = wr.heap[g]? :=
  hF.low hA.ok g (by have := hp.b; have := hp.c; have := NdI.le h.n; omega) (by have := hp.b; have := hp.c; have := NdI.le h.n; have := h.a.size; omega)
theorem NS.rows {X : Xc} {F : Fn} {g o lo hi : Nat} {w wr w' : World} {n : Nd} {st st' : Cs} {q : Value} {ks : List Nd} (h : NS X F g o lo hi w wr n st) (hp : Pl X g lo hi) (hF : FrC X wr w') (hA : CkA w' X F st') (hk : KsI wr lo hi q ks) : KsI w' lo hi q ks :=
  hk.kept fun b _ b2 => hF.low hA.ok b (by have := hp.c; omega) (by have := hp.c; have := h.a.size; omega)

set_option maxRecDepth 100000 in
set_option maxHeartbeats 2000000 in
theorem line_define {X : Xc} {F : Fn} {k : Nat} (hE : ElC X F 211 (exprC F k)) {n : Nd} {g o lo hi : Nat} {cs : Array Value} {w : World} {st : Cs} (hC : CkA w X F st) (hn : NdI w g o lo hi n) (p1 : X.low ≤ g) (p2 : g < lo) (p3 : hi ≤ X.base) (hB : Blk w g 27 cs) (hx : lineM F k n st ≠ .error none) (hkd : n.kind = 7) :
    Calls Tryz.prog 218 #[.pointer (some ⟨X.c, 0, none⟩), .pointer (some ⟨g, o, none⟩)] w (CkT X F g o lo hi w (lineM F k n st)) := by
  have hp : Pl X g lo hi := ⟨p1, p2, p3⟩
  have HP := hid hp
  have N0 := hid (NS.start hC hn hB)
  obtain ⟨p, c, c0, c1, c2, c3, c4, hk, hf⟩ := N0.out.cells
  have HK := hid hk
  have HE := hid hE
  have LB : Hid (X.low ≤ lo) := hid (by omega)
  have HN := hid hx
  clear hE hk hx hC hn hp
  rw [hkd] at c0
  go_enter Tryz.func218, Tryz.ntmps218
  go_wp2_with (first
    | (go_at_call 176; refine (exprs_any _ HE.out N0.out.a HK.out LB.out p3 (bnd_ne HN.out)).mono ?_; intro e w1 hh; rcases CkL.cases hh (bnd_ne HN.out) with ⟨m, hz, rfl, hF⟩ | ⟨ks, s1, hz, rfl, hK, hA, hF⟩; (case inl => exact ⟨rfl, by unfold lineM; rw [bnd_err hz]; exact ⟨rfl, N0.out.badI HP.out hF⟩⟩); have HZ1 := hid (And.intro hz trivial); have N1 := hid (N0.out.kids HP.out c4 hK hA hF); obtain ⟨p1', c1', d0, d1, d2, d3, d4, hk1, hf1⟩ := N1.out.cells; have HK1 := hid hk1; have hkw : (withKids n ks).kind = 7 := hkd; rw [hkw] at d0; have HN2 : Hid (lineT (withKids n ks) s1 ≠ .error none) := hid (by have h := HN.out; unfold lineM at h; rw [bnd_ok hz] at h; exact bnd_ne h); clear c0 c1 c2 c3 c4 hz hK hA hF hh hk1)
    | (go_at_call 248; refine (show Calls _ _ _ _ (CkP uK X F _ (defineC (withKids n ks) s1)) from (by have h := define_any (withKids n ks) p1' c1' (fun _ => True) w1 N1.out.a (NS.kv HK1.out) (by have h := HN2.out; rw [show lineT (withKids n ks) = _ from if_pos hkw] at h; exact h); rw [hkw] at h; exact h)).mono ?_; intro e w2 hh; rw [show lineT (withKids n ks) = _ from if_pos hkw] at HN2; rcases CkP.cases hh HN2.out with ⟨m, hz, rfl, hF⟩ | ⟨t, s2, v, hz, rfl, hv, hA, hF⟩; (case inl => exact ⟨rfl, by unfold lineM; rw [bnd_ok HZ1.out.1, show lineT (withKids n ks) = _ from if_pos hkw, bnd_err hz]; exact ⟨rfl, N1.out.bad HP.out hF⟩⟩); have hv' : v = .tuple #[] := hv; subst hv'; have HZ2 := hid (And.intro hz trivial); have N2 := hid (N1.out.frc HP.out hF hA); clear hz hA hF hh))
  go_end0
  unfold lineM
  rw [bnd_ok HZ1.out.1, bnd_ok (x := lineT (withKids n ks)) (by rw [show lineT (withKids n ks) = _ from if_pos hkw]; exact HZ2.out.1)]
  exact N2.out.ok

set_option maxRecDepth 100000 in
set_option maxHeartbeats 2000000 in
theorem line_returned {X : Xc} {F : Fn} {k : Nat} (hE : ElC X F 211 (exprC F k)) {n : Nd} {g o lo hi : Nat} {cs : Array Value} {w : World} {st : Cs} (hC : CkA w X F st) (hn : NdI w g o lo hi n) (p1 : X.low ≤ g) (p2 : g < lo) (p3 : hi ≤ X.base) (hB : Blk w g 27 cs) (hx : lineM F k n st ≠ .error none) (hkd : n.kind = 11) :
    Calls Tryz.prog 218 #[.pointer (some ⟨X.c, 0, none⟩), .pointer (some ⟨g, o, none⟩)] w (CkT X F g o lo hi w (lineM F k n st)) := by
  have hp : Pl X g lo hi := ⟨p1, p2, p3⟩
  have HP := hid hp
  have N0 := hid (NS.start hC hn hB)
  obtain ⟨p, c, c0, c1, c2, c3, c4, hk, hf⟩ := N0.out.cells
  have HK := hid hk
  have HE := hid hE
  have LB : Hid (X.low ≤ lo) := hid (by omega)
  have HN := hid hx
  clear hE hk hx hC hn hp
  rw [hkd] at c0
  go_enter Tryz.func218, Tryz.ntmps218
  go_wp2_with (first
    | (go_at_call 176; refine (exprs_any _ HE.out N0.out.a HK.out LB.out p3 (bnd_ne HN.out)).mono ?_; intro e w1 hh; rcases CkL.cases hh (bnd_ne HN.out) with ⟨m, hz, rfl, hF⟩ | ⟨ks, s1, hz, rfl, hK, hA, hF⟩; (case inl => exact ⟨rfl, by unfold lineM; rw [bnd_err hz]; exact ⟨rfl, N0.out.badI HP.out hF⟩⟩); have HZ1 := hid (And.intro hz trivial); have N1 := hid (N0.out.kids HP.out c4 hK hA hF); obtain ⟨p1', c1', d0, d1, d2, d3, d4, hk1, hf1⟩ := N1.out.cells; have HK1 := hid hk1; have hkw : (withKids n ks).kind = 11 := hkd; rw [hkw] at d0; have HN2 : Hid (lineT (withKids n ks) s1 ≠ .error none) := hid (by have h := HN.out; unfold lineM at h; rw [bnd_ok hz] at h; exact bnd_ne h); clear c0 c1 c2 c3 c4 hz hK hA hF hh hk1)
    | (go_at_call 249; refine (show Calls _ _ _ _ (CkP uK X F _ (returnedC (withKids n ks) s1)) from (by have h := returned_any (st := s1) (withKids n ks) p1' c1' (fun _ => True) w1 N1.out.a (NS.kv HK1.out); rw [hkw] at h; exact h)).mono ?_; intro e w2 hh; rw [show lineT (withKids n ks) = _ from (if_neg (by rw [hkw]; decide)).trans ((if_neg (by rw [hkw]; decide)).trans (if_pos hkw))] at HN2; rcases CkP.cases hh HN2.out with ⟨m, hz, rfl, hF⟩ | ⟨t, s2, v, hz, rfl, hv, hA, hF⟩; (case inl => exact ⟨rfl, by unfold lineM; rw [bnd_ok HZ1.out.1, show lineT (withKids n ks) = _ from (if_neg (by rw [hkw]; decide)).trans ((if_neg (by rw [hkw]; decide)).trans (if_pos hkw)), bnd_err hz]; exact ⟨rfl, N1.out.bad HP.out hF⟩⟩); have hv' : v = .tuple #[] := hv; subst hv'; have HZ2 := hid (And.intro hz trivial); have N2 := hid (N1.out.frc HP.out hF hA); clear hz hA hF hh))
  go_end0
  unfold lineM
  rw [bnd_ok HZ1.out.1, bnd_ok (x := lineT (withKids n ks)) (by rw [show lineT (withKids n ks) = _ from (if_neg (by rw [hkw]; decide)).trans ((if_neg (by rw [hkw]; decide)).trans (if_pos hkw))]; exact HZ2.out.1)]
  exact N2.out.ok

set_option maxRecDepth 100000 in
set_option maxHeartbeats 2000000 in
theorem line_assert {X : Xc} {F : Fn} {k : Nat} (hE : ElC X F 211 (exprC F k)) {n : Nd} {g o lo hi : Nat} {cs : Array Value} {w : World} {st : Cs} (hC : CkA w X F st) (hn : NdI w g o lo hi n) (p1 : X.low ≤ g) (p2 : g < lo) (p3 : hi ≤ X.base) (hB : Blk w g 27 cs) (hx : lineM F k n st ≠ .error none) (hkd : n.kind = 12) :
    Calls Tryz.prog 218 #[.pointer (some ⟨X.c, 0, none⟩), .pointer (some ⟨g, o, none⟩)] w (CkT X F g o lo hi w (lineM F k n st)) := by
  have hp : Pl X g lo hi := ⟨p1, p2, p3⟩
  have HP := hid hp
  have N0 := hid (NS.start hC hn hB)
  obtain ⟨p, c, c0, c1, c2, c3, c4, hk, hf⟩ := N0.out.cells
  have HK := hid hk
  have HE := hid hE
  have LB : Hid (X.low ≤ lo) := hid (by omega)
  have HN := hid hx
  clear hE hk hx hC hn hp
  rw [hkd] at c0
  go_enter Tryz.func218, Tryz.ntmps218
  go_wp2_with (first
    | (go_at_call 176; refine (exprs_any _ HE.out N0.out.a HK.out LB.out p3 (bnd_ne HN.out)).mono ?_; intro e w1 hh; rcases CkL.cases hh (bnd_ne HN.out) with ⟨m, hz, rfl, hF⟩ | ⟨ks, s1, hz, rfl, hK, hA, hF⟩; (case inl => exact ⟨rfl, by unfold lineM; rw [bnd_err hz]; exact ⟨rfl, N0.out.badI HP.out hF⟩⟩); have HZ1 := hid (And.intro hz trivial); have N1 := hid (N0.out.kids HP.out c4 hK hA hF); obtain ⟨p1', c1', d0, d1, d2, d3, d4, hk1, hf1⟩ := N1.out.cells; have HK1 := hid hk1; have hkw : (withKids n ks).kind = 12 := hkd; rw [hkw] at d0; have HN2 : Hid (lineT (withKids n ks) s1 ≠ .error none) := hid (by have h := HN.out; unfold lineM at h; rw [bnd_ok hz] at h; exact bnd_ne h); clear c0 c1 c2 c3 c4 hz hK hA hF hh hk1)
    | (go_at_call 135; refine (show Calls _ _ _ _ (CkP uK X F _ (fitsC (withKids n ks) 3 s1)) from (by have h := fits_any (st := s1) (withKids n ks) p1' c1' 3 (fun _ => True) w1 N1.out.a (NS.kv HK1.out); rw [hkw] at h; exact h)).mono ?_; intro e w2 hh; rw [show lineT (withKids n ks) = _ from (if_neg (by rw [hkw]; decide)).trans ((if_neg (by rw [hkw]; decide)).trans ((if_neg (by rw [hkw]; decide)).trans (if_pos hkw)))] at HN2; rcases CkP.cases hh HN2.out with ⟨m, hz, rfl, hF⟩ | ⟨t, s2, v, hz, rfl, hv, hA, hF⟩; (case inl => exact ⟨rfl, by unfold lineM; rw [bnd_ok HZ1.out.1, show lineT (withKids n ks) = _ from (if_neg (by rw [hkw]; decide)).trans ((if_neg (by rw [hkw]; decide)).trans ((if_neg (by rw [hkw]; decide)).trans (if_pos hkw))), bnd_err hz]; exact ⟨rfl, N1.out.bad HP.out hF⟩⟩); have hv' : v = .tuple #[] := hv; subst hv'; have HZ2 := hid (And.intro hz trivial); have N2 := hid (N1.out.frc HP.out hF hA); clear hz hA hF hh))
  go_end0
  unfold lineM
  rw [bnd_ok HZ1.out.1, bnd_ok (x := lineT (withKids n ks)) (by rw [show lineT (withKids n ks) = _ from (if_neg (by rw [hkw]; decide)).trans ((if_neg (by rw [hkw]; decide)).trans ((if_neg (by rw [hkw]; decide)).trans (if_pos hkw)))]; exact HZ2.out.1)]
  exact N2.out.ok

set_option maxRecDepth 100000 in
set_option maxHeartbeats 2000000 in
theorem line_assign {X : Xc} {F : Fn} {k : Nat} (hE : ElC X F 211 (exprC F k)) {n : Nd} {g o lo hi : Nat} {cs : Array Value} {w : World} {st : Cs} (hC : CkA w X F st) (hn : NdI w g o lo hi n) (p1 : X.low ≤ g) (p2 : g < lo) (p3 : hi ≤ X.base) (hB : Blk w g 27 cs) (hx : lineM F k n st ≠ .error none) (hkd : n.kind = 8) :
    Calls Tryz.prog 218 #[.pointer (some ⟨X.c, 0, none⟩), .pointer (some ⟨g, o, none⟩)] w (CkT X F g o lo hi w (lineM F k n st)) := by
  have hp : Pl X g lo hi := ⟨p1, p2, p3⟩
  have HP := hid hp
  have N0 := hid (NS.start hC hn hB)
  obtain ⟨p, c, c0, c1, c2, c3, c4, hk, hf⟩ := N0.out.cells
  have HK := hid hk
  have HE := hid hE
  have LB : Hid (X.low ≤ lo) := hid (by omega)
  have HN := hid hx
  clear hE hk hx hC hn hp
  rw [hkd] at c0
  go_enter Tryz.func218, Tryz.ntmps218
  go_wp2_with (first
    | (go_at_call 176; refine (exprs_any _ HE.out N0.out.a HK.out LB.out p3 (bnd_ne HN.out)).mono ?_; intro e w1 hh; rcases CkL.cases hh (bnd_ne HN.out) with ⟨m, hz, rfl, hF⟩ | ⟨ks, s1, hz, rfl, hK, hA, hF⟩; (case inl => exact ⟨rfl, by unfold lineM; rw [bnd_err hz]; exact ⟨rfl, N0.out.badI HP.out hF⟩⟩); have HZ1 := hid (And.intro hz trivial); have N1 := hid (N0.out.kids HP.out c4 hK hA hF); obtain ⟨p1', c1', d0, d1, d2, d3, d4, hk1, hf1⟩ := N1.out.cells; have HK1 := hid hk1; have hkw : (withKids n ks).kind = 8 := hkd; rw [hkw] at d0; have HN2 : Hid (lineT (withKids n ks) s1 ≠ .error none) := hid (by have h := HN.out; unfold lineM at h; rw [bnd_ok hz] at h; exact bnd_ne h); clear c0 c1 c2 c3 c4 hz hK hA hF hh hk1))
  have hkw : (withKids n ks).kind = 8 := hkd
  have LT : Hid (lineT (withKids n ks) = (variableC (withKids n ks).txt >>= fun t => fitsC (withKids n ks) t) ∧ True) := hid ⟨(if_neg (by rw [hkw]; decide)).trans (if_pos hkw), trivial⟩
  rw [LT.out.1] at HN2
  have HN3 := hid (bnd_ne HN2.out)
  have VA : Hid (∀ W, w1.grownBy W none → Calls Tryz.prog 212 #[.pointer (some ⟨X.c, 0, none⟩), .string (withKids n ks).txt] W (CkP iK X F W (variableC (withKids n ks).txt s1))) := hid (fun W hW => variable_any _ W (N1.out.a.kept hW) HN3.out)
  have GD : Hid (w1.grownBy w1.drew none) := hid (grown_drew (grown_refl _ _))
  go_region_law (first
    | (go_simp; go_at_call 212; refine (VA.out _ GD.out).mono ?_; intro e w2 hh; rcases CkP.cases hh HN3.out with ⟨m, hz, rfl, hF⟩ | ⟨t, s2, v, hz, rfl, hv, hA, hF⟩; (case inl => exact ⟨rfl, by unfold lineM; rw [bnd_ok HZ1.out.1, LT.out.1, bnd_err (x := variableC (withKids n ks).txt >>= fun t => fitsC (withKids n ks) t) (bnd_err hz)]; exact ⟨rfl, N1.out.bad HP.out ((FrC.nil GD.out).trans hF)⟩⟩); have hv' : v = .int .i64 t := hv; subst hv'; have HZ2 := hid (And.intro hz trivial); have F2 := hid ((FrC.nil (X := X) GD.out).trans hF); have N2 := hid (N1.out.frc HP.out F2.out hA); have eg := N1.out.at HP.out F2.out hA; have e0 := (World.cell?_of_block (a := ⟨g, o, none⟩) eg).trans d0; have e1 := (World.cell?_of_block (a := ⟨g, o + 1, none⟩) eg).trans d1; have e2 := (World.cell?_of_block (a := ⟨g, o + 2, none⟩) eg).trans d2; have e3 := (World.cell?_of_block (a := ⟨g, o + 3, none⟩) eg).trans d3; have e4 := (World.cell?_of_block (a := ⟨g, o + 4, none⟩) eg).trans d4; have HK2 := hid (N1.out.rows HP.out F2.out hA HK1.out); have HN4 : Hid (fitsC (withKids n ks) t s2 ≠ .error none) := hid (fits_ne _ _ _); clear hz hA hF hh eg)
    | (go_simp; go_at_call 135; refine (show Calls _ _ _ _ (CkP uK X F _ (fitsC (withKids n ks) t s2)) from (by have h := fits_any (st := s2) (withKids n ks) p1' c1' t (fun _ => True) w2 N2.out.a (NS.kv HK2.out); rw [hkw] at h; exact h)).mono ?_; intro e w3 hh; rcases CkP.cases hh HN4.out with ⟨m, hz, rfl, hF⟩ | ⟨u, s3, v, hz, rfl, hv, hA, hF⟩; (case inl => exact ⟨rfl, by unfold lineM; rw [bnd_ok HZ1.out.1, LT.out.1, bnd_err (x := variableC (withKids n ks).txt >>= fun t => fitsC (withKids n ks) t) (by rw [bnd_ok HZ2.out.1]; exact hz)]; exact ⟨rfl, N2.out.bad HP.out hF⟩⟩); have hv' : v = .tuple #[] := hv; subst hv'; have HZ3 := hid (And.intro hz trivial); have N3 := hid (N2.out.frc HP.out hF hA); clear hz hA hF hh))
  all_goals
    go_wp2_with fail
    go_end0
    unfold lineM
    rw [bnd_ok HZ1.out.1, LT.out.1, bnd_ok (x := variableC (withKids n ks).txt >>= fun t => fitsC (withKids n ks) t) (by rw [bnd_ok HZ2.out.1]; exact HZ3.out.1)]
    exact N3.out.ok

set_option maxRecDepth 100000 in
set_option maxHeartbeats 2000000 in
theorem line_skip {X : Xc} {F : Fn} {k : Nat} (hE : ElC X F 211 (exprC F k)) {n : Nd} {g o lo hi : Nat} {cs : Array Value} {w : World} {st : Cs} (hC : CkA w X F st) (hn : NdI w g o lo hi n) (p1 : X.low ≤ g) (p2 : g < lo) (p3 : hi ≤ X.base) (hB : Blk w g 27 cs) (hx : lineM F k n st ≠ .error none) (hkd : n.kind = 14) :
    Calls Tryz.prog 218 #[.pointer (some ⟨X.c, 0, none⟩), .pointer (some ⟨g, o, none⟩)] w (CkT X F g o lo hi w (lineM F k n st)) := by
  have hp : Pl X g lo hi := ⟨p1, p2, p3⟩
  have HP := hid hp
  have N0 := hid (NS.start hC hn hB)
  obtain ⟨p, c, c0, c1, c2, c3, c4, hk, hf⟩ := N0.out.cells
  have HK := hid hk
  have HE := hid hE
  have LB : Hid (X.low ≤ lo) := hid (by omega)
  have HN := hid hx
  clear hE hk hx hC hn hp
  rw [hkd] at c0
  go_enter Tryz.func218, Tryz.ntmps218
  go_wp2_with (first
    | (go_at_call 176; refine (exprs_any _ HE.out N0.out.a HK.out LB.out p3 (bnd_ne HN.out)).mono ?_; intro e w1 hh; rcases CkL.cases hh (bnd_ne HN.out) with ⟨m, hz, rfl, hF⟩ | ⟨ks, s1, hz, rfl, hK, hA, hF⟩; (case inl => exact ⟨rfl, by unfold lineM; rw [bnd_err hz]; exact ⟨rfl, N0.out.badI HP.out hF⟩⟩); have HZ1 := hid (And.intro hz trivial); have N1 := hid (N0.out.kids HP.out c4 hK hA hF); obtain ⟨p1', c1', d0, d1, d2, d3, d4, hk1, hf1⟩ := N1.out.cells; have HK1 := hid hk1; have hkw : (withKids n ks).kind = 14 := hkd; rw [hkw] at d0; have HN2 : Hid (lineT (withKids n ks) s1 ≠ .error none) := hid (by have h := HN.out; unfold lineM at h; rw [bnd_ok hz] at h; exact bnd_ne h); clear c0 c1 c2 c3 c4 hz hK hA hF hh hk1))
  go_end0
  have hkw : (withKids n ks).kind = 14 := hkd
  unfold lineM
  rw [bnd_ok HZ1.out.1, bnd_ok (x := lineT (withKids n ks)) (by rw [show lineT (withKids n ks) = _ from (if_neg (by rw [hkw]; decide)).trans ((if_neg (by rw [hkw]; decide)).trans ((if_neg (by rw [hkw]; decide)).trans (if_neg (by rw [hkw]; decide))))]; rfl)]
  exact N1.out.ok

set_option maxRecDepth 100000 in
set_option maxHeartbeats 2000000 in
theorem line_do {X : Xc} {F : Fn} {k : Nat} (hE : ElC X F 211 (exprC F k)) {n : Nd} {g o lo hi : Nat} {cs : Array Value} {w : World} {st : Cs} (hC : CkA w X F st) (hn : NdI w g o lo hi n) (p1 : X.low ≤ g) (p2 : g < lo) (p3 : hi ≤ X.base) (hB : Blk w g 27 cs) (hx : lineM F k n st ≠ .error none) (hkd : n.kind = 13) (hal : aloneB n.kids = true) :
    Calls Tryz.prog 218 #[.pointer (some ⟨X.c, 0, none⟩), .pointer (some ⟨g, o, none⟩)] w (CkT X F g o lo hi w (lineM F k n st)) := by
  have hp : Pl X g lo hi := ⟨p1, p2, p3⟩
  have HP := hid hp
  have N0 := hid (NS.start hC hn hB)
  obtain ⟨p, c, c0, c1, c2, c3, c4, hk, hf⟩ := N0.out.cells
  have HK := hid hk
  have HE := hid hE
  have LB : Hid (X.low ≤ lo) := hid (by omega)
  have HN := hid hx
  clear hE hk hx hC hn hp
  rw [hkd] at c0
  have AL : Hid (Calls Tryz.prog 247 #[.slice p n.kids.length c] w (fun e w' => e = .returned (.tuple #[]) ∧ w.grownBy w' none)) := hid ((alone_any w HK.out).mono (fun e w' h => ⟨h.1.trans (if_pos hal), h.2⟩))
  clear hal
  go_enter Tryz.func218, Tryz.ntmps218
  go_wp2_with (first
    | (go_at_call 247; refine (AL.out).mono ?_; rintro e w0 ⟨rfl, hg⟩; have F0 := hid (FrC.nil (X := X) hg); have A0 := N0.out.a.kept hg; have eg := N0.out.at HP.out F0.out A0; replace c0 := (World.cell?_of_block (a := ⟨g, o, none⟩) eg).trans c0; replace c1 := (World.cell?_of_block (a := ⟨g, o + 1, none⟩) eg).trans c1; replace c2 := (World.cell?_of_block (a := ⟨g, o + 2, none⟩) eg).trans c2; replace c3 := (World.cell?_of_block (a := ⟨g, o + 3, none⟩) eg).trans c3; replace c4 := (World.cell?_of_block (a := ⟨g, o + 4, none⟩) eg).trans c4; replace HK := hid (N0.out.rows HP.out F0.out A0 HK.out); replace N0 := hid (N0.out.grown HP.out hg); clear F0 A0 eg hg AL)
    | (go_at_call 176; refine (exprs_any _ HE.out N0.out.a HK.out LB.out p3 (bnd_ne HN.out)).mono ?_; intro e w1 hh; rcases CkL.cases hh (bnd_ne HN.out) with ⟨m, hz, rfl, hF⟩ | ⟨ks, s1, hz, rfl, hK, hA, hF⟩; (case inl => exact ⟨rfl, by unfold lineM; rw [bnd_err hz]; exact ⟨rfl, N0.out.badI HP.out hF⟩⟩); have HZ1 := hid (And.intro hz trivial); have N1 := hid (N0.out.kids HP.out c4 hK hA hF); obtain ⟨p1', c1', d0, d1, d2, d3, d4, hk1, hf1⟩ := N1.out.cells; have HK1 := hid hk1; have hkw : (withKids n ks).kind = 13 := hkd; rw [hkw] at d0; have HN2 : Hid (lineT (withKids n ks) s1 ≠ .error none) := hid (by have h := HN.out; unfold lineM at h; rw [bnd_ok hz] at h; exact bnd_ne h); clear c0 c1 c2 c3 c4 hz hK hA hF hh hk1))
  go_end0
  have hkw : (withKids n ks).kind = 13 := hkd
  unfold lineM
  rw [bnd_ok HZ1.out.1, bnd_ok (x := lineT (withKids n ks)) (by rw [show lineT (withKids n ks) = _ from (if_neg (by rw [hkw]; decide)).trans ((if_neg (by rw [hkw]; decide)).trans ((if_neg (by rw [hkw]; decide)).trans (if_neg (by rw [hkw]; decide))))]; rfl)]
  exact N1.out.ok

set_option maxRecDepth 100000 in
set_option maxHeartbeats 2000000 in
theorem line_lone {X : Xc} {F : Fn} {n : Nd} {g o lo hi : Nat} {cs : Array Value} {w : World} {st : Cs} (hC : CkA w X F st) (hn : NdI w g o lo hi n) (p1 : X.low ≤ g) (p2 : g < lo) (p3 : hi ≤ X.base) (hB : Blk w g 27 cs) (hkd : n.kind = 13) (hal : aloneB n.kids = false) :
    Calls Tryz.prog 218 #[.pointer (some ⟨X.c, 0, none⟩), .pointer (some ⟨g, o, none⟩)] w (CkT X F g o lo hi w (.error (some 125))) := by
  have hp : Pl X g lo hi := ⟨p1, p2, p3⟩
  have HP := hid hp
  have N0 := hid (NS.start hC hn hB)
  obtain ⟨p, c, c0, c1, c2, c3, c4, hk, hf⟩ := N0.out.cells
  have HK := hid hk
  clear hk hC hn hp
  rw [hkd] at c0
  have AL : Hid (Calls Tryz.prog 247 #[.slice p n.kids.length c] w (fun e w' => e = .panicked (RjV 125) ∧ w.grownBy w' none)) := hid ((alone_any w HK.out).mono (fun e w' h => ⟨h.1.trans (if_neg (by rw [hal]; decide)), h.2⟩))
  clear hal
  go_enter Tryz.func218, Tryz.ntmps218
  go_wp2_with (go_at_call 247; refine (AL.out).mono ?_; rintro e w0 ⟨rfl, hg⟩; have F0 := hid (FrC.nil (X := X) hg); clear hg)
  exact ⟨rfl, rfl, N0.out.bad HP.out F0.out⟩

theorem line_any {X : Xc} {F : Fn} {k : Nat} (hE : ElC X F 211 (exprC F k)) {n : Nd} {g o lo hi : Nat} {cs : Array Value} {w : World} {st : Cs} (hC : CkA w X F st) (hn : NdI w g o lo hi n) (p1 : X.low ≤ g) (p2 : g < lo) (p3 : hi ≤ X.base) (hB : Blk w g 27 cs) (hx : lineC F k n st ≠ .error none) (hkd : n.kind = 7 ∨ n.kind = 8 ∨ n.kind = 11 ∨ n.kind = 12 ∨ n.kind = 13 ∨ n.kind = 14) :
    Calls Tryz.prog 218 #[.pointer (some ⟨X.c, 0, none⟩), .pointer (some ⟨g, o, none⟩)] w (CkT X F g o lo hi w (lineC F k n st)) := by
  by_cases hb : n.kind = 13 ∧ aloneB n.kids = false
  · rw [line_not F k n st hb]
    exact line_lone hC hn p1 p2 p3 hB hb.1 hb.2
  · rw [line_eq F k n st hb] at hx ⊢
    rcases hkd with h | h | h | h | h | h
    · exact line_define hE hC hn p1 p2 p3 hB hx h
    · exact line_assign hE hC hn p1 p2 p3 hB hx h
    · exact line_returned hE hC hn p1 p2 p3 hB hx h
    · exact line_assert hE hC hn p1 p2 p3 hB hx h
    · exact line_do hE hC hn p1 p2 p3 hB hx h (by cases ha : aloneB n.kids with | true => rfl | false => exact absurd ⟨h, ha⟩ hb)
    · exact line_skip hE hC hn p1 p2 p3 hB hx h

end Ck
end Go.Proofs.YtajoncmmdeahnaaGreatDoor
