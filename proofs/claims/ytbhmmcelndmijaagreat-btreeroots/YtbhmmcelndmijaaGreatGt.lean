/-
  Get: a key's value.
-/
import Derived.Test.YtbhmmcelndmijaaGreatKPn
import Derived.Deep.LoopGhost
namespace Go.Proofs.YtbhmmcelndmijaaGreat
open Go.RowKit Go.Maps
/-- What holds at the loop's head: a page on the way down. -/
structure GtI (w wr : World) (K : Nat) (g : Lg) (k : ByteArray) (X : Option ByteArray) (S d : Nat) (p : Pa.Pg) (v : Value) (lo hi : Option ByteArray) : Prop where
  t : ∃ t : Tr d, Is g.recs d t p ∧ Bt.Good kl d lo hi t ∧ Bt.AllK KeyOk ValOk d t ∧ Bt.nk d t ≤ 8 ∧ Bt.getT kl k d t = X
  own : Pa.PgO wr w.heap.size v p
  sp : Blk wr S 76 #[.string (opT lo), .string (opT hi)]
  grown : w.grownBy wr none
  new : w.heap.size ≤ S
  ne : S ≠ K
  hik : ∀ y, hi = some y → KeyOk y
theorem PgO.val {w : World} {bp k1 : Nat} {a c : Value} {p1 : Option Addr} {p : Pa.Pg} (h : Pa.PgO w bp (.agg #[.bool p.leaf, a, .slice p1 p.vals.length k1, c]) p) {i : Nat} {x : ByteArray} (hi : p.vals[i]? = some x) : ∃ g3, p1 = some ⟨g3, 0, none⟩ ∧ g3 < w.heap.size ∧ ∀ W, w.grownBy W none → W.cell? ⟨g3, i, none⟩ = some (.string x) := by
  obtain ⟨x', y, z, e, h1, h2, h3, h4⟩ := h
  injection e with e
  have e' := congrArg Array.toList e
  simp at e'
  obtain ⟨rfl, rfl, rfl⟩ := e'
  rcases Sl.owns_cases h3 with ⟨_, h0, _⟩ | ⟨g, c, cur, e, hg, hB, hn, hc, hs, hx, hl⟩
  · have := (List.getElem?_eq_some_iff.1 hi).1
    omega
  · injection e with e1 e2 e3
    subst e1
    refine ⟨g, rfl, hB.lt, fun W hW => ?_⟩
    rw [(hB.kept hW (by simp)).cell]
    exact Sl.take_get hx (by unfold Pa.strs; rw [List.getElem?_map, hi]; rfl)
theorem PgO.kid_ne {w : World} {bp k3 g3 S : Nat} {t : TypeId} {cs : Array Value} {a b : Value} {p : Pa.Pg} (h : Pa.PgO w bp (.agg #[.bool p.leaf, a, b, .slice (some ⟨g3, 0, none⟩) p.kids.length k3]) p) {i : Nat} {x : Int} (hi : p.kids[i]? = some x) (hS : Blk w S t cs) (ht : t ≠ 3) : g3 ≠ S := by
  obtain ⟨x', y, z, e, h1, h2, h3, h4⟩ := h
  injection e with e
  have e' := congrArg Array.toList e
  simp at e'
  obtain ⟨rfl, rfl, rfl⟩ := e'
  rcases Sl.owns_cases h4 with ⟨_, h0, _⟩ | ⟨g, c, cur, e, hg, hB, hn, hc, hs, hx, hl⟩
  · have := (List.getElem?_eq_some_iff.1 hi).1
    omega
  · injection e with e1 e2 e3
    injection e1 with e1
    injection e1 with e1
    subst e1
    rintro rfl
    have h5 : w.heap[g3]? = some (.cells cur 3 (0, 0)) := hB
    have h6 : w.heap[g3]? = some (.cells cs t (0, 0)) := hS
    rw [h5] at h6
    injection h6 with h6
    injection h6 with _ h6 _
    exact ht h6.symm
theorem cell_far {w w' : World} {g S i : Nat} {v : Value} (h : w.cell? ⟨g, i, none⟩ = some v) (hg : w.grownBy w' (some S)) (hn : g ≠ S) : w'.cell? ⟨g, i, none⟩ = some v := by
  have hlt := World.block_lt_of_cell? _ _ h
  have e := hg.block g hlt (fun e => hn (Option.some.inj e))
  unfold World.cell? at h ⊢
  rw [e]
  exact h
theorem leaf_get {l : Prs} {k : ByteArray} {x : ByteArray} (h : Pa.findIs (leafPg l).keys k = true) (hx : Bt.getT (K := ByteArray) (V := ByteArray) kl k 0 l = some x) : (leafPg l).vals[Pa.findN (leafPg l).keys k]? = some x := by
  have e : Bt.getT (K := ByteArray) (V := ByteArray) kl k 0 l = Bt.look kl k l := rfl
  rw [e, look_find] at hx
  have h' : Pa.findIs (l.map Prod.fst) k = true := h
  rw [if_pos h'] at hx
  show (l.map Prod.snd)[Pa.findN (l.map Prod.fst) k]? = some x
  rw [List.getElem?_map]
  exact hx
set_option maxRecDepth 100000 in
set_option maxHeartbeats 4000000 in
theorem get_walk (base b lb : Nat) (g : Lg) (root : Int) (d0 : Nat) (t0 : Tr d0) (p0 : Pa.Pg) (k : ByteArray) (X : Option ByteArray) (w : World) (hT : IsTree w b lb root) (hL : IsLog w base lb g) (ok : LgOk g) (hl : g.recs.length ≤ 1000000)
    (hI : Is g.recs d0 t0 p0) (hG : Bt.Good kl d0 none none t0) (hA : Bt.AllK KeyOk ValOk d0 t0) (h8 : Bt.nk d0 t0 ≤ 8) (hX : Bt.getT kl k d0 t0 = X)
    (h27 : ∀ W, IsTree W b lb root → IsLog W base lb g → Calls Tryz.prog 27 #[.pointer (some ⟨b, 0, none⟩)] W (Pa.DecPost W p0 0)) :
    Calls Tryz.prog 21 #[.pointer (some ⟨b, 0, none⟩), .string k] w fun e w' => e = .returned (.tuple #[.string (X.getD ⟨#[]⟩), .int .i64 (if X.isSome then 0 else 2)]) ∧ w.grownBy w' none := by
  have C26 := hid (none_tree b lb root w hT)
  have C27 := hid (h27 w hT hL)
  have HT := hid hT
  have HL := hid hL
  have HI := hid (And.intro hI (And.intro hG (And.intro hA (And.intro h8 (And.intro hX (And.intro ok hl))))))
  obtain ⟨P0, hP0⟩ : ∃ P : Ending → World → Prop, P = fun e w' => e = .returned (.tuple #[.string (X.getD ⟨#[]⟩), .int .i64 (if X.isSome then 0 else 2)]) ∧ w.grownBy w' none := ⟨_, rfl⟩
  rw [← hP0]
  have HP := hid (And.intro hP0 trivial)
  clear hP0 h27 hT hL hI hG hA h8 hX ok hl
  go_enter Tryz.func21, Tryz.ntmps21
  go_wp2_with (first
    | (go_at_call 26; refine C26.out.mono ?_; rintro e w1 ⟨rfl, hw⟩; have hw2 := hw.symm; clear hw; subst hw2; clear C26)
    | (go_at_call 27; refine C27.out.mono ?_; rintro e w2 ⟨u, rfl, o2, g2'⟩; obtain ⟨q1, l1, q2', l2, q3, l3, rfl⟩ := PgO.form o2; have O2 := hid o2; have G2 := hid g2'; clear g2' o2 C27))
  have hK := G2.out.size
  have B0 := Blk.new (w2.alloc (.cells #[.bool p0.leaf, .slice q1 p0.keys.length l1, .slice q2' p0.vals.length l2, .slice q3 p0.kids.length l3] 70)) 76 #[.string ⟨#[]⟩, .string ⟨#[]⟩]
  rw [World.size_alloc] at B0
  go_loopg [7, 8] d0 (fun n s7 s8 wr => s7 = .int .i64 0 ∧ ∃ (d : Nat) (p : Pa.Pg) (a1 : Option Addr) (c1 : Nat) (a2 : Option Addr) (c2 : Nat) (a3 : Option Addr) (c3 : Nat) (lo hi : Option ByteArray) (S : Nat), n = d ∧ s8 = .pointer (some ⟨S, 0, none⟩) ∧ Blk wr w2.heap.size 70 #[.bool p.leaf, .slice a1 p.keys.length c1, .slice a2 p.vals.length c2, .slice a3 p.kids.length c3] ∧ GtI w wr w2.heap.size g k X S d p (.agg #[.bool p.leaf, .slice a1 p.keys.length c1, .slice a2 p.vals.length c2, .slice a3 p.kids.length c3]) lo hi)
  case atStart =>
    obtain ⟨e1, e2, e3, e4, e5, e6⟩ := HI.out
    exact ⟨rfl, d0, p0, q1, l1, q2', l2, q3, l3, none, none, _, rfl, rfl, (Blk.new w2 70 _).alloc _, ⟨⟨t0, e1, e2, e3, e4, e5⟩, O2.out.keptN (grown_alloc (grown_alloc (grown_refl _ _) _) _), B0, grown_alloc (grown_alloc G2.out _) _, by omega, by omega, fun y hy => by cases hy⟩⟩
  case round =>
    obtain ⟨rfl, d, p, a1, c1, a2, c2, a3, c3, lo, hi, S, rfl, rfl, hB, hI⟩ := hrel
    have BK := hid hB
    have II := hid hI
    obtain ⟨tt, i1, i2, i3, i4, i5⟩ := hI.t
    have hleaf := is_leaf _ _ i1
    have b0 := BK.out.cell 0
    have b1 := BK.out.cell 1
    have b2 := BK.out.cell 2
    have b3 := BK.out.cell 3
    have OK' := hid (And.intro HI.out.2.2.2.2.2.1 HI.out.2.2.2.2.2.2)
    clear HI B0 hB hI O2
    cases gk with
    | zero =>
      have hp : p = leafPg tt := i1
      subst hp
      have hn8 : (leafPg tt).keys.length ≤ 8 := by rw [is_nk _ _ i1]; exact i4
      have hvl : (leafPg tt).vals.length = (leafPg tt).keys.length := is_shape _ _ i2 i1
      have hkl : (leafPg tt).kids.length = 0 := rfl
      have e5 : X = if Pa.findIs (leafPg tt).keys k then ((show Prs from tt)[Pa.findN (leafPg tt).keys k]?).map Prod.snd else none := by rw [← i5]; exact look_find k tt
      have h43 := hid (Pa.find_any (.agg #[.bool (leafPg tt).leaf, .slice a1 (leafPg tt).keys.length c1, .slice a2 (leafPg tt).vals.length c2, .slice a3 (leafPg tt).kids.length c3]) (leafPg tt) k wr (Pa.PgO.pgV II.out.own) ⟨by omega, by omega, by omega⟩)
      have hvals : ∀ x, (leafPg tt).vals[Pa.findN (leafPg tt).keys k]? = some x → ∃ gv, a2 = some ⟨gv, 0, none⟩ ∧ ∀ W, wr.grownBy W none → W.cell? ⟨gv, Pa.findN (leafPg tt).keys k, none⟩ = some (.string x) := fun x hx => by
        obtain ⟨gv, q1, _, q2⟩ := PgO.val II.out.own hx
        exact ⟨gv, q1, q2⟩
      have hfx : Pa.findIs (leafPg tt).keys k = true → ∃ y, (leafPg tt).vals[Pa.findN (leafPg tt).keys k]? = some y ∧ X = some y := fun h => by
        rw [if_pos h] at e5
        obtain ⟨h1, h2⟩ := find_at h
        have h1' : Pa.findN (leafPg tt).keys k < (show Prs from tt).length := by
          have : (leafPg tt).keys.length = (show Prs from tt).length := by show (List.map Prod.fst (show Prs from tt)).length = _; rw [List.length_map]
          omega
        rw [List.getElem?_eq_getElem h1'] at e5
        refine ⟨_, ?_, e5⟩
        show (List.map Prod.snd (show Prs from tt))[Pa.findN (leafPg tt).keys k]? = _
        rw [List.getElem?_map, List.getElem?_eq_getElem h1']
        rfl
      have hlt : Pa.findIs (leafPg tt).keys k = true → Pa.findN (leafPg tt).keys k < (leafPg tt).vals.length := fun h => by have := (find_at h).1; omega
      rw [show (leafPg tt).leaf = true from rfl] at *
      have VV := hid hvals
      simp only [List.getElem?_toArray, List.getElem?_cons_zero, List.getElem?_cons_succ] at b0 b1 b2 b3
      clear hvals i1 i2 i3 i4 i5 hleaf OK' hvl hkl
      generalize (leafPg tt).keys.length = nk' at *
      generalize (leafPg tt).vals.length = nv at *
      generalize (leafPg tt).kids.length = nd at *
      generalize hn : Pa.findN (leafPg tt).keys k = n at *
      cases hf : Pa.findIs (leafPg tt).keys k with
      | false =>
        rw [hf] at h43 e5
        have e6 : X = none := e5
        subst e6
        clear hfx hlt e5 VV
        go_wp2_with (go_at_call 43; refine h43.out.mono ?_; rintro e w4 ⟨rfl, g4⟩; have G4 := hid g4; clear g4 h43)
        rw [HP.out.1]
        exact ⟨rfl, grown_none II.out.grown G4.out⟩
      | true =>
        obtain ⟨y, hy, rfl⟩ := hfx hf
        have hlt' := hlt hf
        have hlti : (n : Int) < nv := by omega
        obtain ⟨gv, rfl, hgv⟩ := VV.out y hy
        rw [hf] at h43
        have HGV := hid hgv
        clear hfx hlt e5 VV hgv hy
        go_wp2_with (go_at_call 43; refine h43.out.mono ?_; rintro e w4 ⟨rfl, g4⟩; have G4 := hid g4; have y2 := (BK.out.kept g4 (by simp)).cell 2; have cv := HGV.out w4 g4; simp at y2; clear g4 h43)
        rw [HP.out.1]
        exact ⟨rfl, grown_none II.out.grown G4.out⟩
    | succ d =>
      obtain ⟨ks, ts⟩ := tt
      obtain ⟨is, rfl, hP⟩ := node_is i1
      have h8' : ks.length ≤ 8 := i4
      have hkl := (Bt.kid_take (lt := kl) k ks).1
      obtain ⟨t', a, q, ht, ha, q1', q2'', g1, n4, n8, hAt, hH⟩ := kid_at (Bt.kid kl k ks) hkl i2 i3 hP II.out.hik
      have hkk : is.length = ks.length + 1 := by rw [hP.1, Bt.GL.len kl i2]
      obtain ⟨g3, rfl, hg3, hc3⟩ := PgO.kid II.out.own ha
      have hgS : g3 ≠ S := PgO.kid_ne II.out.own ha II.out.sp (by decide)
      have hX' : Bt.getT kl k d t' = X := by
        rw [← i5]
        simp only [Bt.getT, ht]
      have C40 : Hid (∀ W, wr.grownBy W none → Calls Tryz.prog 40 #[.agg #[.bool false, .slice a1 ks.length c1, .slice a2 0 c2, .slice (some ⟨g3, 0, none⟩) is.length c3], .string k] W fun e w' => e = .returned (.int .i64 (Bt.kid kl k ks)) ∧ W.grownBy w' none) := fun W hW => by
        have := Pa.kid_any _ ⟨false, ks, [], is⟩ k W ((II.out.own.keptN hW).pgV) ⟨by show ks.length ≤ _; omega, by simp, by show is.length ≤ _; omega⟩ (by show ks.length ≤ 1000; omega)
        rw [← kid_find k (gl_pw i2).1, find_cast]
        exact this
      have C41 : Hid (∀ W, wr.grownBy W none → Calls Tryz.prog 41 #[.agg #[.string (opT lo), .string (opT hi)], .agg #[.bool false, .slice a1 ks.length c1, .slice a2 0 c2, .slice (some ⟨g3, 0, none⟩) is.length c3], .int .i64 (Bt.kid kl k ks)] W fun e w' => e = .returned (.agg #[.string (opT (loI lo ks (Bt.kid kl k ks))), .string (opT (hiI hi ks (Bt.kid kl k ks)))]) ∧ W.grownBy w' none) := fun W hW => by
        have := below_any (opT lo) (opT hi) ⟨false, ks, [], is⟩ _ (Bt.kid kl k ks) W ((II.out.own.keptN hW).pgV) hkl (by show ks.length ≤ 1000000; omega)
        rw [← lo_span lo ks _ hkl, ← hi_span hi ks]
        exact this
      have C42 : Hid (∀ W, w.grownBy W none → Calls Tryz.prog 42 #[.pointer (some ⟨b, 0, none⟩), .int .i64 a, .agg #[.string (opT (loI lo ks (Bt.kid kl k ks))), .string (opT (hiI hi ks (Bt.kid kl k ks)))]] W (Pa.DecPost W q 0)) := fun W hW => read_page base b lb g root a _ _ q W (HT.out.kept hW) (HL.out.kept hW) OK'.out.1.asc OK'.out.2 q1' hH
      have NEXT : Hid (∀ W (S' : Nat) (v : Value), Pa.PgO W w.heap.size v q → Blk W S' 76 #[.string (opT (loI lo ks (Bt.kid kl k ks))), .string (opT (hiI hi ks (Bt.kid kl k ks)))] → w.grownBy W none → w.heap.size ≤ S' → S' ≠ w2.heap.size → GtI w W w2.heap.size g k X S' d q v (loI lo ks (Bt.kid kl k ks)) (hiI hi ks (Bt.kid kl k ks))) := fun W S' v h1 h2 h3 h4 h5 => ⟨⟨t', q2'', g1, hAt, n8, hX'⟩, h1, h2, h3, h4, h5, hi_key _ II.out.hik i3.1⟩
      have HC3 := hid hc3
      have hil : Bt.kid kl k ks < is.length := by omega
      simp only [List.getElem?_toArray, List.getElem?_cons_zero, List.getElem?_cons_succ] at b0 b1 b2 b3
      have s0 := II.out.sp.cell 0
      have s1 := II.out.sp.cell 1
      simp only [List.getElem?_toArray, List.getElem?_cons_zero, List.getElem?_cons_succ] at s0 s1
      generalize Bt.kid kl k ks = i at *
      generalize opT (loI lo ks i) = lo2 at *
      generalize opT (hiI hi ks i) = hi2 at *
      have hii : (i : Int) < is.length := by omega
      have hSK := II.out.ne
      have hSK' : ¬ w2.heap.size = S := fun e => hSK e.symm
      have hSw := II.out.new
      clear i1 i2 i3 i4 i5 hleaf OK' hP h8' hkl ht ha q1' q2'' g1 n4 n8 hAt hH hkk hX' hc3
      have hB' : Hid (Blk wr w2.heap.size 70 #[.bool false, .slice a1 ks.length c1, .slice a2 0 c2, .slice (some ⟨g3, 0, none⟩) is.length c3]) := BK.out
      go_wp2_with (first
        | (go_at_call 40; refine (C40.out _ (grown_refl _ _)).mono ?_; rintro e w3 ⟨rfl, g3'⟩; have G3 := hid g3'; have K3 := hid (hB'.out.kept g3' (by simp)); have S3 := hid (II.out.sp.kept g3' (by simp)); clear b0 b1 b2 b3 s0 s1; have b0 := K3.out.cell 0; have b1 := K3.out.cell 1; have b2 := K3.out.cell 2; have b3 := K3.out.cell 3; have s0 := S3.out.cell 0; have s1 := S3.out.cell 1; simp at b0 b1 b2 b3 s0 s1; clear g3' C40)
        | (go_at_call 41; refine (C41.out _ G3.out).mono ?_; rintro e w4 ⟨rfl, g4'⟩; have G4 := hid (grown_none G3.out g4'); have K4 := hid (K3.out.kept g4' (by simp)); have S4 := hid (S3.out.kept g4' (by simp)); clear b0 b1 b2 b3 s0 s1; have s0 := S4.out.cell 0; have s1 := S4.out.cell 1; have f0 := S4.out.frozen 0; have f1 := S4.out.frozen 1; simp at s0 s1; clear g4' C41))
      have GS := grown_set (grown_set (grown_refl w4 (some S)) 0 (.string lo2)) 1 (.string hi2)
      have S5 : Hid (Blk ((w4.setCell ⟨S, 0, none⟩ (.string lo2)).setCell ⟨S, 1, none⟩ (.string hi2)) S 76 #[.string lo2, .string hi2]) := (S4.out.set 0 (.string lo2)).set 1 (.string hi2)
      have K5 := hid (K4.out.kept GS (fun e => hSK (Option.some.inj e).symm))
      have G5 := hid (grown_through (grown_none II.out.grown G4.out) GS hSw)
      have c3 : ((w4.setCell ⟨S, 0, none⟩ (.string lo2)).setCell ⟨S, 1, none⟩ (.string hi2)).cell? ⟨g3, i, none⟩ = some (.int .i64 a) := cell_far (HC3.out w4 G4.out) GS hgS
      clear s0 s1 f0 f1 K4 S4 HC3 GS
      generalize (w4.setCell ⟨S, 0, none⟩ (.string lo2)).setCell ⟨S, 1, none⟩ (.string hi2) = w5 at *
      have b3 := K5.out.cell 3
      have s0 := S5.out.cell 0
      have s1 := S5.out.cell 1
      simp at b3 s0 s1
      go_region_law (go_simp; go_at_call 42; refine (C42.out w5.drew (grown_drew G5.out)).mono ?_; rintro e w6 ⟨u6, rfl, o6, g6⟩; obtain ⟨r1, m1, r2, m2, r3, m3, rfl⟩ := PgO.form o6; have O6 := hid o6; have G6 := hid g6; have K6 := hid (K5.out.drew.kept g6 (by simp)); have S6 := hid (S5.out.drew.kept g6 (by simp)); clear b3 s0 s1 c3; have b0 := K6.out.cell 0; have b1 := K6.out.cell 1; have b2 := K6.out.cell 2; have b3 := K6.out.cell 3; have f0 := K6.out.frozen 0; have f1 := K6.out.frozen 1; have f2 := K6.out.frozen 2; have f3 := K6.out.frozen 3; have s0 := S6.out.cell 0; have s1 := S6.out.cell 1; simp at b0 b1 b2 b3 s0 s1; clear o6 g6 C42)
      all_goals
        go_wp2_with fail
        go_roundg d
        case measure => omega
        case rel =>
          have GK := grown_set (grown_set (grown_set (grown_set (grown_refl w6 (some w2.heap.size)) 0 (.bool q.leaf)) 1 (.slice r1 q.keys.length m1)) 2 (.slice r2 q.vals.length m2)) 3 (.slice r3 q.kids.length m3)
          have B7 := blk_store4 (.bool q.leaf) (.slice r1 q.keys.length m1) (.slice r2 q.vals.length m2) (.slice r3 q.kids.length m3) K6.out
          have hs7 : ((((w6.setCell ⟨w2.heap.size, 0, none⟩ (.bool q.leaf)).setCell ⟨w2.heap.size, 1, none⟩ (.slice r1 q.keys.length m1)).setCell ⟨w2.heap.size, 2, none⟩ (.slice r2 q.vals.length m2)).setCell ⟨w2.heap.size, 3, none⟩ (.slice r3 q.kids.length m3)).heap.size = w6.heap.size := by simp
          have OO := PgO.base_le (PgO.own O6.out K6.out (by decide) GK) (show w.heap.size ≤ w5.drew.heap.size from G5.out.size)
          have GG := grown_through (grown_none (grown_drew G5.out) G6.out) GK (by omega)
          have hk6 := K6.out.lt
          clear GK b0 b1 b2 b3 f0 f1 f2 f3 s0 s1
          generalize ((((w6.setCell ⟨w2.heap.size, 0, none⟩ (.bool q.leaf)).setCell ⟨w2.heap.size, 1, none⟩ (.slice r1 q.keys.length m1)).setCell ⟨w2.heap.size, 2, none⟩ (.slice r2 q.vals.length m2)).setCell ⟨w2.heap.size, 3, none⟩ (.slice r3 q.kids.length m3)) = W7 at *
          have N7 := Blk.new W7 76 #[.string lo2, .string hi2]
          rw [hs7] at N7
          have R := NEXT.out (W7.alloc (.cells #[.string lo2, .string hi2] 76)) w6.heap.size (.agg #[.bool q.leaf, .slice r1 q.keys.length m1, .slice r2 q.vals.length m2, .slice r3 q.kids.length m3]) (OO.keptN (grown_alloc (grown_refl _ _) _)) N7 (grown_alloc GG _) (by have := GG.size; omega) (by omega)
          exact ⟨rfl, d, q, r1, m1, r2, m2, r3, m3, loI lo ks i, hiI hi ks i, w6.heap.size, rfl, rfl, B7.alloc _, R⟩
theorem flat_top : ∀ r : Rt, Bt.flat (topT r).1 (topT r).2 = Bt.flatR r
  | none => rfl
  | some ⟨_, _⟩ => rfl
/-- Get. -/
theorem get_any (base b lb : Nat) (g : Lg) (r : Rt) (root : Int) (k : ByteArray) (ok : LgOk g) (hl : g.recs.length ≤ 1000000) (hR : Bt.RootOk kl r) (hA : Bt.AllR KeyOk ValOk r) (hD : LaidR g.recs r root) (w : World) (hT : IsTree w b lb root) (hL : IsLog w base lb g) :
    Calls Tryz.prog 21 #[.pointer (some ⟨b, 0, none⟩), .string k] w fun e w' => e = .returned (.tuple #[.string ((Bt.look kl k (Bt.flatR r)).getD ⟨#[]⟩), .int .i64 (if (Bt.look kl k (Bt.flatR r)).isSome then 0 else 2)]) ∧ w.grownBy w' none := by
  obtain ⟨p, hp, hG, hAt, h8, hC⟩ := top_any base b lb g r root ok hl hR hA hD
  have hX := Bt.getT_good ordK k (topT r).1 none none (topT r).2 hG rfl
  rw [flat_top] at hX
  exact get_walk base b lb g root (topT r).1 (topT r).2 p k _ w hT hL ok hl hp hG hAt h8 hX hC
end Go.Proofs.YtbhmmcelndmijaaGreat
