/-
  with: a tree with a key's value, as the program makes it. Two pages in one: joined.
-/
import Derived.Test.YtbhmmcelndmijaaGreatKLt
import Derived.Test.YtbhmmcelndmijaaGreatWn
import Derived.Test.YtbhmmcelndmijaaGreatKAp
namespace Go.Proofs.YtbhmmcelndmijaaGreat
open Go.RowKit Go.Maps
/-- A log stays, whatever rows of texts and of numbers are turned. -/
theorem log_pt {w w' : World} {base lb bp : Nat} {G : Lg} (h : IsLog w base lb G) (ht : PT bp w w') : IsLog w' base lb G := by
  obtain ⟨h0, vr, vw, h1, h2, h3⟩ := h
  have row : ∀ (t : TypeId) (sz : Nat) (v : Value) (n : Nat) (xs : List Value), t ≠ 9 ∧ t ≠ 3 → w.ownsRow base t sz v n xs → w'.ownsRow base t sz v n xs := fun t sz v n xs htt hr => by
    refine ⟨hr.1, ?_⟩
    rcases hr.2 with q | ⟨gg, cap, cur, rfl, hg, hB, hn, hc, hs, hx⟩
    · exact Or.inl q
    · exact Or.inr ⟨gg, cap, cur, rfl, hg, ht.blk (show Blk w gg t cur from hB) htt, hn, hc, hs, hx⟩
  exact ⟨h0, vr, vw, ht.blk h1 (by decide), row _ _ _ _ _ (by decide) h2, row _ _ _ _ _ (by decide) h3⟩
set_option maxRecDepth 100000 in
set_option maxHeartbeats 4000000 in
theorem with_leaf (base bp b lb : Nat) (g : Lg) (p p2 : Pa.Pg) (v : Value) (lo hi k x : ByteArray) (w : World) (hL : IsLog w base lb g) (hv : Pa.PgO w bp v p) (hleaf : p.leaf = true)
    (h51 : ∀ W, w.grownBy W none → Calls Tryz.prog 51 #[v, .string k, .string x] W fun e w' => ∃ v', e = .returned v' ∧ Pa.PgO w' bp v' p2 ∧ PT bp W w') :
    Calls Tryz.prog 31 #[.pointer (some ⟨b, 0, none⟩), v, .agg #[.string lo, .string hi], .string k, .string x] w (SwPost w base lb bp g p2) := by
  obtain ⟨p1, k1, p2', k2, p3, k3, rfl⟩ := PgO.form hv
  rw [hleaf] at *
  obtain ⟨P0, hP0⟩ : ∃ P, P = SwPost w base lb bp g p2 := ⟨_, rfl⟩
  rw [← hP0]
  have HP := hid (And.intro hP0 trivial)
  have G0 : Hid (w.grownBy (((w.alloc (.cells #[.bool true, .slice p1 p.keys.length k1, .slice p2' p.vals.length k2, .slice p3 p.kids.length k3] 70)).alloc (.cells #[.string lo, .string hi] 76)).alloc (.cells #[.bool false, .slice none 0 0, .slice none 0 0, .slice none 0 0] 70)) none) := grown_alloc (grown_alloc (grown_alloc (grown_refl w none) _) _) _
  have Z0 : Hid (Blk (((w.alloc (.cells #[.bool true, .slice p1 p.keys.length k1, .slice p2' p.vals.length k2, .slice p3 p.kids.length k3] 70)).alloc (.cells #[.string lo, .string hi] 76)).alloc (.cells #[.bool false, .slice none 0 0, .slice none 0 0, .slice none 0 0] 70)) (w.heap.size + 1 + 1) 70 #[.bool false, .slice none 0 0, .slice none 0 0, .slice none 0 0]) := third w _ _ 70 _
  have C := hid (h51 _ G0.out)
  have HL := hid (hL.kept G0.out)
  clear hP0 h51 hL hv
  go_enter Tryz.func31, Tryz.ntmps31
  go_wp2_with (go_at_call 51; refine C.out.mono ?_; rintro e w2 ⟨v2, rfl, o2, t2⟩; obtain ⟨s1, n1, s2, n2, s3, n3, rfl⟩ := PgO.form o2; have O2 := hid o2; have T2 := hid t2; have Z2 := hid (t2.blk Z0.out (by decide)); have z0 := Z2.out.cell 0; have z1 := Z2.out.cell 1; have z2 := Z2.out.cell 2; have z3 := Z2.out.cell 3; have f0 := Z2.out.frozen 0; have f1 := Z2.out.frozen 1; have f2 := Z2.out.frozen 2; have f3 := Z2.out.frozen 3; simp at z0 z1 z2 z3; clear o2 t2 C)
  have BF := blk_store4 (.bool p2.leaf) (.slice s1 p2.keys.length n1) (.slice s2 p2.vals.length n2) (.slice s3 p2.kids.length n3) Z2.out
  have GF := grown_set (grown_set (grown_set (grown_set (grown_refl w2 (some (w.heap.size + 1 + 1))) 0 (.bool p2.leaf)) 1 (.slice s1 p2.keys.length n1)) 2 (.slice s2 p2.vals.length n2)) 3 (.slice s3 p2.kids.length n3)
  refine bodyPost_ret (Pa.results_pg2 Tryz.results31 _ _ (w.heap.size + 1 + 1) rfl BF) rfl ?_
  rw [HP.out.1]
  exact ⟨_, rfl, PgO.own O2.out Z2.out (by decide) GF, (log_pt HL.out T2.out).keptB Z2.out (by decide) GF, ((XT.of_none (base := base) (lb := lb) (bp := bp) G0.out).trans (XT.of_pt T2.out)).through GF (by omega)⟩
theorem kid_lo {lo : Option ByteArray} {ks : List ByteArray} {k : ByteArray} (h : Bt.loB kl lo k = true) : Bt.loB kl (loI lo ks (Bt.kid kl k ks)) k = true := by
  obtain ⟨k1, k2, k3⟩ := Bt.kid_take (lt := kl) k ks
  unfold loI
  split
  · rename_i h0
    have hlt : Bt.kid kl k ks - 1 < ks.length := by omega
    rw [List.getElem?_eq_getElem hlt]
    have := k2 ks[Bt.kid kl k ks - 1] (by
      rw [List.mem_take_iff_getElem]
      exact ⟨Bt.kid kl k ks - 1, by omega, rfl⟩)
    show (!kl k ks[Bt.kid kl k ks - 1]) = true
    rw [this]
    rfl
  · exact h
theorem kid_hi {hi : Option ByteArray} {ks : List ByteArray} {k : ByteArray} (h : Bt.hiB kl hi k = true) : Bt.hiB kl (hiI hi ks (Bt.kid kl k ks)) k = true := by
  obtain ⟨k1, k2, k3⟩ := Bt.kid_take (lt := kl) k ks
  unfold hiI
  split
  · rename_i h0
    rw [List.getElem?_eq_getElem h0]
    have e : ks.drop (Bt.kid kl k ks) = ks[Bt.kid kl k ks] :: ks.drop (Bt.kid kl k ks + 1) := List.drop_eq_getElem_cons h0
    rw [e] at k3
    show kl k ks[Bt.kid kl k ks] = true
    cases hx : kl k ks[Bt.kid kl k ks] with
    | true => rfl
    | false =>
      unfold Bt.kid at k3
      rw [if_neg (by rw [hx]; decide)] at k3
      omega
  · exact h
theorem hi_key {hi : Option ByteArray} {ks : List ByteArray} (i : Nat) (h : ∀ y, hi = some y → KeyOk y) (hk : ∀ k ∈ ks, KeyOk k) : ∀ y, hiI hi ks i = some y → KeyOk y := by
  intro y hy
  unfold hiI at hy
  split at hy
  · exact hk y (List.mem_of_getElem? hy)
  · exact h y hy
/-- What stands at a kid's place. -/
theorem kid_at {g : Lg} {d : Nat} {lo hi : Option ByteArray} {ks : List ByteArray} {ts : List (Tr d)} {is : List Int} (i : Nat) (hi' : i ≤ ks.length) (hG : Bt.Good kl (d + 1) lo hi ((ks, ts) : Tr (d + 1))) (hA : Bt.AllK KeyOk ValOk (d + 1) ((ks, ts) : Tr (d + 1))) (hP : Pls g.recs d is ts) (hh : ∀ y, hi = some y → KeyOk y) :
    ∃ t a q, ts[i]? = some t ∧ is[i]? = some a ∧ PageAt g.recs a q ∧ Is g.recs d t q ∧ Bt.Good kl d (loI lo ks i) (hiI hi ks i) t ∧ 4 ≤ Bt.nk d t ∧ Bt.nk d t ≤ 8 ∧ Bt.AllK KeyOk ValOk d t ∧ Holds (opT (loI lo ks i)) (opT (hiI hi ks i)) q := by
  have hlen := Bt.GL.len kl hG
  have hil := hP.1
  have ht : ts[i]? = some (ts[i]'(by omega)) := List.getElem?_eq_getElem (by omega)
  have ha : is[i]? = some (is[i]'(by omega)) := List.getElem?_eq_getElem (by omega)
  obtain ⟨_, q, q1, q2⟩ := hP.2 i _ _ ha ht
  obtain ⟨g1, g2, g3⟩ := gl_at hG i _ ht
  have hAt := hA.2 _ (List.mem_of_getElem? ht)
  exact ⟨_, _, q, ht, ha, q1, q2, g1, g2, g3, hAt, holds_good _ d g1 hAt q2 (hi_key i hh hA.1)⟩
theorem find_cast (n : Nat) (b : Bool) : ((n + (if b then 1 else 0) : Nat) : Int) = (n : Int) + (if b then 1 else 0) := by
  cases b <;> simp
theorem with_any (base b lb : Nat) (root : Int) (k x : ByteArray) (hk : KeyOk k) (hx : ValOk x) : ∀ (d : Nat) (g : Lg) (lo hi : Option ByteArray) (t : Tr d) (p : Pa.Pg), LgOk g → LgRoom (2 * d) g → Bt.Good kl d lo hi t → Bt.AllK KeyOk ValOk d t → Is g.recs d t p → Bt.loB kl lo k = true → Bt.hiB kl hi k = true → (∀ y, hi = some y → KeyOk y) → Bt.nk d t ≤ 8 →
    ∃ g2 p2, LgStep (2 * d) g g2 ∧ Is g2.recs d (Bt.put kl k x d t) p2 ∧ ∀ W v bp, IsTree W b lb root → IsLog W base lb g → Pa.PgO W bp v p → bp ≤ W.heap.size → Calls Tryz.prog 31 #[.pointer (some ⟨b, 0, none⟩), v, .agg #[.string (opT lo), .string (opT hi)], .string k, .string x] W (SwPost W base lb bp g2 p2)
  | 0, g, lo, hi, l, p, ok, _, hG, hA, hp, h1, h2, hh, h8 => by
    have hp' : p = leafPg l := hp
    subst hp'
    have h8' : (show Prs from l).length ≤ 8 := h8
    refine ⟨g, leafPg (Bt.ins kl k x l), LgStep.refl ok, rfl, fun W v bp _ hL hv hb => ?_⟩
    exact with_leaf base bp b lb g (leafPg l) _ v _ _ k x W hL hv rfl (fun W' hW => leafWith_any bp v l k x W' (hv.keptN hW) (Nat.le_trans h8' (by decide)) (Nat.le_trans hb hW.size))
  | d + 1, g, lo, hi, (ks, ts), p, ok, rm, hG, hA, hp, h1, h2, hh, h8 => by
    obtain ⟨is, rfl, hP⟩ := node_is hp
    have h8' : ks.length ≤ 8 := h8
    have hkl := (Bt.kid_take (lt := kl) k ks).1
    obtain ⟨t, a, q, ht, ha, q1, q2, g1, n4, n8, hAt, hH⟩ := kid_at (Bt.kid kl k ks) hkl hG hA hP hh
    have hkk : is.length = ks.length + 1 := by rw [hP.1, Bt.GL.len kl hG]
    obtain ⟨G1, p1, s1, i1, c1⟩ := with_any base b lb root k x hk hx d g _ _ t q ok (rm.mono (by omega)) g1 hAt q2 (kid_lo h1) (kid_hi h2) (hi_key _ hh hA.1) n8
    obtain ⟨w1, w2, w3, w4⟩ := Bt.put_good ordK k x d _ _ t g1 (kid_lo h1) (kid_hi h2)
    have wA := Bt.put_all (lt := kl) (k := k) (v := x) hk hx d hAt
    have rm1 : LgRoom 2 G1 := LgRoom.step (n := 2 * d) (m := 2) (rm.mono (by omega)) s1
    obtain ⟨G2, is2, s2, P2, cc⟩ : ∃ g2 is, LgStep 2 G1 g2 ∧ Pls g2.recs d is (Bt.lay d (Bt.put kl k x d t)).2 ∧ ∀ bq W v, IsTree W b lb root → IsLog W base lb G1 → Pa.PgO W bq v p1 → Calls Tryz.prog 49 #[.pointer (some ⟨b, 0, none⟩), v] W (LayPost W base lb g2 (Bt.lay d (Bt.put kl k x d t)).1 is) := by
      obtain ⟨g2, is2, z1, z2, z3⟩ := lay_tree base 0 b lb G1 root d (Bt.put kl k x d t) p1 s1.ok rm1 w1 wA i1 (Or.inr (by omega)) (by omega)
      exact ⟨g2, is2, z1, z2, fun bq W v hT hL hv => z3 W v hT hL (PgO.base_le hv (Nat.zero_le _))⟩
    obtain ⟨_, _, y3⟩ := Bt.lay_good ordK d w1 (by omega) (by omega)
    have hI := swap_is (s1.ext.trans s2.ext) (Bt.kid kl k ks) (Bt.kid kl k ks) hp P2
    have hput : Bt.put kl k x (d + 1) ((ks, ts) : Tr (d + 1)) = Bt.swap d ks ts (Bt.kid kl k ks) (Bt.kid kl k ks) (Bt.put kl k x d t) := by
      simp only [Bt.put, ht]
    rw [hput]
    have l2 : is2.length ≤ 1000 := by
      rw [P2.1]
      unfold Bt.lay
      split
      · simp
      · split <;> simp
    have r1 := rm.cnt
    refine ⟨G2, _, (s1.trans s2).mono (by omega), hI, fun W v bp hT hL hv hb => ?_⟩
    refine with_node base bp b lb (Bt.kid kl k ks) g G1 G2 root a ⟨false, ks, [], is⟩ q p1 _ v _ _ (opT (loI lo ks (Bt.kid kl k ks))) (opT (hiI hi ks (Bt.kid kl k ks))) k x W hT hL hv hb rfl ha (fun W' hW => ?_) (fun W' hW => ?_) (fun W' hW => ?_) (fun W' u bq hT' hL' hu hbq => c1 W' u bq hT' hL' hu hbq) (fun W' u bq hT' hL' hv' hu hbp => ?_)
    · have := Pa.kid_any v ⟨false, ks, [], is⟩ k W' ((hv.keptN hW).pgV) ⟨by show ks.length ≤ _; omega, by simp, by show is.length ≤ _; omega⟩ (by show ks.length ≤ 1000; omega)
      rw [← kid_find k (gl_pw hG).1, find_cast]
      exact this
    · have := below_any (opT lo) (opT hi) ⟨false, ks, [], is⟩ v (Bt.kid kl k ks) W' ((hv.keptN hW).pgV) hkl (by show ks.length ≤ 1000000; omega)
      rw [← lo_span lo ks _ hkl, ← hi_span hi ks]
      exact this
    · exact read_page base b lb g root a _ _ q W' (hT.kept hW) (hL.kept hW) ok.asc (by omega) q1 hH
    · exact swap_any base bp b lb (Bt.kid kl k ks) (Bt.kid kl k ks) G1 G2 ⟨false, ks, [], is⟩ p1 v u _ is2 W' hL' hv' (pgT_owns hu) (fun W2 hW2 => cc bq W2 u (hT'.kept hW2) (hL'.kept hW2) (hu.keptN hW2)) (Or.inl rfl) hkl hkk (by show ks.length ≤ 1000; omega) (by omega) l2 hbp
end Go.Proofs.YtbhmmcelndmijaaGreat
namespace Go.Proofs.YtbhmmcelndmijaaGreat
open Go.RowKit Go.Maps
set_option maxRecDepth 100000 in
set_option maxHeartbeats 4000000 in
theorem joined_leaf (base base' : Nat) (a1 b1 c1 a2 b2 c2 : Value) (p q : Pa.Pg) (k : ByteArray) (w : World) (f0 : Pa.Far a1 b1) (f1 : Pa.Far a1 a2) (f2 : Pa.Far a1 b2) (f3 : Pa.Far b1 b2)
    (h1 : w.ownsRow base 9 1 a1 p.keys.length (Pa.strs p.keys)) (h2 : w.ownsRow base 9 1 b1 p.vals.length (Pa.strs p.vals)) (h3 : w.ownsRow base 3 1 c1 p.kids.length (Pa.ints p.kids))
    (h4 : w.ownsRow base' 9 1 a2 q.keys.length (Pa.strs q.keys)) (h5 : w.ownsRow base' 9 1 b2 q.vals.length (Pa.strs q.vals)) (h6 : w.ownsRow base' 3 1 c2 q.kids.length (Pa.ints q.kids))
    (hb : base ≤ w.heap.size) (hs : p.keys.length ≤ 1000 ∧ p.vals.length ≤ 1000 ∧ p.kids.length ≤ 1001 ∧ q.keys.length ≤ 1000 ∧ q.vals.length ≤ 1000 ∧ q.kids.length ≤ 1001) (hf : p.leaf = true) :
    Calls Tryz.prog 66 #[.agg #[.bool p.leaf, a1, b1, c1], .string k, .agg #[.bool q.leaf, a2, b2, c2]] w fun e w' => ∃ u, e = .returned u ∧ Pa.PgO w' base u (joinP p k q) ∧ PT base w w' := by
  obtain ⟨pa1, ca1, rfl⟩ := Pa.owns_slice h1
  obtain ⟨pb1, cb1, rfl⟩ := Pa.owns_slice h2
  obtain ⟨pc1, cc1, rfl⟩ := Pa.owns_slice h3
  obtain ⟨pa2, ca2, rfl⟩ := Pa.owns_slice h4
  obtain ⟨pb2, cb2, rfl⟩ := Pa.owns_slice h5
  obtain ⟨pc2, cc2, rfl⟩ := Pa.owns_slice h6
  obtain ⟨KL, eK⟩ : ∃ KL, p.keys ++ q.keys = KL := ⟨_, rfl⟩
  obtain ⟨VL, eV⟩ : ∃ VL, p.vals ++ q.vals = VL := ⟨_, rfl⟩
  obtain ⟨DL, eD⟩ : ∃ DL, p.kids ++ q.kids = DL := ⟨_, rfl⟩
  have HJ : Hid (joinP p k q = ⟨true, KL, VL, DL⟩) := by show _ = _; unfold joinP; rw [hf, eV, eD, if_pos rfl, eK]
  rw [hf]
  have EK := hid eK
  have EV := hid eV
  have ED := hid eD
  have HS := hid hs
  have HB := hid hb
  have G0 : Hid (w.grownBy ((((w.alloc (.cells #[.bool true, .slice pa1 p.keys.length ca1, .slice pb1 p.vals.length cb1, .slice pc1 p.kids.length cc1] 70)).alloc (.cells #[.bool q.leaf, .slice pa2 q.keys.length ca2, .slice pb2 q.vals.length cb2, .slice pc2 q.kids.length cc2] 70)).alloc (.cells #[.bool false, .slice none 0 0, .slice none 0 0, .slice none 0 0] 70)).alloc (.cells #[.bool true, .slice pa1 p.keys.length ca1, .slice none 0 0, .slice none 0 0] 70)) none) := grown_alloc (grown_alloc (grown_alloc (grown_alloc (grown_refl _ _) _) _) _) _
  have A0 := hid (row_none h1 G0.out)
  have B0 := hid (row_none h2 G0.out)
  have C0 := hid (row_none h3 G0.out)
  have K0 := hid (row_none h4 G0.out)
  have V0 := hid (row_none h5 G0.out)
  have D0 := hid (row_none h6 G0.out)
  have LA : Hid (∀ y, (Value.slice pa1 p.keys.length ca1).ownBlock = some y → y < w.heap.size) := fun y e => (h1.lt y e).2
  have LB : Hid (∀ y, (Value.slice pb1 p.vals.length cb1).ownBlock = some y → y < w.heap.size) := fun y e => (h2.lt y e).2
  have F0 := hid f0
  have F1 := hid f1
  have F2 := hid f2
  have F3 := hid f3
  have P0 := hid (PT.of_none (base := base) G0.out)
  have X0 := hid (((((Blk.new w 70 #[.bool true, .slice pa1 p.keys.length ca1, .slice pb1 p.vals.length cb1, .slice pc1 p.kids.length cc1]).alloc (.cells #[.bool q.leaf, .slice pa2 q.keys.length ca2, .slice pb2 q.vals.length cb2, .slice pc2 q.kids.length cc2] 70)).alloc (.cells #[.bool false, .slice none 0 0, .slice none 0 0, .slice none 0 0] 70)).alloc (.cells #[.bool true, .slice pa1 p.keys.length ca1, .slice none 0 0, .slice none 0 0] 70)))
  have Y0 := hid ((((Blk.new (w.alloc (.cells #[.bool true, .slice pa1 p.keys.length ca1, .slice pb1 p.vals.length cb1, .slice pc1 p.kids.length cc1] 70)) 70 #[.bool q.leaf, .slice pa2 q.keys.length ca2, .slice pb2 q.vals.length cb2, .slice pc2 q.kids.length cc2]).alloc (.cells #[.bool false, .slice none 0 0, .slice none 0 0, .slice none 0 0] 70)).alloc (.cells #[.bool true, .slice pa1 p.keys.length ca1, .slice none 0 0, .slice none 0 0] 70)))
  have R0 := hid ((Blk.new ((w.alloc (.cells #[.bool true, .slice pa1 p.keys.length ca1, .slice pb1 p.vals.length cb1, .slice pc1 p.kids.length cc1] 70)).alloc (.cells #[.bool q.leaf, .slice pa2 q.keys.length ca2, .slice pb2 q.vals.length cb2, .slice pc2 q.kids.length cc2] 70)) 70 #[.bool false, .slice none 0 0, .slice none 0 0, .slice none 0 0]).alloc (.cells #[.bool true, .slice pa1 p.keys.length ca1, .slice none 0 0, .slice none 0 0] 70))
  have S0 := hid ((Blk.new (((w.alloc (.cells #[.bool true, .slice pa1 p.keys.length ca1, .slice pb1 p.vals.length cb1, .slice pc1 p.kids.length cc1] 70)).alloc (.cells #[.bool q.leaf, .slice pa2 q.keys.length ca2, .slice pb2 q.vals.length cb2, .slice pc2 q.kids.length cc2] 70)).alloc (.cells #[.bool false, .slice none 0 0, .slice none 0 0, .slice none 0 0] 70)) 70 #[.bool true, .slice pa1 p.keys.length ca1, .slice none 0 0, .slice none 0 0]))
  rw [World.size_alloc] at Y0
  rw [World.size_alloc, World.size_alloc] at R0
  rw [World.size_alloc, World.size_alloc, World.size_alloc] at S0
  clear h1 h2 h3 h4 h5 h6 f0 f1 f2 f3 hs hf hb eK eV eD
  go_enter Tryz.func66, Tryz.ntmps66
  go_wp2_with (first
    | (at_builtin; refine append_strs base base' p.keys q.keys _ _ A0.out K0.out (by have := HS.out; omega) (Nat.le_trans HB.out G0.out.size) (.tmp 23) (.tmp 25) rfl rfl rfl rfl ?_; intro v2 w2 h2 hg2 hx2; rw [EK.out] at h2; obtain ⟨pa, ca, rfl⟩ := Pa.owns_slice h2; have A2 := hid h2; have HX2 := hid hx2; have X2 := hid (blk_row X0.out A0.out (by decide) hg2); have Y2 := hid (blk_row Y0.out A0.out (by decide) hg2); have R2 := hid (blk_row R0.out A0.out (by decide) hg2); have S2 := hid (blk_row S0.out A0.out (by decide) hg2); have B2 := hid (row_far B0.out (far_symm F0.out) hg2); have V2 := hid (row_far V0.out (far_symm F2.out) hg2); have C2 := hid (row_type C0.out A0.out (by decide) hg2); have D2 := hid (row_type D0.out A0.out (by decide) hg2); have P2 := hid (P0.out.trans (PT.of_own A0.out (Or.inl rfl) hg2)); have GW2 : Hid (w.heap.size + 4 ≤ w2.heap.size) := Blk.lt S2.out; have GS2 : Hid (w2.grownBy (w2.setCell ⟨w.heap.size + 1 + 1 + 1, 1, none⟩ (.slice pa KL.length ca)) (some (w.heap.size + 1 + 1 + 1))) := grown_set (grown_refl _ _) 1 _; have S3 := hid (S2.out.set 1 (.slice pa KL.length ca)); simp at S3; have X3 := hid (X2.out.other (a := ⟨w.heap.size + 1 + 1 + 1, 1, none⟩) (.slice pa KL.length ca) (by show _ ≠ w.heap.size + 1 + 1 + 1; omega)); have Y3 := hid (Y2.out.other (a := ⟨w.heap.size + 1 + 1 + 1, 1, none⟩) (.slice pa KL.length ca) (by show _ ≠ w.heap.size + 1 + 1 + 1; omega)); have R3 := hid (R2.out.other (a := ⟨w.heap.size + 1 + 1 + 1, 1, none⟩) (.slice pa KL.length ca) (by show _ ≠ w.heap.size + 1 + 1 + 1; omega)); have A3 := hid (rowG_kept A2.out S2.out (by decide) GS2.out); have B3 := hid (rowG_kept B2.out S2.out (by decide) GS2.out); have V3 := hid (rowG_kept V2.out S2.out (by decide) GS2.out); have C3 := hid (rowG_kept C2.out S2.out (by decide) GS2.out); have D3 := hid (rowG_kept D2.out S2.out (by decide) GS2.out); have P3 := hid (P2.out.through GS2.out (by omega)); have x0 := X2.out.cell 0; have x1 := X2.out.cell 1; have x2 := X2.out.cell 2; have x3 := X2.out.cell 3; have y0 := Y2.out.cell 0; have y1 := Y2.out.cell 1; have y2 := Y2.out.cell 2; have y3 := Y2.out.cell 3; have s0 := S2.out.cell 0; have s1 := S2.out.cell 1; have s2 := S2.out.cell 2; have s3 := S2.out.cell 3; have z0 := S2.out.frozen 0; have z1 := S2.out.frozen 1; have z2 := S2.out.frozen 2; have z3 := S2.out.frozen 3; simp at x0 x1 x2 x3 y0 y1 y2 y3 s0 s1 s2 s3; clear h2 hg2 hx2; have FA := hid (far_grown F0.out HX2.out (fun y e => Nat.lt_of_lt_of_le (LB.out y e) G0.out.size)))
    | (at_builtin; refine append_strs base base' p.vals q.vals _ _ B3.out V3.out (by have := HS.out; omega) (Nat.le_trans HB.out P3.out.size) (.tmp 29) (.tmp 31) rfl rfl rfl rfl ?_; intro v4 w4 h4 hg4 hx4; rw [EV.out] at h4; obtain ⟨pb, cb, rfl⟩ := Pa.owns_slice h4; have B4 := hid h4; have HX4 := hid hx4; have X4 := hid (blk_row X3.out B3.out (by decide) hg4); have Y4 := hid (blk_row Y3.out B3.out (by decide) hg4); have R4 := hid (blk_row R3.out B3.out (by decide) hg4); have S4 := hid (blk_row S3.out B3.out (by decide) hg4); have A4 := hid (row_far A3.out FA.out hg4); have C4 := hid (row_type C3.out B3.out (by decide) hg4); have D4 := hid (row_type D3.out B3.out (by decide) hg4); have P4 := hid (P3.out.trans (PT.of_own B3.out (Or.inl rfl) hg4)); have GW4 : Hid (w.heap.size + 4 ≤ w4.heap.size) := Blk.lt S4.out; have GS4 : Hid (w4.grownBy (w4.setCell ⟨w.heap.size + 1 + 1 + 1, 2, none⟩ (.slice pb VL.length cb)) (some (w.heap.size + 1 + 1 + 1))) := grown_set (grown_refl _ _) 2 _; have S5 := hid (S4.out.set 2 (.slice pb VL.length cb)); simp at S5; have X5 := hid (X4.out.other (a := ⟨w.heap.size + 1 + 1 + 1, 2, none⟩) (.slice pb VL.length cb) (by show _ ≠ w.heap.size + 1 + 1 + 1; omega)); have Y5 := hid (Y4.out.other (a := ⟨w.heap.size + 1 + 1 + 1, 2, none⟩) (.slice pb VL.length cb) (by show _ ≠ w.heap.size + 1 + 1 + 1; omega)); have R5 := hid (R4.out.other (a := ⟨w.heap.size + 1 + 1 + 1, 2, none⟩) (.slice pb VL.length cb) (by show _ ≠ w.heap.size + 1 + 1 + 1; omega)); have B5 := hid (rowG_kept B4.out S4.out (by decide) GS4.out); have A5 := hid (rowG_kept A4.out S4.out (by decide) GS4.out); have C5 := hid (rowG_kept C4.out S4.out (by decide) GS4.out); have D5 := hid (rowG_kept D4.out S4.out (by decide) GS4.out); have P5 := hid (P4.out.through GS4.out (by omega)); have x0 := X4.out.cell 0; have x1 := X4.out.cell 1; have x2 := X4.out.cell 2; have x3 := X4.out.cell 3; have y0 := Y4.out.cell 0; have y1 := Y4.out.cell 1; have y2 := Y4.out.cell 2; have y3 := Y4.out.cell 3; have s0 := S4.out.cell 0; have s1 := S4.out.cell 1; have s2 := S4.out.cell 2; have s3 := S4.out.cell 3; have z0 := S4.out.frozen 0; have z1 := S4.out.frozen 1; have z2 := S4.out.frozen 2; have z3 := S4.out.frozen 3; simp at x0 x1 x2 x3 y0 y1 y2 y3 s0 s1 s2 s3; clear h4 hg4 hx4; have FB := hid (far_symm (far_grown (far_symm FA.out) HX4.out (fun y e => (A3.out.lt y e).2))))
    | (at_builtin; refine append_ints base base' p.kids q.kids _ _ C5.out D5.out (by have := HS.out; omega) (Nat.le_trans HB.out P5.out.size) (.tmp 35) (.tmp 37) rfl rfl rfl rfl ?_; intro v6 w6 h6 hg6 hx6; rw [ED.out] at h6; obtain ⟨pc, cc, rfl⟩ := Pa.owns_slice h6; have C6 := hid h6; have HX6 := hid hx6; have X6 := hid (blk_row X5.out C5.out (by decide) hg6); have Y6 := hid (blk_row Y5.out C5.out (by decide) hg6); have R6 := hid (blk_row R5.out C5.out (by decide) hg6); have S6 := hid (blk_row S5.out C5.out (by decide) hg6); have A6 := hid (row_type A5.out C5.out (by decide) hg6); have B6 := hid (row_type B5.out C5.out (by decide) hg6); have P6 := hid (P5.out.trans (PT.of_own C5.out (Or.inr rfl) hg6)); have GW6 : Hid (w.heap.size + 4 ≤ w6.heap.size) := Blk.lt S6.out; have GS6 : Hid (w6.grownBy (w6.setCell ⟨w.heap.size + 1 + 1 + 1, 3, none⟩ (.slice pc DL.length cc)) (some (w.heap.size + 1 + 1 + 1))) := grown_set (grown_refl _ _) 3 _; have S7 := hid (S6.out.set 3 (.slice pc DL.length cc)); simp at S7; have X7 := hid (X6.out.other (a := ⟨w.heap.size + 1 + 1 + 1, 3, none⟩) (.slice pc DL.length cc) (by show _ ≠ w.heap.size + 1 + 1 + 1; omega)); have Y7 := hid (Y6.out.other (a := ⟨w.heap.size + 1 + 1 + 1, 3, none⟩) (.slice pc DL.length cc) (by show _ ≠ w.heap.size + 1 + 1 + 1; omega)); have R7 := hid (R6.out.other (a := ⟨w.heap.size + 1 + 1 + 1, 3, none⟩) (.slice pc DL.length cc) (by show _ ≠ w.heap.size + 1 + 1 + 1; omega)); have C7 := hid (rowG_kept C6.out S6.out (by decide) GS6.out); have A7 := hid (rowG_kept A6.out S6.out (by decide) GS6.out); have B7 := hid (rowG_kept B6.out S6.out (by decide) GS6.out); have P7 := hid (P6.out.through GS6.out (by omega)); have x0 := X6.out.cell 0; have x1 := X6.out.cell 1; have x2 := X6.out.cell 2; have x3 := X6.out.cell 3; have y0 := Y6.out.cell 0; have y1 := Y6.out.cell 1; have y2 := Y6.out.cell 2; have y3 := Y6.out.cell 3; have s0 := S6.out.cell 0; have s1 := S6.out.cell 1; have s2 := S6.out.cell 2; have s3 := S6.out.cell 3; have z0 := S6.out.frozen 0; have z1 := S6.out.frozen 1; have z2 := S6.out.frozen 2; have z3 := S6.out.frozen 3; simp at x0 x1 x2 x3 y0 y1 y2 y3 s0 s1 s2 s3; clear h6 hg6 hx6)
    | (refine Pa.q_is_store 70 (.tmp 6) (.tmp 40) rfl ?_; refine Pa.store_pg 70 Pa.size25 (w.heap.size + 1 + 1) R7.out _ _ rfl rfl rfl rfl ?_; intro w99 hb8 hg8; have BZ := hid hb8; have GZ := hid hg8; clear hb8 hg8))
  refine bodyPost_ret (Pa.results_pg Tryz.results66 _ _ (w.heap.size + 1 + 1) rfl BZ.out) rfl ?_
  rw [HJ.out]
  exact ⟨_, rfl, ⟨_, _, _, rfl, FB.out, rowG_kept A7.out R7.out (by decide) GZ.out, rowG_kept B7.out R7.out (by decide) GZ.out, rowG_kept C7.out R7.out (by decide) GZ.out⟩, P7.out.through GZ.out (by omega)⟩
end Go.Proofs.YtbhmmcelndmijaaGreat
