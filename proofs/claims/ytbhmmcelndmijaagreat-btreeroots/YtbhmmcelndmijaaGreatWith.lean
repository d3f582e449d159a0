/-
  with: a tree with a key's value, as the program makes it.
-/
import Derived.Test.YtbhmmcelndmijaaGreatKPl3
import Derived.Test.YtbhmmcelndmijaaGreatWn
namespace Go.Proofs.YtbhmmcelndmijaaGreat
open Go.RowKit Go.Maps
/-- A log stays, whatever rows of texts and of numbers are turned. -/
theorem log_pt {w w' : World} {base lb bp : Nat} {G : Lg} (h : IsLog w base lb G) (ht : PT bp w w') : IsLog w' base lb G := by
  obtain ⟨h0, vr, vw, h1, h2, h3⟩ := h
  have row : ∀ (t : TypeId) (sz : Nat) (v : Value) (n : Nat) (xs : List Value), t ≠ 9 ∧ t ≠ 3 → w.ownsRow base t sz v n xs → w'.ownsRow base t sz v n xs := fun t sz v n xs htt hr => by
    refine ⟨hr.1, ?_⟩
    rcases hr.2 with q | ⟨gg, cap, cur, rfl, hg, hB, hn, hc, hs, hx⟩
    · exact Or.inl q
    · exact Or.inr ⟨gg, cap, cur, rfl, hg, ht.blk (show Blk w gg t cur from hB) htt, hn, hc, hs, hx⟩
  exact ⟨h0, vr, vw, ht.blk h1 (by decide), row _ _ _ _ _ (by decide) h2, row _ _ _ _ _ (by decide) h3⟩
set_option maxRecDepth 100000 in
set_option maxHeartbeats 4000000 in
theorem with_leaf (base bp b lb : Nat) (g : Lg) (p p2 : Pa.Pg) (v : Value) (lo hi k x : ByteArray) (w : World) (hL : IsLog w base lb g) (hv : Pa.PgO w bp v p) (hleaf : p.leaf = true)
    (h51 : ∀ W, w.grownBy W none → Calls Tryz.prog 51 #[v, .string k, .string x] W fun e w' => ∃ v', e = .returned v' ∧ Pa.PgO w' bp v' p2 ∧ PT bp W w') :
    Calls Tryz.prog 31 #[.pointer (some ⟨b, 0, none⟩), v, .agg #[.string lo, .string hi], .string k, .string x] w (SwPost w base lb bp g p2) := by
  obtain ⟨p1, k1, p2', k2, p3, k3, rfl⟩ := PgO.form hv
  rw [hleaf] at *
  obtain ⟨P0, hP0⟩ : ∃ P, P = SwPost w base lb bp g p2 := ⟨_, rfl⟩
  rw [← hP0]
  have HP := hid (And.intro hP0 trivial)
  have G0 : Hid (w.grownBy (((w.alloc (.cells #[.bool true, .slice p1 p.keys.length k1, .slice p2' p.vals.length k2, .slice p3 p.kids.length k3] 70)).alloc (.cells #[.string lo, .string hi] 76)).alloc (.cells #[.bool false, .slice none 0 0, .slice none 0 0, .slice none 0 0] 70)) none) := grown_alloc (grown_alloc (grown_alloc (grown_refl w none) _) _) _
  have Z0 : Hid (Blk (((w.alloc (.cells #[.bool true, .slice p1 p.keys.length k1, .slice p2' p.vals.length k2, .slice p3 p.kids.length k3] 70)).alloc (.cells #[.string lo, .string hi] 76)).alloc (.cells #[.bool false, .slice none 0 0, .slice none 0 0, .slice none 0 0] 70)) (w.heap.size + 1 + 1) 70 #[.bool false, .slice none 0 0, .slice none 0 0, .slice none 0 0]) := third w _ _ 70 _
  have C := hid (h51 _ G0.out)
  have HL := hid (hL.kept G0.out)
  clear hP0 h51 hL hv
  go_enter Tryz.func31, Tryz.ntmps31
  go_wp2_with (go_at_call 51; refine C.out.mono ?_; rintro e w2 ⟨v2, rfl, o2, t2⟩; obtain ⟨s1, n1, s2, n2, s3, n3, rfl⟩ := PgO.form o2; have O2 := hid o2; have T2 := hid t2; have Z2 := hid (t2.blk Z0.out (by decide)); have z0 := Z2.out.cell 0; have z1 := Z2.out.cell 1; have z2 := Z2.out.cell 2; have z3 := Z2.out.cell 3; have f0 := Z2.out.frozen 0; have f1 := Z2.out.frozen 1; have f2 := Z2.out.frozen 2; have f3 := Z2.out.frozen 3; simp at z0 z1 z2 z3; clear o2 t2 C)
  have BF := blk_store4 (.bool p2.leaf) (.slice s1 p2.keys.length n1) (.slice s2 p2.vals.length n2) (.slice s3 p2.kids.length n3) Z2.out
  have GF := grown_set (grown_set (grown_set (grown_set (grown_refl w2 (some (w.heap.size + 1 + 1))) 0 (.bool p2.leaf)) 1 (.slice s1 p2.keys.length n1)) 2 (.slice s2 p2.vals.length n2)) 3 (.slice s3 p2.kids.length n3)
  refine bodyPost_ret (Pa.results_pg2 Tryz.results31 _ _ (w.heap.size + 1 + 1) rfl BF) rfl ?_
  rw [HP.out.1]
  exact ⟨_, rfl, PgO.own O2.out Z2.out (by decide) GF, (log_pt HL.out T2.out).keptB Z2.out (by decide) GF, ((XT.of_none (base := base) (lb := lb) (bp := bp) G0.out).trans (XT.of_pt T2.out)).through GF (by omega)⟩
theorem kid_lo {lo : Option ByteArray} {ks : List ByteArray} {k : ByteArray} (h : Bt.loB kl lo k = true) : Bt.loB kl (loI lo ks (Bt.kid kl k ks)) k = true := by
  obtain ⟨k1, k2, k3⟩ := Bt.kid_take (lt := kl) k ks
  unfold loI
  split
  · rename_i h0
    have hlt : Bt.kid kl k ks - 1 < ks.length := by omega
    rw [List.getElem?_eq_getElem hlt]
    have := k2 ks[Bt.kid kl k ks - 1] (by
      rw [List.mem_take_iff_getElem]
      exact ⟨Bt.kid kl k ks - 1, by omega, rfl⟩)
    show (!kl k ks[Bt.kid kl k ks - 1]) = true
    rw [this]
    rfl
  · exact h
theorem kid_hi {hi : Option ByteArray} {ks : List ByteArray} {k : ByteArray} (h : Bt.hiB kl hi k = true) : Bt.hiB kl (hiI hi ks (Bt.kid kl k ks)) k = true := by
  obtain ⟨k1, k2, k3⟩ := Bt.kid_take (lt := kl) k ks
  unfold hiI
  split
  · rename_i h0
    rw [List.getElem?_eq_getElem h0]
    have e : ks.drop (Bt.kid kl k ks) = ks[Bt.kid kl k ks] :: ks.drop (Bt.kid kl k ks + 1) := List.drop_eq_getElem_cons h0
    rw [e] at k3
    show kl k ks[Bt.kid kl k ks] = true
    cases hx : kl k ks[Bt.kid kl k ks] with
    | true => rfl
    | false =>
      unfold Bt.kid at k3
      rw [if_neg (by rw [hx]; decide)] at k3
      omega
  · exact h
theorem hi_key {hi : Option ByteArray} {ks : List ByteArray} (i : Nat) (h : ∀ y, hi = some y → KeyOk y) (hk : ∀ k ∈ ks, KeyOk k) : ∀ y, hiI hi ks i = some y → KeyOk y := by
  intro y hy
  unfold hiI at hy
  split at hy
  · exact hk y (List.mem_of_getElem? hy)
  · exact h y hy
/-- What stands at a kid's place. -/
theorem kid_at {g : Lg} {d : Nat} {lo hi : Option ByteArray} {ks : List ByteArray} {ts : List (Tr d)} {is : List Int} (i : Nat) (hi' : i ≤ ks.length) (hG : Bt.Good kl (d + 1) lo hi ((ks, ts) : Tr (d + 1))) (hA : Bt.AllK KeyOk ValOk (d + 1) ((ks, ts) : Tr (d + 1))) (hP : Pls g.recs d is ts) (hh : ∀ y, hi = some y → KeyOk y) :
    ∃ t a q, ts[i]? = some t ∧ is[i]? = some a ∧ PageAt g.recs a q ∧ Is g.recs d t q ∧ Bt.Good kl d (loI lo ks i) (hiI hi ks i) t ∧ 4 ≤ Bt.nk d t ∧ Bt.nk d t ≤ 8 ∧ Bt.AllK KeyOk ValOk d t ∧ Holds (opT (loI lo ks i)) (opT (hiI hi ks i)) q := by
  have hlen := Bt.GL.len kl hG
  have hil := hP.1
  have ht : ts[i]? = some (ts[i]'(by omega)) := List.getElem?_eq_getElem (by omega)
  have ha : is[i]? = some (is[i]'(by omega)) := List.getElem?_eq_getElem (by omega)
  obtain ⟨_, q, q1, q2⟩ := hP.2 i _ _ ha ht
  obtain ⟨g1, g2, g3⟩ := gl_at hG i _ ht
  have hAt := hA.2 _ (List.mem_of_getElem? ht)
  exact ⟨_, _, q, ht, ha, q1, q2, g1, g2, g3, hAt, holds_good _ d g1 hAt q2 (hi_key i hh hA.1)⟩
theorem find_cast (n : Nat) (b : Bool) : ((n + (if b then 1 else 0) : Nat) : Int) = (n : Int) + (if b then 1 else 0) := by
  cases b <;> simp
theorem with_any (base b lb : Nat) (root : Int) (k x : ByteArray) (hk : KeyOk k) (hx : ValOk x) : ∀ (d : Nat) (g : Lg) (lo hi : Option ByteArray) (t : Tr d) (p : Pa.Pg), LgOk g → LgRoom (2 * d) g → Bt.Good kl d lo hi t → Bt.AllK KeyOk ValOk d t → Is g.recs d t p → Bt.loB kl lo k = true → Bt.hiB kl hi k = true → (∀ y, hi = some y → KeyOk y) → Bt.nk d t ≤ 8 →
    ∃ g2 p2, LgStep (2 * d) g g2 ∧ Is g2.recs d (Bt.put kl k x d t) p2 ∧ ∀ W v bp, IsTree W b lb root → IsLog W base lb g → Pa.PgO W bp v p → bp ≤ W.heap.size → Calls Tryz.prog 31 #[.pointer (some ⟨b, 0, none⟩), v, .agg #[.string (opT lo), .string (opT hi)], .string k, .string x] W (SwPost W base lb bp g2 p2)
  | 0, g, lo, hi, l, p, ok, _, hG, hA, hp, h1, h2, hh, h8 => by
    have hp' : p = leafPg l := hp
    subst hp'
    have h8' : (show Prs from l).length ≤ 8 := h8
    refine ⟨g, leafPg (Bt.ins kl k x l), LgStep.refl ok, rfl, fun W v bp _ hL hv hb => ?_⟩
    exact with_leaf base bp b lb g (leafPg l) _ v _ _ k x W hL hv rfl (fun W' hW => leafWith_any bp v l k x W' (hv.keptN hW) (Nat.le_trans h8' (by decide)) (Nat.le_trans hb hW.size))
  | d + 1, g, lo, hi, (ks, ts), p, ok, rm, hG, hA, hp, h1, h2, hh, h8 => by
    obtain ⟨is, rfl, hP⟩ := node_is hp
    have h8' : ks.length ≤ 8 := h8
    have hkl := (Bt.kid_take (lt := kl) k ks).1
    obtain ⟨t, a, q, ht, ha, q1, q2, g1, n4, n8, hAt, hH⟩ := kid_at (Bt.kid kl k ks) hkl hG hA hP hh
    have hkk : is.length = ks.length + 1 := by rw [hP.1, Bt.GL.len kl hG]
    obtain ⟨G1, p1, s1, i1, c1⟩ := with_any base b lb root k x hk hx d g _ _ t q ok (rm.mono (by omega)) g1 hAt q2 (kid_lo h1) (kid_hi h2) (hi_key _ hh hA.1) n8
    obtain ⟨w1, w2, w3, w4⟩ := Bt.put_good ordK k x d _ _ t g1 (kid_lo h1) (kid_hi h2)
    have wA := Bt.put_all (lt := kl) (k := k) (v := x) hk hx d hAt
    have rm1 : LgRoom 2 G1 := LgRoom.step (n := 2 * d) (m := 2) (rm.mono (by omega)) s1
    obtain ⟨G2, is2, s2, P2, cc⟩ : ∃ g2 is, LgStep 2 G1 g2 ∧ Pls g2.recs d is (Bt.lay d (Bt.put kl k x d t)).2 ∧ ∀ bq W v, IsTree W b lb root → IsLog W base lb G1 → Pa.PgO W bq v p1 → Calls Tryz.prog 49 #[.pointer (some ⟨b, 0, none⟩), v] W (LayPost W base lb g2 (Bt.lay d (Bt.put kl k x d t)).1 is) := by
      obtain ⟨g2, is2, z1, z2, z3⟩ := lay_tree base 0 b lb G1 root d (Bt.put kl k x d t) p1 s1.ok rm1 w1 wA i1 (Or.inr (by omega)) (by omega)
      exact ⟨g2, is2, z1, z2, fun bq W v hT hL hv => z3 W v hT hL (PgO.base_le hv (Nat.zero_le _))⟩
    obtain ⟨_, _, y3⟩ := Bt.lay_good ordK d w1 (by omega) (by omega)
    have hI := swap_is (s1.ext.trans s2.ext) (Bt.kid kl k ks) (Bt.kid kl k ks) hp P2
    have hput : Bt.put kl k x (d + 1) ((ks, ts) : Tr (d + 1)) = Bt.swap d ks ts (Bt.kid kl k ks) (Bt.kid kl k ks) (Bt.put kl k x d t) := by
      simp only [Bt.put, ht]
    rw [hput]
    have l2 : is2.length ≤ 1000 := by
      rw [P2.1]
      unfold Bt.lay
      split
      · simp
      · split <;> simp
    have r1 := rm.cnt
    refine ⟨G2, _, (s1.trans s2).mono (by omega), hI, fun W v bp hT hL hv hb => ?_⟩
    refine with_node base bp b lb (Bt.kid kl k ks) g G1 G2 root a ⟨false, ks, [], is⟩ q p1 _ v _ _ (opT (loI lo ks (Bt.kid kl k ks))) (opT (hiI hi ks (Bt.kid kl k ks))) k x W hT hL hv hb rfl ha (fun W' hW => ?_) (fun W' hW => ?_) (fun W' hW => ?_) (fun W' u bq hT' hL' hu hbq => c1 W' u bq hT' hL' hu hbq) (fun W' u bq hT' hL' hv' hu hbp => ?_)
    · have := Pa.kid_any v ⟨false, ks, [], is⟩ k W' ((hv.keptN hW).pgV) ⟨by show ks.length ≤ _; omega, by simp, by show is.length ≤ _; omega⟩ (by show ks.length ≤ 1000; omega)
      rw [← kid_find k (gl_pw hG).1, find_cast]
      exact this
    · have := below_any (opT lo) (opT hi) ⟨false, ks, [], is⟩ v (Bt.kid kl k ks) W' ((hv.keptN hW).pgV) hkl (by show ks.length ≤ 1000000; omega)
      rw [← lo_span lo ks _ hkl, ← hi_span hi ks]
      exact this
    · exact read_page base b lb g root a _ _ q W' (hT.kept hW) (hL.kept hW) ok.asc (by omega) q1 hH
    · exact swap_any base bp b lb (Bt.kid kl k ks) (Bt.kid kl k ks) G1 G2 ⟨false, ks, [], is⟩ p1 v u _ is2 W' hL' hv' (pgT_owns hu) (fun W2 hW2 => cc bq W2 u (hT'.kept hW2) (hL'.kept hW2) (hu.keptN hW2)) (Or.inl rfl) hkl hkk (by show ks.length ≤ 1000; omega) (by omega) l2 hbp
end Go.Proofs.YtbhmmcelndmijaaGreat
