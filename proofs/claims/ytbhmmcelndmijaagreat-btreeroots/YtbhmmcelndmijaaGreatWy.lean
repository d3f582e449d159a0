/-
  without: a tree without a key, as the program makes it.
-/
import Derived.Test.YtbhmmcelndmijaaGreatKPn
import Derived.Test.YtbhmmcelndmijaaGreatWo1
import Derived.Test.YtbhmmcelndmijaaGreatWo2
import Derived.Test.YtbhmmcelndmijaaGreatJl
namespace Go.Proofs.YtbhmmcelndmijaaGreat
open Go.RowKit Go.Maps
/-- leafWithout, whether the key is there or not. -/
theorem leafWithout_any (base : Nat) (v : Value) (l : Prs) (k : ByteArray) (w : World) (h : Pa.PgO w base v (leafPg l)) (hn : l.length ≤ 1000) :
    Calls Tryz.prog 46 #[v, .string k] w fun e w' => ∃ v', e = .returned (.tuple #[v', .bool (Bt.look kl k l).isSome]) ∧ Pa.PgO w' base v' (leafPg (Bt.del kl k l)) ∧ PT base w w' := by
  rw [← leaf_del]
  have hl : (leafPg l).vals.length = (leafPg l).keys.length := by simp [leafPg]
  have hk : (leafPg l).keys.length ≤ 1000 := by simpa [leafPg] using hn
  have e := look_find k l
  cases hi : Pa.findIs (leafPg l).keys k with
  | true =>
    obtain ⟨h1, h2⟩ := find_at hi
    have hi' : Pa.findIs (l.map Prod.fst) k = true := hi
    rw [if_pos hi'] at e
    have h1' : Pa.findN (l.map Prod.fst) k < l.length := by
      have : (leafPg l).keys.length = l.length := by simp [leafPg]
      rw [this] at h1
      exact h1
    rw [List.getElem?_eq_getElem h1'] at e
    rw [e]
    exact leafWithout_is base v (leafPg l) k w h hl hk (by simp [leafPg]) hi h1
  | false =>
    have hi' : Pa.findIs (l.map Prod.fst) k = false := hi
    rw [if_neg (by rw [hi']; decide)] at e
    rw [e]
    have eD : leafD (leafPg l) k = leafPg l := by unfold leafD; rw [if_neg (by rw [hi]; decide)]
    rw [eD]
    exact leafWithout_no base v (leafPg l) k w h hl hk (by simp [leafPg]) hi
theorem is_few (r : List (Nat × ByteArray)) (d : Nat) {lo hi : Option ByteArray} {t : Tr d} {p : Pa.Pg} (hg : Bt.Good kl d lo hi t) (h : Is r d t p) (h8 : Bt.nk d t ≤ 16) : p.keys.length ≤ 1000 ∧ p.vals.length ≤ 1000 ∧ p.kids.length ≤ 1001 := by
  have h1 := is_nk r d h
  match d, t, hg, h, h8, h1 with
  | 0, l, hg, h, h8, h1 =>
    have h2 := is_shape r 0 hg h
    have h' : p = leafPg l := h
    subst h'
    have h2' : (leafPg l).vals.length = (leafPg l).keys.length := h2
    have h3 : (leafPg l).kids.length = 0 := rfl
    exact ⟨by omega, by omega, by omega⟩
  | d + 1, (ks, ts), hg, h, h8, h1 =>
    have h2 := is_shape r (d + 1) hg h
    obtain ⟨is, rfl, hP⟩ := node_is h
    have h2' : is.length = ks.length + 1 := h2
    have h1' : ks.length = Bt.nk (d + 1) ((ks, ts) : Tr (d + 1)) := h1
    exact ⟨by show ks.length ≤ 1000; omega, by simp, by show is.length ≤ 1001; omega⟩
theorem hi_next {X : Type} {P : Option ByteArray → Option ByteArray → X → Prop} {lo hi : Option ByteArray} {ks : List ByteArray} {ts : List X} (h : Bt.GL kl P hi lo ks ts) {i : Nat} {m : ByteArray} (hm : ks[i]? = some m) : Bt.ltO kl m (hiI hi ks (i + 1)) := by
  obtain ⟨h1, h2, h3⟩ := gl_pw h
  unfold hiI
  split
  · rename_i hl
    have hil := (List.getElem?_eq_some_iff.1 hm).1
    have he := (List.getElem?_eq_some_iff.1 hm).2
    rw [List.getElem?_eq_getElem hl]
    rw [← he]
    exact List.pairwise_iff_getElem.1 h1 i (i + 1) hil hl (by omega)
  · exact h3 m (List.mem_of_getElem? hm)
theorem lo_prev {X : Type} {P : Option ByteArray → Option ByteArray → X → Prop} {lo hi : Option ByteArray} {ks : List ByteArray} {ts : List X} (h : Bt.GL kl P hi lo ks ts) {i : Nat} {m : ByteArray} (hm : ks[i]? = some m) : Bt.gtO kl (loI lo ks i) m := by
  obtain ⟨h1, h2, h3⟩ := gl_pw h
  unfold loI
  split
  · rename_i hl
    have hil := (List.getElem?_eq_some_iff.1 hm).1
    have he := (List.getElem?_eq_some_iff.1 hm).2
    rw [List.getElem?_eq_getElem (by omega), ← he]
    exact List.pairwise_iff_getElem.1 h1 (i - 1) i (by omega) hil (by omega)
  · exact h2 m (List.mem_of_getElem? hm)
theorem lay_len (d : Nat) (t : Tr d) : (Bt.lay d t).2.length ≤ 2 := by
  unfold Bt.lay
  split
  · simp
  · split <;> simp
theorem wo_any (base b lb : Nat) (root : Int) (k : ByteArray) : ∀ (d : Nat) (g : Lg) (lo hi : Option ByteArray) (t : Tr d) (p : Pa.Pg), LgOk g → LgRoom (2 * d) g → Bt.Good kl d lo hi t → Bt.AllK KeyOk ValOk d t → Is g.recs d t p → Bt.loB kl lo k = true → Bt.hiB kl hi k = true → (∀ y, hi = some y → KeyOk y) → (d = 0 ∨ 1 ≤ Bt.nk d t) → Bt.nk d t ≤ 8 →
    ((Bt.look kl k (Bt.flat d t) = none → ∀ W v bp, IsTree W b lb root → IsLog W base lb g → Pa.PgO W bp v p → bp ≤ W.heap.size → Calls Tryz.prog 28 #[.pointer (some ⟨b, 0, none⟩), v, .agg #[.string (opT lo), .string (opT hi)], .string k] W (NoPost W base lb bp g)) ∧
    ((Bt.look kl k (Bt.flat d t)).isSome = true → ∃ g2 p2, LgStep (2 * d) g g2 ∧ Is g2.recs d (Bt.rem kl k d t) p2 ∧ ∀ W v bp, IsTree W b lb root → IsLog W base lb g → Pa.PgO W bp v p → bp ≤ W.heap.size → Calls Tryz.prog 28 #[.pointer (some ⟨b, 0, none⟩), v, .agg #[.string (opT lo), .string (opT hi)], .string k] W (WoPost W base lb bp g2 p2)))
  | 0, g, lo, hi, l, p, ok, _, hG, hA, hp, h1, h2, hh, _, h8 => by
    have hp' : p = leafPg l := hp
    subst hp'
    have h8' : (show Prs from l).length ≤ 8 := h8
    refine ⟨fun hn W v bp _ hL hv _ => ?_, fun hs => ⟨g, leafPg (Bt.del kl k l), LgStep.refl ok, rfl, fun W v bp _ hL hv _ => ?_⟩⟩
    · have hn' : Bt.look kl k (show Prs from l) = none := hn
      refine (wo_leaf base bp b lb false g (leafPg l) _ v _ _ k W hL hv rfl (fun W' hW => ?_)).mono (fun e w' ⟨v, e1, e2, e3, e4⟩ => ⟨v, leafPg (Bt.del kl k l), e1, PgO.base_le e2 (Nat.zero_le _), e3, e4⟩)
      have := leafWithout_any bp v l k W' (hv.keptN hW) (Nat.le_trans h8' (by decide))
      rw [show Bt.look kl k l = none from hn'] at this
      exact this
    · have hs' : (Bt.look kl k (show Prs from l)).isSome = true := hs
      refine wo_leaf base bp b lb true g (leafPg l) _ v _ _ k W hL hv rfl (fun W' hW => ?_)
      have := leafWithout_any bp v l k W' (hv.keptN hW) (Nat.le_trans h8' (by decide))
      rw [show (Bt.look kl k l).isSome = true from hs'] at this
      exact this
  | d + 1, g, lo, hi, (ks, ts), p, ok, rm, hG, hA, hp, h1, h2, hh, hne, h8 => by
    obtain ⟨is, rfl, hP⟩ := node_is hp
    have h8' : ks.length ≤ 8 := h8
    have hne' : 1 ≤ ks.length := by
      rcases hne with h | h
      · cases h
      · exact h
    have hkl := (Bt.kid_take (lt := kl) k ks).1
    obtain ⟨t, a, q, ht, ha, q1, q2, g1, n4, n8, hAt, hH⟩ := kid_at (Bt.kid kl k ks) hkl hG hA hP hh
    have hkk : is.length = ks.length + 1 := by rw [hP.1, Bt.GL.len kl hG]
    have hlen := Bt.GL.len kl hG
    have r1 := rm.cnt
    obtain ⟨ihn, ihs⟩ := wo_any base b lb root k d g _ _ t q ok (rm.mono (by omega)) g1 hAt q2 (kid_lo h1) (kid_hi h2) (hi_key _ hh hA.1) (Or.inr (by omega)) n8
    have hlook : Bt.look kl k (Bt.flat (d + 1) ((ks, ts) : Tr (d + 1))) = Bt.look kl k (Bt.flat d t) := by
      rw [← Bt.getT_good ordK k (d + 1) lo hi ((ks, ts) : Tr (d + 1)) hG h1, ← Bt.getT_good ordK k d _ _ t g1 (kid_lo h1)]
      simp only [Bt.getT, ht]
    have q1H := hH
    rw [hlook]
    have c40 : ∀ W v bp, Pa.PgO W bp v ⟨false, ks, [], is⟩ → ∀ W', W.grownBy W' none → Calls Tryz.prog 40 #[v, .string k] W' fun e w' => e = .returned (.int .i64 (Bt.kid kl k ks)) ∧ W'.grownBy w' none := fun W v bp hv W' hW => by
      have := Pa.kid_any v ⟨false, ks, [], is⟩ k W' ((hv.keptN hW).pgV) ⟨by show ks.length ≤ _; omega, by simp, by show is.length ≤ _; omega⟩ (by show ks.length ≤ 1000; omega)
      rw [← kid_find k (gl_pw hG).1, find_cast]
      exact this
    have c41 : ∀ (i : Nat), i ≤ ks.length → ∀ W v bp, Pa.PgO W bp v ⟨false, ks, [], is⟩ → ∀ W', W.grownBy W' none → Calls Tryz.prog 41 #[.agg #[.string (opT lo), .string (opT hi)], v, .int .i64 i] W' fun e w' => e = .returned (.agg #[.string (opT (loI lo ks i)), .string (opT (hiI hi ks i))]) ∧ W'.grownBy w' none := fun i hi' W v bp hv W' hW => by
      have := below_any (opT lo) (opT hi) ⟨false, ks, [], is⟩ v i W' ((hv.keptN hW).pgV) hi' (by show ks.length ≤ 1000000; omega)
      rw [← lo_span lo ks _ hi', ← hi_span hi ks]
      exact this
    refine ⟨fun hn W v bp hT hL hv hb => ?_, fun hs => ?_⟩
    · exact wo_no base bp b lb (Bt.kid kl k ks) g root a ⟨false, ks, [], is⟩ q v _ _ _ _ k W hT hL hv hb rfl ha (c40 W v bp hv) (c41 _ hkl W v bp hv) (fun W' hW => read_page base b lb g root a _ _ q W' (hT.kept hW) (hL.kept hW) ok.asc (by omega) q1 hH) (ihn hn)
    · obtain ⟨G1, p1, s1, i1, cw⟩ := ihs hs
      obtain ⟨w1, w2, w3, w4⟩ := Bt.rem_good ordK k d _ _ t g1 (kid_lo h1) (kid_hi h2) (by omega)
      have wA := Bt.rem_all (lt := kl) (k := k) d hAt
      have rm1 : LgRoom 2 G1 := LgRoom.step (n := 2 * d) (m := 2) (rm.mono (by omega)) s1
      by_cases h4 : Bt.nk d (Bt.rem kl k d t) < 4
      · have hal : ∀ x, Is G1.recs d (Bt.rem kl k d t) x → x.leaf = decide (d = 0) := fun x hx => is_leaf _ d hx
        by_cases hi0 : Bt.kid kl k ks = 0
        · obtain ⟨u, ao, qo, hu, hao, o1, o2, o3, o4, o5, oA, oH⟩ := kid_at 1 hne' hG hA hP hh
          have hm : ks[0]? = some (ks[0]'(by omega)) := List.getElem?_eq_getElem (by omega)
          generalize ks[0]'(by omega) = m at hm
          have hmm : m ∈ ks := List.mem_of_getElem? hm
          rw [hi0] at w1 hkl ha ht
          have e1 : loI lo ks 0 = lo := rfl
          have e2 : hiI hi ks 0 = some m := by unfold hiI; rw [if_pos (by omega), hm]
          have e3 : loI lo ks 1 = some m := by unfold loI; rw [if_pos (by omega)]; exact hm
          have e4 : Bt.ltO kl m (hiI hi ks 1) := hi_next hG hm
          rw [e1, e2] at w1
          have o3' := o3
          rw [e3] at o3'
          obtain ⟨j1, j2, j3, j4⟩ := Bt.joined_good ordK d ((gl_pw hG).2.1 m hmm) e4 w1 o3'
          have jA := Bt.joined_all (m := m) d wA (hA.1 m hmm) oA
          have jI := joined_is G1.recs d (m := m) i1 (Is.ext s1.ext d o2)
          obtain ⟨G2, is2, s2, P2, cc⟩ := lay_tree base 0 b lb G1 root d (Bt.joined d (Bt.rem kl k d t) m u) (joinP p1 m qo) s1.ok rm1 j1 jA jI (Or.inr (by omega)) (by omega)
          obtain ⟨_, _, y3⟩ := Bt.lay_good ordK d j1 (by omega) (by omega)
          have hI := swap_is (s1.ext.trans s2.ext) 0 1 hp P2
          have hrem : Bt.rem kl k (d + 1) ((ks, ts) : Tr (d + 1)) = Bt.swap d ks ts 0 1 (Bt.joined d (Bt.rem kl k d t) m u) := by
            simp only [Bt.rem, hi0, ht]
            rw [if_pos h4]
            simp only [if_true, hu, hm]
          rw [hrem]
          have l2 : is2.length ≤ 1000 := by rw [P2.1]; have := lay_len d (Bt.joined d (Bt.rem kl k d t) m u); omega
          have f1 := is_few _ d w1 i1 (by omega)
          have f2 := is_few _ d o3 o2 (by omega)
          refine ⟨G2, _, (s1.trans s2).mono (by omega), hI, fun W v bp hT hL hv hb => ?_⟩
          have hbel := PgO.below hv
          have c40' := c40 W v bp hv
          rw [hi0] at c40' cw q1H
          exact wo_join base bp b lb 0 g G1 G2 root a ⟨false, ks, [], is⟩ q p1 _ v _ _ _ _ k W hT hL hv hb rfl (by rw [is_nk _ d i1]; omega) ha c40' (c41 0 (by omega) W v bp hv) (fun W' hW => read_page base b lb g root a _ _ q W' (hT.kept hW) (hL.kept hW) ok.asc (by omega) q1 q1H) cw
            (fun W' x bq hT' hL' hv' hx hbp hbq hwbq => join_first base bp bq b lb G1 G2 root ao ⟨false, ks, [], is⟩ qo p1 (joinP p1 m qo) _ v x _ _ _ _ m W' hT' hL' hv' hx hbp hbq rfl (by rw [hal p1 i1, is_leaf _ d o2]) hao (fun y hy kk hkk => Nat.lt_of_lt_of_le (hbel y hy kk hkk) hwbq) hm (c41 1 hne' W' v bp hv') (fun W2 hW2 => read_page base b lb G1 root ao _ _ qo W2 (hT'.kept hW2) (hL'.kept hW2) s1.ok.asc (by have := s1.cnt; omega) (o1.ext s1.ext) oH)
              (fun W2 y bz h1' h2' h3' h4' => joined_ahead bq bz W'.heap.size x y p1 qo m W2 h1' h2' (PgO.below hx) h3' (Nat.le_trans hbq (Nat.le_trans h3' h4')) ⟨f1.1, f1.2.1, f1.2.2, f2⟩)
              (fun W2 z hT2 hL2 hv2 hz hbp2 => swap_any base bp b lb 0 1 G1 G2 ⟨false, ks, [], is⟩ (joinP p1 m qo) v z _ is2 W2 hL2 hv2 (pgT_owns hz) (fun W3 hW3 => cc W3 z (hT2.kept hW3) (hL2.kept hW3) (PgO.base_le (hz.keptN hW3) (Nat.zero_le _))) (Or.inr ⟨by omega, by omega⟩) hne' hkk (by show ks.length ≤ 1000; omega) (by omega) l2 hbp2))
        · obtain ⟨j, hj⟩ : ∃ j, Bt.kid kl k ks = j + 1 := ⟨Bt.kid kl k ks - 1, by omega⟩
          rw [hj] at w1 hkl ha ht
          obtain ⟨u, ao, qo, hu, hao, o1, o2, o3, o4, o5, oA, oH⟩ := kid_at j (by omega) hG hA hP hh
          have hm : ks[j]? = some (ks[j]'(by omega)) := List.getElem?_eq_getElem (by omega)
          generalize ks[j]'(by omega) = m at hm
          have hmm : m ∈ ks := List.mem_of_getElem? hm
          have e1 : loI lo ks (j + 1) = some m := by unfold loI; rw [if_pos (by omega)]; exact hm
          have e2 : hiI hi ks j = some m := by unfold hiI; rw [if_pos (by omega), hm]
          have e3 : Bt.gtO kl (loI lo ks j) m := lo_prev hG hm
          have e4 : Bt.ltO kl m (hiI hi ks (j + 1)) := hi_next hG hm
          rw [e1] at w1
          have o3' := o3
          rw [e2] at o3'
          obtain ⟨j1, j2, j3, j4⟩ := Bt.joined_good ordK d e3 e4 o3' w1
          have jA := Bt.joined_all (m := m) d oA (hA.1 m hmm) wA
          have jI := joined_is G1.recs d (m := m) (Is.ext s1.ext d o2) i1
          obtain ⟨G2, is2, s2, P2, cc⟩ := lay_tree base 0 b lb G1 root d (Bt.joined d u m (Bt.rem kl k d t)) (joinP qo m p1) s1.ok rm1 j1 jA jI (Or.inr (by omega)) (by omega)
          obtain ⟨_, _, y3⟩ := Bt.lay_good ordK d j1 (by omega) (by omega)
          have hI := swap_is (s1.ext.trans s2.ext) j (j + 1) hp P2
          have hrem : Bt.rem kl k (d + 1) ((ks, ts) : Tr (d + 1)) = Bt.swap d ks ts j (j + 1) (Bt.joined d u m (Bt.rem kl k d t)) := by
            simp only [Bt.rem, hj, ht]
            rw [if_pos h4, if_neg (by omega)]
            simp only [Nat.add_sub_cancel, hu, hm]
          rw [hrem]
          have l2 : is2.length ≤ 1000 := by rw [P2.1]; have := lay_len d (Bt.joined d u m (Bt.rem kl k d t)); omega
          have f1 := is_few _ d w1 i1 (by omega)
          have f2 := is_few _ d o3 o2 (by omega)
          refine ⟨G2, _, (s1.trans s2).mono (by omega), hI, fun W v bp hT hL hv hb => ?_⟩
          have hbel := PgO.below hv
          have c40' := c40 W v bp hv
          rw [hj] at c40' cw q1H
          exact wo_join base bp b lb (j + 1) g G1 G2 root a ⟨false, ks, [], is⟩ q p1 _ v _ _ _ _ k W hT hL hv hb rfl (by rw [is_nk _ d i1]; omega) ha c40' (c41 (j + 1) hkl W v bp hv) (fun W' hW => read_page base b lb g root a _ _ q W' (hT.kept hW) (hL.kept hW) ok.asc (by omega) q1 q1H) cw
            (fun W' x bq hT' hL' hv' hx hbp hbq hwbq => join_later base bp bq b lb (j + 1) j G1 G2 root ao ⟨false, ks, [], is⟩ qo p1 (joinP qo m p1) _ v x _ _ _ _ m W' hT' hL' hv' hx hbp hbq rfl (by rw [hal p1 i1, is_leaf _ d o2]) (by omega) rfl (by omega) hao (fun y hy kk hkk => Nat.lt_of_lt_of_le (hbel y hy kk hkk) hwbq) hm (c41 j (by omega) W' v bp hv') (fun W2 hW2 => read_page base b lb G1 root ao _ _ qo W2 (hT'.kept hW2) (hL'.kept hW2) s1.ok.asc (by have := s1.cnt; omega) (o1.ext s1.ext) oH)
              (fun W2 y bz h1' h2' h3' h4' => joined_behind bq bz W'.heap.size x y p1 qo m W2 h1' h2' (PgO.below hx) h3' h4' (Nat.le_trans hbq h3') ⟨f1.1, f1.2.1, f1.2.2, f2⟩)
              (fun W2 z hT2 hL2 hv2 hz hbp2 => swap_any base bp b lb j (j + 1) G1 G2 ⟨false, ks, [], is⟩ (joinP qo m p1) v z _ is2 W2 hL2 hv2 (pgT_owns hz) (fun W3 hW3 => cc W3 z (hT2.kept hW3) (hL2.kept hW3) (PgO.base_le (hz.keptN hW3) (Nat.zero_le _))) (Or.inr ⟨by omega, by omega⟩) hkl hkk (by show ks.length ≤ 1000; omega) (by omega) l2 hbp2))
      · obtain ⟨G2, is2, s2, P2, cc⟩ := lay_tree base 0 b lb G1 root d (Bt.rem kl k d t) p1 s1.ok rm1 w1 wA i1 (Or.inr (by omega)) (by omega)
        obtain ⟨_, _, y3⟩ := Bt.lay_good ordK d w1 (by omega) (by omega)
        have hI := swap_is (s1.ext.trans s2.ext) (Bt.kid kl k ks) (Bt.kid kl k ks) hp P2
        have hrem : Bt.rem kl k (d + 1) ((ks, ts) : Tr (d + 1)) = Bt.swap d ks ts (Bt.kid kl k ks) (Bt.kid kl k ks) (Bt.rem kl k d t) := by
          simp only [Bt.rem, ht]
          rw [if_neg h4]
        rw [hrem]
        have l2 : is2.length ≤ 1000 := by rw [P2.1]; have := lay_len d (Bt.rem kl k d t); omega
        refine ⟨G2, _, (s1.trans s2).mono (by omega), hI, fun W v bp hT hL hv hb => ?_⟩
        exact wo_swap base bp b lb (Bt.kid kl k ks) g G1 G2 root a ⟨false, ks, [], is⟩ q p1 _ v _ _ _ _ k W hT hL hv hb rfl (by rw [is_nk _ d i1]; omega) ha (c40 W v bp hv) (c41 _ hkl W v bp hv) (fun W' hW => read_page base b lb g root a _ _ q W' (hT.kept hW) (hL.kept hW) ok.asc (by omega) q1 hH) cw (fun W' u bq hT' hL' hv' hu hbp => swap_any base bp b lb (Bt.kid kl k ks) (Bt.kid kl k ks) G1 G2 ⟨false, ks, [], is⟩ p1 v u _ is2 W' hL' hv' (pgT_owns hu) (fun W2 hW2 => cc W2 u (hT'.kept hW2) (hL'.kept hW2) (PgO.base_le (hu.keptN hW2) (Nat.zero_le _))) (Or.inl rfl) hkl hkk (by show ks.length ≤ 1000; omega) (by omega) l2 hbp)
end Go.Proofs.YtbhmmcelndmijaaGreat
