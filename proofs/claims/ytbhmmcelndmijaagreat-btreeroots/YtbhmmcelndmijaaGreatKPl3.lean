/-
  Trees that are laid in a log: which pages may be; leaves, halves, two in one, others in their places. A tree's top page is laid: lay. A page that is cut becomes the root: plant. A page without keys that is no leaf: its one kid becomes the root.
-/
import Derived.Test.YtbhmmcelndmijaaGreatKLa2
import Derived.Test.YtbhmmcelndmijaaGreatKSw
namespace Go.Proofs.YtbhmmcelndmijaaGreat
abbrev Prs := List (ByteArray × ByteArray)
def leafPg (l : Prs) : Pa.Pg := ⟨true, l.map Prod.fst, l.map Prod.snd, []⟩
theorem rise_keys {ks : List ByteArray} (h : ks.Pairwise (fun a b => kl a b = true)) (hk : ∀ k ∈ ks, KeyOk k) (h8 : ks.length ≤ 8) : Pa.mayK ks = true := by
  unfold Pa.mayK
  rw [rise_pw h hk ⟨#[]⟩ (fun k hk' => none_less (hk k hk'))]
  simp
  omega
/-- A page of a tree that may be. -/
theorem may_good (recs : List (Nat × ByteArray)) : ∀ (d : Nat) {lo hi : Option ByteArray} {t : Tr d} {p : Pa.Pg}, Bt.Good kl d lo hi t → Bt.AllK KeyOk ValOk d t → Bt.nk d t ≤ 8 → (d = 0 ∨ 1 ≤ Bt.nk d t) → Is recs d t p → Pa.mayP p = true
  | 0, lo, hi, l, p, hg, ha, h8, _, hp => by
    have hp' : p = leafPg l := hp
    subst hp'
    have ha' : ∀ x ∈ (show Prs from l), KeyOk x.1 ∧ ValOk x.2 := ha
    have h8' : (show Prs from l).length ≤ 8 := h8
    unfold Pa.mayP
    rw [rise_keys (ks := (leafPg l).keys) (ris_pw (l := l) (hi := hi) (lo := lo) hg) (fun k hk => by
      obtain ⟨x, hx, rfl⟩ := List.mem_map.1 hk
      exact (ha' x hx).1) (by show (List.map Prod.fst (show Prs from l)).length ≤ 8; rw [List.length_map]; exact h8')]
    have hv : ((leafPg l).vals.any Pa.longB) = false := by
      rw [List.any_eq_false]
      intro v hv
      obtain ⟨x, hx, rfl⟩ := List.mem_map.1 hv
      have : x.2.size ≤ 8192 := (ha' x hx).2
      unfold Pa.longB
      simp
      omega
    have hl : (leafPg l).vals.length = (leafPg l).keys.length := by
      show (List.map Prod.snd (show Prs from l)).length = (List.map Prod.fst (show Prs from l)).length
      rw [List.length_map, List.length_map]
    unfold Pa.restB
    rw [hv, hl]
    simp [leafPg]
  | d + 1, lo, hi, (ks, ts), p, hg, ha, h8, h1, ⟨is, hp, hl, hi'⟩ => by
    subst hp
    have hlen := Bt.GL.len kl hg
    have h8' : ks.length ≤ 8 := h8
    have h1' : 1 ≤ ks.length := by
      rcases h1 with h1 | h1
      · cases h1
      · exact h1
    unfold Pa.mayP
    rw [rise_keys (ks := ks) (gl_pw hg).1 ha.1 h8']
    have hv : (is.any Pa.outB) = false := by
      rw [List.any_eq_false]
      intro a ha
      obtain ⟨k, hk⟩ := List.getElem?_of_mem ha
      have hlt := (List.getElem?_eq_some_iff.1 hk).1
      have := (hi' k a (ts[k]'(by omega)) hk (List.getElem?_eq_getElem (by omega))).1
      unfold Pa.outB
      simp
      omega
    unfold Pa.restB
    simp only [hv]
    simp
    omega
section
variable (k v : ByteArray)
theorem ins_find : ∀ (l : Prs), Bt.ins kl k v l = if Pa.findIs (l.map Prod.fst) k then l.take (Pa.findN (l.map Prod.fst) k) ++ (k, v) :: l.drop (Pa.findN (l.map Prod.fst) k + 1) else l.take (Pa.findN (l.map Prod.fst) k) ++ (k, v) :: l.drop (Pa.findN (l.map Prod.fst) k)
  | [] => rfl
  | (a, b) :: r => by
    have ih := ins_find r
    by_cases hb : Op.bytesLess a.toList k.toList = true
    · have e1 : Pa.findN (((a, b) :: r).map Prod.fst) k = Pa.findN (r.map Prod.fst) k + 1 := by show (if _ then _ else _) = _; rw [if_pos hb]
      have e2 : Pa.findIs (((a, b) :: r).map Prod.fst) k = Pa.findIs (r.map Prod.fst) k := by unfold Pa.findIs; rw [e1]; rfl
      rw [Bt.ins_lt (show kl a k = true from hb), ih, e1, e2]
      split <;> rfl
    · have hb' : Op.bytesLess a.toList k.toList = false := by simpa using hb
      have e1 : Pa.findN (((a, b) :: r).map Prod.fst) k = 0 := by show (if _ then _ else _) = _; rw [if_neg hb]
      have e2 : Pa.findIs (((a, b) :: r).map Prod.fst) k = (a.toList == k.toList) := by unfold Pa.findIs; rw [e1]; rfl
      rw [e1, e2]
      rcases Pa.less_else _ _ hb' with h3 | h3
      · have e4 : (a.toList == k.toList) = false := by
          have := (Pa.less_flip _ _ h3).2
          simpa using this
        rw [Bt.ins_gt (show kl a k = false from hb') h3, e4]
        rfl
      · have e : k = a := Pa.toList_inj h3
        subst e
        rw [Bt.ins_eq (ordK.irr k) (ordK.irr k)]
        simp
theorem del_find : ∀ (l : Prs), Bt.del kl k l = if Pa.findIs (l.map Prod.fst) k then l.take (Pa.findN (l.map Prod.fst) k) ++ l.drop (Pa.findN (l.map Prod.fst) k + 1) else l
  | [] => rfl
  | (a, b) :: r => by
    have ih := del_find r
    by_cases hb : Op.bytesLess a.toList k.toList = true
    · have e1 : Pa.findN (((a, b) :: r).map Prod.fst) k = Pa.findN (r.map Prod.fst) k + 1 := by show (if _ then _ else _) = _; rw [if_pos hb]
      have e2 : Pa.findIs (((a, b) :: r).map Prod.fst) k = Pa.findIs (r.map Prod.fst) k := by unfold Pa.findIs; rw [e1]; rfl
      rw [Bt.del_lt (show kl a k = true from hb), ih, e1, e2]
      split <;> rfl
    · have hb' : Op.bytesLess a.toList k.toList = false := by simpa using hb
      have e1 : Pa.findN (((a, b) :: r).map Prod.fst) k = 0 := by show (if _ then _ else _) = _; rw [if_neg hb]
      have e2 : Pa.findIs (((a, b) :: r).map Prod.fst) k = (a.toList == k.toList) := by unfold Pa.findIs; rw [e1]; rfl
      rw [e1, e2]
      rcases Pa.less_else _ _ hb' with h3 | h3
      · have e4 : (a.toList == k.toList) = false := by
          have := (Pa.less_flip _ _ h3).2
          simpa using this
        rw [Bt.del_gt (show kl a k = false from hb') h3, e4]
        rfl
      · have e : k = a := Pa.toList_inj h3
        subst e
        rw [Bt.del_eq (ordK.irr k) (ordK.irr k)]
        simp
theorem look_find : ∀ (l : Prs), Bt.look kl k l = if Pa.findIs (l.map Prod.fst) k then (l[Pa.findN (l.map Prod.fst) k]?).map Prod.snd else none
  | [] => rfl
  | (a, b) :: r => by
    have ih := look_find r
    by_cases hb : Op.bytesLess a.toList k.toList = true
    · have e1 : Pa.findN (((a, b) :: r).map Prod.fst) k = Pa.findN (r.map Prod.fst) k + 1 := by show (if _ then _ else _) = _; rw [if_pos hb]
      have e2 : Pa.findIs (((a, b) :: r).map Prod.fst) k = Pa.findIs (r.map Prod.fst) k := by unfold Pa.findIs; rw [e1]; rfl
      have e3 : Bt.look kl k ((a, b) :: r) = Bt.look kl k r := if_pos (show kl a k = true from hb)
      rw [e3, ih, e1, e2]
      rfl
    · have hb' : Op.bytesLess a.toList k.toList = false := by simpa using hb
      have e1 : Pa.findN (((a, b) :: r).map Prod.fst) k = 0 := by show (if _ then _ else _) = _; rw [if_neg hb]
      have e2 : Pa.findIs (((a, b) :: r).map Prod.fst) k = (a.toList == k.toList) := by unfold Pa.findIs; rw [e1]; rfl
      have e3 : Bt.look kl k ((a, b) :: r) = if kl k a then none else some b := if_neg (by rw [show kl a k = false from hb']; decide)
      rw [e3, e1, e2]
      rcases Pa.less_else _ _ hb' with h3 | h3
      · have e4 : (a.toList == k.toList) = false := by
          have := (Pa.less_flip _ _ h3).2
          simpa using this
        rw [if_pos (show kl k a = true from h3), e4]
        rfl
      · have e : k = a := Pa.toList_inj h3
        subst e
        rw [ordK.irr]
        simp
end
/-- Where a key that is there stands. -/
theorem find_at {ks : List ByteArray} {k : ByteArray} (h : Pa.findIs ks k = true) : Pa.findN ks k < ks.length ∧ ks[Pa.findN ks k]? = some k := by
  unfold Pa.findIs at h
  split at h
  · rename_i a ha
    have e : a = k := Pa.toList_inj (by simpa using h)
    exact ⟨(List.getElem?_eq_some_iff.1 ha).1, by rw [ha, e]⟩
  · cases h
theorem leaf_ins (l : Prs) (k v : ByteArray) : leafP (leafPg l) k v = leafPg (Bt.ins kl k v l) := by
  have e := ins_find k v l
  unfold leafP
  show (if Pa.findIs (l.map Prod.fst) k then _ else _) = _
  rw [e]
  cases h : Pa.findIs (l.map Prod.fst) k with
  | true =>
    obtain ⟨h1, h2⟩ := find_at h
    rw [if_pos rfl, if_pos rfl]
    unfold leafPg
    simp only [List.map_append, List.map_cons, List.map_take, List.map_drop]
    have hk : (l.map Prod.fst).take (Pa.findN (l.map Prod.fst) k) ++ k :: (l.map Prod.fst).drop (Pa.findN (l.map Prod.fst) k + 1) = l.map Prod.fst := (Bt.part_at _ _ _ h2).symm
    have hv : (l.map Prod.snd).set (Pa.findN (l.map Prod.fst) k) v = (l.map Prod.snd).take (Pa.findN (l.map Prod.fst) k) ++ v :: (l.map Prod.snd).drop (Pa.findN (l.map Prod.fst) k + 1) := by
      rw [List.set_eq_take_append_cons_drop, if_pos (by rw [List.length_map]; rw [List.length_map] at h1; exact h1)]
    rw [hk, hv]
  | false =>
    rw [if_neg (by decide), if_neg (by decide)]
    unfold leafPg
    simp only [List.map_append, List.map_cons, List.map_take, List.map_drop, List.append_assoc, List.singleton_append]
theorem leaf_del (l : Prs) (k : ByteArray) : leafD (leafPg l) k = leafPg (Bt.del kl k l) := by
  have e := del_find k l
  unfold leafD
  show (if Pa.findIs (l.map Prod.fst) k then _ else _) = _
  rw [e]
  cases h : Pa.findIs (l.map Prod.fst) k with
  | true =>
    rw [if_pos rfl, if_pos rfl]
    unfold leafPg
    simp only [List.map_append, List.map_take, List.map_drop]
  | false =>
    rw [if_neg (by decide), if_neg (by decide)]
/-- Places of trees. -/
def Pls (recs : List (Nat × ByteArray)) (d : Nat) (is : List Int) (ts : List (Tr d)) : Prop := is.length = ts.length ∧ ∀ (k : Nat) (a : Int) (t : Tr d), is[k]? = some a → ts[k]? = some t → (0 ≤ a ∧ a ≤ 2147483647) ∧ ∃ q, PageAt recs a q ∧ Is recs d t q
theorem Pls.ext {l m : List (Nat × ByteArray)} (e : Ext l m) {d : Nat} {is : List Int} {ts : List (Tr d)} (h : Pls l d is ts) : Pls m d is ts := ⟨h.1, fun k a t ha ht => by
  obtain ⟨q1, q, q2, q3⟩ := h.2 k a t ha ht
  exact ⟨q1, q, q2.ext e, Is.ext e d q3⟩⟩
theorem Pls.take {r : List (Nat × ByteArray)} {d : Nat} {is : List Int} {ts : List (Tr d)} (h : Pls r d is ts) (n : Nat) : Pls r d (is.take n) (ts.take n) := ⟨by rw [List.length_take, List.length_take, h.1], fun k a t ha ht => by
  rw [List.getElem?_take] at ha ht
  split at ha
  · rename_i hk
    rw [if_pos hk] at ht
    exact h.2 k a t ha ht
  · cases ha⟩
theorem Pls.drop {r : List (Nat × ByteArray)} {d : Nat} {is : List Int} {ts : List (Tr d)} (h : Pls r d is ts) (n : Nat) : Pls r d (is.drop n) (ts.drop n) := ⟨by rw [List.length_drop, List.length_drop, h.1], fun k a t ha ht => by
  rw [List.getElem?_drop] at ha ht
  exact h.2 _ a t ha ht⟩
theorem Pls.append {r : List (Nat × ByteArray)} {d : Nat} {is js : List Int} {ts us : List (Tr d)} (h : Pls r d is ts) (g : Pls r d js us) : Pls r d (is ++ js) (ts ++ us) := ⟨by rw [List.length_append, List.length_append, h.1, g.1], fun k a t ha ht => by
  by_cases hk : k < is.length
  · rw [List.getElem?_append_left hk] at ha
    rw [List.getElem?_append_left (by rw [← h.1]; exact hk)] at ht
    exact h.2 k a t ha ht
  · rw [List.getElem?_append_right (by omega)] at ha
    rw [List.getElem?_append_right (by rw [← h.1]; omega), ← h.1] at ht
    exact g.2 _ a t ha ht⟩
theorem Pls.one {r : List (Nat × ByteArray)} {d : Nat} {a : Int} {t : Tr d} {q : Pa.Pg} (h1 : 0 ≤ a) (h2 : a ≤ 2147483647) (h3 : PageAt r a q) (h4 : Is r d t q) : Pls r d [a] [t] := ⟨rfl, fun k b u ha ht => by
  match k, ha, ht with
  | 0, ha, ht =>
    obtain rfl : a = b := by simpa using ha
    obtain rfl : t = u := by simpa using ht
    exact ⟨⟨h1, h2⟩, q, h3, h4⟩
  | k + 1, ha, _ => simp at ha⟩
theorem is_node {r : List (Nat × ByteArray)} {d : Nat} {ks : List ByteArray} {ts : List (Tr d)} {is : List Int} (h : Pls r d is ts) : Is r (d + 1) ((ks, ts) : Tr (d + 1)) ⟨false, ks, [], is⟩ := ⟨is, rfl, h.1, h.2⟩
theorem node_is {r : List (Nat × ByteArray)} {d : Nat} {ks : List ByteArray} {ts : List (Tr d)} {p : Pa.Pg} (h : Is r (d + 1) ((ks, ts) : Tr (d + 1)) p) : ∃ is, p = ⟨false, ks, [], is⟩ ∧ Pls r d is ts := by
  obtain ⟨is, h1, h2, h3⟩ := h
  exact ⟨is, h1, h2, h3⟩
theorem cut_some {d : Nat} {ks : List ByteArray} {ts : List (Tr d)} {a b : Tr (d + 1)} {m : ByteArray} (hc : Bt.cut (d + 1) ((ks, ts) : Tr (d + 1)) = some (a, m, b)) : a = (ks.take (ks.length / 2), ts.take (ks.length / 2 + 1)) ∧ ks[ks.length / 2]? = some m ∧ b = (ks.drop (ks.length / 2 + 1), ts.drop (ks.length / 2 + 1)) := by
  by_cases h : ks.length / 2 < ks.length
  · rw [Bt.cut_node d ks ts h] at hc
    injection hc with hc
    injection hc with e1 e2
    injection e2 with e2 e3
    exact ⟨e1.symm, by rw [List.getElem?_eq_getElem h, e2], e3.symm⟩
  · unfold Bt.cut at hc
    simp only [List.getElem?_eq_none (Nat.le_of_not_lt h)] at hc
    cases hc
theorem cut_some0 {l : Prs} {a b : Prs} {m : ByteArray} (hc : Bt.cut (K := ByteArray) (V := ByteArray) 0 l = some (a, m, b)) : a = l.take (l.length / 2) ∧ (l[l.length / 2]?).map Prod.fst = some m ∧ b = l.drop (l.length / 2) := by
  by_cases h : l.length / 2 < l.length
  · rw [Bt.cut_leaf l h] at hc
    injection hc with hc
    injection hc with e1 e2
    injection e2 with e2 e3
    exact ⟨e1.symm, by rw [List.getElem?_eq_getElem h, ← e2]; rfl, e3.symm⟩
  · unfold Bt.cut at hc
    simp only [List.getElem?_eq_none (Nat.le_of_not_lt h)] at hc
    cases hc
theorem cut_leafPg {l a b : Prs} {m : ByteArray} (hc : Bt.cut (K := ByteArray) (V := ByteArray) 0 l = some (a, m, b)) : cutA (leafPg l) = leafPg a ∧ cutK (leafPg l) = m ∧ cutB (leafPg l) = leafPg b := by
  obtain ⟨rfl, h2, rfl⟩ := cut_some0 hc
  have hk : (leafPg l).keys.length = l.length := by simp [leafPg]
  refine ⟨?_, ?_, ?_⟩
  · show Pa.Pg.mk true ((l.map Prod.fst).take ((leafPg l).keys.length / 2)) ((l.map Prod.snd).take ((leafPg l).keys.length / 2)) [] = _
    rw [hk]
    simp [leafPg, List.map_take]
  · unfold cutK
    rw [hk, List.getD_eq_getElem?_getD]
    show ((l.map Prod.fst)[l.length / 2]?).getD _ = m
    rw [List.getElem?_map, h2]
    rfl
  · show Pa.Pg.mk true ((l.map Prod.fst).drop ((leafPg l).keys.length / 2)) ((l.map Prod.snd).drop ((leafPg l).keys.length / 2)) [] = _
    rw [hk]
    simp [leafPg, List.map_drop]
/-- The halves. -/
theorem cut_is (r : List (Nat × ByteArray)) : ∀ (d : Nat) {t a b : Tr d} {m : ByteArray} {p : Pa.Pg}, Bt.cut d t = some (a, m, b) → Is r d t p → Is r d a (cutA p) ∧ cutK p = m ∧ Is r d b (cutB p)
  | 0, l, a, b, m, p, hc, hp => by
    have hp' : p = leafPg l := hp
    subst hp'
    exact cut_leafPg hc
  | d + 1, (ks, ts), a, b, m, p, hc, hp => by
    obtain ⟨is, rfl, hP⟩ := node_is hp
    obtain ⟨rfl, hx, rfl⟩ := cut_some hc
    refine ⟨is_node (hP.take _), ?_, is_node (hP.drop _)⟩
    unfold cutK
    show ks.getD (ks.length / 2) _ = _
    rw [List.getD_eq_getElem?_getD, hx]
    rfl
theorem joined_leafPg (a b : Prs) (m : ByteArray) : joinP (leafPg a) m (leafPg b) = leafPg (a ++ b) := by
  unfold joinP leafPg
  simp
/-- Two in one. -/
theorem joined_is (r : List (Nat × ByteArray)) : ∀ (d : Nat) {a b : Tr d} {m : ByteArray} {p q : Pa.Pg}, Is r d a p → Is r d b q → Is r d (Bt.joined d a m b) (joinP p m q)
  | 0, a, b, m, p, q, hp, hq => by
    have hp' : p = leafPg a := hp
    have hq' : q = leafPg b := hq
    subst hp'
    subst hq'
    exact joined_leafPg a b m
  | d + 1, (ks, ts), (ls, us), m, p, q, hp, hq => by
    obtain ⟨is, rfl, hP⟩ := node_is hp
    obtain ⟨js, rfl, hQ⟩ := node_is hq
    have e : joinP ⟨false, ks, [], is⟩ m ⟨false, ls, [], js⟩ = ⟨false, ks ++ m :: ls, [], is ++ js⟩ := by
      unfold joinP
      simp
    rw [e]
    exact is_node (hP.append hQ)
/-- Others in the place of some kids. -/
theorem swap_is {r r' : List (Nat × ByteArray)} (e : Ext r r') {d : Nat} {ks : List ByteArray} {ts : List (Tr d)} {t : Tr d} {p : Pa.Pg} {is : List Int} (i j : Nat) (hp : Is r (d + 1) ((ks, ts) : Tr (d + 1)) p) (h : Pls r' d is (Bt.lay d t).2) : Is r' (d + 1) (Bt.swap d ks ts i j t) (swapP p i j (Bt.lay d t).1 is) := by
  obtain ⟨js, rfl, hP⟩ := node_is hp
  exact is_node (((hP.take i).ext e |>.append h).append ((hP.drop (j + 1)).ext e))
end Go.Proofs.YtbhmmcelndmijaaGreat
namespace Go.Proofs.YtbhmmcelndmijaaGreat
open Go.RowKit Go.Maps
theorem is_nk (r : List (Nat × ByteArray)) : ∀ (d : Nat) {t : Tr d} {p : Pa.Pg}, Is r d t p → p.keys.length = Bt.nk d t
  | 0, l, p, h => by
    have h' : p = leafPg l := h
    subst h'
    show (List.map Prod.fst (show Prs from l)).length = List.length (show Prs from l)
    rw [List.length_map]
  | d + 1, (ks, ts), p, h => by
    obtain ⟨is, rfl, _⟩ := node_is h
    rfl
theorem is_shape (r : List (Nat × ByteArray)) : ∀ (d : Nat) {lo hi : Option ByteArray} {t : Tr d} {p : Pa.Pg}, Bt.Good kl d lo hi t → Is r d t p → if p.leaf then p.vals.length = p.keys.length else p.kids.length = p.keys.length + 1
  | 0, _, _, l, p, _, h => by
    have h' : p = leafPg l := h
    subst h'
    show (List.map Prod.snd (show Prs from l)).length = (List.map Prod.fst (show Prs from l)).length
    rw [List.length_map, List.length_map]
  | d + 1, _, _, (ks, ts), p, hg, h => by
    obtain ⟨is, rfl, hP⟩ := node_is h
    show is.length = ks.length + 1
    rw [hP.1, Bt.GL.len kl hg]
theorem is_leaf (r : List (Nat × ByteArray)) : ∀ (d : Nat) {t : Tr d} {p : Pa.Pg}, Is r d t p → p.leaf = decide (d = 0)
  | 0, l, p, h => by
    have h' : p = leafPg l := h
    subst h'
    rfl
  | d + 1, (ks, ts), p, h => by
    obtain ⟨is, rfl, hP⟩ := node_is h
    simp
theorem cut_good (d : Nat) {lo hi : Option ByteArray} (t : Tr d) (h : Bt.Good kl d lo hi t) (h8 : ¬ Bt.nk d t ≤ 8) (h16 : Bt.nk d t ≤ 16) : ∃ a m b, Bt.cut d t = some (a, m, b) ∧ (Bt.Good kl d lo (some m) a ∧ 4 ≤ Bt.nk d a ∧ Bt.nk d a ≤ 8) ∧ (Bt.Good kl d (some m) hi b ∧ 4 ≤ Bt.nk d b ∧ Bt.nk d b ≤ 8) := by
  match d, t, h, h8, h16 with
  | 0, l, h, h8, h16 =>
    obtain ⟨a, m, b, hc, q, _⟩ := Bt.lay_leaf ordK l h h8 h16
    exact ⟨a, m, b, hc, q.2.2.1, q.2.2.2⟩
  | d + 1, (ks, ts), h, h8, h16 =>
    obtain ⟨a, m, b, hc, q, _⟩ := Bt.lay_node ordK d ks ts h h8 h16
    exact ⟨a, m, b, hc, q.2.2.1, q.2.2.2⟩
theorem may_fits {p : Pa.Pg} (h : Pa.mayP p = true) : p.fits := by
  unfold Pa.mayP at h
  rw [Bool.and_eq_true] at h
  obtain ⟨hk, hr⟩ := h
  unfold Pa.mayK at hk
  simp only [Bool.and_eq_true, Bool.not_eq_true', decide_eq_false_iff_not] at hk
  obtain ⟨h8, _⟩ := hk
  unfold Pa.restB at hr
  cases hl : p.leaf with
  | true =>
    rw [hl, if_pos rfl] at hr
    simp only [Bool.and_eq_true, decide_eq_true_eq, Bool.not_eq_true'] at hr
    obtain ⟨a1, a2, a3⟩ := hr
    exact ⟨by omega, by omega, by omega⟩
  | false =>
    rw [hl, if_neg (by decide)] at hr
    simp only [Bool.and_eq_true, decide_eq_true_eq, Bool.not_eq_true'] at hr
    obtain ⟨a1, a2, a3, a4⟩ := hr
    exact ⟨by omega, by omega, by omega⟩
theorem lay_tree (base bp b lb : Nat) (g : Lg) (root : Int) (d : Nat) {lo hi : Option ByteArray} (t : Tr d) (p : Pa.Pg) (ok : LgOk g) (rm : LgRoom 2 g) (hG : Bt.Good kl d lo hi t) (hA : Bt.AllK KeyOk ValOk d t) (hp : Is g.recs d t p) (h1 : d = 0 ∨ 1 ≤ Bt.nk d t) (h16 : Bt.nk d t ≤ 16) :
    ∃ g2 is, LgStep 2 g g2 ∧ Pls g2.recs d is (Bt.lay d t).2 ∧ ∀ W v, IsTree W b lb root → IsLog W base lb g → Pa.PgO W bp v p → Calls Tryz.prog 49 #[.pointer (some ⟨b, 0, none⟩), v] W (LayPost W base lb g2 (Bt.lay d t).1 is) := by
  have r1 := rm.cnt
  have r2 := rm.siz
  have r3 := ok.len
  have hnk := is_nk _ d hp
  by_cases h8 : Bt.nk d t ≤ 8
  · have hm := may_good _ d hG hA h8 h1 hp
    obtain ⟨s1, s2⟩ := add_step ok hm
    rw [Bt.lay_small d t h8]
    refine ⟨addG g p, [((g.len + g.wait.size : Nat) : Int)], s1.mono (by omega), Pls.one (by omega) (by omega) s2 (Is.ext s1.ext d hp), fun W v hT hL hv => ?_⟩
    exact lay_one base b lb g root p v W hT hL (by omega) (by omega) (by omega) (pgT_owns hv) (may_fits hm) hm (by have := enc_len hm; omega) (by omega)
  · obtain ⟨a, m, c, hc, ⟨a1, a2, a3⟩, b1, b2, b3⟩ := cut_good d t hG h8 h16
    obtain ⟨c1, c2, c3⟩ := cut_is g.recs d hc hp
    obtain ⟨e1, e2, e3⟩ := Bt.cut_all d hA hc
    have hmA := may_good _ d a1 e1 a3 (Or.inr (by omega)) c1
    obtain ⟨s1, s2⟩ := add_step ok hmA
    have hmB := may_good _ d b1 e3 b3 (Or.inr (by omega)) c3
    obtain ⟨s3, s4⟩ := add_step s1.ok hmB
    have hs1 := s1.siz
    have hs2 := s1.len
    rw [Bt.lay_cut d t a c m h8 hc, ← c2]
    refine ⟨addG (addG g (cutA p)) (cutB p), [((g.len + g.wait.size : Nat) : Int)] ++ [((g.len + (addG g (cutA p)).wait.size : Nat) : Int)], s1.trans s3, Pls.append (Pls.one (by omega) (by omega) (s2.ext s3.ext) (Is.ext (s1.ext.trans s3.ext) d c1)) (Pls.one (by omega) (by omega) (by have := s4; rw [hs2] at this; exact this) (Is.ext (s1.ext.trans s3.ext) d c3)), fun W v hT hL hv => ?_⟩
    exact lay_two base bp b lb g root p v W hT hL (by omega) (by omega) (by omega) (by omega) hv (is_shape _ d hG hp) (by omega) (by omega) (may_fits hmA) hmA (by have := enc_len hmA; omega) (may_fits hmB) hmB (by have := enc_len hmB; omega)
/-- leafWith, whether the key is there or not. -/
theorem leafWith_any (base : Nat) (v : Value) (l : Prs) (k x : ByteArray) (w : World) (h : Pa.PgO w base v (leafPg l)) (hn : l.length ≤ 1000) (hb : base ≤ w.heap.size) :
    Calls Tryz.prog 51 #[v, .string k, .string x] w fun e w' => ∃ v', e = .returned v' ∧ Pa.PgO w' base v' (leafPg (Bt.ins kl k x l)) ∧ PT base w w' := by
  rw [← leaf_ins]
  have hl : (leafPg l).vals.length = (leafPg l).keys.length := by simp [leafPg]
  have hk : (leafPg l).keys.length ≤ 1000 := by simpa [leafPg] using hn
  cases hi : Pa.findIs (leafPg l).keys k with
  | true => exact leafWith_is base v (leafPg l) k x w h hl hk (by simp [leafPg]) hi (find_at hi).1
  | false => exact leafWith_no base v (leafPg l) k x w h hl hk (by simp [leafPg]) hi hb
end Go.Proofs.YtbhmmcelndmijaaGreat
namespace Go.Proofs.YtbhmmcelndmijaaGreat
open Go.RowKit Go.Maps
set_option maxRecDepth 100000 in
set_option maxHeartbeats 2000000 in
theorem plant_by (base b lb : Nat) (g2 g3 : Lg) (root : Int) (k : ByteArray) (a1 a2 : Nat) (at_ : Nat) (v : Value) (p : Pa.Pg) (w : World) (hT : IsTree w b lb root) (g : Lg) (hL : IsLog w base lb g) (hv : PgT w v p) (h0 : 0 < p.keys.length)
    (h1 : ∀ W, w.grownBy W none → Calls Tryz.prog 49 #[.pointer (some ⟨b, 0, none⟩), v] W (LayPost W base lb g2 [k] [a1, a2]))
    (h2 : ∀ W u, IsTree W b lb root → IsLog W base lb g2 → PgT W u ⟨false, [k], [], [a1, a2]⟩ → Calls Tryz.prog 49 #[.pointer (some ⟨b, 0, none⟩), u] W (LayPost W base lb g3 [] [at_])) :
    Calls Tryz.prog 29 #[.pointer (some ⟨b, 0, none⟩), v] w fun e w' => e = .returned (.int .i64 0) ∧ IsTree w' b lb at_ ∧ IsLog w' base lb g3 ∧ TT base lb b w w' := by
  have C1 := hid h1
  have C2 := hid h2
  obtain ⟨va, vb, vc, rfl, ⟨p1, k1, _, _, rfl, -⟩, ⟨p2, k2, _, _, rfl, -⟩, ⟨p3, k3, _, _, rfl, -⟩⟩ := hv
  have i0 : (0 : Int) < p.keys.length := by omega
  have G0 : Hid (w.grownBy (w.alloc (.cells #[.bool p.leaf, .slice p1 p.keys.length k1, .slice p2 p.vals.length k2, .slice p3 p.kids.length k3] 70)) none) := grown_alloc (grown_refl w none) _
  have X0 := hid (Blk.new w 70 #[.bool p.leaf, .slice p1 p.keys.length k1, .slice p2 p.vals.length k2, .slice p3 p.kids.length k3])
  have HT := hid (hT.kept G0.out)
  have HL := hid (hL.kept G0.out)
  have hb := Blk.lt hT
  have n1 : ¬ w.heap.size = b := by omega
  have n2 : ¬ b = w.heap.size := by omega
  clear hT hL h0 h1 h2
  go_enter Tryz.func29, Tryz.ntmps29
  go_wp2_with fail
  refine wp_loop_rounds 3 ?_
  rw [rounds_succ]
  generalize hK : Code.rounds Tryz.prog _ _ 2 = K2
  have HK := hid hK
  clear hK
  go_wp2_with (first
    | (go_at_call 49; refine (C1.out _ G0.out).mono ?_; rintro e w2 ⟨vk, vi, rfl, ok, oi, l2, t2⟩; have OK := hid ok; have OI := hid oi; have LI := hid l2; have TI := hid (TT.trans (TT.of_lt (b := b) (LT.of_none G0.out)) (TT.of_lt t2)); have X2 := hid (t2.blk X0.out (by decide) (HL.out.ne X0.out (by decide))); have H2 := hid (HT.out.lt HL.out t2); obtain ⟨pk, ck, rfl⟩ := Pa.owns_slice ok; obtain ⟨pi, ci, rfl⟩ := Pa.owns_slice oi; clear ok oi l2 t2 C1)
    | (refine Pa.q_is_store 70 (.tmp 3) (.tmp 24) rfl ?_; refine Pa.store_pg 70 Pa.size25 w.heap.size X2.out _ _ rfl rfl rfl rfl ?_; intro w3 hb3 hg3; have X3 := hid hb3; have G3 := hid hg3; clear hb3 hg3))
  have H3 : Hid (IsTree w3 b lb root) := hid (Blk.kept H2.out G3.out (fun e => n2 (Option.some.inj e)))
  have K3 := hid (rowG_kept OK.out X2.out (by decide) G3.out)
  have I3 := hid (rowG_kept OI.out X2.out (by decide) G3.out)
  have L3 := hid (LI.out.keptB X2.out (by decide) G3.out)
  have T3 := hid (TI.out.of_new G3.out (Or.inl (Nat.le_refl _)))
  have PT3 : Hid (PgT w3 (.agg #[.bool false, .slice pk 1 ck, .slice none 0 0, .slice pi 2 ci]) ⟨false, [k], [], [a1, a2]⟩) := ⟨_, _, _, rfl, rowT_owns K3.out, rowT_nil, rowT_owns I3.out⟩
  have C3 := hid (C2.out w3 _ H3.out L3.out PT3.out)
  clear HT HL X0 G0 LI TI H2 OK OI C2 G3 X2 K3 I3 i0
  rw [← HK.out, rounds_succ]
  clear HK
  generalize hK : Code.rounds Tryz.prog _ _ 1 = K1
  have HK := hid hK
  clear hK
  have x0 := X3.out.cell 0
  have x1 := X3.out.cell 1
  have x2 := X3.out.cell 2
  have x3 := X3.out.cell 3
  simp at x0 x1 x2 x3
  have hx3 := Blk.lt X3.out
  go_wp2_with (first
    | (go_at_call 49; refine C3.out.mono ?_; rintro e w4 ⟨vk, vi, rfl, ok, oi, l2, t2⟩; have L4 := hid l2; have T4 := hid (TT.trans T3.out (TT.of_lt t2)); have X4 := hid (t2.blk X3.out (by decide) (L3.out.ne X3.out (by decide))); have H4 := hid (H3.out.lt L3.out t2); obtain ⟨pk', ck', rfl⟩ := Pa.owns_slice ok; obtain ⟨gi, ci', cur, rfl, jb, hB, hx⟩ := int_row_one oi; have BI := hid hB; have XI := hid hx; have JB := hid jb; clear jb hB hx ok oi l2 t2 C3)
    | (refine Pa.q_is_store 70 (.tmp 3) (.tmp 24) rfl ?_; refine Pa.store_pg 70 Pa.size25 w.heap.size X4.out _ _ rfl rfl rfl rfl ?_; intro w5 hb5 hg5; have X5 := hid hb5; have G5 := hid hg5; clear hb5 hg5))
  rw [← HK.out, rounds_succ]
  have jb := JB.out
  have H5 : Hid (IsTree w5 b lb root) := hid (Blk.kept H4.out G5.out (fun e => n2 (Option.some.inj e)))
  have I5 := hid (BI.out.kept G5.out (fun e => by have := Option.some.inj e; omega))
  have L5 := hid (L4.out.keptB X4.out (by decide) G5.out)
  clear x0 x1 x2 x3
  have t0 := H5.out.cell 0
  have t1 := H5.out.cell 1
  have z1 := H5.out.frozen 1
  have x0 := X5.out.cell 0
  have x1 := X5.out.cell 1
  have x3 := X5.out.cell 3
  simp at t0 t1 x0 x1 x3
  have y0 : w5.cell? ⟨gi, 0, none⟩ = some (.int .i64 at_) := (I5.out.cell 0).trans XI.out
  have n3 : ¬ gi = b := by have := T3.out.size; omega
  clear HK
  go_wp2_with fail
  go_ret
  have q := (H5.out.set 1 (.int .i64 (-1))).set 1 (.int .i64 at_)
  simp at q
  have gg : w5.grownBy ((w5.setCell ⟨b, 1, none⟩ (.int .i64 (-1))).setCell ⟨b, 1, none⟩ (.int .i64 at_)) (some b) := grown_set (grown_set (grown_refl _ _) 1 _) 1 _
  exact ⟨rfl, q, L5.out.keptB H5.out (by decide) gg, ((T4.out.of_new G5.out (Or.inl (Nat.le_refl _))).of_new gg (Or.inr rfl))⟩
end Go.Proofs.YtbhmmcelndmijaaGreat
namespace Go.Proofs.YtbhmmcelndmijaaGreat
open Go.RowKit Go.Maps
set_option maxRecDepth 100000 in
set_option maxHeartbeats 2000000 in
theorem plant_kid (b lb : Nat) (root a : Int) (v : Value) (w : World) (hT : IsTree w b lb root) (hv : PgT w v ⟨false, [], [], [a]⟩) :
    Calls Tryz.prog 29 #[.pointer (some ⟨b, 0, none⟩), v] w fun e w' => e = .returned (.int .i64 0) ∧ IsTree w' b lb a ∧ w.grownBy w' (some b) := by
  obtain ⟨va, vb, vc, rfl, ⟨p1, k1, _, _, rfl, -⟩, ⟨p2, k2, _, _, rfl, -⟩, ⟨p3, k3, gi, o, rfl, hk⟩⟩ := hv
  obtain ⟨rfl, cur, hB, hc⟩ := hk (by simp)
  have y : cur[o]? = some (.int .i64 a) := hc 0 (by simp)
  have hg := Blk.lt hB
  have n3 : ¬ gi = b := by
    rintro rfl
    have e1 : w.heap[gi]? = some (.cells cur 3 (0, 0)) := hB
    have e2 : w.heap[gi]? = some (.cells #[.pointer (some ⟨lb, 0, none⟩), .int .i64 root] 68 (0, 0)) := hT
    rw [e1] at e2
    injection e2 with e2
    injection e2 with _ e3 _
    exact absurd e3 (by decide)
  have hb := Blk.lt hT
  have n1 : ¬ w.heap.size = b := by omega
  have n2 : ¬ b = w.heap.size := by omega
  have n4 : ¬ gi = w.heap.size := by omega
  have G0 : Hid (w.grownBy (w.alloc (.cells #[.bool false, .slice p1 0 k1, .slice p2 0 k2, .slice (some ⟨gi, o, none⟩) 1 k3] 70)) none) := grown_alloc (grown_refl _ _) _
  have X0 := hid (Blk.new w 70 #[.bool false, .slice p1 0 k1, .slice p2 0 k2, .slice (some ⟨gi, o, none⟩) 1 k3])
  have HT := hid (hT.kept G0.out)
  have y0 := ((hB.kept G0.out (by simp)).cell o).trans y
  clear hT hk hc y hB
  go_enter Tryz.func29, Tryz.ntmps29
  go_wp2_with fail
  generalize (w.alloc (.cells #[.bool false, .slice p1 0 k1, .slice p2 0 k2, .slice (some ⟨gi, o, none⟩) 1 k3] 70)) = w1 at *
  have t0 := Blk.cell HT.out 0
  have t1 := Blk.cell HT.out 1
  have z1 := Blk.frozen HT.out 1
  have x0 := X0.out.cell 0
  have x1 := X0.out.cell 1
  have x3 := X0.out.cell 3
  simp at t0 t1 x0 x1 x3
  refine wp_loop_rounds 1 ?_
  rw [rounds_succ]
  go_wp2_with fail
  go_ret
  have q := (HT.out.set 1 (.int .i64 (-1))).set 1 (.int .i64 a)
  simp at q
  exact ⟨rfl, q, grown_set (grown_set (grown_none (grown_refl w (some b)) G0.out) 1 _) 1 _⟩
end Go.Proofs.YtbhmmcelndmijaaGreat
