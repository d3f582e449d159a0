/-
  Trees that are laid in a log, as values: which page is whose, and what may be laid. Trees that are laid in a log: a page more; which pages may be laid; leaves; halves.
-/
import Derived.Test.YtbhmmcelndmijaaGreatBt2
import Derived.Test.YtbhmmcelndmijaaGreatKSw
import Derived.Test.YtbhmmcelndmijaaGreatKJo
import Derived.Test.YtbhmmcelndmijaaGreatKPEncDec
namespace Go.Proofs.YtbhmmcelndmijaaGreat
/-- The order of keys: their bytes'. -/
def kl (a b : ByteArray) : Bool := Op.bytesLess a.toList b.toList
theorem less_trans : ∀ (a b c : List UInt8), Op.bytesLess a b = true → Op.bytesLess b c = true → Op.bytesLess a c = true
  | [], [], _, h, _ => by simp [Op.bytesLess] at h
  | [], _ :: _, [], _, h => by simp [Op.bytesLess] at h
  | [], _ :: _, _ :: _, _, _ => by simp [Op.bytesLess]
  | _ :: _, [], _, h, _ => by simp [Op.bytesLess] at h
  | _ :: _, _ :: _, [], _, h => by simp [Op.bytesLess] at h
  | x :: a, y :: b, z :: c, h, k => by
    have ih := less_trans a b c
    simp only [Op.bytesLess, Bool.or_eq_true, decide_eq_true_eq, Bool.and_eq_true, beq_iff_eq] at h k ⊢
    rcases h with h | ⟨rfl, h⟩
    · rcases k with k | ⟨rfl, k⟩
      · left
        rw [UInt8.lt_iff_toNat_lt] at h k ⊢
        omega
      · left; exact h
    · rcases k with k | ⟨rfl, k⟩
      · left; exact k
      · right; exact ⟨rfl, ih h k⟩
theorem ordK : Bt.Ord kl where
  irr a := by
    cases h : kl a a with
    | false => rfl
    | true => exact absurd rfl (Pa.less_flip _ _ h).2
  tr _ _ _ h1 h2 := less_trans _ _ _ h1 h2
  eq a b h1 h2 := by
    rcases Pa.less_else _ _ h1 with h | h
    · have h2' : Op.bytesLess b.toList a.toList = false := h2
      rw [h] at h2'
      cases h2'
    · exact (Pa.toList_inj h).symm
def KeyOk (k : ByteArray) : Prop := k.size ≤ 64 ∧ k.toList ≠ []
def ValOk (v : ByteArray) : Prop := v.size ≤ 8192
abbrev Tr := Bt.T ByteArray ByteArray
/-- A page is the top of a tree whose other pages are in the log. -/
def Is (recs : List (Nat × ByteArray)) : (d : Nat) → Tr d → Pa.Pg → Prop
  | 0, l, p => p = ⟨true, (show List (ByteArray × ByteArray) from l).map Prod.fst, (show List (ByteArray × ByteArray) from l).map Prod.snd, []⟩
  | d + 1, (ks, ts), p => ∃ is : List Int, p = ⟨false, ks, [], is⟩ ∧ is.length = ts.length ∧ ∀ (k : Nat) (a : Int) (t : Tr d), is[k]? = some a → ts[k]? = some t → (0 ≤ a ∧ a ≤ 2147483647) ∧ ∃ q, PageAt recs a q ∧ Is recs d t q
def Ext (l m : List (Nat × ByteArray)) : Prop := ∀ a s, atR l a = some s → atR m a = some s
theorem Ext.refl (l : List (Nat × ByteArray)) : Ext l l := fun _ _ h => h
theorem Ext.trans {l m n : List (Nat × ByteArray)} (h : Ext l m) (k : Ext m n) : Ext l n := fun a s q => k a s (h a s q)
theorem PageAt.ext {l m : List (Nat × ByteArray)} {a : Int} {p : Pa.Pg} (h : PageAt l a p) (e : Ext l m) : PageAt m a p := by
  obtain ⟨⟨s, h1, h2⟩, h3⟩ := h
  exact ⟨⟨s, e a s h1, h2⟩, h3⟩
theorem Is.ext {l m : List (Nat × ByteArray)} (e : Ext l m) : ∀ (d : Nat) {t : Tr d} {p : Pa.Pg}, Is l d t p → Is m d t p
  | 0, _, _, h => h
  | d + 1, (ks, ts), p, ⟨is, h1, h2, h3⟩ => ⟨is, h1, h2, fun k a t ha ht => by
      obtain ⟨q1, q, q2, q3⟩ := h3 k a t ha ht
      exact ⟨q1, q, q2.ext e, Is.ext e d q3⟩⟩
/-- Keys that rise. -/
theorem gl_pw {X : Type} {P : Option ByteArray → Option ByteArray → X → Prop} {hi : Option ByteArray} : ∀ {lo : Option ByteArray} {ks : List ByteArray} {ts : List X}, Bt.GL kl P hi lo ks ts → ks.Pairwise (fun a b => kl a b = true) ∧ (∀ k ∈ ks, Bt.gtO kl lo k) ∧ ∀ k ∈ ks, Bt.ltO kl k hi
  | _, [], _, _ => ⟨List.Pairwise.nil, (fun _ h => by cases h), (fun _ h => by cases h)⟩
  | lo, k :: ks, [], h => h.elim
  | lo, k :: ks, t :: ts, h => by
    obtain ⟨h1, h2, h3⟩ := gl_pw h.2.2.2
    refine ⟨List.Pairwise.cons h2 h1, fun a ha => ?_, fun a ha => ?_⟩
    · rcases List.mem_cons.1 ha with rfl | ha
      · exact h.1
      · exact Bt.gtO.trans ordK h.1 (h2 a ha)
    · rcases List.mem_cons.1 ha with rfl | ha
      · exact h.2.1
      · exact h3 a ha
theorem ris_pw {hi : Option ByteArray} : ∀ {lo : Option ByteArray} {l : List (ByteArray × ByteArray)}, Bt.Ris kl hi lo l → (l.map Prod.fst).Pairwise (fun a b => kl a b = true)
  | _, [], _ => List.Pairwise.nil
  | _, (a, b) :: r, h => List.Pairwise.cons (fun k hk => by
      obtain ⟨p, hp, rfl⟩ := List.mem_map.1 hk
      exact h.2.2.1 p hp) (ris_pw h.2.2.2)
theorem rise_pw : ∀ {ks : List ByteArray}, ks.Pairwise (fun a b => kl a b = true) → (∀ k ∈ ks, KeyOk k) → ∀ prev, (∀ k ∈ ks, kl prev k = true) → Pa.riseB prev ks = true
  | [], _, _, _, _ => rfl
  | k :: ks, h, hk, prev, hp => by
    have h1 : Op.bytesLess prev.toList k.toList = true := hp k List.mem_cons_self
    have h2 := (hk k List.mem_cons_self).1
    have h3 := rise_pw (List.pairwise_cons.1 h).2 (fun a ha => hk a (List.mem_cons_of_mem _ ha)) k (List.pairwise_cons.1 h).1
    unfold Pa.riseB
    rw [h1, h3]
    simp
    omega
theorem none_less {k : ByteArray} (h : KeyOk k) : kl ⟨#[]⟩ k = true := by
  have h2 := h.2
  show Op.bytesLess (ByteArray.toList ⟨#[]⟩) k.toList = true
  have e : ByteArray.toList ⟨#[]⟩ = [] := by rw [ByteArray.toList_eq]
  rw [e]
  cases hk : k.toList with
  | nil => exact absurd hk h2
  | cons a b => rfl
theorem less_none (k : ByteArray) : Op.bytesLess k.toList (ByteArray.toList ⟨#[]⟩) = false := by
  have e : ByteArray.toList ⟨#[]⟩ = [] := by rw [ByteArray.toList_eq]
  rw [e]
  cases k.toList <;> rfl
theorem kid_zero {k : ByteArray} : ∀ {ks : List ByteArray}, (∀ a ∈ ks, kl k a = true) → Bt.kid kl k ks = 0
  | [], _ => rfl
  | a :: r, h => by
    have := h a List.mem_cons_self
    unfold Bt.kid
    rw [if_pos this]
/-- Which kid has a key, as the program finds it. -/
theorem kid_find (k : ByteArray) : ∀ {ks : List ByteArray}, ks.Pairwise (fun a b => kl a b = true) → Pa.findN ks k + (if Pa.findIs ks k then 1 else 0) = Bt.kid kl k ks
  | [], _ => by
    have : Pa.findIs [] k = false := rfl
    rw [this]
    rfl
  | a :: r, h => by
    obtain ⟨h1, h2⟩ := List.pairwise_cons.1 h
    have ih := kid_find k h2
    by_cases hb : Op.bytesLess a.toList k.toList = true
    · have e1 : Pa.findN (a :: r) k = Pa.findN r k + 1 := by show (if _ then _ else _) = _; rw [if_pos hb]
      have e2 : Pa.findIs (a :: r) k = Pa.findIs r k := by unfold Pa.findIs; rw [e1]; rfl
      have e3 : ¬ kl k a = true := by
        rw [show kl k a = false from (Pa.less_flip _ _ hb).1]
        decide
      unfold Bt.kid
      rw [if_neg e3, e1, e2, ← ih]
      omega
    · have hb' : Op.bytesLess a.toList k.toList = false := by simpa using hb
      have e1 : Pa.findN (a :: r) k = 0 := by show (if _ then _ else _) = _; rw [if_neg hb]
      have e2 : Pa.findIs (a :: r) k = (a.toList == k.toList) := by unfold Pa.findIs; rw [e1]; rfl
      rw [e1, e2]
      rcases Pa.less_else _ _ hb' with h3 | h3
      · have e3 : kl k a = true := h3
        have e4 : (a.toList == k.toList) = false := by
          have := (Pa.less_flip _ _ h3).2
          simpa using this
        unfold Bt.kid
        rw [if_pos e3, e4]
        rfl
      · have e : k = a := Pa.toList_inj h3
        subst e
        have e3 : ¬ kl k k = true := by rw [ordK.irr]; decide
        unfold Bt.kid
        rw [if_neg e3, kid_zero h1]
        simp
/-- A kid's bounds. -/
def loI (lo : Option ByteArray) (ks : List ByteArray) (i : Nat) : Option ByteArray := if 0 < i then ks[i - 1]? else lo
def hiI (hi : Option ByteArray) (ks : List ByteArray) (i : Nat) : Option ByteArray := if i < ks.length then ks[i]? else hi
theorem gl_at {X : Type} {P : Option ByteArray → Option ByteArray → X → Prop} {hi : Option ByteArray} : ∀ {lo : Option ByteArray} {ks : List ByteArray} {ts : List X}, Bt.GL kl P hi lo ks ts → ∀ (i : Nat) (t : X), ts[i]? = some t → P (loI lo ks i) (hiI hi ks i) t
  | lo, [], [u], h, 0, t, ht => by
    obtain rfl : u = t := by simpa using ht
    exact h
  | lo, [], [u], h, i + 1, t, ht => by simp at ht
  | lo, [], [], h, _, _, _ => h.elim
  | lo, [], _ :: _ :: _, h, _, _, _ => h.elim
  | lo, _ :: _, [], h, _, _, _ => h.elim
  | lo, k :: ks, u :: ts, h, 0, t, ht => by
    obtain rfl : u = t := by simpa using ht
    have e : hiI hi (k :: ks) 0 = some k := by simp [hiI]
    rw [e]
    exact h.2.2.1
  | lo, k :: ks, u :: ts, h, i + 1, t, ht => by
    have := gl_at h.2.2.2 i t (by simpa using ht)
    have e1 : loI lo (k :: ks) (i + 1) = loI (some k) ks i := by
      unfold loI
      cases i with
      | zero => simp
      | succ i => simp
    have e2 : hiI hi (k :: ks) (i + 1) = hiI hi ks i := by
      unfold hiI
      simp
    rw [e1, e2]
    exact this
def opT : Option ByteArray → ByteArray
  | none => ⟨#[]⟩
  | some k => k
theorem lo_span (lo : Option ByteArray) (ks : List ByteArray) (i : Nat) (hi : i ≤ ks.length) : loK (opT lo) ks i = opT (loI lo ks i) := by
  unfold loK loI
  split
  · rw [List.getD_eq_getElem?_getD, List.getElem?_eq_getElem (by omega)]
    rfl
  · rfl
theorem hi_span (hi : Option ByteArray) (ks : List ByteArray) (i : Nat) : hiK (opT hi) ks i = opT (hiI hi ks i) := by
  unfold hiK hiI
  split
  · rw [List.getD_eq_getElem?_getD, List.getElem?_eq_getElem (by omega)]
    rfl
  · rfl
/-- A tree's top page may be read where it stands. -/
theorem holds_good (recs : List (Nat × ByteArray)) : ∀ (d : Nat) {lo hi : Option ByteArray} {t : Tr d} {p : Pa.Pg}, Bt.Good kl d lo hi t → Bt.AllK KeyOk ValOk d t → Is recs d t p → (∀ k, hi = some k → KeyOk k) → Holds (opT lo) (opT hi) p
  | 0, lo, hi, l, p, hg, ha, hp, hh => by
    have hp' : p = ⟨true, (show List (ByteArray × ByteArray) from l).map Prod.fst, (show List (ByteArray × ByteArray) from l).map Prod.snd, []⟩ := hp
    have hR := Bt.Ris.inR (lt := kl) (hi := hi) (lo := lo) (l := l) hg
    subst hp'
    constructor
    · intro a h
      have hm : a ∈ (show List (ByteArray × ByteArray) from l).map Prod.fst := List.mem_of_mem_head? h
      obtain ⟨x, hx, rfl⟩ := List.mem_map.1 hm
      have h1 := (hR x hx).1
      refine ⟨?_, Or.inr rfl⟩
      cases lo with
      | none => exact less_none _
      | some y =>
        have : (!kl x.1 y) = true := h1
        simpa [kl, opT] using this
    · intro a h
      have hm : a ∈ (show List (ByteArray × ByteArray) from l).map Prod.fst := List.mem_of_getLast? h
      obtain ⟨x, hx, rfl⟩ := List.mem_map.1 hm
      have h1 := (hR x hx).2
      cases hi with
      | none => exact Or.inl rfl
      | some y => exact Or.inr h1
  | d + 1, lo, hi, (ks, ts), p, hg, ha, ⟨is, hp, _, _⟩, hh => by
    obtain ⟨h1, h2, h3⟩ := gl_pw hg
    subst hp
    constructor
    · intro a h
      have hm : a ∈ ks := List.mem_of_mem_head? h
      have hk := ha.1 a hm
      have hgt := h2 a hm
      cases lo with
      | none =>
        refine ⟨less_none _, Or.inl ?_⟩
        have e : ByteArray.toList (opT none) = [] := by rw [ByteArray.toList_eq]; rfl
        rw [e]
        have := hk.2
        simpa using this
      | some y =>
        have hy : Op.bytesLess y.toList a.toList = true := hgt
        have := Pa.less_flip _ _ hy
        refine ⟨this.1, Or.inl ?_⟩
        simpa [opT] using this.2
    · intro a h
      have hm : a ∈ ks := List.mem_of_getLast? h
      have := h3 a hm
      cases hi with
      | none => exact Or.inl rfl
      | some y => exact Or.inr this
end Go.Proofs.YtbhmmcelndmijaaGreat
namespace Go.Proofs.YtbhmmcelndmijaaGreat
theorem findR_snoc (n : Nat) (s : ByteArray) (a : Int) : ∀ (l : List (Nat × ByteArray)), (∀ r ∈ l, r.1 < n) → findR (l ++ [(n, s)]) a = if (n : Int) < a then l.length + 1 else findR l a
  | [], _ => by
    show (if (n : Int) < a then 0 + 1 else 0) = _
    rfl
  | p :: r, h => by
    have ih := findR_snoc n s a r (fun q hq => h q (List.mem_cons_of_mem _ hq))
    have hp := h p List.mem_cons_self
    show (if (p.1 : Int) < a then findR (r ++ [(n, s)]) a + 1 else 0) = _
    rw [ih]
    by_cases h1 : (p.1 : Int) < a
    · rw [if_pos h1]
      by_cases h2 : (n : Int) < a
      · rw [if_pos h2, if_pos h2, List.length_cons]
      · rw [if_neg h2, if_neg h2]
        show _ = (if (p.1 : Int) < a then findR r a + 1 else 0)
        rw [if_pos h1]
    · rw [if_neg h1, if_neg (by omega)]
      show _ = (if (p.1 : Int) < a then findR r a + 1 else 0)
      rw [if_neg h1]
theorem findR_all : ∀ (l : List (Nat × ByteArray)) (a : Int), (∀ r ∈ l, (r.1 : Int) < a) → findR l a = l.length
  | [], _, _ => rfl
  | p :: r, a, h => by
    show (if (p.1 : Int) < a then findR r a + 1 else 0) = _
    rw [if_pos (h p List.mem_cons_self), findR_all r a (fun q hq => h q (List.mem_cons_of_mem _ hq)), List.length_cons]
theorem atR_old {n : Nat} {s t : ByteArray} {a : Int} {l : List (Nat × ByteArray)} (h : ∀ r ∈ l, r.1 < n) (ha : atR l a = some t) : atR (l ++ [(n, s)]) a = some t := by
  unfold atR at ha ⊢
  split at ha
  · rename_i p hp
    by_cases hpa : (p.1 : Int) = a
    · have hm := List.mem_of_getElem? hp
      have hn := h p hm
      have hlt := (List.getElem?_eq_some_iff.1 hp).1
      rw [findR_snoc n s a l h, if_neg (by omega), List.getElem?_append_left hlt, hp]
      exact ha
    · rw [if_neg hpa] at ha
      cases ha
  · cases ha
theorem atR_new {n : Nat} {s : ByteArray} {l : List (Nat × ByteArray)} (h : ∀ r ∈ l, r.1 < n) : atR (l ++ [(n, s)]) (n : Int) = some s := by
  unfold atR
  rw [findR_snoc n s _ l h, if_neg (by omega), findR_all l _ (fun r hr => by have := h r hr; omega), List.getElem?_append_right (Nat.le_refl _), Nat.sub_self]
  show (if ((n : Nat) : Int) = (n : Int) then some s else none) = _
  rw [if_pos rfl]
theorem asc_snoc {n : Nat} {s : ByteArray} {l : List (Nat × ByteArray)} (ha : Asc l) (h : ∀ r ∈ l, r.1 < n) : Asc (l ++ [(n, s)]) := by
  intro i j hj hi
  have hj' : j < l.length + 1 := by simpa using hj
  have hil : i < l.length := by omega
  rw [List.getElem_append_left hil]
  by_cases hjl : j < l.length
  · rw [List.getElem_append_left hjl]
    exact ha i j hjl hi
  · have e : j = l.length := by omega
    subst e
    rw [List.getElem_append_right (Nat.le_refl _)]
    simp only [Nat.sub_self, List.getElem_cons_zero]
    exact h _ (List.getElem_mem hil)
/-- A log whose records rise, all ahead of what comes. -/
structure LgOk (g : Lg) : Prop where
  asc : Asc g.recs
  top : ∀ r ∈ g.recs, r.1 < g.len + g.wait.size
  len : g.len ≤ 1000000
/-- At most n pages more. -/
structure LgStep (n : Nat) (g g' : Lg) : Prop where
  ext : Ext g.recs g'.recs
  ok : LgOk g'
  cnt : g'.recs.length ≤ g.recs.length + n
  siz : g'.wait.size ≤ g.wait.size + n * 70000
  len : g'.len = g.len
theorem LgStep.refl {g : Lg} (h : LgOk g) : LgStep 0 g g := ⟨Ext.refl _, h, by omega, by omega, rfl⟩
theorem LgStep.trans {n m : Nat} {g g' g'' : Lg} (h : LgStep n g g') (k : LgStep m g' g'') : LgStep (n + m) g g'' := by
  have h1 := h.cnt
  have h2 := k.cnt
  have h3 := h.siz
  have h4 := k.siz
  exact ⟨h.ext.trans k.ext, k.ok, by omega, by omega, k.len.trans h.len⟩
theorem LgStep.mono {n m : Nat} {g g' : Lg} (h : LgStep n g g') (hm : n ≤ m) : LgStep m g g' := by
  exact ⟨h.ext, h.ok, Nat.le_trans h.cnt (Nat.add_le_add_left hm _), Nat.le_trans h.siz (Nat.add_le_add_left (Nat.mul_le_mul_right _ hm) _), h.len⟩
/-- There is room for n pages more. -/
structure LgRoom (n : Nat) (g : Lg) : Prop where
  cnt : g.recs.length + n ≤ 6000
  siz : g.wait.size + n * 70000 ≤ 420000000
theorem LgRoom.mono {n m : Nat} {g : Lg} (h : LgRoom n g) (hm : m ≤ n) : LgRoom m g := by
  exact ⟨Nat.le_trans (Nat.add_le_add_left hm _) h.cnt, Nat.le_trans (Nat.add_le_add_left (Nat.mul_le_mul_right _ hm) _) h.siz⟩
theorem LgRoom.step {n m : Nat} {g g' : Lg} (h : LgRoom (n + m) g) (k : LgStep n g g') : LgRoom m g' := by
  have h1 := h.cnt
  have h2 := h.siz
  have h3 := k.cnt
  have h4 := k.siz
  exact ⟨by omega, by omega⟩
theorem txs_len : ∀ (l : List ByteArray) (m : Nat), (∀ s ∈ l, s.size ≤ m) → (Pa.txs l).length ≤ l.length * (m + 4)
  | [], _, _ => by simp [Pa.txs]
  | s :: r, m, h => by
    have ih := txs_len r m (fun q hq => h q (List.mem_cons_of_mem _ hq))
    have h1 := h s List.mem_cons_self
    have e : (Pa.txs (s :: r)).length = (Pa.txL s).length + (Pa.txs r).length := by simp [Pa.txs]
    have e2 : (Pa.txL s).length = 4 + s.size := by
      unfold Pa.txL
      rw [List.length_append, Pa.numL_len]
      rfl
    rw [e, e2, List.length_cons, Nat.succ_mul]
    omega
theorem nus_len : ∀ (l : List Int), (Pa.nus l).length = l.length * 4
  | [] => by simp [Pa.nus]
  | s :: r => by
    have ih := nus_len r
    have e : (Pa.nus (s :: r)).length = (Pa.numL s.toNat 4).length + (Pa.nus r).length := by simp [Pa.nus]
    rw [e, Pa.numL_len, ih, List.length_cons]
    omega
theorem may_key {ks : List ByteArray} : ∀ {prev : ByteArray}, Pa.riseB prev ks = true → ∀ k ∈ ks, k.size ≤ 64 := by
  induction ks with
  | nil => intro _ _ k hk; cases hk
  | cons a r ih =>
    intro prev h k hk
    unfold Pa.riseB at h
    simp only [Bool.and_eq_true, Bool.not_eq_true', decide_eq_false_iff_not] at h
    rcases List.mem_cons.1 hk with rfl | hk
    · have := h.2.1
      omega
    · exact ih h.2.2 k hk
/-- A page that may be has few bytes. -/
theorem enc_len {p : Pa.Pg} (h : Pa.mayP p = true) : (Pa.encL p).length ≤ 69000 := by
  unfold Pa.mayP at h
  rw [Bool.and_eq_true] at h
  obtain ⟨hk, hr⟩ := h
  unfold Pa.mayK at hk
  simp only [Bool.and_eq_true, Bool.not_eq_true', decide_eq_false_iff_not] at hk
  obtain ⟨h8, hrise⟩ := hk
  have h1 := txs_len p.keys 64 (may_key hrise)
  unfold Pa.encL
  rw [List.length_append, List.length_append, List.length_append, List.length_append, Pa.numL_len, Pa.numL_len, nus_len]
  have hk8 : p.keys.length ≤ 8 := by omega
  have h1' : (Pa.txs p.keys).length ≤ 8 * 68 := Nat.le_trans h1 (Nat.mul_le_mul_right _ hk8)
  unfold Pa.restB at hr
  cases hl : p.leaf with
  | true =>
    rw [hl, if_pos rfl] at hr
    simp only [Bool.and_eq_true, decide_eq_true_eq, Bool.not_eq_true'] at hr
    obtain ⟨a1, a2, a3⟩ := hr
    have h2 := txs_len p.vals 8192 (fun s hs => by
      have := List.any_eq_false.1 a3 s hs
      unfold Pa.longB at this
      simp at this
      omega)
    have hv8 : p.vals.length ≤ 8 := by omega
    have h2' : (Pa.txs p.vals).length ≤ 8 * 8196 := Nat.le_trans h2 (Nat.mul_le_mul_right _ hv8)
    omega
  | false =>
    rw [hl, if_neg (by decide)] at hr
    simp only [Bool.and_eq_true, decide_eq_true_eq, Bool.not_eq_true'] at hr
    obtain ⟨a1, a2, a3, a4⟩ := hr
    have hv0 : p.vals = [] := List.eq_nil_of_length_eq_zero (by omega)
    rw [hv0]
    have : (Pa.txs []).length = 0 := rfl
    omega
/-- A page more. -/
theorem add_step {g : Lg} {p : Pa.Pg} (hg : LgOk g) (hm : Pa.mayP p = true) : LgStep 1 g (addG g p) ∧ PageAt (addG g p).recs ((g.len + g.wait.size : Nat) : Int) p := by
  have hz := enc_len hm
  have hd := Pa.dec_enc hm
  have he : (⟨(Pa.encL p).toArray⟩ : ByteArray).size = (Pa.encL p).length := by show (Pa.encL p).toArray.size = _; simp
  have hw : (addG g p).wait.size = g.wait.size + (1 + (Pa.encL p).length + 8) := by
    show (g.wait ++ Wi.frmS (⟨#[100]⟩ ++ ⟨(Pa.encL p).toArray⟩)).size = _
    rw [ByteArray.size_append, Wi.frmS_size, ByteArray.size_append, he]
    rfl
  have hk8 : p.keys.length ≤ 1000000 := by
    unfold Pa.mayP at hm
    rw [Bool.and_eq_true] at hm
    have := hm.1
    unfold Pa.mayK at this
    simp only [Bool.and_eq_true, Bool.not_eq_true', decide_eq_false_iff_not] at this
    omega
  refine ⟨⟨fun a s h => atR_old hg.top h, ⟨asc_snoc hg.asc hg.top, ?_, hg.len⟩, ?_, ?_, rfl⟩, ⟨⟨_, atR_new hg.top, ?_, hd.1, hd.2⟩, hk8⟩⟩
  · intro r hr
    rw [hw]
    show r.1 < g.len + _
    rcases List.mem_append.1 hr with hr | hr
    · have := hg.top r hr
      omega
    · rw [List.mem_singleton] at hr
      rw [hr]
      show g.len + g.wait.size < _
      omega
  · show (g.recs ++ [_]).length ≤ _
    rw [List.length_append]
    simp
  · rw [hw]
    omega
  · rw [he]
    omega
end Go.Proofs.YtbhmmcelndmijaaGreat
