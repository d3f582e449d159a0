/-
  Trees of pages, as values: what putting a key makes of one.
-/
namespace Go.Proofs.YtbhmmcelndmijaaGreat.Bt
universe u
variable {K V : Type}
/-- A strict order in which any two differ by it, or are one. -/
structure Ord (lt : K → K → Bool) : Prop where
  irr : ∀ a, lt a a = false
  tr : ∀ a b c, lt a b = true → lt b c = true → lt a c = true
  eq : ∀ a b, lt a b = false → lt b a = false → a = b
section
variable (lt : K → K → Bool)
/-- A model with a key, and without one. -/
def ins (k : K) (v : V) : List (K × V) → List (K × V)
  | [] => [(k, v)]
  | (a, b) :: r => if lt a k then (a, b) :: ins k v r else if lt k a then (k, v) :: (a, b) :: r else (k, v) :: r
def del (k : K) : List (K × V) → List (K × V)
  | [] => []
  | (a, b) :: r => if lt a k then (a, b) :: del k r else if lt k a then (a, b) :: r else r
/-- From lo on, below hi. -/
def loB : Option K → K → Bool
  | none, _ => true
  | some l, k => !lt k l
def hiB : Option K → K → Bool
  | none, _ => true
  | some h, k => lt k h
/-- Rising keys from lo on, below hi. -/
def Ris (hi : Option K) : Option K → List (K × V) → Prop
  | _, [] => True
  | lo, (a, _) :: r => loB lt lo a = true ∧ hiB lt hi a = true ∧ (∀ p ∈ r, lt a p.1 = true) ∧ Ris hi lo r
end
def T (K V : Type) : Nat → Type
  | 0 => List (K × V)
  | d + 1 => List K × List (T K V d)
def flat : (d : Nat) → T K V d → List (K × V)
  | 0, l => l
  | d + 1, (_, ts) => (ts.map (flat d)).flatten
def nk : (d : Nat) → T K V d → Nat
  | 0, l => List.length (α := K × V) l
  | _ + 1, (ks, _) => ks.length
def cut : (d : Nat) → T K V d → Option (T K V d × K × T K V d)
  | 0, l =>
    let l : List (K × V) := l
    match l[l.length / 2]? with
    | none => none
    | some p => some (l.take (l.length / 2), p.1, l.drop (l.length / 2))
  | _ + 1, (ks, ts) => match ks[ks.length / 2]? with
    | none => none
    | some m => some ((ks.take (ks.length / 2), ts.take (ks.length / 2 + 1)), m, (ks.drop (ks.length / 2 + 1), ts.drop (ks.length / 2 + 1)))
def lay (d : Nat) (t : T K V d) : List K × List (T K V d) :=
  if nk d t ≤ 8 then ([], [t]) else match cut d t with
    | none => ([], [t])
    | some (a, m, b) => ([m], [a, b])
def kid (lt : K → K → Bool) (k : K) : List K → Nat
  | [] => 0
  | a :: r => if lt k a then 0 else kid lt k r + 1
def swap (d : Nat) (ks : List K) (ts : List (T K V d)) (i j : Nat) (t : T K V d) : T K V (d + 1) :=
  (ks.take i ++ (lay d t).1 ++ ks.drop j, ts.take i ++ (lay d t).2 ++ ts.drop (j + 1))
def put (lt : K → K → Bool) (k : K) (v : V) : (d : Nat) → T K V d → T K V d
  | 0, l => ins lt k v l
  | d + 1, (ks, ts) => match ts[kid lt k ks]? with
    | none => (ks, ts)
    | some t => swap d ks ts (kid lt k ks) (kid lt k ks) (put lt k v d t)

section
variable {X : Type} (lt : K → K → Bool)
def gtO : Option K → K → Prop
  | none, _ => True
  | some l, k => lt l k = true
def ltO (k : K) : Option K → Prop
  | none => True
  | some h => lt k h = true
/-- Kids with keys between them, from lo on, below hi. -/
def GL (P : Option K → Option K → X → Prop) (hi : Option K) : Option K → List K → List X → Prop
  | lo, [], [t] => P lo hi t
  | lo, k :: ks, t :: ts => gtO lt lo k ∧ ltO lt k hi ∧ P lo (some k) t ∧ GL P hi (some k) ks ts
  | _, _, _ => False
theorem GL.len {P : Option K → Option K → X → Prop} {hi : Option K} : ∀ {lo : Option K} {ks : List K} {ts : List X}, GL lt P hi lo ks ts → ts.length = ks.length + 1
  | _, [], [_], _ => rfl
  | _, _ :: _, _ :: _, h => by rw [List.length_cons, List.length_cons, GL.len h.2.2.2]
  | _, [], [], h => h.elim
  | _, [], _ :: _ :: _, h => h.elim
  | _, _ :: _, [], h => h.elim
variable {lt}
theorem ltO.trans (o : Ord lt) {a b : K} {hi : Option K} (h : lt a b = true) (k : ltO lt b hi) : ltO lt a hi := by
  cases hi with
  | none => trivial
  | some x => exact o.tr _ _ _ h k
theorem gtO.trans (o : Ord lt) {a b : K} {lo : Option K} (h : gtO lt lo a) (k : lt a b = true) : gtO lt lo b := by
  cases lo with
  | none => trivial
  | some x => exact o.tr _ _ _ h k
/-- Kids one behind the other. -/
theorem GL.app (o : Ord lt) {P : Option K → Option K → X → Prop} {hi : Option K} {a : K} (ha : ltO lt a hi) {ks : List K} {ts : List X} (h2 : GL lt P hi (some a) ks ts) : ∀ {lo : Option K} {xs : List K} {ys : List X}, gtO lt lo a → GL lt P (some a) lo xs ys → GL lt P hi lo (xs ++ a :: ks) (ys ++ ts)
  | _, [], [_], hg, h => ⟨hg, ha, h, h2⟩
  | _, _ :: _, _ :: _, _, h => ⟨h.1, ltO.trans o h.2.1 ha, h.2.2.1, GL.app o ha h2 h.2.1 h.2.2.2⟩
  | _, [], [], _, h => h.elim
  | _, [], _ :: _ :: _, _, h => h.elim
  | _, _ :: _, [], _, h => h.elim
def modL (f : X → List K × List X) (k : K) : List K → List X → List K × List X
  | [], [t] => f t
  | a :: ks, t :: ts => if lt k a then ((f t).1 ++ a :: ks, (f t).2 ++ ts) else (a :: (modL f k ks ts).1, t :: (modL f k ks ts).2)
  | ks, ts => (ks, ts)
theorem modL_eq (f : X → List K × List X) (k : K) : ∀ (ks : List K) (ts : List X), ts.length = ks.length + 1 → ∃ t, ts[kid lt k ks]? = some t ∧ modL (lt := lt) f k ks ts = (ks.take (kid lt k ks) ++ (f t).1 ++ ks.drop (kid lt k ks), ts.take (kid lt k ks) ++ (f t).2 ++ ts.drop (kid lt k ks + 1))
  | [], [t], _ => ⟨t, rfl, by simp [modL, kid]⟩
  | [], [], h => by cases h
  | [], _ :: _ :: _, h => by simp at h
  | _ :: _, [], h => by cases h
  | a :: ks, t :: ts, h => by
    by_cases hk : lt k a = true
    · refine ⟨t, by simp [kid, hk], ?_⟩
      simp [modL, kid, hk]
    · obtain ⟨u, h1, h2⟩ := modL_eq f k ks ts (by simpa using h)
      refine ⟨u, by simp [kid, hk, h1], ?_⟩
      simp [modL, kid, hk, h2]
end
section
variable (lt : K → K → Bool)
/-- All keys from lo on, below hi. -/
def InR (lo hi : Option K) (l : List (K × V)) : Prop := ∀ p ∈ l, loB lt lo p.1 = true ∧ hiB lt hi p.1 = true
/-- A tree that may be, but for how many keys its top page has. -/
def Good : (d : Nat) → Option K → Option K → T K V d → Prop
  | 0, lo, hi, l => Ris lt hi lo l
  | d + 1, lo, hi, (ks, ts) => GL lt (fun lo hi t => Good d lo hi t ∧ 4 ≤ nk d t ∧ nk d t ≤ 8) hi lo ks ts
variable {lt}
theorem Ris.inR {hi : Option K} : ∀ {lo : Option K} {l : List (K × V)}, Ris lt hi lo l → InR lt lo hi l
  | _, [], _ => fun _ h => by cases h
  | _, (a, b) :: r, h => fun p hp => by
    rcases List.mem_cons.1 hp with rfl | hp
    · exact ⟨h.1, h.2.1⟩
    · exact Ris.inR h.2.2.2 p hp
theorem lo_of_gt (o : Ord lt) {lo : Option K} {a k : K} (h : gtO lt lo a) (hk : lt k a = false) : loB lt lo k = true := by
  cases lo with
  | none => rfl
  | some l =>
    show (!lt k l) = true
    cases hx : lt k l with
    | false => rfl
    | true => rw [o.tr _ _ _ hx h] at hk; cases hk
theorem hi_of_lt (o : Ord lt) {hi : Option K} {a k : K} (h : ltO lt a hi) (hk : lt k a = true) : hiB lt hi k = true := by
  cases hi with
  | none => rfl
  | some x => exact o.tr _ _ _ hk h
theorem flat_cons (d : Nat) (k : List K) (t : T K V d) (ts : List (T K V d)) : flat (d + 1) ((k, t :: ts) : T K V (d + 1)) = flat d t ++ flat (d + 1) ((k, ts) : T K V (d + 1)) := by
  simp [flat]
theorem Good.inR (o : Ord lt) : ∀ (d : Nat) {lo hi : Option K} {t : T K V d}, Good lt d lo hi t → InR lt lo hi (flat d t)
  | 0, _, _, _, h => Ris.inR h
  | d + 1, lo, hi, (ks, ts), h => by
    have key : ∀ (ks : List K) (ts : List (T K V d)) (lo : Option K), GL lt (fun lo hi t => Good lt d lo hi t ∧ 4 ≤ nk d t ∧ nk d t ≤ 8) hi lo ks ts → InR lt lo hi (ts.map (flat d)).flatten := by
      intro ks
      induction ks with
      | nil =>
        intro ts lo h
        match ts, h with
        | [t], h =>
          have := Good.inR o d h.1
          simpa using this
      | cons k ks ih =>
        intro ts lo h
        match ts, h with
        | t :: ts, h =>
          obtain ⟨h1, h2, h3, h4⟩ := h
          intro p hp
          rw [List.map_cons, List.flatten_cons, List.mem_append] at hp
          rcases hp with hp | hp
          · obtain ⟨q1, q2⟩ := Good.inR o d h3.1 p hp
            exact ⟨q1, hi_of_lt o h2 q2⟩
          · obtain ⟨q1, q2⟩ := ih ts (some k) h4 p hp
            refine ⟨lo_of_gt o h1 ?_, q2⟩
            have : (!lt p.1 k) = true := q1
            simpa using this
    exact key ks ts lo h
theorem ins_lt {k a : K} {v b : V} {r : List (K × V)} (h : lt a k = true) : ins lt k v ((a, b) :: r) = (a, b) :: ins lt k v r := if_pos h
theorem ins_gt {k a : K} {v b : V} {r : List (K × V)} (h : lt a k = false) (h2 : lt k a = true) : ins lt k v ((a, b) :: r) = (k, v) :: (a, b) :: r := (if_neg (by rw [h]; simp)).trans (if_pos h2)
theorem ins_eq {k a : K} {v b : V} {r : List (K × V)} (h : lt a k = false) (h2 : lt k a = false) : ins lt k v ((a, b) :: r) = (k, v) :: r := (if_neg (by rw [h]; simp)).trans (if_neg (by rw [h2]; simp))
theorem ins_left {k : K} {v : V} {B : List (K × V)} : ∀ {A : List (K × V)}, (∀ p ∈ A, lt p.1 k = true) → ins lt k v (A ++ B) = A ++ ins lt k v B
  | [], _ => rfl
  | (a, b) :: A, h => by
    have h1 : lt a k = true := h (a, b) List.mem_cons_self
    rw [List.cons_append, ins_lt h1, ins_left (fun p hp => h p (List.mem_cons_of_mem _ hp))]
    rfl
theorem ins_right (o : Ord lt) {k : K} {v : V} {C : List (K × V)} (hC : ∀ p ∈ C, lt k p.1 = true) : ∀ {B : List (K × V)}, ins lt k v (B ++ C) = ins lt k v B ++ C
  | [] => by
    match C, hC with
    | [], _ => rfl
    | (c, x) :: C, hC =>
      have h1 : lt k c = true := hC (c, x) List.mem_cons_self
      have h2 : lt c k = false := by
        cases hx : lt c k with
        | false => rfl
        | true => have := o.tr _ _ _ h1 hx; rw [o.irr] at this; cases this
      rw [List.nil_append, ins_gt h2 h1]
      rfl
  | (a, b) :: B => by
    rw [List.cons_append]
    cases h1 : lt a k with
    | true => rw [ins_lt h1, ins_lt h1, ins_right o hC]; rfl
    | false =>
      cases h2 : lt k a with
      | true => rw [ins_gt h1 h2, ins_gt h1 h2]; rfl
      | false => rw [ins_eq h1 h2, ins_eq h1 h2]; rfl
theorem ins_ris (o : Ord lt) {k : K} {v : V} {lo hi : Option K} (h1 : loB lt lo k = true) (h2 : hiB lt hi k = true) : ∀ {l : List (K × V)}, Ris lt hi lo l → Ris lt hi lo (ins lt k v l) ∧ (ins lt k v l).length ≤ l.length + 1 ∧ l.length ≤ (ins lt k v l).length ∧ 1 ≤ (ins lt k v l).length ∧ ∀ p ∈ ins lt k v l, p = (k, v) ∨ p ∈ l
  | [], _ => ⟨⟨h1, h2, (fun _ h => by cases h), trivial⟩, Nat.le_refl _, Nat.zero_le _, Nat.le_refl _, fun p hp => Or.inl (List.mem_singleton.1 hp)⟩
  | (a, b) :: r, h => by
    obtain ⟨i1, i2, i3, _, i4⟩ := ins_ris (v := v) o h1 h2 h.2.2.2
    cases ha : lt a k with
    | true =>
      rw [ins_lt ha]
      refine ⟨⟨h.1, h.2.1, ?_, i1⟩, by simpa using i2, by simpa using i3, by simp, ?_⟩
      · intro p hp
        rcases i4 p hp with rfl | hp
        · exact ha
        · exact h.2.2.1 p hp
      · intro p hp
        rcases List.mem_cons.1 hp with rfl | hp
        · exact Or.inr List.mem_cons_self
        · rcases i4 p hp with e | hp
          · exact Or.inl e
          · exact Or.inr (List.mem_cons_of_mem _ hp)
    | false =>
      cases hb : lt k a with
      | true =>
        rw [ins_gt ha hb]
        refine ⟨⟨h1, h2, ?_, h⟩, by simp, by simp, by simp, ?_⟩
        · intro p hp
          rcases List.mem_cons.1 hp with rfl | hp
          · exact hb
          · exact o.tr _ _ _ hb (h.2.2.1 p hp)
        · intro p hp
          exact List.mem_cons.1 hp
      | false =>
        rw [ins_eq ha hb]
        have e : a = k := o.eq _ _ ha hb
        subst e
        refine ⟨⟨h.1, h.2.1, h.2.2.1, h.2.2.2⟩, by simp, by simp, by simp, ?_⟩
        intro p hp
        rcases List.mem_cons.1 hp with rfl | hp
        · exact Or.inl rfl
        · exact Or.inr (List.mem_cons_of_mem _ hp)
theorem asym (o : Ord lt) {a b : K} (h : lt a b = true) : lt b a = false := by
  cases hx : lt b a with
  | false => rfl
  | true => have := o.tr _ _ _ h hx; rw [o.irr] at this; cases this
theorem ris_split (o : Ord lt) {hi : Option K} {k : K} {v : V} {B : List (K × V)} : ∀ {lo : Option K} {A : List (K × V)}, Ris lt hi lo (A ++ (k, v) :: B) → Ris lt (some k) lo A ∧ Ris lt hi (some k) ((k, v) :: B) ∧ (A ≠ [] → gtO lt lo k) ∧ ltO lt k hi
  | lo, [], h => by
    have up : ∀ (l : List (K × V)), (∀ p ∈ l, lt k p.1 = true) → Ris lt hi lo l → Ris lt hi (some k) l := by
      intro l
      induction l with
      | nil => intro _ _; trivial
      | cons p l ih =>
        intro h1 h2
        refine ⟨?_, h2.2.1, h2.2.2.1, ih (fun q hq => h1 q (List.mem_cons_of_mem _ hq)) h2.2.2.2⟩
        show (!lt p.1 k) = true
        rw [asym o (h1 p List.mem_cons_self)]
        rfl
    refine ⟨trivial, ⟨?_, h.2.1, h.2.2.1, up B h.2.2.1 h.2.2.2⟩, fun e => absurd rfl e, ?_⟩
    · show (!lt k k) = true
      rw [o.irr]
      rfl
    · have := h.2.1
      cases hi with
      | none => trivial
      | some x => exact this
  | lo, (a, b) :: A, h => by
    have hk : lt a k = true := h.2.2.1 (k, v) (List.mem_append_right _ List.mem_cons_self)
    obtain ⟨q1, q2, _, q4⟩ := ris_split o (A := A) h.2.2.2
    refine ⟨⟨h.1, hk, fun p hp => h.2.2.1 p (List.mem_append_left _ hp), q1⟩, q2, fun _ => ?_, q4⟩
    have hl := h.1
    cases lo with
    | none => trivial
    | some l =>
      have hl' : (!lt a l) = true := hl
      show lt l k = true
      cases hx : lt l a with
      | true => exact o.tr _ _ _ hx hk
      | false =>
        have : l = a := o.eq _ _ hx (by simpa using hl')
        rw [this]
        exact hk
theorem gl_split {X : Type} (o : Ord lt) {P : Option K → Option K → X → Prop} {hi : Option K} {m : K} {B : List K} : ∀ {lo : Option K} {A : List K} {ts : List X}, GL lt P hi lo (A ++ m :: B) ts → GL lt P (some m) lo A (ts.take (A.length + 1)) ∧ GL lt P hi (some m) B (ts.drop (A.length + 1)) ∧ gtO lt lo m ∧ ltO lt m hi
  | _, [], t :: ts, h => ⟨h.2.2.1, h.2.2.2, h.1, h.2.1⟩
  | _, [], [], h => h.elim
  | _, _ :: _, [], h => h.elim
  | _, a :: A, t :: ts, h => by
    obtain ⟨q1, q2, q3, q4⟩ := gl_split o (A := A) h.2.2.2
    exact ⟨⟨h.1, q3, h.2.2.1, q1⟩, q2, gtO.trans o h.1 q3, q4⟩
variable (lt) in
def KL (d : Nat) (hi lo : Option K) (ks : List K) (ts : List (T K V d)) : Prop := GL lt (fun lo hi t => Good lt d lo hi t ∧ 4 ≤ nk d t ∧ nk d t ≤ 8) hi lo ks ts
theorem cut_leaf (l : List (K × V)) (h : l.length / 2 < l.length) : cut (K := K) (V := V) 0 l = some (l.take (l.length / 2), (l[l.length / 2]).1, l.drop (l.length / 2)) := by
  unfold cut
  simp only [List.getElem?_eq_getElem h]
  rfl
theorem cut_node (d : Nat) (ks : List K) (ts : List (T K V d)) (h : ks.length / 2 < ks.length) : cut (d + 1) ((ks, ts) : T K V (d + 1)) = some ((ks.take (ks.length / 2), ts.take (ks.length / 2 + 1)), ks[ks.length / 2], (ks.drop (ks.length / 2 + 1), ts.drop (ks.length / 2 + 1))) := by
  unfold cut
  simp only [List.getElem?_eq_getElem h]
  rfl
theorem lay_small (d : Nat) (t : T K V d) (h : nk d t ≤ 8) : lay d t = ([], [t]) := if_pos h
theorem lay_cut (d : Nat) (t a b : T K V d) (m : K) (h : ¬ nk d t ≤ 8) (hc : cut d t = some (a, m, b)) : lay d t = ([m], [a, b]) := by
  unfold lay
  rw [if_neg h, hc]
theorem lay_leaf (o : Ord lt) {lo hi : Option K} (l : List (K × V)) (h : Ris lt hi lo l) (h8 : ¬ l.length ≤ 8) (h16 : l.length ≤ 16) :
    ∃ a m b, cut (K := K) (V := V) 0 l = some (a, m, b) ∧ KL lt 0 hi lo [m] [a, b] ∧ ([a, b].map (flat 0)).flatten = l := by
  have hlt : l.length / 2 < l.length := by omega
  obtain ⟨k, v, hkv⟩ : ∃ k v, l[l.length / 2] = (k, v) := ⟨_, _, rfl⟩
  have hdr : l.drop (l.length / 2) = (k, v) :: l.drop (l.length / 2 + 1) := by rw [← hkv, List.getElem_cons_drop]
  have hsp : l = l.take (l.length / 2) ++ (k, v) :: l.drop (l.length / 2 + 1) := by rw [← hdr, List.take_append_drop]
  have hR : Ris lt hi lo (l.take (l.length / 2) ++ (k, v) :: l.drop (l.length / 2 + 1)) := by rw [← hsp]; exact h
  obtain ⟨q1, q2, q3, q4⟩ := ris_split o hR
  rw [← hdr] at q2
  have lt1 : (l.take (l.length / 2)).length = l.length / 2 := by rw [List.length_take]; omega
  have lt2 : (l.drop (l.length / 2)).length = l.length - l.length / 2 := List.length_drop
  refine ⟨l.take (l.length / 2), k, l.drop (l.length / 2), ?_, ⟨q3 ?_, q4, ⟨q1, ?_, ?_⟩, q2, ?_, ?_⟩, ?_⟩
  · rw [cut_leaf l hlt, hkv]; rfl
  · intro e0
    rw [e0] at lt1
    simp at lt1
    omega
  · show 4 ≤ (l.take (l.length / 2)).length
    omega
  · show (l.take (l.length / 2)).length ≤ 8
    omega
  · show 4 ≤ (l.drop (l.length / 2)).length
    omega
  · show (l.drop (l.length / 2)).length ≤ 8
    omega
  · show ([l.take (l.length / 2), l.drop (l.length / 2)]).flatten = l
    simp
theorem lay_node (o : Ord lt) (d : Nat) {lo hi : Option K} (ks : List K) (ts : List (T K V d)) (h : KL lt d hi lo ks ts) (h8 : ¬ ks.length ≤ 8) (h16 : ks.length ≤ 16) :
    ∃ a m b, cut (d + 1) ((ks, ts) : T K V (d + 1)) = some (a, m, b) ∧ KL lt (d + 1) hi lo [m] [a, b] ∧ ([a, b].map (flat (d + 1))).flatten = (ts.map (flat d)).flatten := by
  have hlt : ks.length / 2 < ks.length := by omega
  obtain ⟨m, hm⟩ : ∃ m, ks[ks.length / 2] = m := ⟨_, rfl⟩
  have hsp : ks = ks.take (ks.length / 2) ++ m :: ks.drop (ks.length / 2 + 1) := by
    rw [← hm, List.getElem_cons_drop, List.take_append_drop]
  have lt1 : (ks.take (ks.length / 2)).length = ks.length / 2 := by rw [List.length_take]; omega
  have lt2 : (ks.drop (ks.length / 2 + 1)).length = ks.length - (ks.length / 2 + 1) := List.length_drop
  have hG : KL lt d hi lo (ks.take (ks.length / 2) ++ m :: ks.drop (ks.length / 2 + 1)) ts := by rw [← hsp]; exact h
  obtain ⟨q1, q2, q3, q4⟩ := gl_split o hG
  rw [lt1] at q1 q2
  refine ⟨(ks.take (ks.length / 2), ts.take (ks.length / 2 + 1)), m, (ks.drop (ks.length / 2 + 1), ts.drop (ks.length / 2 + 1)), ?_, ⟨q3, q4, ⟨q1, ?_, ?_⟩, q2, ?_, ?_⟩, ?_⟩
  · rw [cut_node d ks ts hlt, hm]; rfl
  · show 4 ≤ (ks.take (ks.length / 2)).length
    omega
  · show (ks.take (ks.length / 2)).length ≤ 8
    omega
  · show 4 ≤ (ks.drop (ks.length / 2 + 1)).length
    omega
  · show (ks.drop (ks.length / 2 + 1)).length ≤ 8
    omega
  · show ([((ts.take (ks.length / 2 + 1)).map (flat d)).flatten, ((ts.drop (ks.length / 2 + 1)).map (flat d)).flatten]).flatten = (ts.map (flat d)).flatten
    have : ts.map (flat d) = (ts.take (ks.length / 2 + 1)).map (flat d) ++ (ts.drop (ks.length / 2 + 1)).map (flat d) := by rw [← List.map_append, List.take_append_drop]
    rw [this, List.flatten_append]
    simp
theorem lay_good (o : Ord lt) (d : Nat) {lo hi : Option K} {t : T K V d} (h : Good lt d lo hi t) (h4 : 4 ≤ nk d t) (h16 : nk d t ≤ 16) : KL lt d hi lo (lay d t).1 (lay d t).2 ∧ ((lay d t).2.map (flat d)).flatten = flat d t ∧ (lay d t).1.length ≤ 1 := by
  by_cases h8 : nk d t ≤ 8
  · rw [lay_small d t h8]
    exact ⟨⟨h, h4, h8⟩, by simp, Nat.zero_le _⟩
  · match d, t, h, h16, h8 with
    | 0, l, h, h16, h8 =>
      obtain ⟨a, m, b, hc, q1, q2⟩ := lay_leaf o l h h8 h16
      rw [lay_cut 0 l a b m h8 hc]
      exact ⟨q1, q2, Nat.le_refl _⟩
    | d + 1, (ks, ts), h, h16, h8 =>
      obtain ⟨a, m, b, hc, q1, q2⟩ := lay_node o d ks ts h h8 h16
      rw [lay_cut (d + 1) _ a b m h8 hc]
      exact ⟨q1, q2, Nat.le_refl _⟩
theorem le_lt (o : Ord lt) {p a k : K} (h : lt p a = true) (h2 : lt k a = false) : lt p k = true := by
  cases hx : lt a k with
  | true => exact o.tr _ _ _ h hx
  | false => rw [← o.eq _ _ hx h2]; exact h
theorem KL.inR (o : Ord lt) {d : Nat} {lo hi : Option K} {ks : List K} {ts : List (T K V d)} (h : KL lt d hi lo ks ts) : InR lt lo hi (ts.map (flat d)).flatten := Good.inR o (d + 1) (t := ((ks, ts) : T K V (d + 1))) h
/-- A kid is put anew below a node. -/
theorem modL_good (o : Ord lt) {d : Nat} {k : K} {v : V} {hi : Option K} (hk : hiB lt hi k = true) (f : T K V d → List K × List (T K V d))
    (hf : ∀ lo hi t, Good lt d lo hi t → 4 ≤ nk d t → nk d t ≤ 8 → loB lt lo k = true → hiB lt hi k = true → KL lt d hi lo (f t).1 (f t).2 ∧ ((f t).2.map (flat d)).flatten = ins lt k v (flat d t) ∧ (f t).1.length ≤ 1) :
    ∀ (ks : List K) (ts : List (T K V d)) (lo : Option K), KL lt d hi lo ks ts → loB lt lo k = true → KL lt d hi lo (modL (lt := lt) f k ks ts).1 (modL (lt := lt) f k ks ts).2 ∧ ((modL (lt := lt) f k ks ts).2.map (flat d)).flatten = ins lt k v (ts.map (flat d)).flatten ∧ (modL (lt := lt) f k ks ts).1.length ≤ ks.length + 1 ∧ ks.length ≤ (modL (lt := lt) f k ks ts).1.length
  | [], [t], lo, h, hl => by
    obtain ⟨q1, q2, q3⟩ := hf lo hi t h.1 h.2.1 h.2.2 hl hk
    refine ⟨q1, ?_, q3, Nat.zero_le _⟩
    show ((f t).2.map (flat d)).flatten = _
    rw [q2]
    simp
  | [], [], _, h, _ => h.elim
  | [], _ :: _ :: _, _, h, _ => h.elim
  | _ :: _, [], _, h, _ => h.elim
  | a :: ks, t :: ts, lo, h, hl => by
    obtain ⟨h1, h2, h3, h4⟩ := h
    by_cases hx : lt k a = true
    · obtain ⟨q1, q2, q3⟩ := hf lo (some a) t h3.1 h3.2.1 h3.2.2 hl hx
      have e : modL (lt := lt) f k (a :: ks) (t :: ts) = ((f t).1 ++ a :: ks, (f t).2 ++ ts) := if_pos hx
      rw [e]
      refine ⟨GL.app o h2 h4 h1 q1, ?_, ?_, ?_⟩
      · show (((f t).2 ++ ts).map (flat d)).flatten = _
        rw [List.map_append, List.flatten_append, q2, List.map_cons, List.flatten_cons, ins_right o]
        intro p hp
        have hq := (KL.inR o h4 p hp).1
        have hq' : (!lt p.1 a) = true := hq
        cases hy : lt k p.1 with
        | true => rfl
        | false =>
          have := le_lt o hx (show lt p.1 a = false by simpa using hq')
          rw [this] at hy
          cases hy
      · show ((f t).1 ++ a :: ks).length ≤ _
        rw [List.length_append, List.length_cons]
        omega
      · show _ ≤ ((f t).1 ++ a :: ks).length
        rw [List.length_append]
        omega
    · have hx' : lt k a = false := by simpa using hx
      obtain ⟨q1, q2, q3, q4⟩ := modL_good o hk f hf ks ts (some a) h4 (by show (!lt k a) = true; rw [hx']; rfl)
      have e : modL (lt := lt) f k (a :: ks) (t :: ts) = (a :: (modL (lt := lt) f k ks ts).1, t :: (modL (lt := lt) f k ks ts).2) := if_neg hx
      rw [e]
      refine ⟨⟨h1, h2, h3, q1⟩, ?_, ?_, ?_⟩
      · show ((t :: (modL (lt := lt) f k ks ts).2).map (flat d)).flatten = _
        rw [List.map_cons, List.flatten_cons, q2, List.map_cons, List.flatten_cons, ins_left]
        intro p hp
        have hq := (Good.inR o d h3.1 p hp).2
        exact le_lt o hq hx'
      · show (a :: _).length ≤ _
        rw [List.length_cons, List.length_cons]
        omega
      · show _ ≤ (a :: _).length
        rw [List.length_cons, List.length_cons]
        omega
theorem put_good (o : Ord lt) (k : K) (v : V) : ∀ (d : Nat) (lo hi : Option K) (t : T K V d), Good lt d lo hi t → loB lt lo k = true → hiB lt hi k = true → Good lt d lo hi (put lt k v d t) ∧ flat d (put lt k v d t) = ins lt k v (flat d t) ∧ nk d (put lt k v d t) ≤ nk d t + 1 ∧ nk d t ≤ nk d (put lt k v d t)
  | 0, lo, hi, l, h, h1, h2 => by
    obtain ⟨q1, q2, q3, _, _⟩ := ins_ris (v := v) o h1 h2 h
    exact ⟨q1, rfl, q2, q3⟩
  | d + 1, lo, hi, (ks, ts), h, h1, h2 => by
    obtain ⟨t, e1, e2⟩ := modL_eq (lt := lt) (fun t => lay d (put lt k v d t)) k ks ts (GL.len lt h)
    have e : put lt k v (d + 1) ((ks, ts) : T K V (d + 1)) = modL (lt := lt) (fun t => lay d (put lt k v d t)) k ks ts := by
      rw [e2]
      show (match ts[kid lt k ks]? with | none => ((ks, ts) : T K V (d + 1)) | some t => swap d ks ts (kid lt k ks) (kid lt k ks) (put lt k v d t)) = _
      rw [e1]
      rfl
    obtain ⟨q1, q2, q3, q4⟩ := modL_good o h2 (fun t => lay d (put lt k v d t)) (fun lo hi t hg h4 h8 hl hh => by
      obtain ⟨p1, p2, p3, p4⟩ := put_good o k v d lo hi t hg hl hh
      obtain ⟨r1, r2, r3⟩ := lay_good o d p1 (by omega) (by omega)
      exact ⟨r1, r2.trans p2, r3⟩) ks ts lo h h1
    rw [e]
    exact ⟨q1, q2, q3, q4⟩
theorem del_lt {k a : K} {b : V} {r : List (K × V)} (h : lt a k = true) : del lt k ((a, b) :: r) = (a, b) :: del lt k r := if_pos h
theorem del_gt {k a : K} {b : V} {r : List (K × V)} (h : lt a k = false) (h2 : lt k a = true) : del lt k ((a, b) :: r) = (a, b) :: r := (if_neg (by rw [h]; simp)).trans (if_pos h2)
theorem del_eq {k a : K} {b : V} {r : List (K × V)} (h : lt a k = false) (h2 : lt k a = false) : del lt k ((a, b) :: r) = r := (if_neg (by rw [h]; simp)).trans (if_neg (by rw [h2]; simp))
theorem del_left {k : K} {B : List (K × V)} : ∀ {A : List (K × V)}, (∀ p ∈ A, lt p.1 k = true) → del lt k (A ++ B) = A ++ del lt k B
  | [], _ => rfl
  | (a, b) :: A, h => by
    have h1 : lt a k = true := h (a, b) List.mem_cons_self
    rw [List.cons_append, del_lt h1, del_left (fun p hp => h p (List.mem_cons_of_mem _ hp))]
    rfl
theorem del_right (o : Ord lt) {k : K} {C : List (K × V)} (hC : ∀ p ∈ C, lt k p.1 = true) : ∀ {B : List (K × V)}, del lt k (B ++ C) = del lt k B ++ C
  | [] => by
    match C, hC with
    | [], _ => rfl
    | (c, x) :: C, hC =>
      have h1 : lt k c = true := hC (c, x) List.mem_cons_self
      rw [List.nil_append, del_gt (asym o h1) h1]
      rfl
  | (a, b) :: B => by
    rw [List.cons_append]
    cases h1 : lt a k with
    | true => rw [del_lt h1, del_lt h1, del_right o hC]; rfl
    | false =>
      cases h2 : lt k a with
      | true => rw [del_gt h1 h2, del_gt h1 h2]; rfl
      | false => rw [del_eq h1 h2, del_eq h1 h2]
theorem del_ris {k : K} {lo hi : Option K} : ∀ {l : List (K × V)}, Ris lt hi lo l → Ris lt hi lo (del lt k l) ∧ (del lt k l).length ≤ l.length ∧ l.length ≤ (del lt k l).length + 1 ∧ ∀ p ∈ del lt k l, p ∈ l
  | [], _ => ⟨trivial, Nat.le_refl _, Nat.zero_le _, fun _ h => h⟩
  | (a, b) :: r, h => by
    obtain ⟨i1, i2, i3, i4⟩ := del_ris (k := k) h.2.2.2
    cases ha : lt a k with
    | true =>
      rw [del_lt ha]
      refine ⟨⟨h.1, h.2.1, fun p hp => h.2.2.1 p (i4 p hp), i1⟩, by simpa using i2, by simpa using i3, ?_⟩
      intro p hp
      rcases List.mem_cons.1 hp with rfl | hp
      · exact List.mem_cons_self
      · exact List.mem_cons_of_mem _ (i4 p hp)
    | false =>
      cases hb : lt k a with
      | true =>
        rw [del_gt ha hb]
        exact ⟨h, Nat.le_refl _, Nat.le_succ _, fun _ hp => hp⟩
      | false =>
        rw [del_eq ha hb]
        exact ⟨h.2.2.2, by simp, by simp, fun p hp => List.mem_cons_of_mem _ hp⟩
/-- A node parted: those ahead of a place, and what follows, which may be put anew. -/
theorem gl_part (o : Ord lt) {d : Nat} {k : K} {hi : Option K} {D : List K} {R : List (T K V d)} : ∀ (A : List K) (U : List (T K V d)) (lo : Option K), U.length = A.length → KL lt d hi lo (A ++ D) (U ++ R) → loB lt lo k = true → (∀ a ∈ A, lt k a = false) →
    ∃ lo', KL lt d hi lo' D R ∧ loB lt lo' k = true ∧ (∀ D' R', KL lt d hi lo' D' R' → KL lt d hi lo (A ++ D') (U ++ R')) ∧ ∀ p ∈ (U.map (flat d)).flatten, lt p.1 k = true
  | [], [], lo, _, h, hl, _ => ⟨lo, h, hl, fun _ _ h => h, fun _ h => by cases h⟩
  | [], _ :: _, _, e, _, _, _ => by cases e
  | _ :: _, [], _, e, _, _, _ => by cases e
  | a :: A, t :: U, lo, e, h, hl, ha => by
    obtain ⟨h1, h2, h3, h4⟩ := h
    have hka := ha a List.mem_cons_self
    obtain ⟨lo', q1, q2, q3, q4⟩ := gl_part o (k := k) A U (some a) (by simpa using e) h4 (by show (!lt k a) = true; rw [hka]; rfl) (fun x hx => ha x (List.mem_cons_of_mem _ hx))
    refine ⟨lo', q1, q2, fun D' R' h' => ⟨h1, h2, h3, q3 D' R' h'⟩, ?_⟩
    intro p hp
    rw [List.map_cons, List.flatten_cons, List.mem_append] at hp
    rcases hp with hp | hp
    · exact le_lt o (Good.inR o d h3.1 p hp).2 hka
    · exact q4 p hp
/-- Two pages in one. -/
def joined : (d : Nat) → T K V d → K → T K V d → T K V d
  | 0, a, _, b => List.append (α := K × V) a b
  | _ + 1, (ks, ts), m, (ls, us) => (ks ++ m :: ls, ts ++ us)
theorem ris_app (o : Ord lt) {m : K} {hi : Option K} {B : List (K × V)} (hm : ltO lt m hi) (hB : Ris lt hi (some m) B) {lo : Option K} (hlo : gtO lt lo m) : ∀ {A : List (K × V)}, Ris lt (some m) lo A → Ris lt hi lo (A ++ B)
  | [], _ => by
    have up : ∀ (l : List (K × V)), Ris lt hi (some m) l → Ris lt hi lo l := by
      intro l
      induction l with
      | nil => intro _; trivial
      | cons p l ih =>
        intro h
        have h1 : (!lt p.1 m) = true := h.1
        exact ⟨lo_of_gt o hlo (by simpa using h1), h.2.1, h.2.2.1, ih h.2.2.2⟩
    exact up B hB
  | (a, b) :: A, h => by
    refine ⟨h.1, hi_of_lt o hm h.2.1, ?_, ris_app o hm hB hlo h.2.2.2⟩
    intro p hp
    rcases List.mem_append.1 hp with hp | hp
    · exact h.2.2.1 p hp
    · have h1 : (!lt p.1 m) = true := (Ris.inR hB p hp).1
      exact le_lt o (show lt a m = true from h.2.1) (by simpa using h1)
theorem joined_good (o : Ord lt) : ∀ (d : Nat) {lo hi : Option K} {m : K} {a b : T K V d}, gtO lt lo m → ltO lt m hi → Good lt d lo (some m) a → Good lt d (some m) hi b → Good lt d lo hi (joined d a m b) ∧ flat d (joined d a m b) = flat d a ++ flat d b ∧ nk d a + nk d b ≤ nk d (joined d a m b) ∧ nk d (joined d a m b) ≤ nk d a + nk d b + 1
  | 0, lo, hi, m, a, b, h1, h2, h3, h4 => by
    have e : nk 0 (joined 0 a m b) = nk 0 a + nk 0 b := @List.length_append (K × V) a b
    exact ⟨ris_app o h2 h4 h1 h3, rfl, by omega, by omega⟩
  | d + 1, lo, hi, m, (ks, ts), (ls, us), h1, h2, h3, h4 => by
    refine ⟨GL.app o h2 h4 h1 h3, ?_, ?_, ?_⟩
    · show ((ts ++ us).map (flat d)).flatten = _
      rw [List.map_append, List.flatten_append]
      rfl
    · show ks.length + ls.length ≤ (ks ++ m :: ls).length
      rw [List.length_append, List.length_cons]
      omega
    · show (ks ++ m :: ls).length ≤ ks.length + ls.length + 1
      rw [List.length_append, List.length_cons]
      omega
/-- The bound ahead of which a kid lies. -/
def hd (hi : Option K) : List K → Option K
  | [] => hi
  | c :: _ => some c
variable (lt) in
/-- What may follow a kid. -/
def Tail (d : Nat) (hi lo : Option K) (C : List K) (W : List (T K V d)) : Prop := match C with
  | [] => W = []
  | c :: C => gtO lt lo c ∧ ltO lt c hi ∧ KL lt d hi (some c) C W
theorem kl_tail {d : Nat} {hi lo : Option K} {D : List K} {t : T K V d} {W : List (T K V d)} (h : KL lt d hi lo D (t :: W)) : Tail lt d hi lo D W ∧ Good lt d lo (hd hi D) t ∧ 4 ≤ nk d t ∧ nk d t ≤ 8 := by
  match D, W, h with
  | [], [], h => exact ⟨rfl, h.1, h.2⟩
  | c :: C, W, h => exact ⟨⟨h.1, h.2.1, h.2.2.2⟩, h.2.2.1.1, h.2.2.1.2⟩
theorem tail_good (o : Ord lt) {d : Nat} {hi lo : Option K} {C : List K} {W : List (T K V d)} (h : Tail lt d hi lo C W) {r : T K V d} (hr : Good lt d lo (hd hi C) r) (h4 : 4 ≤ nk d r) (h16 : nk d r ≤ 16) :
    KL lt d hi lo ((lay d r).1 ++ C) ((lay d r).2 ++ W) ∧ (((lay d r).2 ++ W).map (flat d)).flatten = flat d r ++ (W.map (flat d)).flatten ∧ (lay d r).1.length ≤ 1 := by
  obtain ⟨q1, q2, q3⟩ := lay_good o d hr h4 h16
  refine ⟨?_, ?_, q3⟩
  · match C, h, q1 with
    | [], h, q1 =>
      have e : W = [] := h
      rw [e, List.append_nil, List.append_nil]
      exact q1
    | c :: C, h, q1 => exact GL.app o h.2.1 h.2.2 h.1 q1
  · rw [List.map_append, List.flatten_append, q2]
theorem tail_up (o : Ord lt) {d : Nat} {hi lo : Option K} {m : K} {C : List K} {W : List (T K V d)} (hm : gtO lt lo m) (h : Tail lt d hi (some m) C W) : Tail lt d hi lo C W := by
  match C, h with
  | [], h => exact h
  | c :: C, h => exact ⟨gtO.trans o hm h.1, h.2⟩
theorem tail_gt (o : Ord lt) {d : Nat} {hi lo : Option K} {C : List K} {W : List (T K V d)} (h : Tail lt d hi lo C W) {k : K} (hk : kid lt k C = 0) : ∀ p ∈ (W.map (flat d)).flatten, lt k p.1 = true := by
  match C, h, hk with
  | [], h, _ =>
    have e : W = [] := h
    rw [e]
    intro p hp
    cases hp
  | c :: C, h, hk =>
    have hc : lt k c = true := by
      cases hx : lt k c with
      | true => rfl
      | false => simp [kid, hx] at hk
    intro p hp
    have h1 : (!lt p.1 c) = true := (KL.inR o h.2.2 p hp).1
    exact le_lt o hc (by simpa using h1)
theorem kid_take (k : K) : ∀ (ks : List K), kid lt k ks ≤ ks.length ∧ (∀ a ∈ ks.take (kid lt k ks), lt k a = false) ∧ kid lt k (ks.drop (kid lt k ks)) = 0
  | [] => ⟨Nat.le_refl _, (fun _ h => by cases h), rfl⟩
  | a :: r => by
    cases h : lt k a with
    | true =>
      have e : kid lt k (a :: r) = 0 := by simp [kid, h]
      rw [e]
      exact ⟨Nat.zero_le _, (fun _ h => by cases h), by simp [kid, h]⟩
    | false =>
      obtain ⟨q1, q2, q3⟩ := kid_take k r
      have e : kid lt k (a :: r) = kid lt k r + 1 := by simp [kid, h]
      rw [e]
      refine ⟨by simpa using q1, ?_, by simpa using q3⟩
      intro x hx
      rw [List.take_succ_cons] at hx
      rcases List.mem_cons.1 hx with rfl | hx
      · exact h
      · exact q2 x hx
theorem hd_hi {hi : Option K} {D : List K} {k : K} (hk : kid lt k D = 0) (h : hiB lt hi k = true) : hiB lt (hd hi D) k = true := by
  match D, hk with
  | [], _ => exact h
  | c :: C, hk =>
    show lt k c = true
    cases hx : lt k c with
    | true => rfl
    | false => simp [kid, hx] at hk
def rem (lt : K → K → Bool) (k : K) : (d : Nat) → T K V d → T K V d
  | 0, l => del lt k l
  | d + 1, (ks, ts) => match ts[kid lt k ks]? with
    | none => (ks, ts)
    | some t =>
      if nk d (rem lt k d t) < 4 then
        (if kid lt k ks = 0 then (match ts[1]?, ks[0]? with
          | some u, some m => swap d ks ts 0 1 (joined d (rem lt k d t) m u)
          | _, _ => (ks, ts))
        else (match ts[kid lt k ks - 1]?, ks[kid lt k ks - 1]? with
          | some u, some m => swap d ks ts (kid lt k ks - 1) (kid lt k ks) (joined d u m (rem lt k d t))
          | _, _ => (ks, ts)))
      else swap d ks ts (kid lt k ks) (kid lt k ks) (rem lt k d t)
theorem part_at {X : Type} (l : List X) (i : Nat) (x : X) (h : l[i]? = some x) : l = l.take i ++ x :: l.drop (i + 1) := by
  obtain ⟨hi, hx⟩ := List.getElem?_eq_some_iff.1 h
  rw [← hx, List.getElem_cons_drop, List.take_append_drop]
variable (lt) in
/-- What taking a key away makes of a tree. -/
def RemOk (k : K) (d : Nat) (lo hi : Option K) (t : T K V d) : Prop :=
  Good lt d lo hi (rem lt k d t) ∧ flat d (rem lt k d t) = del lt k (flat d t) ∧ nk d (rem lt k d t) ≤ nk d t ∧ nk d t ≤ nk d (rem lt k d t) + 1
theorem rem_node (o : Ord lt) (k : K) (d : Nat) (ih : ∀ (lo hi : Option K) (t : T K V d), Good lt d lo hi t → loB lt lo k = true → hiB lt hi k = true → 1 ≤ nk d t → RemOk lt k d lo hi t)
    (lo hi : Option K) (ks : List K) (ts : List (T K V d)) (h : KL lt d hi lo ks ts) (h1 : loB lt lo k = true) (h2 : hiB lt hi k = true) (hne : 1 ≤ ks.length) : RemOk lt k (d + 1) lo hi ((ks, ts) : T K V (d + 1)) := by
  have hlen := GL.len lt h
  obtain ⟨k1, k2, k3⟩ := kid_take (lt := lt) k ks
  obtain ⟨t, ht⟩ : ∃ t, ts[kid lt k ks]? = some t := ⟨ts[kid lt k ks]'(by omega), List.getElem?_eq_getElem (by omega)⟩
  have er : rem lt k (d + 1) ((ks, ts) : T K V (d + 1)) = if nk d (rem lt k d t) < 4 then
        (if kid lt k ks = 0 then (match ts[1]?, ks[0]? with
          | some u, some m => swap d ks ts 0 1 (joined d (rem lt k d t) m u)
          | _, _ => (ks, ts))
        else (match ts[kid lt k ks - 1]?, ks[kid lt k ks - 1]? with
          | some u, some m => swap d ks ts (kid lt k ks - 1) (kid lt k ks) (joined d u m (rem lt k d t))
          | _, _ => (ks, ts)))
      else swap d ks ts (kid lt k ks) (kid lt k ks) (rem lt k d t) := by
    show (match ts[kid lt k ks]? with | none => _ | some t => _) = _
    rw [ht]
  have hts := part_at ts _ t ht
  generalize hi' : kid lt k ks = i at *
  generalize hr : rem lt k d t = r at *
  unfold RemOk
  rw [er]
  by_cases h4 : nk d r < 4
  · rw [if_pos h4]
    by_cases h0 : i = 0
    · subst h0
      rw [if_pos rfl]
      match ks, ts, h, hlen, hne, ht, hi' with
      | m :: C, t' :: u :: W, h, hlen, hne, ht, hi' =>
        have et : t' = t := by simpa using ht
        subst et
        have hkm : lt k m = true := by
          cases hx : lt k m with
          | true => rfl
          | false => simp [kid, hx] at hi'
        obtain ⟨g1, g2, g3, g4⟩ := h
        obtain ⟨r1, r2, r3, r4⟩ := ih lo (some m) t' g3.1 h1 hkm (by omega)
        rw [hr] at r1 r2 r3 r4
        obtain ⟨t1, t2, t3, t4⟩ := kl_tail g4
        have hmC : ltO lt m (hd hi C) := by
          match C, t1 with
          | [], _ => exact g2
          | c :: C, t1 => exact t1.1
        obtain ⟨j1, j2, j3, j4⟩ := joined_good o d g1 hmC r1 t2
        obtain ⟨s1, s2, s3⟩ := tail_good o (tail_up o g1 t1) j1 (by omega) (by omega)
        have hin := KL.inR o g4
        show Good lt (d + 1) lo hi (swap d (m :: C) (t' :: u :: W) 0 1 (joined d r m u)) ∧ _
        refine ⟨s1, ?_, ?_, ?_⟩
        · show (((lay d (joined d r m u)).2 ++ W).map (flat d)).flatten = del lt k ((t' :: u :: W).map (flat d)).flatten
          rw [s2, j2, r2, List.map_cons, List.flatten_cons, del_right o]
          · rw [List.map_cons, List.flatten_cons, List.append_assoc]
          · intro p hp
            have h1 : (!lt p.1 m) = true := (hin p hp).1
            exact le_lt o hkm (by simpa using h1)
        · show ((lay d (joined d r m u)).1 ++ C).length ≤ (m :: C).length
          rw [List.length_append, List.length_cons]
          omega
        · show (m :: C).length ≤ ((lay d (joined d r m u)).1 ++ C).length + 1
          rw [List.length_append, List.length_cons]
          omega
      | m :: C, [_], h, hlen, _, _, _ => simp at hlen
      | m :: C, [], h, hlen, _, _, _ => simp at hlen
      | [], _, _, _, hne, _, _ => simp at hne
    · rw [if_neg h0]
      have hj : i - 1 < ks.length := by omega
      have hju : i - 1 < ts.length := by omega
      obtain ⟨u, hu⟩ : ∃ u, ts[i - 1]? = some u := ⟨ts[i - 1], List.getElem?_eq_getElem hju⟩
      obtain ⟨m, hm⟩ : ∃ m, ks[i - 1]? = some m := ⟨ks[i - 1], List.getElem?_eq_getElem hj⟩
      rw [hu, hm]
      have pk := part_at ks _ m hm
      have pu := part_at ts _ u hu
      have hi1 : i - 1 + 1 = i := by omega
      rw [hi1] at pk pu
      have ptl : ts.drop i = t :: ts.drop (i + 1) := by
        obtain ⟨hi2, hx⟩ := List.getElem?_eq_some_iff.1 ht
        rw [← hx, List.getElem_cons_drop]
      rw [ptl] at pu
      have hkm : lt k m = false := by
        refine k2 m ?_
        rw [List.mem_take_iff_getElem]
        obtain ⟨hi2, hx⟩ := List.getElem?_eq_some_iff.1 hm
        exact ⟨i - 1, by omega, hx⟩
      have hA : ∀ a ∈ ks.take (i - 1), lt k a = false := fun a ha => k2 a (List.take_subset_take_left ks (by omega) ha)
      have hU : (ts.take (i - 1)).length = (ks.take (i - 1)).length := by rw [List.length_take, List.length_take]; omega
      have hG : KL lt d hi lo (ks.take (i - 1) ++ m :: ks.drop i) (ts.take (i - 1) ++ u :: t :: ts.drop (i + 1)) := by rw [← pk, ← pu]; exact h
      obtain ⟨lo', q1, q2, q3, q4⟩ := gl_part o (k := k) _ _ lo hU hG h1 hA
      obtain ⟨g1, g2, g3, g4⟩ := q1
      obtain ⟨t1, t2, t3, t4⟩ := kl_tail g4
      obtain ⟨r1, r2, r3, r4⟩ := ih (some m) (hd hi (ks.drop i)) t t2 (by show (!lt k m) = true; rw [hkm]; rfl) (hd_hi k3 h2) (by omega)
      rw [hr] at r1 r2 r3 r4
      have hmC : ltO lt m (hd hi (ks.drop i)) := by
        generalize ks.drop i = C at *
        match C, t1 with
        | [], _ => exact g2
        | c :: C, t1 => exact t1.1
      obtain ⟨j1, j2, j3, j4⟩ := joined_good o d g1 hmC g3.1 r1
      obtain ⟨s1, s2, s3⟩ := tail_good o (tail_up o g1 t1) j1 (by omega) (by omega)
      have hgt := tail_gt o t1 k3
      have s4 := q3 _ _ s1
      have lk : ks.length = (ks.take (i - 1)).length + (1 + (ks.drop i).length) := by
        have := congrArg List.length pk
        rw [List.length_append, List.length_cons] at this
        omega
      show Good lt (d + 1) lo hi (swap d ks ts (i - 1) i (joined d u m r)) ∧ _
      refine ⟨?_, ?_, ?_, ?_⟩
      · show KL lt d hi lo (ks.take (i - 1) ++ (lay d (joined d u m r)).1 ++ ks.drop i) (ts.take (i - 1) ++ (lay d (joined d u m r)).2 ++ ts.drop (i + 1))
        rw [List.append_assoc, List.append_assoc]
        exact s4
      · show ((ts.take (i - 1) ++ (lay d (joined d u m r)).2 ++ ts.drop (i + 1)).map (flat d)).flatten = del lt k (ts.map (flat d)).flatten
        rw [List.append_assoc, List.map_append, List.flatten_append, s2, j2, r2]
        conv => rhs; rw [pu]
        rw [List.map_append, List.flatten_append, del_left q4, List.map_cons, List.flatten_cons, del_left (fun p hp => le_lt o (Good.inR o d g3.1 p hp).2 hkm), List.map_cons, List.flatten_cons, del_right o hgt, List.append_assoc]
      · show (ks.take (i - 1) ++ (lay d (joined d u m r)).1 ++ ks.drop i).length ≤ ks.length
        rw [List.length_append, List.length_append]
        omega
      · show ks.length ≤ (ks.take (i - 1) ++ (lay d (joined d u m r)).1 ++ ks.drop i).length + 1
        rw [List.length_append, List.length_append]
        omega
  · rw [if_neg h4]
    have hU : (ts.take i).length = (ks.take i).length := by rw [List.length_take, List.length_take]; omega
    have hG : KL lt d hi lo (ks.take i ++ ks.drop i) (ts.take i ++ t :: ts.drop (i + 1)) := by rw [List.take_append_drop, ← hts]; exact h
    obtain ⟨lo', q1, q2, q3, q4⟩ := gl_part o (k := k) _ _ lo hU hG h1 k2
    obtain ⟨t1, t2, t3, t4⟩ := kl_tail q1
    obtain ⟨r1, r2, r3, r4⟩ := ih lo' (hd hi (ks.drop i)) t t2 q2 (hd_hi k3 h2) (by omega)
    rw [hr] at r1 r2 r3 r4
    obtain ⟨s1, s2, s3⟩ := tail_good o t1 r1 (by omega) (by omega)
    have hgt := tail_gt o t1 k3
    have s4 := q3 _ _ s1
    have el := lay_small d r (by omega)
    rw [el] at s4 s2
    have lk : ks.length = (ks.take i).length + (ks.drop i).length := by
      have := congrArg List.length (List.take_append_drop i ks)
      rw [List.length_append] at this
      omega
    have es : swap d ks ts i i r = ((ks.take i ++ [] ++ ks.drop i, ts.take i ++ [r] ++ ts.drop (i + 1)) : T K V (d + 1)) := by
      unfold swap
      rw [el]
    rw [es]
    refine ⟨?_, ?_, ?_, ?_⟩
    · show KL lt d hi lo (ks.take i ++ [] ++ ks.drop i) (ts.take i ++ [r] ++ ts.drop (i + 1))
      rw [List.append_assoc, List.append_assoc]
      exact s4
    · show ((ts.take i ++ [r] ++ ts.drop (i + 1)).map (flat d)).flatten = del lt k (ts.map (flat d)).flatten
      rw [List.append_assoc, List.map_append, List.flatten_append, s2, r2]
      conv => rhs; rw [hts]
      rw [List.map_append, List.flatten_append, del_left q4, List.map_cons, List.flatten_cons, del_right o hgt]
    · show (ks.take i ++ [] ++ ks.drop i).length ≤ ks.length
      rw [List.append_nil, List.length_append]
      omega
    · show ks.length ≤ (ks.take i ++ [] ++ ks.drop i).length + 1
      rw [List.append_nil, List.length_append]
      omega
theorem rem_good (o : Ord lt) (k : K) : ∀ (d : Nat) (lo hi : Option K) (t : T K V d), Good lt d lo hi t → loB lt lo k = true → hiB lt hi k = true → 1 ≤ nk d t → RemOk lt k d lo hi t
  | 0, lo, hi, l, h, _, _, _ => by
    obtain ⟨q1, q2, q3, _⟩ := del_ris (k := k) h
    exact ⟨q1, rfl, q2, q3⟩
  | d + 1, lo, hi, (ks, ts), h, h1, h2, h3 => rem_node o k d (rem_good o k d) lo hi ks ts h h1 h2 h3
/-- A whole tree: none, or one with its depth. -/
abbrev Root (K V : Type) := Option ((d : Nat) × T K V d)
def flatR : Root K V → List (K × V)
  | none => []
  | some ⟨d, t⟩ => flat d t
variable (lt) in
def RootOk : Root K V → Prop
  | none => True
  | some ⟨d, t⟩ => Good lt d none none t ∧ 1 ≤ nk d t ∧ nk d t ≤ 8
def mk1 (d : Nat) (a : T K V d) (m : K) (b : T K V d) : T K V (d + 1) := ([m], [a, b])
def over (d : Nat) (t : T K V d) : Root K V := match cut d t with
  | none => none
  | some (a, m, b) => some ⟨d + 1, mk1 d a m b⟩
def down : (d : Nat) → T K V d → Root K V
  | 0, _ => none
  | d + 1, t => match t.2[0]? with
    | none => none
    | some u => some ⟨d, u⟩
/-- A page is made the root. -/
def plant (d : Nat) (t : T K V d) : Root K V := if nk d t = 0 then down d t else if nk d t ≤ 8 then some ⟨d, t⟩ else over d t
theorem over_good {d : Nat} {t a b : T K V d} {m : K} (hc : cut d t = some (a, m, b)) (h : KL lt d none none [m] [a, b]) (hf : ([a, b].map (flat d)).flatten = flat d t) : RootOk lt (over d t) ∧ flatR (over d t) = flat d t := by
  unfold over
  rw [hc]
  exact ⟨⟨h, by show 1 ≤ 1; omega, by show 1 ≤ 8; omega⟩, hf⟩
theorem down_good : ∀ {d : Nat} {t : T K V d}, Good lt d none none t → nk d t = 0 → RootOk lt (down d t) ∧ flatR (down d t) = flat d t
  | 0, l, _, h0 => by
    have e : l = [] := List.eq_nil_of_length_eq_zero h0
    rw [e]
    exact ⟨trivial, rfl⟩
  | d + 1, (ks, ts), h, h0 => by
    have e : ks = [] := List.eq_nil_of_length_eq_zero h0
    subst e
    match ts, h with
    | [u], h =>
      have h4 : 4 ≤ nk d u := h.2.1
      refine ⟨⟨h.1, by omega, h.2.2⟩, ?_⟩
      show flat d u = ([u].map (flat d)).flatten
      simp
theorem plant_good (o : Ord lt) (d : Nat) (t : T K V d) (h : Good lt d none none t) (h16 : nk d t ≤ 16) : RootOk lt (plant d t) ∧ flatR (plant d t) = flat d t := by
  unfold plant
  by_cases h0 : nk d t = 0
  · rw [if_pos h0]
    exact down_good h h0
  · rw [if_neg h0]
    by_cases h8 : nk d t ≤ 8
    · rw [if_pos h8]
      exact ⟨⟨h, by omega, h8⟩, rfl⟩
    · rw [if_neg h8]
      match d, t, h, h16, h8 with
      | 0, l, h, h16, h8 =>
        obtain ⟨a, m, b, hc, q1, q2⟩ := lay_leaf o l h h8 h16
        exact over_good hc q1 q2
      | d + 1, (ks, ts), h, h16, h8 =>
        obtain ⟨a, m, b, hc, q1, q2⟩ := lay_node o d ks ts h h8 h16
        exact over_good hc q1 q2
def putR (lt : K → K → Bool) (k : K) (v : V) : Root K V → Root K V
  | none => plant 0 (put lt k v 0 [])
  | some ⟨d, t⟩ => plant d (put lt k v d t)
def remR (lt : K → K → Bool) (k : K) : Root K V → Root K V
  | none => none
  | some ⟨d, t⟩ => plant d (rem lt k d t)
theorem putR_good (o : Ord lt) (k : K) (v : V) (r : Root K V) (h : RootOk lt r) : RootOk lt (putR lt k v r) ∧ flatR (putR lt k v r) = ins lt k v (flatR r) := by
  match r, h with
  | none, _ =>
    obtain ⟨q1, q2, q3, q4⟩ := put_good o k v 0 none none ([] : List (K × V)) trivial rfl rfl
    have h1 : nk (K := K) (V := V) 0 (put lt k v 0 ([] : List (K × V))) ≤ 1 := q3
    obtain ⟨p1, p2⟩ := plant_good o 0 _ q1 (by omega)
    exact ⟨p1, p2.trans q2⟩
  | some ⟨d, t⟩, h =>
    obtain ⟨q1, q2, q3, q4⟩ := put_good o k v d none none t h.1 rfl rfl
    have h8 : nk d t ≤ 8 := h.2.2
    obtain ⟨p1, p2⟩ := plant_good o d _ q1 (by omega)
    exact ⟨p1, p2.trans q2⟩
theorem remR_good (o : Ord lt) (k : K) (r : Root K V) (h : RootOk lt r) : RootOk lt (remR lt k r) ∧ flatR (remR lt k r) = del lt k (flatR r) := by
  match r, h with
  | none, _ => exact ⟨trivial, rfl⟩
  | some ⟨d, t⟩, h =>
    obtain ⟨q1, q2, q3, q4⟩ := rem_good o k d none none t h.1 rfl rfl h.2.1
    have h8 : nk d t ≤ 8 := h.2.2
    obtain ⟨p1, p2⟩ := plant_good o d _ q1 (by omega)
    exact ⟨p1, p2.trans q2⟩
/-- No keys, no root. -/
theorem root_none (r : Root K V) (h : RootOk lt r) : flatR r = [] ↔ r = none := by
  constructor
  · intro hf
    match r, h with
    | none, _ => rfl
    | some ⟨d, t⟩, h =>
      have ne : ∀ (d : Nat) (t : T K V d) (lo hi : Option K), Good lt d lo hi t → 1 ≤ nk d t → flat d t ≠ [] := by
        intro d
        induction d with
        | zero =>
          intro l _ _ _ hn e
          have e' : (show List (K × V) from l) = [] := e
          have hn' : 1 ≤ List.length (show List (K × V) from l) := hn
          rw [e'] at hn'
          simp at hn'
        | succ d ih =>
          intro t lo hi hg _ e
          obtain ⟨ks, ts⟩ := t
          match ks, ts, hg with
          | [], [u], hg =>
            have e' : ([u].map (flat d)).flatten = [] := e
            have h4 : 4 ≤ nk d u := hg.2.1
            exact ih u _ _ hg.1 (by omega) (by simpa using e')
          | k :: ks, u :: ts, hg =>
            have e' : ((u :: ts).map (flat d)).flatten = [] := e
            rw [List.map_cons, List.flatten_cons, List.append_eq_nil_iff] at e'
            have h4 : 4 ≤ nk d u := hg.2.2.1.2.1
            exact ih u _ _ hg.2.2.1.1 (by omega) e'.1
      exact absurd hf (ne d t none none h.1 h.2.1)
  · intro e
    rw [e]
    rfl
/-- What stands behind a key. -/
def look (lt : K → K → Bool) (k : K) : List (K × V) → Option V
  | [] => none
  | (a, b) :: r => if lt a k then look lt k r else if lt k a then none else some b
def getT (lt : K → K → Bool) (k : K) : (d : Nat) → T K V d → Option V
  | 0, l => look lt k l
  | d + 1, (ks, ts) => match ts[kid lt k ks]? with
    | none => none
    | some t => getT lt k d t
theorem look_left {k : K} {B : List (K × V)} : ∀ {A : List (K × V)}, (∀ p ∈ A, lt p.1 k = true) → look lt k (A ++ B) = look lt k B
  | [], _ => rfl
  | (a, b) :: A, h => by
    have h1 : lt a k = true := h (a, b) List.mem_cons_self
    exact (if_pos h1).trans (look_left (fun p hp => h p (List.mem_cons_of_mem _ hp)))
theorem look_right (o : Ord lt) {k : K} {C : List (K × V)} (hC : ∀ p ∈ C, lt k p.1 = true) : ∀ {B : List (K × V)}, look lt k (B ++ C) = look lt k B
  | [] => by
    match C, hC with
    | [], _ => rfl
    | (c, x) :: C, hC =>
      have h1 : lt k c = true := hC (c, x) List.mem_cons_self
      exact (if_neg (by rw [asym o h1]; simp)).trans (if_pos h1)
  | (a, b) :: B => by
    show (if lt a k then look lt k (B ++ C) else if lt k a then none else some b) = (if lt a k then look lt k B else if lt k a then none else some b)
    rw [look_right o hC]
theorem getT_good (o : Ord lt) (k : K) : ∀ (d : Nat) (lo hi : Option K) (t : T K V d), Good lt d lo hi t → loB lt lo k = true → getT lt k d t = look lt k (flat d t)
  | 0, _, _, _, _, _ => rfl
  | d + 1, lo, hi, (ks, ts), h, h1 => by
    have hlen := GL.len lt h
    obtain ⟨k1, k2, k3⟩ := kid_take (lt := lt) k ks
    obtain ⟨t, ht⟩ : ∃ t, ts[kid lt k ks]? = some t := ⟨ts[kid lt k ks]'(by omega), List.getElem?_eq_getElem (by omega)⟩
    have hts := part_at ts _ t ht
    have eg : getT lt k (d + 1) ((ks, ts) : T K V (d + 1)) = getT lt k d t := by
      show (match ts[kid lt k ks]? with | none => none | some t => getT lt k d t) = _
      rw [ht]
    rw [eg]
    generalize kid lt k ks = i at *
    have hU : (ts.take i).length = (ks.take i).length := by rw [List.length_take, List.length_take]; omega
    have hG : KL lt d hi lo (ks.take i ++ ks.drop i) (ts.take i ++ t :: ts.drop (i + 1)) := by rw [List.take_append_drop, ← hts]; exact h
    obtain ⟨lo', q1, q2, q3, q4⟩ := gl_part o (k := k) _ _ lo hU hG h1 k2
    obtain ⟨t1, t2, t3, t4⟩ := kl_tail q1
    rw [getT_good o k d _ _ t t2 q2]
    show _ = look lt k (ts.map (flat d)).flatten
    conv => rhs; rw [hts]
    rw [List.map_append, List.flatten_append, look_left q4, List.map_cons, List.flatten_cons, look_right o (tail_gt o t1 k3)]
theorem del_none {k : K} : ∀ {l : List (K × V)}, look lt k l = none → del lt k l = l
  | [], _ => rfl
  | (a, b) :: r, h => by
    cases h1 : lt a k with
    | true =>
      have h' : look lt k r = none := (if_pos h1).symm.trans h
      rw [del_lt h1, del_none h']
    | false =>
      cases h2 : lt k a with
      | true => exact del_gt h1 h2
      | false =>
        have h' : look lt k ((a, b) :: r) = some b := (if_neg (by rw [h1]; simp)).trans (if_neg (by rw [h2]; simp))
        rw [h'] at h
        cases h
/-- From a key on. -/
def fromL (lt : K → K → Bool) (k : K) (l : List (K × V)) : List (K × V) := l.dropWhile fun p => lt p.1 k
def walkT (lt : K → K → Bool) (k : K) : (d : Nat) → T K V d → List (K × V)
  | 0, l => fromL lt k l
  | d + 1, (ks, ts) => ((ts.drop (kid lt k ks)).map (walkT lt k d)).flatten
theorem from_left {k : K} {B : List (K × V)} : ∀ {A : List (K × V)}, (∀ p ∈ A, lt p.1 k = true) → fromL lt k (A ++ B) = fromL lt k B
  | [], _ => rfl
  | (a, b) :: A, h => by
    have h1 : lt a k = true := h (a, b) List.mem_cons_self
    unfold fromL
    rw [List.cons_append, List.dropWhile_cons, if_pos h1]
    exact from_left (fun p hp => h p (List.mem_cons_of_mem _ hp))
theorem from_all {k : K} : ∀ {C : List (K × V)}, (∀ p ∈ C, lt p.1 k = false) → fromL lt k C = C
  | [], _ => rfl
  | (c, x) :: C, h => by
    have h1 : lt c k = false := h (c, x) List.mem_cons_self
    unfold fromL
    rw [List.dropWhile_cons, if_neg (by rw [h1]; simp)]
theorem from_right {k : K} {C : List (K × V)} (hC : ∀ p ∈ C, lt p.1 k = false) : ∀ {B : List (K × V)}, fromL lt k (B ++ C) = fromL lt k B ++ C
  | [] => from_all hC
  | (a, b) :: B => by
    cases h1 : lt a k with
    | true =>
      have := from_right hC (B := B)
      unfold fromL at this ⊢
      rw [List.cons_append, List.dropWhile_cons, if_pos h1, List.dropWhile_cons, if_pos h1]
      exact this
    | false =>
      unfold fromL
      rw [List.cons_append, List.dropWhile_cons, if_neg (by rw [h1]; simp), List.dropWhile_cons, if_neg (by rw [h1]; simp)]
      rfl
theorem walkT_good (o : Ord lt) (k : K) : ∀ (d : Nat) (lo hi : Option K) (t : T K V d), Good lt d lo hi t → walkT lt k d t = fromL lt k (flat d t)
  | 0, _, _, _, _ => rfl
  | d + 1, lo, hi, (ks, ts), h => by
    have key : ∀ (ks : List K) (ts : List (T K V d)) (lo : Option K), KL lt d hi lo ks ts → ((ts.drop (kid lt k ks)).map (walkT lt k d)).flatten = fromL lt k (ts.map (flat d)).flatten ∧ ((∀ p ∈ (ts.map (flat d)).flatten, lt p.1 k = false) → (ts.map (walkT lt k d)).flatten = (ts.map (flat d)).flatten) := by
      intro ks
      induction ks with
      | nil =>
        intro ts lo h
        match ts, h with
        | [t], h =>
          have e := walkT_good o k d _ _ t h.1
          refine ⟨by simp [kid, e], fun hp => ?_⟩
          have e2 : fromL lt k (flat d t) = flat d t := from_all (fun p hp' => hp p (by simpa using hp'))
          simp [e, e2]
      | cons a ks ih =>
        intro ts lo h
        match ts, h with
        | t :: ts, h =>
          obtain ⟨h1, h2, h3, h4⟩ := h
          obtain ⟨i1, i2⟩ := ih ts (some a) h4
          have e := walkT_good o k d _ _ t h3.1
          refine ⟨?_, ?_⟩
          · cases hx : lt k a with
            | true =>
              have hr : ∀ p ∈ (ts.map (flat d)).flatten, lt p.1 k = false := by
                intro p hp
                have q : (!lt p.1 a) = true := (KL.inR o h4 p hp).1
                exact asym o (le_lt o hx (by simpa using q))
              have ek : kid lt k (a :: ks) = 0 := by simp [kid, hx]
              rw [ek, List.drop_zero, List.map_cons, List.flatten_cons, List.map_cons, List.flatten_cons, from_right hr, e, i2 hr]
            | false =>
              have ek : kid lt k (a :: ks) = kid lt k ks + 1 := by simp [kid, hx]
              rw [ek, List.drop_succ_cons, i1, List.map_cons, List.flatten_cons, from_left]
              intro p hp
              exact le_lt o (Good.inR o d h3.1 p hp).2 hx
          · intro hp
            have hp1 : ∀ p ∈ flat d t, lt p.1 k = false := fun p hq => hp p (by rw [List.map_cons, List.flatten_cons]; exact List.mem_append_left _ hq)
            have hp2 : ∀ p ∈ (ts.map (flat d)).flatten, lt p.1 k = false := fun p hq => hp p (by rw [List.map_cons, List.flatten_cons]; exact List.mem_append_right _ hq)
            rw [List.map_cons, List.flatten_cons, List.map_cons, List.flatten_cons, i2 hp2, e, from_all hp1]
    exact (key ks ts lo h).1
end
end Go.Proofs.YtbhmmcelndmijaaGreat.Bt
