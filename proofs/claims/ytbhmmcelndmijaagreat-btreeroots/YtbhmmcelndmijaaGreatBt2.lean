/-
  Trees as values: what holds of all keys and values is kept; how deep a tree may be.
-/
import Derived.Test.YtbhmmcelndmijaaGreatBt
namespace Go.Proofs.YtbhmmcelndmijaaGreat.Bt
variable {K V : Type}
/-- All keys are so, all values so. -/
def AllK (P : K → Prop) (Q : V → Prop) : (d : Nat) → T K V d → Prop
  | 0, l => ∀ p ∈ (show List (K × V) from l), P p.1 ∧ Q p.2
  | d + 1, (ks, ts) => (∀ k ∈ ks, P k) ∧ ∀ t ∈ ts, AllK P Q d t
variable {P : K → Prop} {Q : V → Prop} {lt : K → K → Bool}
theorem ins_mem {k : K} {v : V} : ∀ {l : List (K × V)} {p : K × V}, p ∈ ins lt k v l → p = (k, v) ∨ p ∈ l
  | [], p, h => Or.inl (List.mem_singleton.1 h)
  | (a, b) :: r, p, h => by
    unfold ins at h
    split at h
    · rcases List.mem_cons.1 h with h | h
      · exact Or.inr (h ▸ List.mem_cons_self)
      · rcases ins_mem h with h | h
        · exact Or.inl h
        · exact Or.inr (List.mem_cons_of_mem _ h)
    · split at h
      · rcases List.mem_cons.1 h with h | h
        · exact Or.inl h
        · exact Or.inr h
      · rcases List.mem_cons.1 h with h | h
        · exact Or.inl h
        · exact Or.inr (List.mem_cons_of_mem _ h)
theorem del_mem {k : K} : ∀ {l : List (K × V)} {p : K × V}, p ∈ del lt k l → p ∈ l
  | [], p, h => by cases h
  | (a, b) :: r, p, h => by
    unfold del at h
    split at h
    · rcases List.mem_cons.1 h with h | h
      · exact h ▸ List.mem_cons_self
      · exact List.mem_cons_of_mem _ (del_mem h)
    · split at h
      · exact h
      · exact List.mem_cons_of_mem _ h
theorem cut_all : ∀ (d : Nat) {t a b : T K V d} {m : K}, AllK P Q d t → cut d t = some (a, m, b) → AllK P Q d a ∧ P m ∧ AllK P Q d b
  | 0, l, a, b, m, h, hc => by
    let l' : List (K × V) := l
    unfold cut at hc
    simp only at hc
    split at hc
    · cases hc
    · rename_i p hp
      have hc := Option.some.inj hc
      injection hc with h1 h2
      injection h2 with h2 h3
      subst h1; subst h2; subst h3
      have hm : p ∈ l' := List.mem_of_getElem? hp
      exact ⟨fun q hq => h q (List.mem_of_mem_take hq), (h p hm).1, fun q hq => h q (List.mem_of_mem_drop hq)⟩
  | d + 1, (ks, ts), a, b, m, h, hc => by
    have hc : (match ks[ks.length / 2]? with
      | none => none
      | some m => some (((ks.take (ks.length / 2), ts.take (ks.length / 2 + 1)) : T K V (d + 1)), m, ((ks.drop (ks.length / 2 + 1), ts.drop (ks.length / 2 + 1)) : T K V (d + 1)))) = some (a, m, b) := hc
    cases hp : ks[ks.length / 2]? with
    | none => rw [hp] at hc; cases hc
    | some p =>
      rw [hp] at hc
      have hc := Option.some.inj hc
      injection hc with h1 h2
      injection h2 with h2 h3
      subst h1; subst h2; subst h3
      exact ⟨⟨fun q hq => h.1 q (List.mem_of_mem_take hq), fun q hq => h.2 q (List.mem_of_mem_take hq)⟩, h.1 _ (List.mem_of_getElem? hp), ⟨fun q hq => h.1 q (List.mem_of_mem_drop hq), fun q hq => h.2 q (List.mem_of_mem_drop hq)⟩⟩
theorem lay_all (d : Nat) {t : T K V d} (h : AllK P Q d t) : (∀ k ∈ (lay d t).1, P k) ∧ ∀ u ∈ (lay d t).2, AllK P Q d u := by
  unfold lay
  split
  · exact ⟨(fun _ h => by cases h), fun u hu => by rw [List.mem_singleton.1 hu]; exact h⟩
  · split
    · exact ⟨(fun _ h => by cases h), fun u hu => by rw [List.mem_singleton.1 hu]; exact h⟩
    · rename_i a m b hc
      obtain ⟨h1, h2, h3⟩ := cut_all d h hc
      refine ⟨fun k hk => by rw [List.mem_singleton.1 hk]; exact h2, fun u hu => ?_⟩
      rcases List.mem_cons.1 hu with rfl | hu
      · exact h1
      · rw [List.mem_singleton.1 hu]; exact h3
theorem swap_all (d : Nat) {ks : List K} {ts : List (T K V d)} (i j : Nat) {t : T K V d} (h1 : ∀ k ∈ ks, P k) (h2 : ∀ u ∈ ts, AllK P Q d u) (h : AllK P Q d t) : AllK P Q (d + 1) (swap d ks ts i j t) := by
  obtain ⟨q1, q2⟩ := lay_all d h
  refine ⟨fun k hk => ?_, fun u hu => ?_⟩
  · have hk : k ∈ ks.take i ++ (lay d t).1 ++ ks.drop j := hk
    rcases List.mem_append.1 hk with hk | hk
    · rcases List.mem_append.1 hk with hk | hk
      · exact h1 k (List.mem_of_mem_take hk)
      · exact q1 k hk
    · exact h1 k (List.mem_of_mem_drop hk)
  · have hu : u ∈ ts.take i ++ (lay d t).2 ++ ts.drop (j + 1) := hu
    rcases List.mem_append.1 hu with hu | hu
    · rcases List.mem_append.1 hu with hu | hu
      · exact h2 u (List.mem_of_mem_take hu)
      · exact q2 u hu
    · exact h2 u (List.mem_of_mem_drop hu)
theorem put_all {k : K} {v : V} (hk : P k) (hv : Q v) : ∀ (d : Nat) {t : T K V d}, AllK P Q d t → AllK P Q d (put lt k v d t)
  | 0, l, h => fun p hp => by
    rcases ins_mem (lt := lt) hp with rfl | hp
    · exact ⟨hk, hv⟩
    · exact h p hp
  | d + 1, (ks, ts), h => by
    show AllK P Q (d + 1) (match ts[kid lt k ks]? with
      | none => ((ks, ts) : T K V (d + 1))
      | some t => swap d ks ts (kid lt k ks) (kid lt k ks) (put lt k v d t))
    cases ht : ts[kid lt k ks]? with
    | none => exact h
    | some t =>
      exact swap_all d _ _ h.1 h.2 (put_all hk hv d (h.2 t (List.mem_of_getElem? ht)))
theorem joined_all : ∀ (d : Nat) {a b : T K V d} {m : K}, AllK P Q d a → P m → AllK P Q d b → AllK P Q d (joined d a m b)
  | 0, a, b, m, h1, _, h3 => fun p hp => by
    rcases List.mem_append.1 (show p ∈ List.append (α := K × V) a b from hp) with hp | hp
    · exact h1 p hp
    · exact h3 p hp
  | d + 1, (ks, ts), (ls, us), m, h1, h2, h3 => by
    refine ⟨fun k hk => ?_, fun u hu => ?_⟩
    · have hk : k ∈ ks ++ m :: ls := hk
      rcases List.mem_append.1 hk with hk | hk
      · exact h1.1 k hk
      · rcases List.mem_cons.1 hk with rfl | hk
        · exact h2
        · exact h3.1 k hk
    · have hu : u ∈ ts ++ us := hu
      rcases List.mem_append.1 hu with hu | hu
      · exact h1.2 u hu
      · exact h3.2 u hu
theorem rem_all {k : K} : ∀ (d : Nat) {t : T K V d}, AllK P Q d t → AllK P Q d (rem lt k d t)
  | 0, l, h => fun p hp => h p (del_mem (lt := lt) hp)
  | d + 1, (ks, ts), h => by
    show AllK P Q (d + 1) (match ts[kid lt k ks]? with
      | none => ((ks, ts) : T K V (d + 1))
      | some t =>
        if nk d (rem lt k d t) < 4 then
          (if kid lt k ks = 0 then (match ts[1]?, ks[0]? with
            | some u, some m => swap d ks ts 0 1 (joined d (rem lt k d t) m u)
            | _, _ => (ks, ts))
          else (match ts[kid lt k ks - 1]?, ks[kid lt k ks - 1]? with
            | some u, some m => swap d ks ts (kid lt k ks - 1) (kid lt k ks) (joined d u m (rem lt k d t))
            | _, _ => (ks, ts)))
        else swap d ks ts (kid lt k ks) (kid lt k ks) (rem lt k d t))
    cases ht : ts[kid lt k ks]? with
    | none => exact h
    | some t =>
      simp only
      have hr := rem_all (k := k) d (h.2 t (List.mem_of_getElem? ht))
      split
      · split
        · cases hu : ts[1]? with
          | none => exact h
          | some u =>
            cases hm : ks[0]? with
            | none => exact h
            | some m => exact swap_all d _ _ h.1 h.2 (joined_all d hr (h.1 _ (List.mem_of_getElem? hm)) (h.2 _ (List.mem_of_getElem? hu)))
        · cases hu : ts[kid lt k ks - 1]? with
          | none => exact h
          | some u =>
            cases hm : ks[kid lt k ks - 1]? with
            | none => exact h
            | some m => exact swap_all d _ _ h.1 h.2 (joined_all d (h.2 _ (List.mem_of_getElem? hu)) (h.1 _ (List.mem_of_getElem? hm)) hr)
      · exact swap_all d _ _ h.1 h.2 hr
def AllR (P : K → Prop) (Q : V → Prop) : Root K V → Prop
  | none => True
  | some ⟨d, t⟩ => AllK P Q d t
theorem plant_all : ∀ (d : Nat) {t : T K V d}, AllK P Q d t → AllR P Q (plant d t)
  | 0, l, h => by
    unfold plant
    split
    · trivial
    · split
      · exact h
      · unfold over
        split
        · trivial
        · rename_i a m b hc
          obtain ⟨h1, h2, h3⟩ := cut_all 0 h hc
          refine ⟨fun k hk => by rw [List.mem_singleton.1 hk]; exact h2, fun u hu => ?_⟩
          rcases List.mem_cons.1 hu with rfl | hu
          · exact h1
          · rw [List.mem_singleton.1 hu]; exact h3
  | d + 1, (ks, ts), h => by
    unfold plant
    split
    · show AllR P Q (match ts[0]? with
        | none => none
        | some u => some ⟨d, u⟩)
      cases hu : ts[0]? with
      | none => trivial
      | some u => exact h.2 u (List.mem_of_getElem? hu)
    · split
      · exact h
      · unfold over
        split
        · trivial
        · rename_i a m b hc
          obtain ⟨h1, h2, h3⟩ := cut_all (d + 1) h hc
          refine ⟨fun k hk => by rw [List.mem_singleton.1 hk]; exact h2, fun u hu => ?_⟩
          rcases List.mem_cons.1 hu with rfl | hu
          · exact h1
          · rw [List.mem_singleton.1 hu]; exact h3
theorem putR_all {k : K} {v : V} (hk : P k) (hv : Q v) (r : Root K V) (h : AllR P Q r) : AllR P Q (putR lt k v r) := by
  match r, h with
  | none, _ => exact plant_all 0 (put_all hk hv 0 (t := ([] : List (K × V))) (fun _ h => by cases h))
  | some ⟨d, t⟩, h => exact plant_all d (put_all hk hv d h)
theorem remR_all {k : K} (r : Root K V) (h : AllR P Q r) : AllR P Q (remR lt k r) := by
  match r, h with
  | none, _ => trivial
  | some ⟨d, t⟩, h => exact plant_all d (rem_all d h)
/-- A tree has as many keys as its depth says, at least. -/
theorem deep_len : ∀ (d : Nat) (lo hi : Option K) (t : T K V d), Good lt d lo hi t → 4 ≤ nk d t → 4 ^ (d + 1) ≤ (flat d t).length
  | 0, _, _, l, _, h => h
  | d + 1, lo, hi, (ks, ts), h, h4 => by
    have key : ∀ (ks : List K) (ts : List (T K V d)) (lo : Option K), KL lt d hi lo ks ts → ks.length * 4 ^ (d + 1) ≤ ((ts.map (flat d)).flatten).length := by
      intro ks
      induction ks with
      | nil => intro ts lo _; simp
      | cons k ks ih =>
        intro ts lo h
        match ts, h with
        | t :: ts, h =>
          obtain ⟨h1, h2, h3, h5⟩ := h
          have := ih ts (some k) h5
          have := deep_len d _ _ t h3.1 h3.2.1
          rw [List.map_cons, List.flatten_cons, List.length_append, List.length_cons, Nat.succ_mul]
          omega
    have h4' : 4 ≤ ks.length := h4
    have := key ks ts lo h
    show 4 ^ (d + 2) ≤ ((ts.map (flat d)).flatten).length
    have e : (4 : Nat) ^ (d + 2) = 4 * 4 ^ (d + 1) := by rw [Nat.pow_succ, Nat.mul_comm]
    have := Nat.mul_le_mul_right (4 ^ (d + 1)) h4'
    omega
theorem deep_root (d : Nat) (t : T K V d) (h : RootOk lt (some ⟨d, t⟩)) : 4 ^ d ≤ (flat d t).length := by
  obtain ⟨h1, h2, h3⟩ := h
  match d, t, h1, h2, h3 with
  | 0, l, h1, h2, _ => exact h2
  | d + 1, (ks, ts), h1, h2, _ =>
    match ks, ts, h1, h2 with
    | k :: ks, t :: ts, h1, _ =>
      obtain ⟨_, _, h3, _⟩ := h1
      have := deep_len d _ _ t h3.1 h3.2.1
      show 4 ^ (d + 1) ≤ (((t :: ts).map (flat d)).flatten).length
      rw [List.map_cons, List.flatten_cons, List.length_append]
      omega
theorem ins_len {k : K} {v : V} : ∀ (l : List (K × V)), (ins lt k v l).length ≤ l.length + 1
  | [] => Nat.le_refl _
  | (a, b) :: r => by
    have := ins_len (k := k) (v := v) r
    unfold ins
    split
    · simp; omega
    · split
      · simp
      · simp
theorem del_len {k : K} : ∀ (l : List (K × V)), (del lt k l).length ≤ l.length
  | [] => Nat.le_refl _
  | (a, b) :: r => by
    have := del_len (k := k) r
    unfold del
    split
    · simp; omega
    · split
      · simp
      · simp
end Go.Proofs.YtbhmmcelndmijaaGreat.Bt
