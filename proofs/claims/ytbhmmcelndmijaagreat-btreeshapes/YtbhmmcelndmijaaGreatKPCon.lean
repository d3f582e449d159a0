/-
  Trees as values: what holds of all keys and values is kept; how deep a tree may be. Small facts on memory for the walks of this seat: a block of cells that holds a row of integers, and what a store, a draw and a new block do to it. Nothing of the program is named here. Slices that read as lists; slices.Equal. slices.ContainsFunc at the two functions that page hands it; which pages may be.
-/
import Derived.Test.YtbhmmcelndmijaaGreatBt
import Derived.WalkKit
import Derived.WalkSpells
import Derived.WalkLawsBesides
import Derived.Test.YtbhmmcelndmijaaGreatProg
import Derived.Deep.QuietTactic
import Derived.BigQuiet
namespace Go.Proofs.YtbhmmcelndmijaaGreat.Bt
variable {K V : Type}
/-- All keys are so, all values so. -/
def AllK (P : K → Prop) (Q : V → Prop) : (d : Nat) → T K V d → Prop
  | 0, l => ∀ p ∈ (show List (K × V) from l), P p.1 ∧ Q p.2
  | d + 1, (ks, ts) => (∀ k ∈ ks, P k) ∧ ∀ t ∈ ts, AllK P Q d t
variable {P : K → Prop} {Q : V → Prop} {lt : K → K → Bool}
theorem ins_mem {k : K} {v : V} : ∀ {l : List (K × V)} {p : K × V}, p ∈ ins lt k v l → p = (k, v) ∨ p ∈ l
  | [], p, h => Or.inl (List.mem_singleton.1 h)
  | (a, b) :: r, p, h => by
    unfold ins at h
    split at h
    · rcases List.mem_cons.1 h with h | h
      · exact Or.inr (h ▸ List.mem_cons_self)
      · rcases ins_mem h with h | h
        · exact Or.inl h
        · exact Or.inr (List.mem_cons_of_mem _ h)
    · split at h
      · rcases List.mem_cons.1 h with h | h
        · exact Or.inl h
        · exact Or.inr h
      · rcases List.mem_cons.1 h with h | h
        · exact Or.inl h
        · exact Or.inr (List.mem_cons_of_mem _ h)
theorem del_mem {k : K} : ∀ {l : List (K × V)} {p : K × V}, p ∈ del lt k l → p ∈ l
  | [], p, h => by cases h
  | (a, b) :: r, p, h => by
    unfold del at h
    split at h
    · rcases List.mem_cons.1 h with h | h
      · exact h ▸ List.mem_cons_self
      · exact List.mem_cons_of_mem _ (del_mem h)
    · split at h
      · exact h
      · exact List.mem_cons_of_mem _ h
theorem cut_all : ∀ (d : Nat) {t a b : T K V d} {m : K}, AllK P Q d t → cut d t = some (a, m, b) → AllK P Q d a ∧ P m ∧ AllK P Q d b
  | 0, l, a, b, m, h, hc => by
    let l' : List (K × V) := l
    unfold cut at hc
    simp only at hc
    split at hc
    · cases hc
    · rename_i p hp
      have hc := Option.some.inj hc
      injection hc with h1 h2
      injection h2 with h2 h3
      subst h1; subst h2; subst h3
      have hm : p ∈ l' := List.mem_of_getElem? hp
      exact ⟨fun q hq => h q (List.mem_of_mem_take hq), (h p hm).1, fun q hq => h q (List.mem_of_mem_drop hq)⟩
  | d + 1, (ks, ts), a, b, m, h, hc => by
    have hc : (match ks[ks.length / 2]? with
      | none => none
      | some m => some (((ks.take (ks.length / 2), ts.take (ks.length / 2 + 1)) : T K V (d + 1)), m, ((ks.drop (ks.length / 2 + 1), ts.drop (ks.length / 2 + 1)) : T K V (d + 1)))) = some (a, m, b) := hc
    cases hp : ks[ks.length / 2]? with
    | none => rw [hp] at hc; cases hc
    | some p =>
      rw [hp] at hc
      have hc := Option.some.inj hc
      injection hc with h1 h2
      injection h2 with h2 h3
      subst h1; subst h2; subst h3
      exact ⟨⟨fun q hq => h.1 q (List.mem_of_mem_take hq), fun q hq => h.2 q (List.mem_of_mem_take hq)⟩, h.1 _ (List.mem_of_getElem? hp), ⟨fun q hq => h.1 q (List.mem_of_mem_drop hq), fun q hq => h.2 q (List.mem_of_mem_drop hq)⟩⟩
theorem lay_all (d : Nat) {t : T K V d} (h : AllK P Q d t) : (∀ k ∈ (lay d t).1, P k) ∧ ∀ u ∈ (lay d t).2, AllK P Q d u := by
  unfold lay
  split
  · exact ⟨(fun _ h => by cases h), fun u hu => by rw [List.mem_singleton.1 hu]; exact h⟩
  · split
    · exact ⟨(fun _ h => by cases h), fun u hu => by rw [List.mem_singleton.1 hu]; exact h⟩
    · rename_i a m b hc
      obtain ⟨h1, h2, h3⟩ := cut_all d h hc
      refine ⟨fun k hk => by rw [List.mem_singleton.1 hk]; exact h2, fun u hu => ?_⟩
      rcases List.mem_cons.1 hu with rfl | hu
      · exact h1
      · rw [List.mem_singleton.1 hu]; exact h3
theorem swap_all (d : Nat) {ks : List K} {ts : List (T K V d)} (i j : Nat) {t : T K V d} (h1 : ∀ k ∈ ks, P k) (h2 : ∀ u ∈ ts, AllK P Q d u) (h : AllK P Q d t) : AllK P Q (d + 1) (swap d ks ts i j t) := by
  obtain ⟨q1, q2⟩ := lay_all d h
  refine ⟨fun k hk => ?_, fun u hu => ?_⟩
  · have hk : k ∈ ks.take i ++ (lay d t).1 ++ ks.drop j := hk
    rcases List.mem_append.1 hk with hk | hk
    · rcases List.mem_append.1 hk with hk | hk
      · exact h1 k (List.mem_of_mem_take hk)
      · exact q1 k hk
    · exact h1 k (List.mem_of_mem_drop hk)
  · have hu : u ∈ ts.take i ++ (lay d t).2 ++ ts.drop (j + 1) := hu
    rcases List.mem_append.1 hu with hu | hu
    · rcases List.mem_append.1 hu with hu | hu
      · exact h2 u (List.mem_of_mem_take hu)
      · exact q2 u hu
    · exact h2 u (List.mem_of_mem_drop hu)
theorem put_all {k : K} {v : V} (hk : P k) (hv : Q v) : ∀ (d : Nat) {t : T K V d}, AllK P Q d t → AllK P Q d (put lt k v d t)
  | 0, l, h => fun p hp => by
    rcases ins_mem (lt := lt) hp with rfl | hp
    · exact ⟨hk, hv⟩
    · exact h p hp
  | d + 1, (ks, ts), h => by
    show AllK P Q (d + 1) (match ts[kid lt k ks]? with
      | none => ((ks, ts) : T K V (d + 1))
      | some t => swap d ks ts (kid lt k ks) (kid lt k ks) (put lt k v d t))
    cases ht : ts[kid lt k ks]? with
    | none => exact h
    | some t =>
      exact swap_all d _ _ h.1 h.2 (put_all hk hv d (h.2 t (List.mem_of_getElem? ht)))
theorem joined_all : ∀ (d : Nat) {a b : T K V d} {m : K}, AllK P Q d a → P m → AllK P Q d b → AllK P Q d (joined d a m b)
  | 0, a, b, m, h1, _, h3 => fun p hp => by
    rcases List.mem_append.1 (show p ∈ List.append (α := K × V) a b from hp) with hp | hp
    · exact h1 p hp
    · exact h3 p hp
  | d + 1, (ks, ts), (ls, us), m, h1, h2, h3 => by
    refine ⟨fun k hk => ?_, fun u hu => ?_⟩
    · have hk : k ∈ ks ++ m :: ls := hk
      rcases List.mem_append.1 hk with hk | hk
      · exact h1.1 k hk
      · rcases List.mem_cons.1 hk with rfl | hk
        · exact h2
        · exact h3.1 k hk
    · have hu : u ∈ ts ++ us := hu
      rcases List.mem_append.1 hu with hu | hu
      · exact h1.2 u hu
      · exact h3.2 u hu
theorem rem_all {k : K} : ∀ (d : Nat) {t : T K V d}, AllK P Q d t → AllK P Q d (rem lt k d t)
  | 0, l, h => fun p hp => h p (del_mem (lt := lt) hp)
  | d + 1, (ks, ts), h => by
    show AllK P Q (d + 1) (match ts[kid lt k ks]? with
      | none => ((ks, ts) : T K V (d + 1))
      | some t =>
        if nk d (rem lt k d t) < 4 then
          (if kid lt k ks = 0 then (match ts[1]?, ks[0]? with
            | some u, some m => swap d ks ts 0 1 (joined d (rem lt k d t) m u)
            | _, _ => (ks, ts))
          else (match ts[kid lt k ks - 1]?, ks[kid lt k ks - 1]? with
            | some u, some m => swap d ks ts (kid lt k ks - 1) (kid lt k ks) (joined d u m (rem lt k d t))
            | _, _ => (ks, ts)))
        else swap d ks ts (kid lt k ks) (kid lt k ks) (rem lt k d t))
    cases ht : ts[kid lt k ks]? with
    | none => exact h
    | some t =>
      simp only
      have hr := rem_all (k := k) d (h.2 t (List.mem_of_getElem? ht))
      split
      · split
        · cases hu : ts[1]? with
          | none => exact h
          | some u =>
            cases hm : ks[0]? with
            | none => exact h
            | some m => exact swap_all d _ _ h.1 h.2 (joined_all d hr (h.1 _ (List.mem_of_getElem? hm)) (h.2 _ (List.mem_of_getElem? hu)))
        · cases hu : ts[kid lt k ks - 1]? with
          | none => exact h
          | some u =>
            cases hm : ks[kid lt k ks - 1]? with
            | none => exact h
            | some m => exact swap_all d _ _ h.1 h.2 (joined_all d (h.2 _ (List.mem_of_getElem? hu)) (h.1 _ (List.mem_of_getElem? hm)) hr)
      · exact swap_all d _ _ h.1 h.2 hr
def AllR (P : K → Prop) (Q : V → Prop) : Root K V → Prop
  | none => True
  | some ⟨d, t⟩ => AllK P Q d t
theorem plant_all : ∀ (d : Nat) {t : T K V d}, AllK P Q d t → AllR P Q (plant d t)
  | 0, l, h => by
    unfold plant
    split
    · trivial
    · split
      · exact h
      · unfold over
        split
        · trivial
        · rename_i a m b hc
          obtain ⟨h1, h2, h3⟩ := cut_all 0 h hc
          refine ⟨fun k hk => by rw [List.mem_singleton.1 hk]; exact h2, fun u hu => ?_⟩
          rcases List.mem_cons.1 hu with rfl | hu
          · exact h1
          · rw [List.mem_singleton.1 hu]; exact h3
  | d + 1, (ks, ts), h => by
    unfold plant
    split
    · show AllR P Q (match ts[0]? with
        | none => none
        | some u => some ⟨d, u⟩)
      cases hu : ts[0]? with
      | none => trivial
      | some u => exact h.2 u (List.mem_of_getElem? hu)
    · split
      · exact h
      · unfold over
        split
        · trivial
        · rename_i a m b hc
          obtain ⟨h1, h2, h3⟩ := cut_all (d + 1) h hc
          refine ⟨fun k hk => by rw [List.mem_singleton.1 hk]; exact h2, fun u hu => ?_⟩
          rcases List.mem_cons.1 hu with rfl | hu
          · exact h1
          · rw [List.mem_singleton.1 hu]; exact h3
theorem putR_all {k : K} {v : V} (hk : P k) (hv : Q v) (r : Root K V) (h : AllR P Q r) : AllR P Q (putR lt k v r) := by
  match r, h with
  | none, _ => exact plant_all 0 (put_all hk hv 0 (t := ([] : List (K × V))) (fun _ h => by cases h))
  | some ⟨d, t⟩, h => exact plant_all d (put_all hk hv d h)
theorem remR_all {k : K} (r : Root K V) (h : AllR P Q r) : AllR P Q (remR lt k r) := by
  match r, h with
  | none, _ => trivial
  | some ⟨d, t⟩, h => exact plant_all d (rem_all d h)
/-- A tree has as many keys as its depth says, at least. -/
theorem deep_len : ∀ (d : Nat) (lo hi : Option K) (t : T K V d), Good lt d lo hi t → 4 ≤ nk d t → 4 ^ (d + 1) ≤ (flat d t).length
  | 0, _, _, l, _, h => h
  | d + 1, lo, hi, (ks, ts), h, h4 => by
    have key : ∀ (ks : List K) (ts : List (T K V d)) (lo : Option K), KL lt d hi lo ks ts → ks.length * 4 ^ (d + 1) ≤ ((ts.map (flat d)).flatten).length := by
      intro ks
      induction ks with
      | nil => intro ts lo _; simp
      | cons k ks ih =>
        intro ts lo h
        match ts, h with
        | t :: ts, h =>
          obtain ⟨h1, h2, h3, h5⟩ := h
          have := ih ts (some k) h5
          have := deep_len d _ _ t h3.1 h3.2.1
          rw [List.map_cons, List.flatten_cons, List.length_append, List.length_cons, Nat.succ_mul]
          omega
    have h4' : 4 ≤ ks.length := h4
    have := key ks ts lo h
    show 4 ^ (d + 2) ≤ ((ts.map (flat d)).flatten).length
    have e : (4 : Nat) ^ (d + 2) = 4 * 4 ^ (d + 1) := by rw [Nat.pow_succ, Nat.mul_comm]
    have := Nat.mul_le_mul_right (4 ^ (d + 1)) h4'
    omega
theorem deep_root (d : Nat) (t : T K V d) (h : RootOk lt (some ⟨d, t⟩)) : 4 ^ d ≤ (flat d t).length := by
  obtain ⟨h1, h2, h3⟩ := h
  match d, t, h1, h2, h3 with
  | 0, l, h1, h2, _ => exact h2
  | d + 1, (ks, ts), h1, h2, _ =>
    match ks, ts, h1, h2 with
    | k :: ks, t :: ts, h1, _ =>
      obtain ⟨_, _, h3, _⟩ := h1
      have := deep_len d _ _ t h3.1 h3.2.1
      show 4 ^ (d + 1) ≤ (((t :: ts).map (flat d)).flatten).length
      rw [List.map_cons, List.flatten_cons, List.length_append]
      omega
theorem ins_len {k : K} {v : V} : ∀ (l : List (K × V)), (ins lt k v l).length ≤ l.length + 1
  | [] => Nat.le_refl _
  | (a, b) :: r => by
    have := ins_len (k := k) (v := v) r
    unfold ins
    split
    · simp; omega
    · split
      · simp
      · simp
theorem del_len {k : K} : ∀ (l : List (K × V)), (del lt k l).length ≤ l.length
  | [] => Nat.le_refl _
  | (a, b) :: r => by
    have := del_len (k := k) r
    unfold del
    split
    · simp; omega
    · split
      · simp
      · simp
end Go.Proofs.YtbhmmcelndmijaaGreat.Bt
namespace Go.Proofs.YtbhmmcelndmijaaGreat
open Go.RowKit

/-- Block b holds just these cells; none is frozen. -/
def Blk (w : World) (b : Nat) (t : TypeId) (cs : Array Value) : Prop := w.heap[b]? = some (.cells cs t (0, 0))

/-- A row of n integers of a kind. -/
def arr (k : IntKind) (n : Nat) (f : Nat → Int) : Array Value := Array.ofFn (n := n) (fun i => Value.int k (f i.val))

/-- A number's value put at a place. -/
def upd (f : Nat → Int) (j : Nat) (v : Int) : Nat → Int := fun i => if i = j then v else f i

theorem arr_size (k : IntKind) (n : Nat) (f : Nat → Int) : (arr k n f).size = n := by simp [arr]
theorem arr_get (k : IntKind) (n : Nat) (f : Nat → Int) (i : Nat) (h : i < n) : (arr k n f)[i]? = some (.int k (f i)) := by
  simp [arr, h]
theorem arr_congr (k : IntKind) (n : Nat) (f g : Nat → Int) (h : ∀ i, i < n → f i = g i) : arr k n f = arr k n g := by
  apply Array.ext
  · simp [arr]
  · intro i h1 h2
    simp [arr] at h1 ⊢
    exact h i h1
theorem arr_set (k : IntKind) (n : Nat) (f : Nat → Int) (j : Nat) (v : Int) : (arr k n f).setIfInBounds j (.int k v) = arr k n (upd f j v) := by
  apply Array.ext
  · simp [arr]
  · intro i h1 h2
    have hi : i < n := by simpa [arr] using h2
    apply Option.some.inj
    rw [← Array.getElem?_eq_getElem h1, ← Array.getElem?_eq_getElem h2, arr_get k n _ i hi, Array.getElem?_setIfInBounds]
    by_cases e : j = i
    · subst e; simp [arr_size, hi, upd]
    · rw [if_neg e, arr_get k n f i hi]; simp [upd]; exact fun h => absurd h.symm e

theorem Blk.lt {w : World} {b : Nat} {t : TypeId} {cs : Array Value} (h : Blk w b t cs) : b < w.heap.size := by
  have : w.heap[b]? = some (.cells cs t (0, 0)) := h
  by_cases hlt : b < w.heap.size
  · exact hlt
  · rw [Array.getElem?_eq_none (by omega)] at this; cases this
theorem Blk.cell {w : World} {b : Nat} {t : TypeId} {cs : Array Value} (h : Blk w b t cs) (i : Nat) : w.cell? ⟨b, i, none⟩ = cs[i]? := cell_of_row w b i cs t (0, 0) h
theorem Blk.frozen {w : World} {b : Nat} {t : TypeId} {cs : Array Value} (h : Blk w b t cs) (i : Nat) : w.frozen? ⟨b, i, none⟩ = false := frozen_of_row w b i cs t h
theorem Blk.ints {w : World} {b : Nat} {t : TypeId} {k : IntKind} {n : Nat} {f : Nat → Int} (h : Blk w b t (arr k n f)) : ∀ i, i < n → w.cell? ⟨b, i, none⟩ = some (.int k (f i)) := fun i hi => by
  rw [h.cell i, arr_get k n f i hi]
theorem Blk.drew {w : World} {b : Nat} {t : TypeId} {cs : Array Value} (h : Blk w b t cs) : Blk w.drew b t cs := h
theorem Blk.alloc {w : World} {b : Nat} {t : TypeId} {cs : Array Value} (h : Blk w b t cs) (o : Obj) : Blk (w.alloc o) b t cs := by
  unfold Blk; rw [Below.heap_alloc w o b h.lt]; exact h
theorem Blk.new (w : World) (t : TypeId) (cs : Array Value) : Blk (w.alloc (.cells cs t)) w.heap.size t cs := heap_alloc_new w _
theorem Blk.set {w : World} {b : Nat} {t : TypeId} {cs : Array Value} (h : Blk w b t cs) (i : Nat) (v : Value) : Blk (w.setCell ⟨b, i, none⟩ v) b t (cs.setIfInBounds i v) := heap_setCell_same w b i cs t v h
theorem Blk.seti {w : World} {b : Nat} {t : TypeId} {k : IntKind} {n : Nat} {f : Nat → Int} (h : Blk w b t (arr k n f)) (i : Nat) (v : Int) : Blk (w.setCell ⟨b, i, none⟩ (.int k v)) b t (arr k n (upd f i v)) := by
  rw [← arr_set]; exact h.set i _
theorem Blk.other {w : World} {b : Nat} {t : TypeId} {cs : Array Value} (h : Blk w b t cs) {a : Addr} (v : Value) (hn : b ≠ a.block) : Blk (w.setCell a v) b t cs := by
  unfold Blk; rw [heap_setCell_other w a b v hn]; exact h
theorem Blk.congr {w : World} {b : Nat} {t : TypeId} {k : IntKind} {n : Nat} {f g : Nat → Int} (h : Blk w b t (arr k n f)) (e : ∀ i, i < n → f i = g i) : Blk w b t (arr k n g) := by
  rw [← arr_congr k n f g e]; exact h
theorem Blk.kept {w w' : World} {b : Nat} {t : TypeId} {cs : Array Value} {row : Option Nat} (h : Blk w b t cs) (hg : w.grownBy w' row) (hn : some b ≠ row) : Blk w' b t cs := (hg.block b h.lt hn).trans h

theorem grown_refl (w : World) (row : Option Nat) : w.grownBy w row := ⟨rfl, rfl, rfl, Nat.le_refl _, fun _ _ _ => rfl⟩
theorem grown_drew {w w' : World} {row : Option Nat} (h : w.grownBy w' row) : w.grownBy w'.drew row := ⟨h.os, h.tape, h.output, h.size, h.block⟩
theorem grown_trans {a b c : World} {row : Option Nat} (h : a.grownBy b row) (k : b.grownBy c row) : a.grownBy c row :=
  ⟨k.os.trans h.os, k.tape.trans h.tape, k.output.trans h.output, Nat.le_trans h.size k.size, fun i hi hn => (k.block i (Nat.lt_of_lt_of_le hi h.size) hn).trans (h.block i hi hn)⟩
theorem grown_set {w w' : World} {b : Nat} (h : w.grownBy w' (some b)) (i : Nat) (v : Value) : w.grownBy (w'.setCell ⟨b, i, none⟩ v) (some b) :=
  ⟨h.os, h.tape, h.output, by simpa [World.setCell] using h.size, fun k hk hn => (heap_setCell_other w' ⟨b, i, none⟩ k v (fun e => hn (by rw [e]))).trans (h.block k hk hn)⟩
theorem grown_set_new {w w' : World} {row : Option Nat} (h : w.grownBy w' row) {a : Addr} (v : Value) (ha : w.heap.size ≤ a.block) : w.grownBy (w'.setCell a v) row :=
  ⟨h.os, h.tape, h.output, by simpa [World.setCell] using h.size, fun k hk hn => (heap_setCell_other w' a k v (by omega)).trans (h.block k hk hn)⟩
theorem grown_alloc {w w' : World} {row : Option Nat} (h : w.grownBy w' row) (o : Obj) : w.grownBy (w'.alloc o) row :=
  ⟨h.os, h.tape, h.output, by simp; have := h.size; omega, fun k hk hn => (Below.heap_alloc w' o k (Nat.lt_of_lt_of_le hk h.size)).trans (h.block k hk hn)⟩
/-- A callee that turned a block which is new to us turned nothing of ours. -/
theorem grown_through {a b c : World} {row : Option Nat} {k : Nat} (h : a.grownBy b row) (g : b.grownBy c (some k)) (hk : a.heap.size ≤ k) : a.grownBy c row :=
  ⟨g.os.trans h.os, g.tape.trans h.tape, g.output.trans h.output, Nat.le_trans h.size g.size, fun i hi hn => (g.block i (Nat.lt_of_lt_of_le hi h.size) (by simp; omega)).trans (h.block i hi hn)⟩
theorem grown_none {a b c : World} {row : Option Nat} (h : a.grownBy b row) (g : b.grownBy c none) : a.grownBy c row :=
  ⟨g.os.trans h.os, g.tape.trans h.tape, g.output.trans h.output, Nat.le_trans h.size g.size, fun i hi hn => (g.block i (Nat.lt_of_lt_of_le hi h.size) (by simp)).trans (h.block i hi hn)⟩
theorem grown_below {w w' : World} (h : w.grownBy w' none) : Below w.heap.size w w' := ⟨h.os, h.tape, h.output, h.size, fun k hk => h.block k hk (by simp)⟩
end Go.Proofs.YtbhmmcelndmijaaGreat
namespace Go.Proofs.YtbhmmcelndmijaaGreat.Pa
open Go.RowKit
/-- A slice reads as this list, a cell an element. -/
def RowV {α : Type} (enc : α → Value) (w : World) (v : Value) (l : List α) : Prop := ∃ (pa : Option Addr) (cap g o : Nat), v = .slice pa l.length cap ∧ (0 < l.length → pa = some ⟨g, o, none⟩) ∧ ∀ i, (h : i < l.length) → w.cell? ⟨g, o + i, none⟩ = some (enc l[i])
theorem RowV.below {α : Type} {enc : α → Value} {w w' : World} {v : Value} {l : List α} (h : RowV enc w v l) {n : Nat} (hb : Below n w w') (hn : ∀ g o c, v = .slice (some ⟨g, o, none⟩) l.length c → 0 < l.length → g < n) : RowV enc w' v l := by
  obtain ⟨pa, cap, g, o, rfl, hp, hc⟩ := h
  refine ⟨pa, cap, g, o, rfl, hp, fun i hi => ?_⟩
  have hpa := hp (by omega)
  subst hpa
  exact (hb.cell (p := ⟨g, o + i, none⟩) (hn g o cap rfl (by omega))).trans (hc i hi)
theorem RowV.kept {α : Type} {enc : α → Value} {w w' : World} {v : Value} {l : List α} (h : RowV enc w v l) (hg : w.grownBy w' none) : RowV enc w' v l := by
  obtain ⟨pa, cap, g, o, rfl, hp, hc⟩ := h
  exact ⟨pa, cap, g, o, rfl, hp, fun i hi => ((grown_below hg).cell (p := ⟨g, o + i, none⟩) (World.block_lt_of_cell? _ _ (hc i hi))).trans (hc i hi)⟩
theorem RowV.nil {α : Type} (enc : α → Value) (w : World) : RowV enc w (.slice none 0 0) [] := ⟨none, 0, 0, 0, rfl, fun h => absurd h (Nat.lt_irrefl _), fun _ h => absurd h (Nat.not_lt_zero _)⟩
theorem grown_drewN {w w' : World} {row : Option Nat} (h : w.grownBy w' row) (n : Nat) : w.grownBy (w'.drewN n) row := ⟨h.os, h.tape, h.output, h.size, h.block⟩
theorem cell_kept {w w' : World} {a : Addr} {v : Value} (hg : w.grownBy w' none) (hc : w.cell? a = some v) : w'.cell? a = some v := ((grown_below hg).cell (p := a) (World.block_lt_of_cell? _ _ hc)).trans hc
def eqS (l m : List ByteArray) : Bool := l.map ByteArray.toList == m.map ByteArray.toList
theorem toList_inj {a b : ByteArray} (h : a.toList = b.toList) : a = b := by
  rw [ByteArray.toList_eq, ByteArray.toList_eq] at h
  cases a; cases b
  simp at h
  subst h
  rfl
theorem eqS_iff (l m : List ByteArray) : eqS l m = true ↔ l = m := by
  unfold eqS
  rw [beq_iff_eq]
  constructor
  · intro h
    exact (List.map_inj_right (fun _ _ => toList_inj)).mp h
  · intro h; rw [h]
theorem eqS_at {l m : List ByteArray} (hl : l.length = m.length) (h : ∀ j, (h1 : j < l.length) → (h2 : j < m.length) → (l[j].toList == m[j].toList) = true) : eqS l m = true := by
  rw [eqS_iff]
  exact List.ext_getElem hl fun i h1 h2 => toList_inj (by simpa using h i h1 h2)
theorem eqS_not {l m : List ByteArray} {k : Nat} (h1 : k < l.length) (h2 : k < m.length) (h : (l[k].toList == m[k].toList) = false) : eqS l m = false := by
  cases e : eqS l m with
  | false => rfl
  | true =>
    rw [eqS_iff] at e
    subst e
    simp at h
theorem eqS_len {l m : List ByteArray} (h : l.length ≠ m.length) : eqS l m = false := by
  cases e : eqS l m with
  | false => rfl
  | true => rw [eqS_iff] at e; subst e; exact absurd rfl h
def eqI (l m : List Int) : Bool := l == m
theorem eqI_iff (l m : List Int) : eqI l m = true ↔ l = m := by
  unfold eqI
  rw [beq_iff_eq]
theorem eqI_at {l m : List Int} (hl : l.length = m.length) (h : ∀ j, (h1 : j < l.length) → (h2 : j < m.length) → (l[j] == m[j]) = true) : eqI l m = true := by
  rw [eqI_iff]
  exact List.ext_getElem hl fun i h1 h2 => by simpa using h i h1 h2
theorem eqI_not {l m : List Int} {k : Nat} (h1 : k < l.length) (h2 : k < m.length) (h : (l[k] == m[k]) = false) : eqI l m = false := by
  cases e : eqI l m with
  | false => rfl
  | true =>
    rw [eqI_iff] at e
    subst e
    simp at h
theorem eqI_len {l m : List Int} (h : l.length ≠ m.length) : eqI l m = false := by
  cases e : eqI l m with
  | false => rfl
  | true => rw [eqI_iff] at e; subst e; exact absurd rfl h
end Go.Proofs.YtbhmmcelndmijaaGreat.Pa
namespace Go.Proofs.YtbhmmcelndmijaaGreat.Pa
open Go.RowKit
/-- A place that is not below 0 just where b. -/
def IdxPost (e : Ending) (b : Bool) : Prop := ∃ i : Int, e = .returned (.int .i64 i) ∧ decide (0 ≤ i) = b
def longB (s : ByteArray) : Bool := decide (8192 < (s.size : Int))
def outB (n : Int) : Bool := decide (n < 0) || decide (2147483647 < n)
set_option maxRecDepth 100000 in
set_option maxHeartbeats 400000 in
theorem tooLong_any (s : ByteArray) (w : World) : Calls Tryz.prog 100 #[.string s] w fun e w' => e = .returned (.bool (longB s)) ∧ w' = w := by
  unfold longB
  go_enter Tryz.func100, Tryz.ntmps100
  go_wp2
  go_ret
  exact ⟨rfl, rfl⟩
set_option maxRecDepth 100000 in
set_option maxHeartbeats 400000 in
theorem noPlace_any (n : Int) (w : World) : Calls Tryz.prog 102 #[.int .i64 n] w fun e w' => e = .returned (.bool (outB n)) ∧ w' = w := by
  unfold outB
  by_cases h : n < 0
  · go_enter Tryz.func102, Tryz.ntmps102
    go_wp2
    go_ret
    simp [h]
  · go_enter Tryz.func102, Tryz.ntmps102
    go_wp2
    go_ret
    simp
    omega
theorem any_false {α : Type} {p : α → Bool} {l : List α} (h : ∀ j, (hj : j < l.length) → p l[j] = false) : l.any p = false := by
  rw [List.any_eq_false]
  intro x hx
  obtain ⟨j, hj, rfl⟩ := List.getElem_of_mem hx
  simp [h j hj]
theorem any_true {α : Type} {p : α → Bool} {l : List α} {k : Nat} (hk : k < l.length) (h : p l[k] = true) : l.any p = true := by
  rw [List.any_eq_true]
  exact ⟨l[k], List.getElem_mem hk, h⟩
set_option maxRecDepth 100000 in
set_option maxHeartbeats 1000000 in
theorem idxS_any (a : Value) (l : List ByteArray) (w : World) (ha : RowV Value.string w a l) (hl : l.length ≤ 9223372036854775807) :
    Calls Tryz.prog 121 #[a, .func (.func 100) #[] #[]] w fun e w' => IdxPost e (l.any longB) ∧ w.grownBy w' none := by
  obtain ⟨pa, ca, ga, oa, rfl, hpa, hca⟩ := ha
  have HA : Hid (∀ i, (h : i < l.length) → w.cell? ⟨ga, oa + i, none⟩ = some (Value.string l[i])) := hca
  have PA : Hid (0 < l.length → pa = some ⟨ga, oa, none⟩) := hpa
  clear hca hpa
  obtain ⟨x, hx⟩ : ∃ x, l.any longB = x := ⟨_, rfl⟩
  have EX : Hid (l.any longB = x) := hx
  rw [hx]
  clear hx
  have hll : (l.length : Int) ≤ 9223372036854775807 := by omega
  go_enter Tryz.func121, Tryz.ntmps121
  go_wp2
  go_loopw [8] (fun i wr => ∃ k : Nat, k ≤ l.length ∧ i = .int .i64 k ∧ w.grownBy wr none ∧ Hid (∀ j, (h1 : j < l.length) → j < k → longB l[j] = false)) (fun i _ => l.length - (intOf i).toNat)
  case atStart => exact ⟨0, Nat.zero_le _, rfl, grown_refl _ _, fun j _ h => absurd h (Nat.not_lt_zero _)⟩
  case round =>
    obtain ⟨k, hk, rfl, hg, HK⟩ := hrel
    have HG : Hid (w.grownBy wr none) := hg
    clear hg
    have k0 : (0 : Int) ≤ k := by omega
    by_cases hlt : k < l.length
    · have hp := PA.out (by omega)
      subst hp
      have c0 := cell_kept HG.out (HA.out k hlt)
      have k1 : (k : Int) < l.length := by omega
      clear HA
      have C : Hid (∀ W, Calls Tryz.prog 100 #[Value.string l[k]] W fun e w' => e = .returned (.bool (longB l[k])) ∧ w' = W) := fun W => tooLong_any l[k] W
      by_cases he : longB l[k] = true
      · have ex : x = true := by rw [← EX.out]; exact any_true hlt he
        subst ex
        rw [he] at C
        clear HK he
        generalize l[k] = s at *
        go_wp2_with (go_at_call 100; refine (C.out _).mono ?_; rintro e w1 ⟨rfl, rfl⟩)
        go_ret
        exact ⟨⟨_, rfl, decide_eq_true k0⟩, HG.out⟩
      · have he' : longB l[k] = false := by simpa using he
        have next : Hid (∀ j, (h1 : j < l.length) → j < k + 1 → longB l[j] = false) := fun j h1 hj => by
          by_cases e : j = k
          · subst e; exact he'
          · exact HK.out j h1 (by omega)
        rw [he'] at C
        clear HK he he'
        generalize l[k] = s at *
        go_wp2_with (go_at_call 100; refine (C.out _).mono ?_; rintro e w1 ⟨rfl, rfl⟩)
        go_round
        case rel => exact ⟨k + 1, by omega, by go_num, HG.out, next⟩
        case measure => simp [intOf]; omega
    · obtain rfl : k = l.length := by omega
      have ex : x = false := by rw [← EX.out]; exact any_false (fun j h1 => HK.out j h1 h1)
      subst ex
      clear HA HK
      go_wp2
      go_ret
      exact ⟨⟨_, rfl, rfl⟩, HG.out⟩
set_option maxRecDepth 100000 in
set_option maxHeartbeats 400000 in
theorem conS_any (a : Value) (l : List ByteArray) (w : World) (ha : RowV Value.string w a l) (hl : l.length ≤ 9223372036854775807) :
    Calls Tryz.prog 99 #[a, .func (.func 100) #[] #[]] w fun e w' => e = .returned (.bool (l.any longB)) ∧ w.grownBy w' none := by
  have C : Hid (Calls Tryz.prog 121 #[a, .func (.func 100) #[] #[]] w fun e w' => IdxPost e (l.any longB) ∧ w.grownBy w' none) := idxS_any a l w ha hl
  obtain ⟨pa, ca, ga, oa, rfl, hpa, hca⟩ := ha
  clear hpa hca
  generalize l.any longB = x at *
  go_enter Tryz.func99, Tryz.ntmps99
  go_wp2_with (go_at_call 121; refine C.out.mono ?_; rintro e w1 ⟨⟨i, rfl, hi⟩, hg⟩)
  go_ret
  exact ⟨rfl, hg⟩
set_option maxRecDepth 100000 in
set_option maxHeartbeats 1000000 in
theorem idxI_any (a : Value) (l : List Int) (w : World) (ha : RowV (Value.int .i64) w a l) (hl : l.length ≤ 9223372036854775807) :
    Calls Tryz.prog 122 #[a, .func (.func 102) #[] #[]] w fun e w' => IdxPost e (l.any outB) ∧ w.grownBy w' none := by
  obtain ⟨pa, ca, ga, oa, rfl, hpa, hca⟩ := ha
  have HA : Hid (∀ i, (h : i < l.length) → w.cell? ⟨ga, oa + i, none⟩ = some ((Value.int .i64) l[i])) := hca
  have PA : Hid (0 < l.length → pa = some ⟨ga, oa, none⟩) := hpa
  clear hca hpa
  obtain ⟨x, hx⟩ : ∃ x, l.any outB = x := ⟨_, rfl⟩
  have EX : Hid (l.any outB = x) := hx
  rw [hx]
  clear hx
  have hll : (l.length : Int) ≤ 9223372036854775807 := by omega
  go_enter Tryz.func122, Tryz.ntmps122
  go_wp2
  go_loopw [8] (fun i wr => ∃ k : Nat, k ≤ l.length ∧ i = .int .i64 k ∧ w.grownBy wr none ∧ Hid (∀ j, (h1 : j < l.length) → j < k → outB l[j] = false)) (fun i _ => l.length - (intOf i).toNat)
  case atStart => exact ⟨0, Nat.zero_le _, rfl, grown_refl _ _, fun j _ h => absurd h (Nat.not_lt_zero _)⟩
  case round =>
    obtain ⟨k, hk, rfl, hg, HK⟩ := hrel
    have HG : Hid (w.grownBy wr none) := hg
    clear hg
    have k0 : (0 : Int) ≤ k := by omega
    by_cases hlt : k < l.length
    · have hp := PA.out (by omega)
      subst hp
      have c0 := cell_kept HG.out (HA.out k hlt)
      have k1 : (k : Int) < l.length := by omega
      clear HA
      have C : Hid (∀ W, Calls Tryz.prog 102 #[(Value.int .i64) l[k]] W fun e w' => e = .returned (.bool (outB l[k])) ∧ w' = W) := fun W => noPlace_any l[k] W
      by_cases he : outB l[k] = true
      · have ex : x = true := by rw [← EX.out]; exact any_true hlt he
        subst ex
        rw [he] at C
        clear HK he
        generalize l[k] = s at *
        go_wp2_with (go_at_call 102; refine (C.out _).mono ?_; rintro e w1 ⟨rfl, rfl⟩)
        go_ret
        exact ⟨⟨_, rfl, decide_eq_true k0⟩, HG.out⟩
      · have he' : outB l[k] = false := by simpa using he
        have next : Hid (∀ j, (h1 : j < l.length) → j < k + 1 → outB l[j] = false) := fun j h1 hj => by
          by_cases e : j = k
          · subst e; exact he'
          · exact HK.out j h1 (by omega)
        rw [he'] at C
        clear HK he he'
        generalize l[k] = s at *
        go_wp2_with (go_at_call 102; refine (C.out _).mono ?_; rintro e w1 ⟨rfl, rfl⟩)
        go_round
        case rel => exact ⟨k + 1, by omega, by go_num, HG.out, next⟩
        case measure => simp [intOf]; omega
    · obtain rfl : k = l.length := by omega
      have ex : x = false := by rw [← EX.out]; exact any_false (fun j h1 => HK.out j h1 h1)
      subst ex
      clear HA HK
      go_wp2
      go_ret
      exact ⟨⟨_, rfl, rfl⟩, HG.out⟩
set_option maxRecDepth 100000 in
set_option maxHeartbeats 400000 in
theorem conI_any (a : Value) (l : List Int) (w : World) (ha : RowV (Value.int .i64) w a l) (hl : l.length ≤ 9223372036854775807) :
    Calls Tryz.prog 101 #[a, .func (.func 102) #[] #[]] w fun e w' => e = .returned (.bool (l.any outB)) ∧ w.grownBy w' none := by
  have C : Hid (Calls Tryz.prog 122 #[a, .func (.func 102) #[] #[]] w fun e w' => IdxPost e (l.any outB) ∧ w.grownBy w' none) := idxI_any a l w ha hl
  obtain ⟨pa, ca, ga, oa, rfl, hpa, hca⟩ := ha
  clear hpa hca
  generalize l.any outB = x at *
  go_enter Tryz.func101, Tryz.ntmps101
  go_wp2_with (go_at_call 122; refine C.out.mono ?_; rintro e w1 ⟨⟨i, rfl, hi⟩, hg⟩)
  go_ret
  exact ⟨rfl, hg⟩
end Go.Proofs.YtbhmmcelndmijaaGreat.Pa
