/-
  The program's changes and the document's: which stand for the same.
-/
import Derived.Test.YtoenddcdafnmiaaRjoin
import Derived.Test.YtoenddcdafnmiaaChy
import Derived.Test.YtoenddcdafnmiaaFar
namespace Go.Proofs.Ytoenddcdafnmiaa
open Go.RowKit Go.Maps
structure Sim (p d : Chg) : Prop where
  kind : p.kind = d.kind
  name : p.name = d.name
  bytes : p.bytes = d.bytes
  to : d.kind = 2 → p.to = d.to
  n : d.kind = 4 → p.n = d.n
theorem do_sim {p d : Chg} (h : Sim p d) (hk : d.kind ≤ 4) (l : FS) : doF l p = doF l d := by
  unfold doF
  rw [h.kind, h.name, h.bytes]
  split
  · rfl
  · split
    · rfl
    · cases getF l d.name with
      | none => rfl
      | some s =>
        show (if _ then _ else _) = (if _ then _ else _)
        split
        · rename_i h2
          rw [h.to h2]
        · split
          · rfl
          · rw [h.n (by omega)]
theorem ref_sim {p d : Chg} (h : Sim p d) (l : FS) : refF l p = refF l d := by
  have e1 : (nameB p.name = false ∨ (p.kind = 2 ∧ nameB p.to = false)) ↔ (nameB d.name = false ∨ (d.kind = 2 ∧ nameB d.to = false)) := by
    rw [h.kind, h.name]
    constructor
    · rintro (h1 | ⟨h1, h2⟩)
      · exact Or.inl h1
      · exact Or.inr ⟨h1, by rw [← h.to h1]; exact h2⟩
    · rintro (h1 | ⟨h1, h2⟩)
      · exact Or.inl h1
      · exact Or.inr ⟨h1, by rw [h.to h1]; exact h2⟩
  unfold refF
  by_cases hx : nameB d.name = false ∨ (d.kind = 2 ∧ nameB d.to = false)
  · rw [if_pos hx, if_pos (e1.2 hx)]
  · rw [if_neg hx, if_neg (fun q => hx (e1.1 q)), h.kind, h.name]
    split
    · rfl
    · cases getF l d.name with
      | none => rfl
      | some s =>
        show (if _ then _ else if _ then _ else _) = (if _ then _ else if _ then _ else _)
        by_cases h2 : d.kind = 2
        · have h4 : ¬ d.kind = 4 := by omega
          rw [h.to h2]
          simp [h4]
        · by_cases h4 : d.kind = 4
          · rw [h.n h4]
            simp [h2]
          · simp [h2, h4]
/-- The change that the document is asked for. -/
def docC (kd : Nat) (a s t : ByteArray) (z : Int) : Chg := ⟨kd, a, if 1 < kd then ⟨#[]⟩ else s, t, z⟩
theorem sim_act (kd : Nat) (a s t : ByteArray) (z : Int) (hk : kd ≤ 4) : Sim (progC kd a s t z) (docC kd a s t z) := by
  match kd, hk with
  | 0, _ => exact ⟨rfl, rfl, rfl, fun h => absurd (show (0 : Nat) = 2 from h) (by decide), fun h => absurd (show (0 : Nat) = 4 from h) (by decide)⟩
  | 1, _ => exact ⟨rfl, rfl, rfl, fun h => absurd (show (1 : Nat) = 2 from h) (by decide), fun h => absurd (show (1 : Nat) = 4 from h) (by decide)⟩
  | 2, _ => exact ⟨rfl, rfl, rfl, fun _ => rfl, fun h => absurd (show (2 : Nat) = 4 from h) (by decide)⟩
  | 3, _ => exact ⟨rfl, rfl, rfl, fun h => absurd (show (3 : Nat) = 2 from h) (by decide), fun h => absurd (show (3 : Nat) = 4 from h) (by decide)⟩
  | 4, _ => exact ⟨rfl, rfl, rfl, fun h => absurd (show (4 : Nat) = 2 from h) (by decide), fun _ => rfl⟩
  | n + 5, h => exact absurd h (by omega)
/-- A change that is not great. -/
structure Tiny (c : Chg) : Prop where
  kind : c.kind ≤ 4
  bytes : c.bytes.size ≤ 60
  name : c.name.size ≤ 16
  to : c.kind = 2 → c.to.size ≤ 16
  low : c.kind = 4 → 0 ≤ c.n
  high : c.n ≤ 9223372036854775807
  nm : nameB c.name = true
  tm : c.kind = 2 → nameB c.to = true
theorem Tiny.okR {c : Chg} (h : Tiny c) : OkR c := ⟨h.kind, by have := h.bytes; omega, h.low⟩
theorem fits_tiny {l : FS} {B : Nat} (h : Fits l B) {c : Chg} (hc : Tiny c) : Fits (doF l c) (B + 61) := by
  by_cases h2 : c.kind = 2
  · exact fits_do h c hc.bytes (by have := hc.name; omega) (by have := hc.to h2; omega)
  · have e : doF l c = doF l ⟨c.kind, c.name, c.bytes, ⟨#[]⟩, c.n⟩ := (do_sim (p := ⟨c.kind, c.name, c.bytes, ⟨#[]⟩, c.n⟩) (d := c) ⟨rfl, rfl, rfl, fun q => absurd q h2, fun _ => rfl⟩ hc.kind l).symm
    rw [e]
    exact fits_do h _ hc.bytes (by have := hc.name; show c.name.size ≤ _; omega) (Nat.zero_le _)
theorem fits_fold {l : FS} {B : Nat} (h : Fits l B) : ∀ cs : List Chg, (∀ c ∈ cs, Tiny c) → Fits (foldC l cs) (B + 61 * cs.length) := fun cs => by
  induction cs generalizing l B with
  | nil => exact fun _ => h.mono (by simp)
  | cons c r ih =>
    intro hc
    have := ih (fits_tiny h (hc c List.mem_cons_self)) (fun q hq => hc q (List.mem_cons_of_mem _ hq))
    exact Fits.mono this (by rw [List.length_cons]; omega)
theorem name_size {a : ByteArray} (h : nameB a = true) : a.size ≤ 16 := by
  unfold nameB at h
  simp at h
  exact h.1.2
theorem name_mem {l : FS} (h : ∀ p ∈ l, nameB p.1 = true) {n s : ByteArray} (hn : nameB n = true) : ∀ p ∈ putF l n s, nameB p.1 = true := fun p hp => by
  rcases mem_insF hp with rfl | hp
  · exact hn
  · exact h p (List.mem_filter.1 hp).1
theorem names_do {l : FS} (h : ∀ p ∈ l, nameB p.1 = true) {c : Chg} (hc : Tiny c) : ∀ p ∈ doF l c, nameB p.1 = true := by
  unfold doF
  split
  · exact name_mem h hc.nm
  · split
    · exact name_mem h hc.nm
    · cases getF l c.name with
      | none => exact h
      | some s =>
        show ∀ p ∈ (if c.kind = 2 then putF (delF l c.name) c.to s else if c.kind = 3 then delF l c.name else putF l c.name (s.extract 0 (min c.n.toNat s.size))), nameB p.1 = true
        split
        · rename_i h2
          exact name_mem (fun p hp => h p (List.mem_filter.1 hp).1) (hc.tm h2)
        · split
          · exact fun p hp => h p (List.mem_filter.1 hp).1
          · exact name_mem h hc.nm
theorem names_fold {l : FS} (h : ∀ p ∈ l, nameB p.1 = true) : ∀ cs : List Chg, (∀ c ∈ cs, Tiny c) → ∀ p ∈ foldC l cs, nameB p.1 = true := fun cs => by
  induction cs generalizing l with
  | nil => exact fun _ => h
  | cons c r ih => exact fun hc => ih (names_do h (hc c List.mem_cons_self)) (fun q hq => hc q (List.mem_cons_of_mem _ hq))
/-- What holds of the document's disk all along. -/
structure Inv (m : Md) : Prop where
  rising : Rising m.sure
  tiny : ∀ c ∈ m.cs, Tiny c
  len : m.cs.length ≤ m.ch
  ch : m.ch ≤ 60
  fit : Fits m.sure (61 * (m.ch - m.cs.length))
  names : ∀ p ∈ m.sure, nameB p.1 = true
theorem Inv.fits {m : Md} (h : Inv m) {cs : List Chg} (hs : ∀ c ∈ cs, Tiny c) (hl : cs.length ≤ m.cs.length) : Fits (foldC m.sure cs) (61 * m.ch) := by
  refine (fits_fold h.fit cs hs).mono ?_
  have := h.len
  omega
theorem Inv.good {m : Md} (h : Inv m) : Good m :=
  ⟨h.rising, fun c hc => (h.tiny c hc).okR, by have := h.len; have := h.ch; omega, by have := h.ch; omega, fun k hk => (h.fits (cs := m.cs.take k) (fun c hc => h.tiny c (List.mem_of_mem_take hc)) (by rw [List.length_take]; omega)).mono (by have := h.ch; omega)⟩
/-- The program's disk and the document's hold the same. -/
structure Rel (k : Dk) (m : Md) : Prop where
  now : k.now = m.now
  sure : k.sure = m.sure
  dead : k.dead = false
  changes : k.changes = m.ch
  unsure : k.unsure = m.cs.length
  count : k.loose.length = m.cs.length
  loose : ∀ i, (h : i < k.loose.length) → (h' : i < m.cs.length) → Sim k.loose[i] m.cs[i]
  ok : ∀ c ∈ k.loose, OkC c
theorem Rel.small {k : Dk} {m : Md} (h : Rel k m) (hi : Inv m) : Small k := by
  have hl := hi.len
  have hc := hi.ch
  have hL := h.count
  refine ⟨?_, by rw [h.unsure]; omega, by rw [h.changes]; omega, by omega⟩
  rw [h.now]
  exact hi.good.fits.mono (by decide)
theorem tiny_doc {l : FS} {kd : Nat} {a s t : ByteArray} {z : Int} (hk : kd ≤ 4) (hs : s.size ≤ 60) (hz : z ≤ 9223372036854775807) (h0 : refF l (docC kd a s t z) = 0) : Tiny (docC kd a s t z) := by
  unfold refF at h0
  by_cases hx : nameB (docC kd a s t z).name = false ∨ ((docC kd a s t z).kind = 2 ∧ nameB (docC kd a s t z).to = false)
  · rw [if_pos hx] at h0
    cases h0
  rw [if_neg hx] at h0
  have hn : nameB a = true := by
    cases q : nameB a with
    | true => rfl
    | false => exact absurd (Or.inl q) hx
  have htn : kd = 2 → nameB t = true := fun h2 => by
    cases q : nameB t with
    | true => rfl
    | false => exact absurd (Or.inr ⟨h2, q⟩) hx
  refine ⟨hk, ?_, name_size hn, fun h2 => name_size (htn h2), fun h4 => ?_, hz, hn, htn⟩
  · show (if 1 < kd then (⟨#[]⟩ : ByteArray) else s).size ≤ 60
    split
    · exact Nat.zero_le _
    · exact hs
  · have h4' : kd = 4 := h4
    subst h4'
    rw [if_neg (show ¬ (docC 4 a s t z).kind ≤ 1 from (by show ¬ (4 : Nat) ≤ 1; decide))] at h0
    cases q : getF l a with
    | none =>
      simp only [docC] at h0
      rw [q] at h0
      cases h0
    | some old =>
      simp only [docC] at h0
      rw [q] at h0
      by_cases hz0 : z < 0
      · exfalso
        simp [hz0] at h0
      · show 0 ≤ z
        omega
theorem ok_prog {kd : Nat} {a s t : ByteArray} {z : Int} (hk : kd ≤ 4) (h : Tiny (docC kd a s t z)) : OkC (progC kd a s t z) := by
  have h1 : a.size ≤ 16 := h.name
  have h2 : kd = 2 → t.size ≤ 16 := h.to
  have h3 : kd ≤ 1 → s.size ≤ 60 := fun q => by
    have := h.bytes
    unfold docC at this
    rw [if_neg (by omega)] at this
    exact this
  have h4 : kd = 4 → 0 ≤ z := h.low
  have h5 : z ≤ 9223372036854775807 := h.high
  have e : (⟨#[]⟩ : ByteArray).size ≤ 1000 := Nat.zero_le _
  have e' : (⟨#[]⟩ : ByteArray).size ≤ 10000 := Nat.zero_le _
  match kd, hk with
  | 0, _ => exact ⟨(by show (0 : Nat) ≤ 4; decide), (by show a.size ≤ 1000; omega), e, (by show s.size ≤ 10000; have := h3 (by decide); omega), (fun q => absurd (show (0 : Nat) = 4 from q) (by decide)), (by show (0 : Int) ≤ _; decide)⟩
  | 1, _ => exact ⟨(by show (1 : Nat) ≤ 4; decide), (by show a.size ≤ 1000; omega), e, (by show s.size ≤ 10000; have := h3 (by decide); omega), (fun q => absurd (show (1 : Nat) = 4 from q) (by decide)), (by show (0 : Int) ≤ _; decide)⟩
  | 2, _ => exact ⟨(by show (2 : Nat) ≤ 4; decide), (by show a.size ≤ 1000; omega), (by show t.size ≤ 1000; have := h2 rfl; omega), e', (fun q => absurd (show (2 : Nat) = 4 from q) (by decide)), (by show (0 : Int) ≤ _; decide)⟩
  | 3, _ => exact ⟨(by show (3 : Nat) ≤ 4; decide), (by show a.size ≤ 1000; omega), e, e', (fun q => absurd (show (3 : Nat) = 4 from q) (by decide)), (by show (0 : Int) ≤ _; decide)⟩
  | 4, _ => exact ⟨(by show (4 : Nat) ≤ 4; decide), (by show a.size ≤ 1000; omega), e, e', (fun _ => h4 rfl), h5⟩
  | n + 5, q => exact absurd q (by omega)
theorem rel_next {k : Dk} {m : Md} (h : Rel k m) (hi : Inv m) (hc : m.ch ≤ 59) {kd : Nat} {a s t : ByteArray} {z : Int} (hk : kd ≤ 4) (hs : s.size ≤ 60) (hz : z ≤ 9223372036854775807) :
    ansF k (progC kd a s t z) = refF m.now (docC kd a s t z) ∧ Rel (nextD k (progC kd a s t z)) (nextM m (docC kd a s t z)) ∧ Inv (nextM m (docC kd a s t z)) ∧ (nextM m (docC kd a s t z)).ch ≤ m.ch + 1 := by
  have sm := sim_act kd a s t z hk
  have ea : ansF k (progC kd a s t z) = refF m.now (docC kd a s t z) := by
    unfold ansF
    rw [h.dead, h.now]
    exact ref_sim sm _
  refine ⟨ea, ?_⟩
  by_cases h0 : refF m.now (docC kd a s t z) = 0
  · have e1 : nextD k (progC kd a s t z) = stepD k (progC kd a s t z) := by unfold nextD; rw [ea, if_pos h0]
    have e2 : nextM m (docC kd a s t z) = ⟨m.sure, m.cs ++ [docC kd a s t z], m.ch + 1⟩ := by unfold nextM; rw [if_pos h0]
    rw [e1, e2]
    have hl := hi.len
    have hL := h.count
    have ty := tiny_doc hk hs hz h0
    have len1 : (m.cs ++ [docC kd a s t z]).length = m.cs.length + 1 := by simp
    refine ⟨⟨?_, h.sure, h.dead, ?_, ?_, ?_, ?_, ?_⟩, ⟨hi.rising, ?_, ?_, ?_, ?_, hi.names⟩, Nat.le_refl _⟩
    · show doF k.now (progC kd a s t z) = foldC m.sure (m.cs ++ [docC kd a s t z])
      rw [fold_snoc, h.now, do_sim sm hk]
      rfl
    · show k.changes + 1 = m.ch + 1
      rw [h.changes]
    · show k.unsure + 1 = _
      rw [len1, h.unsure]
    · show (if k.loose.length ≤ 62 then k.loose ++ [progC kd a s t z] else k.loose).length = _
      rw [if_pos (by omega), len1, List.length_append, hL]
      rfl
    · have el : (stepD k (progC kd a s t z)).loose = k.loose ++ [progC kd a s t z] := by
        show (if k.loose.length ≤ 62 then k.loose ++ [progC kd a s t z] else k.loose) = _
        rw [if_pos (by omega)]
      rw [el]
      intro i q q'
      by_cases hx : i < k.loose.length
      · rw [List.getElem_append_left hx]
        have e : (m.cs ++ [docC kd a s t z])[i] = m.cs[i]'(by omega) := List.getElem_append_left (by omega)
        have := h.loose i hx (by omega)
        simp only [e]
        exact this
      · have hi2 : i = k.loose.length := by
          rw [List.length_append] at q
          simp at q
          omega
        subst hi2
        have e1 : (k.loose ++ [progC kd a s t z])[k.loose.length] = progC kd a s t z := by simp
        have e2 : (m.cs ++ [docC kd a s t z])[k.loose.length]'q' = docC kd a s t z := by simp [hL]
        rw [e1]
        show Sim _ ((m.cs ++ [docC kd a s t z])[k.loose.length]'q')
        rw [e2]
        exact sm
    · show ∀ c ∈ (if k.loose.length ≤ 62 then k.loose ++ [progC kd a s t z] else k.loose), _
      rw [if_pos (by omega)]
      intro c hc
      rcases List.mem_append.1 hc with hc | hc
      · exact h.ok c hc
      · rw [List.mem_singleton.1 hc]
        exact ok_prog hk ty
    · intro c hc
      rcases List.mem_append.1 hc with hc | hc
      · exact hi.tiny c hc
      · rw [List.mem_singleton.1 hc]
        exact ty
    · show (m.cs ++ [docC kd a s t z]).length ≤ m.ch + 1
      rw [len1]
      omega
    · show m.ch + 1 ≤ 60
      omega
    · show Fits m.sure (61 * (m.ch + 1 - (m.cs ++ [docC kd a s t z]).length))
      rw [len1, show m.ch + 1 - (m.cs.length + 1) = m.ch - m.cs.length by omega]
      exact hi.fit
  · have e1 : nextD k (progC kd a s t z) = k := by unfold nextD; rw [ea, if_neg h0]
    have e2 : nextM m (docC kd a s t z) = m := by unfold nextM; rw [if_neg h0]
    rw [e1, e2]
    exact ⟨h, hi, by omega⟩
/-- The document's disk behind a Sync. -/
def syncM (m : Md) : Md := ⟨m.now, [], m.ch⟩
theorem rel_sync {k : Dk} {m : Md} (h : Rel k m) (hi : Inv m) : Rel (syncD k) (syncM m) ∧ Inv (syncM m) := by
  refine ⟨⟨h.now, h.now, h.dead, h.changes, rfl, rfl, (fun i q => absurd q (Nat.not_lt_zero _)), (fun c hc => by cases hc)⟩, ⟨rising_fold hi.rising _, (fun c hc => by cases hc), Nat.zero_le _, hi.ch, ?_, names_fold hi.names _ hi.tiny⟩⟩
  exact (hi.fits (cs := m.cs) hi.tiny (Nat.le_refl _)).mono (by show _ ≤ 61 * (m.ch - 0); omega)
end Go.Proofs.Ytoenddcdafnmiaa
