/-
  Frames of records and of a marker, and what they say.
-/
import Derived.Test.YtddnjlnnkeiplaaPref
import Derived.Test.YtddnjlnnkeiplaaRepl
namespace Go.Proofs.Ytddnjlnnkeiplaa
open Go.RowKit Go.Maps
def txtK (l : List ByteArray) : Nat → ByteArray
  | 0 => ⟨#[]⟩
  | k + 1 => txtK l k ++ Wi.frmS (⟨#[100]⟩ ++ l.getD k ⟨#[]⟩)
theorem one_size (c : UInt8) (r : ByteArray) : (⟨#[c]⟩ ++ r : ByteArray).size = r.size + 1 := by rw [ByteArray.size_append]; show 1 + _ = _; omega
theorem txtK_size (l : List ByteArray) : ∀ k, (txtK l k).size = offK l k
  | 0 => rfl
  | k + 1 => by
    show (txtK l k ++ Wi.frmS _).size = offK l k + _
    rw [ByteArray.size_append, txtK_size l k, Wi.frmS_size, one_size]
theorem app_assoc (a b c : ByteArray) : a ++ b ++ c = a ++ (b ++ c) := bytes_ext (by simp only [Wi.append_list, List.append_assoc])
theorem txtK_split (l : List ByteArray) (k : Nat) : ∀ j, ∃ Q, txtK l (k + j) = txtK l k ++ Q
  | 0 => ⟨⟨#[]⟩, bytes_ext (by rw [Wi.append_list]; simp)⟩
  | j + 1 => by
    obtain ⟨Q, hQ⟩ := txtK_split l k j
    refine ⟨Q ++ Wi.frmS (⟨#[100]⟩ ++ l.getD (k + j) ⟨#[]⟩), ?_⟩
    show txtK l (k + j) ++ _ = _
    rw [hQ, app_assoc]
    rfl
theorem cons_list (c : UInt8) (r : ByteArray) : (⟨#[c]⟩ ++ r : ByteArray).data.toList = c :: r.data.toList := by rw [Wi.append_list]; rfl
theorem unV_frame (P t Q s : ByteArray) (p : Nat) (ht : t.size ≤ 1000) (hs : s = P ++ (Wi.frmS t ++ Q)) (hp : p = P.size) : unV s p = t ∧ unX s p = p + t.size + 8 := by
  obtain ⟨a1, a2, a3⟩ := Wi.un_frame P t Q s p (by omega) hs hp
  have hk : okU s p = true := (okU_iff s p).2 ⟨a2, by rw [a1]; exact a3⟩
  unfold unV unX
  rw [if_pos hk, if_pos hk, a1]
  exact ⟨rfl, rfl⟩
theorem step_frec (P r Q s : ByteArray) (p : Nat) (g : Lg) (hr : r.size ≤ 900) (hs : s = P ++ (Wi.frmS (⟨#[100]⟩ ++ r) ++ Q)) (hp : p = P.size) : stepG s p g = some (p + (r.size + 9), { g with recs := g.recs ++ [(p, r)] }) := by
  obtain ⟨a1, a2⟩ := unV_frame P _ Q s p (by rw [one_size]; omega) hs hp
  unfold stepG
  rw [a1, cons_list, a2, one_size]
  simp only [if_true]
  have e : p + (r.size + 1) + 8 = p + (r.size + 9) := by omega
  rw [e]
theorem step_fmark (P r Q s : ByteArray) (p : Nat) (g : Lg) (hr : r.size ≤ 900) (hs : s = P ++ (Wi.frmS (⟨#[109]⟩ ++ r) ++ Q)) (hp : p = P.size) : stepG s p g = some (p + (r.size + 9), { g with com := g.recs.length, len := p + (r.size + 9), wait := ⟨#[]⟩, root := r, marked := true }) := by
  obtain ⟨a1, a2⟩ := unV_frame P _ Q s p (by rw [one_size]; omega) hs hp
  unfold stepG
  rw [a1, cons_list, a2, one_size]
  have e : p + (r.size + 1) + 8 = p + (r.size + 9) := by omega
  rw [e]
  have h1 : ¬ (109 : UInt8) = 100 := by decide
  simp only [if_neg h1, if_true]
/-- The state behind so many records. -/
def midG (d : Nat) (l : List ByteArray) (k : Nat) : Lg := { newL d with recs := plcK l k }
def wholeT (l : List ByteArray) (root : ByteArray) : ByteArray := txtK l l.length ++ Wi.frmS (⟨#[109]⟩ ++ root)
def endT (l : List ByteArray) (root : ByteArray) : Nat := offK l l.length + (root.size + 9)
theorem wholeT_size (l : List ByteArray) (root : ByteArray) : (wholeT l root).size = endT l root := by
  unfold wholeT endT
  rw [ByteArray.size_append, txtK_size, Wi.frmS_size, one_size]
/-- The state behind the marker. -/
def topG (d : Nat) (l : List ByteArray) (root : ByteArray) : Lg := ⟨d, plcK l l.length, l.length, endT l root, ⟨#[]⟩, root, true⟩
theorem runG_some {s : ByteArray} {f p x : Nat} {g g' : Lg} (h : stepG s p g = some (x, g')) : runG s (f + 1) p g = runG s f x g' := by
  conv => lhs; unfold runG
  rw [h]
theorem run_one {s : ByteArray} {p x : Nat} {g g' : Lg} (hp : p ≤ s.size) (h : stepG s p g = some (x, g')) : runG s (s.size + 1 - p) p g = runG s (s.size + 1 - x) x g' := by
  have hx := stepG_lt hp h
  have e : s.size + 1 - p = (s.size - p) + 1 := by omega
  rw [e, runG_some h]
  exact runG_stable s _ _ x g' hx.2.1 (by omega) (Nat.le_refl _)
theorem run_mid (d : Nat) (l : List ByteArray) (root rest s : ByteArray) (hl : ∀ t ∈ l, t.size ≤ 300) (hs : s = wholeT l root ++ rest) : ∀ k, k ≤ l.length → offK l k ≤ s.size ∧ Inv s (offK l k) (midG d l k) ∧ runG s (s.size + 1 - offK l k) (offK l k) (midG d l k) = parseG s d
  | 0, _ => ⟨Nat.zero_le _, inv_new s d, rfl⟩
  | k + 1, hk => by
    obtain ⟨h1, h2, h3⟩ := run_mid d l root rest s hl hs k (by omega)
    obtain ⟨Q, hQ⟩ := txtK_split l (k + 1) (l.length - (k + 1))
    have e1 : k + 1 + (l.length - (k + 1)) = l.length := by omega
    rw [e1] at hQ
    have hq : stepG s (offK l k) (midG d l k) = some (offK l (k + 1), midG d l (k + 1)) := by
      have := step_frec (txtK l k) (l.getD k ⟨#[]⟩) (Q ++ (Wi.frmS (⟨#[109]⟩ ++ root) ++ rest)) s (offK l k) (midG d l k) (by have := getD_size hl k; omega) (by
        rw [hs]
        unfold wholeT
        rw [hQ]
        show txtK l k ++ Wi.frmS _ ++ Q ++ _ ++ _ = _
        simp only [app_assoc]) (txtK_size l k).symm
      rw [this]
      have e2 : ({ midG d l k with recs := (midG d l k).recs ++ [(offK l k, l.getD k ⟨#[]⟩)] } : Lg) = midG d l (k + 1) := by
        unfold midG
        rw [← plcK_snoc]
      rw [e2]
      rfl
    refine ⟨(stepG_lt h1 hq).2.1, h2.step h1 hq, ?_⟩
    rw [← h3, run_one h1 hq]
theorem run_top (d : Nat) (l : List ByteArray) (root rest s : ByteArray) (hl : ∀ t ∈ l, t.size ≤ 300) (hr : root.size ≤ 300) (hs : s = wholeT l root ++ rest) : endT l root ≤ s.size ∧ Inv s (endT l root) (topG d l root) ∧ runG s (s.size + 1 - endT l root) (endT l root) (topG d l root) = parseG s d := by
  obtain ⟨h1, h2, h3⟩ := run_mid d l root rest s hl hs l.length (Nat.le_refl _)
  have hq : stepG s (offK l l.length) (midG d l l.length) = some (endT l root, topG d l root) := by
    have := step_fmark (txtK l l.length) root rest s (offK l l.length) (midG d l l.length) (by omega) (by
      rw [hs]
      unfold wholeT
      rw [app_assoc]) (txtK_size l l.length).symm
    rw [this]
    have e2 : ({ midG d l l.length with com := (midG d l l.length).recs.length, len := offK l l.length + (root.size + 9), wait := ⟨#[]⟩, root := root, marked := true } : Lg) = topG d l root := by
      unfold midG topG newL endT
      simp only [plcK_len]
    rw [e2]
    rfl
  refine ⟨(stepG_lt h1 hq).2.1, h2.step h1 hq, ?_⟩
  rw [← h3, run_one h1 hq]
theorem atR_mem {l : List (Nat × ByteArray)} (h : Asc l) {r : Nat × ByteArray} (hr : r ∈ l) : atR l r.1 = some r.2 := by
  obtain ⟨i, hi, rfl⟩ := List.getElem_of_mem hr
  have e : findR l l[i].1 = i := by
    by_cases h1 : findR l l[i].1 < i
    · have h2 := findR_ge l l[i].1 h (findR l l[i].1) (by omega) (Nat.le_refl _)
      have := h _ i hi h1
      omega
    · by_cases h2 : i < findR l l[i].1
      · have := findR_lt l l[i].1 i hi h2
        omega
      · omega
  unfold atR
  rw [e, List.getElem?_eq_getElem hi]
  simp
theorem asc_take {l : List (Nat × ByteArray)} (h : Asc l) (n : Nat) : Asc (l.take n) := by
  intro i j hj hi
  have hj' : j < l.length := by rw [List.length_take] at hj; omega
  rw [List.getElem_take, List.getElem_take]
  exact h i j hj' hi
end Go.Proofs.Ytddnjlnnkeiplaa
