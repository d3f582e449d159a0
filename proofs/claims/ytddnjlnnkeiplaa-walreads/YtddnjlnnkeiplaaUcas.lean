/-
  What may stand at a place: five cases.
-/
import Derived.Test.YtddnjlnnkeiplaaPtext
namespace Go.Proofs.Ytddnjlnnkeiplaa
open Go.RowKit Go.Maps
inductive Ucas (A : ByteArray) (p : Nat) : Prop where
  | bad (hy : unY A p ≠ 0) (hst : ∀ g, stepG A p g = none)
  | emp (hy : unY A p = 0) (hv : unV A p = ⟨#[]⟩) (hst : ∀ g, stepG A p g = none)
  | odd (c : UInt8) (r : ByteArray) (hy : unY A p = 0) (hv : unV A p = ⟨#[c]⟩ ++ r) (hr : r.size ≤ A.size) (h1 : c ≠ 100) (h2 : c ≠ 109) (hst : ∀ g, stepG A p g = none)
  | recd (r : ByteArray) (x : Nat) (hy : unY A p = 0) (hv : unV A p = ⟨#[100]⟩ ++ r) (hr : r.size ≤ A.size) (hx : unX A p = x) (h1 : p + 8 ≤ x) (h2 : x ≤ A.size) (hst : ∀ g, stepG A p g = some (x, { g with recs := g.recs ++ [(p, r)] }))
  | mark (r : ByteArray) (x : Nat) (hy : unY A p = 0) (hv : unV A p = ⟨#[109]⟩ ++ r) (hr : r.size ≤ A.size) (hx : unX A p = x) (h1 : p + 8 ≤ x) (h2 : x ≤ A.size) (hst : ∀ g, stepG A p g = some (x, { g with com := g.recs.length, len := x, wait := ⟨#[]⟩, root := r, marked := true }))
theorem ucas (A : ByteArray) (p : Nat) (hp : p ≤ A.size) : Ucas A p := by
  cases hok : okU A p with
  | false =>
    refine .bad (unY_bad hok) (fun g => ?_)
    have e : unV A p = ⟨#[]⟩ := by unfold unV; rw [hok]; rfl
    unfold stepG
    rw [e]
  | true =>
    have hy := unY_ok hok
    have hx := unX_le A p hp hok
    match hv : (unV A p).data.toList with
    | [] =>
      refine .emp hy (bytes_ext hv) (fun g => ?_)
      unfold stepG
      rw [hv]
    | c :: r =>
      have ev := unV_eq hv
      have hr : (⟨r.toArray⟩ : ByteArray).size ≤ A.size := by
        have h1 := Wi.unT_size A p
        have h2 : unV A p = Wi.unT A p := by unfold unV; rw [if_pos hok]
        have h3 := one_size c ⟨r.toArray⟩
        rw [← ev, h2] at h3
        omega
      by_cases h1 : c = 100
      · subst h1
        refine .recd ⟨r.toArray⟩ (unX A p) hy ev hr rfl hx.2 hx.1 (fun g => ?_)
        unfold stepG
        rw [hv]
        simp only [if_true]
      · by_cases h2 : c = 109
        · subst h2
          refine .mark ⟨r.toArray⟩ (unX A p) hy ev hr rfl hx.2 hx.1 (fun g => ?_)
          unfold stepG
          rw [hv]
          simp only [if_neg h1, if_true]
        · refine .odd c ⟨r.toArray⟩ hy ev hr h1 h2 (fun g => ?_)
          unfold stepG
          rw [hv]
          simp only [if_neg h1, if_neg h2]
theorem head_get (c : UInt8) (r V : ByteArray) (h : (⟨#[c]⟩ ++ r : ByteArray) = V) (hz : 0 < V.size) : (V[0]'hz) = c := by
  subst h
  show (⟨#[c]⟩ ++ r : ByteArray).data[0] = c
  simp [ByteArray.data_append]
theorem take_rec_com {g : Lg} (h : g.com ≤ g.recs.length) (q : Nat × ByteArray) : (g.recs ++ [q]).take g.com = g.recs.take g.com := List.take_append_of_le_length h
theorem drop_rec_com {g : Lg} (h : g.com ≤ g.recs.length) (q : Nat × ByteArray) : (g.recs ++ [q]).drop g.com = g.recs.drop g.com ++ [q] := List.drop_append_of_le_length h
theorem run_stop {s : ByteArray} {p : Nat} {g : Lg} (h : stepG s p g = none) : ∀ f, runG s f p g = g
  | 0 => rfl
  | f + 1 => by
    unfold runG
    rw [h]
end Go.Proofs.Ytddnjlnnkeiplaa
