/-
  What a file's bytes say, frame by frame.
-/
import Derived.Test.YtddnjlnnkeiplaaKWUnBoth
import Derived.Test.YtddnjlnnkeiplaaLopen
import Derived.Test.YtddnjlnnkeiplaaLsrch
namespace Go.Proofs.Ytddnjlnnkeiplaa
open Go.RowKit Go.Maps
/-- Is the frame at a place whole? -/
def okU (s : ByteArray) (p : Nat) : Bool := (Wi.unF s p == 0) && (Wi.unN s p == Wi.adl (Wi.numS (Wi.unT s p).size 4 ++ Wi.unT s p))
/-- What Unframe answers. -/
def unV (s : ByteArray) (p : Nat) : ByteArray := if okU s p then Wi.unT s p else ⟨#[]⟩
def unX (s : ByteArray) (p : Nat) : Nat := if okU s p then p + (Wi.unT s p).size + 8 else 0
def unY (s : ByteArray) (p : Nat) : Nat := if okU s p then 0 else if Wi.unF s p = 0 then 6 else Wi.unF s p
theorem okU_iff (s : ByteArray) (p : Nat) : okU s p = true ↔ Wi.unF s p = 0 ∧ Wi.unN s p = Wi.adl (Wi.numS (Wi.unT s p).size 4 ++ Wi.unT s p) := by
  unfold okU
  simp
theorem unY_ok {s : ByteArray} {p : Nat} (h : okU s p = true) : unY s p = 0 := by unfold unY; rw [if_pos h]
theorem unY_bad {s : ByteArray} {p : Nat} (h : okU s p = false) : unY s p ≠ 0 := by
  unfold unY
  rw [if_neg (by rw [h]; simp)]
  split
  · decide
  · assumption
theorem un_any (s : ByteArray) (p : Nat) (hs : s.size ≤ 4500) (hp : p ≤ s.size) : Un s p (unV s p) (unX s p) (unY s p) := fun w => by
  unfold unV unX unY
  cases h : okU s p with
  | true =>
    obtain ⟨h1, h2⟩ := (okU_iff s p).1 h
    obtain ⟨e1, e2, e3⟩ := Wi.un_eq s p hp h1
    exact Wi.unframe_in s p w hs hp h1 _ _ _ (Or.inl ⟨by rw [e3]; exact h2, rfl, by rw [if_pos rfl, e2]; omega, rfl⟩)
  | false =>
    by_cases h1 : Wi.unF s p = 0
    · obtain ⟨e1, e2, e3⟩ := Wi.un_eq s p hp h1
      have h2 : Wi.unN s p ≠ Wi.adl (Wi.numS (Wi.unT s p).size 4 ++ Wi.unT s p) := fun e => by
        have := (okU_iff s p).2 ⟨h1, e⟩
        rw [h] at this
        cases this
      exact Wi.unframe_in s p w hs hp h1 _ _ _ (Or.inr ⟨by rw [e3]; exact h2, rfl, rfl, by rw [if_pos h1]; rfl⟩)
    · have := Wi.unframe_bad s p w hs hp h1
      simp only [Bool.false_eq_true, if_false, if_neg h1]
      exact this
theorem refUn_any (s : ByteArray) (p : Nat) (hs : s.size ≤ 4500) (hp : p ≤ s.size) (w : World) : Calls Try.prog 29 #[.string s, .int .i64 p] w fun e w' => e = .returned (.tuple #[.string (unV s p), .int .i64 (unX s p), .int .i64 (unY s p)]) ∧ w.grownBy w' none := by
  have hT := Wi.unT_size s p
  unfold unV unX unY
  cases h : okU s p with
  | true =>
    obtain ⟨h1, h2⟩ := (okU_iff s p).1 h
    exact Wi.refUnframe_in s p w hs hp h1 (by omega) _ _ _ (Or.inl ⟨h2, rfl, rfl, rfl⟩)
  | false =>
    by_cases h1 : Wi.unF s p = 0
    · have h2 : Wi.unN s p ≠ Wi.adl (Wi.numS (Wi.unT s p).size 4 ++ Wi.unT s p) := fun e => by
        have := (okU_iff s p).2 ⟨h1, e⟩
        rw [h] at this
        cases this
      exact Wi.refUnframe_in s p w hs hp h1 (by omega) _ _ _ (Or.inr ⟨h2, rfl, rfl, by rw [if_pos h1]; rfl⟩)
    · have := Wi.refUnframe_bad s p w hs hp h1
      simp only [Bool.false_eq_true, if_false, if_neg h1]
      exact this
theorem failE_ne (e k : Nat) (hk : k ≠ 0) : Wi.failE e k ≠ 0 := by
  unfold Wi.failE
  split <;> omega
/-- A whole frame ends within the bytes. -/
theorem unX_le (s : ByteArray) (p : Nat) (hp : p ≤ s.size) (h : okU s p = true) : unX s p ≤ s.size ∧ p + 8 ≤ unX s p := by
  obtain ⟨h1, _⟩ := (okU_iff s p).1 h
  obtain ⟨e1, e2, _⟩ := Wi.un_eq s p hp h1
  have hr := Wi.un_room s p
  have hR : (Wi.unR s p).size = s.size - p := by unfold Wi.unR; rw [ByteArray.size_extract]; omega
  have h4 : ¬ (Wi.unS s p).size < 4 := fun hlt => by
    unfold Wi.unF Wi.takeE at h1
    rw [if_pos hlt] at h1
    exact failE_ne _ _ (by decide) h1
  unfold unX
  rw [if_pos h]
  omega
/-- One frame is taken: the place behind it, and the log. -/
def stepG (s : ByteArray) (p : Nat) (g : Lg) : Option (Nat × Lg) :=
  match (unV s p).data.toList with
  | [] => none
  | c :: r => if c = 100 then some (unX s p, { g with recs := g.recs ++ [(p, ⟨r.toArray⟩)] })
    else if c = 109 then some (unX s p, { g with com := g.recs.length, len := unX s p, wait := ⟨#[]⟩, root := ⟨r.toArray⟩, marked := true })
    else none
theorem unV_ok {s : ByteArray} {p : Nat} {c : UInt8} {r : List UInt8} (h : (unV s p).data.toList = c :: r) : okU s p = true := by
  cases hk : okU s p with
  | true => rfl
  | false =>
    unfold unV at h
    rw [hk] at h
    cases h
theorem unV_eq {s : ByteArray} {p : Nat} {c : UInt8} {r : List UInt8} (h : (unV s p).data.toList = c :: r) : unV s p = ⟨#[c]⟩ ++ ⟨r.toArray⟩ := bytes_ext (by rw [h, ByteArray.data_append]; simp)
theorem stepG_lt {s : ByteArray} {p x : Nat} {g g' : Lg} (hp : p ≤ s.size) (h : stepG s p g = some (x, g')) : p + 8 ≤ x ∧ x ≤ s.size ∧ g'.recs.length ≤ g.recs.length + 1 ∧ g'.d = g.d := by
  unfold stepG at h
  split at h
  · cases h
  · rename_i c r hv
    have hk := unX_le s p hp (unV_ok hv)
    split at h
    · simp only [Option.some.injEq, Prod.mk.injEq] at h
      obtain ⟨rfl, rfl⟩ := h
      exact ⟨hk.2, hk.1, by simp, rfl⟩
    · split at h
      · simp only [Option.some.injEq, Prod.mk.injEq] at h
        obtain ⟨rfl, rfl⟩ := h
        exact ⟨hk.2, hk.1, by simp, rfl⟩
      · cases h
set_option maxRecDepth 100000 in
set_option maxHeartbeats 1000000 in
theorem take_none (q : Value) (s : ByteArray) (p x : Nat) (w : World) (hU : Un s p ⟨#[]⟩ x 0) :
    Calls Try.prog 61 #[q, .string s, .int .i64 p] w fun e w' => e = .returned (.tuple #[.int .i64 0, .bool false]) ∧ w.grownBy w' none := by
  have CU : Hid (∀ W, Calls Try.prog 76 #[.string s, .int .i64 p] W fun e w' => e = .returned (.tuple #[.string ⟨#[]⟩, .int .i64 x, .int .i64 0]) ∧ W.grownBy w' none) := hU
  clear hU
  go_enter Try.func61, Try.ntmps61
  go_wp2_with (go_at_call 76; refine (CU.out _).mono ?_; clear CU; rintro e w1 ⟨rfl, hg⟩; have G1 : Hid (w.grownBy w1 none) := hg; clear hg)
  go_ret2
  exact ⟨rfl, G1.out⟩
set_option maxRecDepth 100000 in
set_option maxHeartbeats 1000000 in
theorem take_odd (q : Value) (s r : ByteArray) (c : UInt8) (p x : Nat) (w : World) (hU : Un s p (⟨#[c]⟩ ++ r) x 0) (h1 : c ≠ 100) (h2 : c ≠ 109) (hr : r.size ≤ 1000000) :
    Calls Try.prog 61 #[q, .string s, .int .i64 p] w fun e w' => e = .returned (.tuple #[.int .i64 0, .bool false]) ∧ w.grownBy w' none := by
  have CU : Hid (∀ W, Calls Try.prog 76 #[.string s, .int .i64 p] W fun e w' => e = .returned (.tuple #[.string (⟨#[c]⟩ ++ r), .int .i64 x, .int .i64 0]) ∧ W.grownBy w' none) := hU
  have e1 : (⟨#[c]⟩ ++ r : ByteArray).extract 0 1 = ⟨#[c]⟩ := head_of c r
  have e3 : (⟨#[c]⟩ ++ r : ByteArray).size = r.size + 1 := by rw [ByteArray.size_append]; show 1 + _ = _; omega
  have t0 : (⟨#[c]⟩ ++ r : ByteArray).toList = c :: r.data.toList := by rw [ByteArray.toList_eq]; simp
  generalize hV : (⟨#[c]⟩ ++ r : ByteArray) = V at *
  have i1 : (V.size : Int) = (r.size : Int) + 1 := by omega
  have i2 : (r.size : Int) ≤ 1000000 := by omega
  have t1 : (V.toList == []) = false := by rw [t0]; rfl
  have u0 : (⟨#[c]⟩ : ByteArray).toList = [c] := by rw [ByteArray.toList_eq]
  generalize hC : (⟨#[c]⟩ : ByteArray) = C at *
  have u1 : (C.toList == [100]) = false := by rw [u0]; simp; exact h1
  have u2 : (C.toList == [109]) = false := by rw [u0]; simp; exact h2
  clear hU hV hr hC u0 h1 h2 t0
  go_enter Try.func61, Try.ntmps61
  go_wp2_with (go_at_call 76; refine (CU.out _).mono ?_; clear CU; rintro e w1 ⟨rfl, hg⟩; have G1 : Hid (w.grownBy w1 none) := hg; clear hg)
  go_ret2
  exact ⟨rfl, G1.out⟩
/-- take, whatever the bytes. -/
def TakePost (base b : Nat) (w : World) (o : Option (Nat × Lg)) (g : Lg) (e : Ending) (w' : World) : Prop :=
  LT base b w w' ∧ match o with
    | none => e = .returned (.tuple #[.int .i64 0, .bool false]) ∧ IsLog w' base b g
    | some (x, g') => e = .returned (.tuple #[.int .i64 x, .bool true]) ∧ IsLog w' base b g'
theorem take_all (base b : Nat) (g : Lg) (s : ByteArray) (p : Nat) (w : World) (h : IsLog w base b g) (hl : g.recs.length ≤ 1000000) (hs : s.size ≤ 4500) (hp : p ≤ s.size) :
    Calls Try.prog 61 #[.pointer (some ⟨b, 0, none⟩), .string s, .int .i64 p] w (TakePost base b w (stepG s p g) g) := by
  have hU := un_any s p hs hp
  have hT : (unV s p).size ≤ 4500 := by
    unfold unV
    split
    · have := Wi.unT_size s p
      omega
    · decide
  have none_post : ∀ e w', (e = .returned (.tuple #[.int .i64 0, .bool false]) ∧ w.grownBy w' none) → TakePost base b w none g e w' := fun e w' hq => ⟨LT.of_none hq.2, hq.1, h.kept hq.2⟩
  unfold stepG
  match hv : (unV s p).data.toList with
  | [] =>
    have ev : unV s p = ⟨#[]⟩ := bytes_ext hv
    cases hk : okU s p with
    | true =>
      rw [ev, unY_ok hk] at hU
      exact (take_none _ s p _ w hU).mono none_post
    | false => exact (take_bad _ s _ p _ _ w hU (unY_bad hk)).mono none_post
  | c :: r =>
    have hk := unV_ok hv
    have ev := unV_eq hv
    rw [ev, unY_ok hk] at hU
    have hrz : (⟨r.toArray⟩ : ByteArray).size ≤ 1000000 := by
      rw [ev, ByteArray.size_append] at hT
      omega
    by_cases h1 : c = 100
    · subst h1
      simp only [if_true]
      exact (take_rec base b g s _ p _ w h hl hU hrz).mono (fun e w' hq => ⟨hq.2.2, hq.1, hq.2.1⟩)
    · by_cases h2 : c = 109
      · subst h2
        simp only [if_neg h1, if_true]
        exact (take_mark base b g s _ p _ w h hl hU hrz).mono (fun e w' hq => ⟨hq.2.2, hq.1, hq.2.1⟩)
      · simp only [if_neg h1, if_neg h2]
        exact (take_odd _ s _ c p _ w hU h1 h2 hrz).mono none_post
end Go.Proofs.Ytddnjlnnkeiplaa
