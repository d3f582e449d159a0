/-
  What a file's bytes say, frame by frame. load, whatever the bytes: all up to the last marker that is whole.
-/
import Derived.Test.YtddnjlnnkeiplaaKWUnBoth
import Derived.Test.YtddnjlnnkeiplaaKLopen
import Derived.Test.YtddnjlnnkeiplaaLsrch
import Derived.Test.YtddnjlnnkeiplaaKLdrop2
namespace Go.Proofs.Ytddnjlnnkeiplaa
open Go.RowKit Go.Maps
/-- Is the frame at a place whole? -/
def okU (s : ByteArray) (p : Nat) : Bool := (Wi.unF s p == 0) && (Wi.unN s p == Wi.adl (Wi.numS (Wi.unT s p).size 4 ++ Wi.unT s p))
/-- What Unframe answers. -/
def unV (s : ByteArray) (p : Nat) : ByteArray := if okU s p then Wi.unT s p else ⟨#[]⟩
def unX (s : ByteArray) (p : Nat) : Nat := if okU s p then p + (Wi.unT s p).size + 8 else 0
def unY (s : ByteArray) (p : Nat) : Nat := if okU s p then 0 else if Wi.unF s p = 0 then 6 else Wi.unF s p
theorem okU_iff (s : ByteArray) (p : Nat) : okU s p = true ↔ Wi.unF s p = 0 ∧ Wi.unN s p = Wi.adl (Wi.numS (Wi.unT s p).size 4 ++ Wi.unT s p) := by
  unfold okU
  simp
theorem unY_ok {s : ByteArray} {p : Nat} (h : okU s p = true) : unY s p = 0 := by unfold unY; rw [if_pos h]
theorem unY_bad {s : ByteArray} {p : Nat} (h : okU s p = false) : unY s p ≠ 0 := by
  unfold unY
  rw [if_neg (by rw [h]; simp)]
  split
  · decide
  · assumption
theorem un_any (s : ByteArray) (p : Nat) (hs : s.size ≤ 4500) (hp : p ≤ s.size) : Un s p (unV s p) (unX s p) (unY s p) := fun w => by
  unfold unV unX unY
  cases h : okU s p with
  | true =>
    obtain ⟨h1, h2⟩ := (okU_iff s p).1 h
    obtain ⟨e1, e2, e3⟩ := Wi.un_eq s p hp h1
    exact Wi.unframe_in s p w hs hp h1 _ _ _ (Or.inl ⟨by rw [e3]; exact h2, rfl, by rw [if_pos rfl, e2]; omega, rfl⟩)
  | false =>
    by_cases h1 : Wi.unF s p = 0
    · obtain ⟨e1, e2, e3⟩ := Wi.un_eq s p hp h1
      have h2 : Wi.unN s p ≠ Wi.adl (Wi.numS (Wi.unT s p).size 4 ++ Wi.unT s p) := fun e => by
        have := (okU_iff s p).2 ⟨h1, e⟩
        rw [h] at this
        cases this
      exact Wi.unframe_in s p w hs hp h1 _ _ _ (Or.inr ⟨by rw [e3]; exact h2, rfl, rfl, by rw [if_pos h1]; rfl⟩)
    · have := Wi.unframe_bad s p w hs hp h1
      simp only [Bool.false_eq_true, if_false, if_neg h1]
      exact this
theorem refUn_any (s : ByteArray) (p : Nat) (hs : s.size ≤ 4500) (hp : p ≤ s.size) (w : World) : Calls Try.prog 29 #[.string s, .int .i64 p] w fun e w' => e = .returned (.tuple #[.string (unV s p), .int .i64 (unX s p), .int .i64 (unY s p)]) ∧ w.grownBy w' none := by
  have hT := Wi.unT_size s p
  unfold unV unX unY
  cases h : okU s p with
  | true =>
    obtain ⟨h1, h2⟩ := (okU_iff s p).1 h
    exact Wi.refUnframe_in s p w hs hp h1 (by omega) _ _ _ (Or.inl ⟨h2, rfl, rfl, rfl⟩)
  | false =>
    by_cases h1 : Wi.unF s p = 0
    · have h2 : Wi.unN s p ≠ Wi.adl (Wi.numS (Wi.unT s p).size 4 ++ Wi.unT s p) := fun e => by
        have := (okU_iff s p).2 ⟨h1, e⟩
        rw [h] at this
        cases this
      exact Wi.refUnframe_in s p w hs hp h1 (by omega) _ _ _ (Or.inr ⟨h2, rfl, rfl, by rw [if_pos h1]; rfl⟩)
    · have := Wi.refUnframe_bad s p w hs hp h1
      simp only [Bool.false_eq_true, if_false, if_neg h1]
      exact this
theorem failE_ne (e k : Nat) (hk : k ≠ 0) : Wi.failE e k ≠ 0 := by
  unfold Wi.failE
  split <;> omega
/-- A whole frame ends within the bytes. -/
theorem unX_le (s : ByteArray) (p : Nat) (hp : p ≤ s.size) (h : okU s p = true) : unX s p ≤ s.size ∧ p + 8 ≤ unX s p := by
  obtain ⟨h1, _⟩ := (okU_iff s p).1 h
  obtain ⟨e1, e2, _⟩ := Wi.un_eq s p hp h1
  have hr := Wi.un_room s p
  have hR : (Wi.unR s p).size = s.size - p := by unfold Wi.unR; rw [ByteArray.size_extract]; omega
  have h4 : ¬ (Wi.unS s p).size < 4 := fun hlt => by
    unfold Wi.unF Wi.takeE at h1
    rw [if_pos hlt] at h1
    exact failE_ne _ _ (by decide) h1
  unfold unX
  rw [if_pos h]
  omega
/-- One frame is taken: the place behind it, and the log. -/
def stepG (s : ByteArray) (p : Nat) (g : Lg) : Option (Nat × Lg) :=
  match (unV s p).data.toList with
  | [] => none
  | c :: r => if c = 100 then some (unX s p, { g with recs := g.recs ++ [(p, ⟨r.toArray⟩)] })
    else if c = 109 then some (unX s p, { g with com := g.recs.length, len := unX s p, wait := ⟨#[]⟩, root := ⟨r.toArray⟩, marked := true })
    else none
theorem unV_ok {s : ByteArray} {p : Nat} {c : UInt8} {r : List UInt8} (h : (unV s p).data.toList = c :: r) : okU s p = true := by
  cases hk : okU s p with
  | true => rfl
  | false =>
    unfold unV at h
    rw [hk] at h
    cases h
theorem unV_eq {s : ByteArray} {p : Nat} {c : UInt8} {r : List UInt8} (h : (unV s p).data.toList = c :: r) : unV s p = ⟨#[c]⟩ ++ ⟨r.toArray⟩ := bytes_ext (by rw [h, ByteArray.data_append]; simp)
theorem stepG_lt {s : ByteArray} {p x : Nat} {g g' : Lg} (hp : p ≤ s.size) (h : stepG s p g = some (x, g')) : p + 8 ≤ x ∧ x ≤ s.size ∧ g'.recs.length ≤ g.recs.length + 1 ∧ g'.d = g.d := by
  unfold stepG at h
  split at h
  · cases h
  · rename_i c r hv
    have hk := unX_le s p hp (unV_ok hv)
    split at h
    · simp only [Option.some.injEq, Prod.mk.injEq] at h
      obtain ⟨rfl, rfl⟩ := h
      exact ⟨hk.2, hk.1, by simp, rfl⟩
    · split at h
      · simp only [Option.some.injEq, Prod.mk.injEq] at h
        obtain ⟨rfl, rfl⟩ := h
        exact ⟨hk.2, hk.1, by simp, rfl⟩
      · cases h
set_option maxRecDepth 100000 in
set_option maxHeartbeats 1000000 in
theorem take_none (q : Value) (s : ByteArray) (p x : Nat) (w : World) (hU : Un s p ⟨#[]⟩ x 0) :
    Calls Try.prog 61 #[q, .string s, .int .i64 p] w fun e w' => e = .returned (.tuple #[.int .i64 0, .bool false]) ∧ w.grownBy w' none := by
  have CU : Hid (∀ W, Calls Try.prog 76 #[.string s, .int .i64 p] W fun e w' => e = .returned (.tuple #[.string ⟨#[]⟩, .int .i64 x, .int .i64 0]) ∧ W.grownBy w' none) := hU
  clear hU
  go_enter Try.func61, Try.ntmps61
  go_wp2_with (go_at_call 76; refine (CU.out _).mono ?_; clear CU; rintro e w1 ⟨rfl, hg⟩; have G1 : Hid (w.grownBy w1 none) := hg; clear hg)
  go_ret2
  exact ⟨rfl, G1.out⟩
set_option maxRecDepth 100000 in
set_option maxHeartbeats 1000000 in
theorem take_odd (q : Value) (s r : ByteArray) (c : UInt8) (p x : Nat) (w : World) (hU : Un s p (⟨#[c]⟩ ++ r) x 0) (h1 : c ≠ 100) (h2 : c ≠ 109) (hr : r.size ≤ 1000000) :
    Calls Try.prog 61 #[q, .string s, .int .i64 p] w fun e w' => e = .returned (.tuple #[.int .i64 0, .bool false]) ∧ w.grownBy w' none := by
  have CU : Hid (∀ W, Calls Try.prog 76 #[.string s, .int .i64 p] W fun e w' => e = .returned (.tuple #[.string (⟨#[c]⟩ ++ r), .int .i64 x, .int .i64 0]) ∧ W.grownBy w' none) := hU
  have e1 : (⟨#[c]⟩ ++ r : ByteArray).extract 0 1 = ⟨#[c]⟩ := head_of c r
  have e3 : (⟨#[c]⟩ ++ r : ByteArray).size = r.size + 1 := by rw [ByteArray.size_append]; show 1 + _ = _; omega
  have t0 : (⟨#[c]⟩ ++ r : ByteArray).toList = c :: r.data.toList := by rw [ByteArray.toList_eq]; simp
  generalize hV : (⟨#[c]⟩ ++ r : ByteArray) = V at *
  have i1 : (V.size : Int) = (r.size : Int) + 1 := by omega
  have i2 : (r.size : Int) ≤ 1000000 := by omega
  have t1 : (V.toList == []) = false := by rw [t0]; rfl
  have u0 : (⟨#[c]⟩ : ByteArray).toList = [c] := by rw [ByteArray.toList_eq]
  generalize hC : (⟨#[c]⟩ : ByteArray) = C at *
  have u1 : (C.toList == [100]) = false := by rw [u0]; simp; exact h1
  have u2 : (C.toList == [109]) = false := by rw [u0]; simp; exact h2
  clear hU hV hr hC u0 h1 h2 t0
  go_enter Try.func61, Try.ntmps61
  go_wp2_with (go_at_call 76; refine (CU.out _).mono ?_; clear CU; rintro e w1 ⟨rfl, hg⟩; have G1 : Hid (w.grownBy w1 none) := hg; clear hg)
  go_ret2
  exact ⟨rfl, G1.out⟩
/-- take, whatever the bytes. -/
def TakePost (base b : Nat) (w : World) (o : Option (Nat × Lg)) (g : Lg) (e : Ending) (w' : World) : Prop :=
  LT base b w w' ∧ match o with
    | none => e = .returned (.tuple #[.int .i64 0, .bool false]) ∧ IsLog w' base b g
    | some (x, g') => e = .returned (.tuple #[.int .i64 x, .bool true]) ∧ IsLog w' base b g'
theorem take_all (base b : Nat) (g : Lg) (s : ByteArray) (p : Nat) (w : World) (h : IsLog w base b g) (hl : g.recs.length ≤ 1000000) (hs : s.size ≤ 4500) (hp : p ≤ s.size) :
    Calls Try.prog 61 #[.pointer (some ⟨b, 0, none⟩), .string s, .int .i64 p] w (TakePost base b w (stepG s p g) g) := by
  have hU := un_any s p hs hp
  have hT : (unV s p).size ≤ 4500 := by
    unfold unV
    split
    · have := Wi.unT_size s p
      omega
    · decide
  have none_post : ∀ e w', (e = .returned (.tuple #[.int .i64 0, .bool false]) ∧ w.grownBy w' none) → TakePost base b w none g e w' := fun e w' hq => ⟨LT.of_none hq.2, hq.1, h.kept hq.2⟩
  unfold stepG
  match hv : (unV s p).data.toList with
  | [] =>
    have ev : unV s p = ⟨#[]⟩ := bytes_ext hv
    cases hk : okU s p with
    | true =>
      rw [ev, unY_ok hk] at hU
      exact (take_none _ s p _ w hU).mono none_post
    | false => exact (take_bad _ s _ p _ _ w hU (unY_bad hk)).mono none_post
  | c :: r =>
    have hk := unV_ok hv
    have ev := unV_eq hv
    rw [ev, unY_ok hk] at hU
    have hrz : (⟨r.toArray⟩ : ByteArray).size ≤ 1000000 := by
      rw [ev, ByteArray.size_append] at hT
      omega
    by_cases h1 : c = 100
    · subst h1
      simp only [if_true]
      exact (take_rec base b g s _ p _ w h hl hU hrz).mono (fun e w' hq => ⟨hq.2.2, hq.1, hq.2.1⟩)
    · by_cases h2 : c = 109
      · subst h2
        simp only [if_neg h1, if_true]
        exact (take_mark base b g s _ p _ w h hl hU hrz).mono (fun e w' hq => ⟨hq.2.2, hq.1, hq.2.1⟩)
      · simp only [if_neg h1, if_neg h2]
        exact (take_odd _ s _ c p _ w hU h1 h2 hrz).mono none_post
end Go.Proofs.Ytddnjlnnkeiplaa
namespace Go.Proofs.Ytddnjlnnkeiplaa
open Go.RowKit Go.Maps
def runG (s : ByteArray) : Nat → Nat → Lg → Lg
  | 0, _, g => g
  | f + 1, p, g => match stepG s p g with
    | none => g
    | some (x, g') => runG s f x g'
theorem runG_stable (s : ByteArray) : ∀ (f f' p : Nat) (g : Lg), p ≤ s.size → s.size + 1 - p ≤ f → s.size + 1 - p ≤ f' → runG s f p g = runG s f' p g
  | 0, _, p, g, hp, h1, _ => by omega
  | f + 1, 0, p, g, hp, _, h2 => by omega
  | f + 1, f' + 1, p, g, hp, h1, h2 => by
    unfold runG
    cases hq : stepG s p g with
    | none => rfl
    | some y =>
      obtain ⟨x, g'⟩ := y
      have hx := stepG_lt hp hq
      exact runG_stable s f f' x g' hx.2.1 (by omega) (by omega)
/-- What holds of a log that is being read. -/
structure Inv (s : ByteArray) (p : Nat) (g : Lg) : Prop where
  com : g.com ≤ g.recs.length
  few : g.recs.length ≤ p
  wait : g.wait = ⟨#[]⟩
  len : g.len ≤ s.size
  asc : Asc g.recs
  low : ∀ r ∈ g.recs, r.1 < p
theorem asc_snoc {l : List (Nat × ByteArray)} {q : Nat × ByteArray} (h : Asc l) (hq : ∀ r ∈ l, r.1 < q.1) : Asc (l ++ [q]) := by
  intro i j hj hi
  rw [List.length_append, List.length_singleton] at hj
  by_cases e : j < l.length
  · rw [List.getElem_append_left (by omega), List.getElem_append_left e]
    exact h i j e hi
  · obtain rfl : j = l.length := by omega
    rw [List.getElem_append_left hi, List.getElem_concat_length rfl]
    exact hq _ (List.getElem_mem _)
theorem Inv.step {s : ByteArray} {p x : Nat} {g g' : Lg} (h : Inv s p g) (hp : p ≤ s.size) (hq : stepG s p g = some (x, g')) : Inv s x g' := by
  have hx := stepG_lt hp hq
  unfold stepG at hq
  split at hq
  · cases hq
  · rename_i c r hv
    have hk := unX_le s p hp (unV_ok hv)
    split at hq
    · simp only [Option.some.injEq, Prod.mk.injEq] at hq
      obtain ⟨rfl, rfl⟩ := hq
      have a1 := h.com
      have a2 := h.few
      refine ⟨?_, ?_, h.wait, h.len, asc_snoc h.asc h.low, ?_⟩
      · show g.com ≤ (g.recs ++ [_]).length
        rw [List.length_append]
        omega
      · show (g.recs ++ [_]).length ≤ unX s p
        rw [List.length_append, List.length_singleton]
        omega
      · intro r' hr'
        rcases List.mem_append.1 hr' with h1 | h1
        · have := h.low r' h1
          omega
        · rw [List.mem_singleton.1 h1]
          show p < unX s p
          omega
    · split at hq
      · simp only [Option.some.injEq, Prod.mk.injEq] at hq
        obtain ⟨rfl, rfl⟩ := hq
        have a2 := h.few
        have a3 : g.recs.length ≤ unX s p := by omega
        have a4 : p < unX s p := by omega
        have a5 := hk.1
        have a6 := h.asc
        have a7 := h.low
        clear hk h hx hv
        generalize unX s p = X at *
        exact ⟨Nat.le_refl g.recs.length, a3, rfl, a5, a6, fun r' hr' => Nat.lt_trans (a7 r' hr') a4⟩
      · cases hq
theorem Inv.run {s : ByteArray} : ∀ (f : Nat) {p : Nat} {g : Lg}, Inv s p g → p ≤ s.size → ∃ p', p' ≤ s.size ∧ Inv s p' (runG s f p g) ∧ (runG s f p g).d = g.d
  | 0, p, g, h, hp => ⟨p, hp, h, rfl⟩
  | f + 1, p, g, h, hp => by
    unfold runG
    cases hq : stepG s p g with
    | none => exact ⟨p, hp, h, rfl⟩
    | some y =>
      obtain ⟨x, g'⟩ := y
      have hx := stepG_lt hp hq
      obtain ⟨p', h1, h2, h3⟩ := Inv.run f (h.step hp hq) hx.2.1
      exact ⟨p', h1, h2, h3.trans hx.2.2.2⟩
theorem inv_new (s : ByteArray) (d : Nat) : Inv s 0 (newL d) := ⟨Nat.le_refl _, Nat.le_refl _, rfl, Nat.zero_le _, fun i j hj => absurd hj (Nat.not_lt_zero _), fun r hr => by cases hr⟩
theorem take_cases {base b : Nat} {w w' : World} {o : Option (Nat × Lg)} {g : Lg} {e : Ending} (h : TakePost base b w o g e w') : LT base b w w' ∧ ((o = none ∧ e = .returned (.tuple #[.int .i64 0, .bool false]) ∧ IsLog w' base b g) ∨ ∃ x g', o = some (x, g') ∧ e = .returned (.tuple #[.int .i64 x, .bool true]) ∧ IsLog w' base b g') := by
  cases o with
  | none => exact ⟨h.1, Or.inl ⟨rfl, h.2⟩⟩
  | some y => exact ⟨h.1, Or.inr ⟨y.1, y.2, rfl, h.2⟩⟩
/-- The log that a file's bytes give. -/
def parseG (s : ByteArray) (d : Nat) : Lg := runG s (s.size + 1) 0 (newL d)
def loadG (s : ByteArray) (d : Nat) : Lg := dropG (parseG s d)
set_option maxRecDepth 100000 in
set_option maxHeartbeats 1000000 in
theorem load_any (base b d : Nat) (s : ByteArray) (w : World) (h : IsLog w base b (newL d)) (hs : s.size ≤ 4500) :
    Calls Try.prog 40 #[.pointer (some ⟨b, 0, none⟩), .string s] w fun e w' => e = .returned (.tuple #[]) ∧ IsLog w' base b (loadG s d) ∧ LT base b w w' := by
  obtain ⟨pF, hpF, hIF, _⟩ := Inv.run (s.size + 1) (inv_new s d) (Nat.zero_le _)
  have HD : Hid (∀ W, IsLog W base b (parseG s d) → Calls Try.prog 12 #[.pointer (some ⟨b, 0, none⟩)] W fun e w' => (∃ m : Nat, e = .returned (.int .i64 m)) ∧ IsLog w' base b (loadG s d) ∧ LT base b W w') := fun W hW => by
    refine (drop_any base b (parseG s d) W hW hIF.com ?_ ?_).mono ?_
    · have := hIF.few
      show (runG s (s.size + 1) 0 (newL d)).recs.length ≤ _
      omega
    · have e : (parseG s d).wait = ⟨#[]⟩ := hIF.wait
      rw [e]
      decide
    · rintro e w' ⟨he, hi, ht⟩
      exact ⟨⟨_, he⟩, hi, ht⟩
  have HS : Hid (∀ p g W, IsLog W base b g → Inv s p g → p ≤ s.size → Calls Try.prog 61 #[.pointer (some ⟨b, 0, none⟩), .string s, .int .i64 p] W (TakePost base b W (stepG s p g) g)) := fun p g W hW hI hp => take_all base b g s p W hW (by have := hI.few; omega) hs hp
  have HL := hid h
  have HI := hid (inv_new s d)
  have H0 : Hid (runG s (s.size + 1 - 0) 0 (newL d) = parseG s d) := rfl
  clear h hs hIF hpF
  generalize loadG s d = gF at *
  generalize parseG s d = gP at *
  go_enter Try.func40, Try.ntmps40
  go_wp2
  go_loopw [4, 5] (fun a r wr => LT base b w wr ∧ ((∃ (p : Nat) (g : Lg), a = .int .i64 p ∧ r = .bool true ∧ p ≤ s.size ∧ Inv s p g ∧ IsLog wr base b g ∧ runG s (s.size + 1 - p) p g = gP) ∨ (a = .int .i64 0 ∧ r = .bool false ∧ IsLog wr base b gP))) (fun a r _ => left s.size a r)
  case atStart => exact ⟨LT.refl _ _ _, Or.inl ⟨0, _, rfl, rfl, Nat.zero_le _, HI.out, HL.out, H0.out⟩⟩
  case round =>
    obtain ⟨hlt, hcase⟩ := hrel
    have T0 := hid hlt
    rcases hcase with ⟨p, g, rfl, rfl, hp, hI, hlog, hrun⟩ | ⟨rfl, rfl, hlog⟩
    · have CE := hid (HS.out p g _ hlog hI hp)
      have RUN := hid hrun
      have INV := hid hI
      clear HS HD HL HI H0 hlt hlog hrun hI
      go_wp2_with (go_at_call 61; refine CE.out.mono ?_; intro e w2 hpost; obtain ⟨ht2, hst2⟩ := take_cases hpost; have T2 := hid (LT.trans T0.out ht2); clear ht2 CE hpost; rcases hst2 with ⟨hst, rfl, hl2⟩ | ⟨x, g', hst, rfl, hl2⟩ <;> have L2 := hid hl2 <;> have ST := hid hst <;> clear hl2 hst)
      · refine ⟨⟨T2.out, Or.inr ⟨rfl, rfl, ?_⟩⟩, ?_⟩
        · have e := RUN.out
          have e2 : s.size + 1 - p = (s.size - p) + 1 := by omega
          rw [e2] at e
          unfold runG at e
          rw [ST.out] at e
          rw [← e]
          exact L2.out
        · show 0 < s.size + 1 - (intOf (.int .i64 p)).toNat
          simp [intOf]
          omega
      · have hx := stepG_lt hp ST.out
        refine ⟨⟨T2.out, Or.inl ⟨x, g', rfl, rfl, hx.2.1, INV.out.step hp ST.out, L2.out, ?_⟩⟩, ?_⟩
        · have e := RUN.out
          have e2 : s.size + 1 - p = (s.size - p) + 1 := by omega
          rw [e2] at e
          unfold runG at e
          rw [ST.out] at e
          rw [← e]
          exact runG_stable s _ _ x g' hx.2.1 (Nat.le_refl _) (by omega)
        · show s.size + 1 - (intOf (.int .i64 x)).toNat < s.size + 1 - (intOf (.int .i64 p)).toNat
          simp [intOf]
          omega
    · have CE := hid (HD.out _ hlog)
      clear HS HD HL HI H0 hlt hlog
      go_wp2_with (go_at_call 12; refine CE.out.mono ?_; rintro e w2 ⟨⟨m, rfl⟩, hl2, ht2⟩; have L2 := hid hl2; have T2 := hid (LT.trans T0.out ht2); clear hl2 ht2 CE)
      first
      | exact bodyPost_end (results_none rfl _ _ _) rfl ⟨rfl, L2.out, T2.out⟩
      | exact bodyPost_ret (results_none rfl _ _ _) rfl ⟨rfl, L2.out, T2.out⟩
end Go.Proofs.Ytddnjlnnkeiplaa
