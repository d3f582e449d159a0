/-
  What a file's bytes say, frame by frame. load, whatever the bytes: all up to the last marker that is whole. Frames that stand one behind the other; what is cut off behind the last marker changes nothing.
-/
import Derived.Test.YtddnjlnnkeiplaaWUnBoth
import Derived.Test.YtddnjlnnkeiplaaKLopen
import Derived.Test.YtddnjlnnkeiplaaLsrch
import Derived.Test.YtddnjlnnkeiplaaKLdrop
namespace Go.Proofs.Ytddnjlnnkeiplaa
open Go.RowKit Go.Maps
/-- Is the frame at a place whole? -/
def okU (s : ByteArray) (p : Nat) : Bool := (Wi.unF s p == 0) && (Wi.unN s p == Wi.adl (Wi.numS (Wi.unT s p).size 4 ++ Wi.unT s p))
/-- What Unframe answers. -/
def unV (s : ByteArray) (p : Nat) : ByteArray := if okU s p then Wi.unT s p else ⟨#[]⟩
def unX (s : ByteArray) (p : Nat) : Nat := if okU s p then p + (Wi.unT s p).size + 8 else 0
def unY (s : ByteArray) (p : Nat) : Nat := if okU s p then 0 else if Wi.unF s p = 0 then 6 else Wi.unF s p
theorem okU_iff (s : ByteArray) (p : Nat) : okU s p = true ↔ Wi.unF s p = 0 ∧ Wi.unN s p = Wi.adl (Wi.numS (Wi.unT s p).size 4 ++ Wi.unT s p) := by
  unfold okU
  simp
theorem unY_ok {s : ByteArray} {p : Nat} (h : okU s p = true) : unY s p = 0 := by unfold unY; rw [if_pos h]
theorem unY_bad {s : ByteArray} {p : Nat} (h : okU s p = false) : unY s p ≠ 0 := by
  unfold unY
  rw [if_neg (by rw [h]; simp)]
  split
  · decide
  · assumption
theorem un_any (s : ByteArray) (p : Nat) (hs : s.size ≤ 4500) (hp : p ≤ s.size) : Un s p (unV s p) (unX s p) (unY s p) := fun w => by
  unfold unV unX unY
  cases h : okU s p with
  | true =>
    obtain ⟨h1, h2⟩ := (okU_iff s p).1 h
    obtain ⟨e1, e2, e3⟩ := Wi.un_eq s p hp h1
    exact Wi.unframe_in s p w hs hp h1 _ _ _ (Or.inl ⟨by rw [e3]; exact h2, rfl, by rw [if_pos rfl, e2]; omega, rfl⟩)
  | false =>
    by_cases h1 : Wi.unF s p = 0
    · obtain ⟨e1, e2, e3⟩ := Wi.un_eq s p hp h1
      have h2 : Wi.unN s p ≠ Wi.adl (Wi.numS (Wi.unT s p).size 4 ++ Wi.unT s p) := fun e => by
        have := (okU_iff s p).2 ⟨h1, e⟩
        rw [h] at this
        cases this
      exact Wi.unframe_in s p w hs hp h1 _ _ _ (Or.inr ⟨by rw [e3]; exact h2, rfl, rfl, by rw [if_pos h1]; rfl⟩)
    · have := Wi.unframe_bad s p w hs hp h1
      simp only [Bool.false_eq_true, if_false, if_neg h1]
      exact this
theorem refUn_any (s : ByteArray) (p : Nat) (hs : s.size ≤ 4500) (hp : p ≤ s.size) (w : World) : Calls Try.prog 29 #[.string s, .int .i64 p] w fun e w' => e = .returned (.tuple #[.string (unV s p), .int .i64 (unX s p), .int .i64 (unY s p)]) ∧ w.grownBy w' none := by
  have hT := Wi.unT_size s p
  unfold unV unX unY
  cases h : okU s p with
  | true =>
    obtain ⟨h1, h2⟩ := (okU_iff s p).1 h
    exact Wi.refUnframe_in s p w hs hp h1 (by omega) _ _ _ (Or.inl ⟨h2, rfl, rfl, rfl⟩)
  | false =>
    by_cases h1 : Wi.unF s p = 0
    · have h2 : Wi.unN s p ≠ Wi.adl (Wi.numS (Wi.unT s p).size 4 ++ Wi.unT s p) := fun e => by
        have := (okU_iff s p).2 ⟨h1, e⟩
        rw [h] at this
        cases this
      exact Wi.refUnframe_in s p w hs hp h1 (by omega) _ _ _ (Or.inr ⟨h2, rfl, rfl, by rw [if_pos h1]; rfl⟩)
    · have := Wi.refUnframe_bad s p w hs hp h1
      simp only [Bool.false_eq_true, if_false, if_neg h1]
      exact this
theorem failE_ne (e k : Nat) (hk : k ≠ 0) : Wi.failE e k ≠ 0 := by
  unfold Wi.failE
  split <;> omega
/-- A whole frame ends within the bytes. -/
theorem unX_le (s : ByteArray) (p : Nat) (hp : p ≤ s.size) (h : okU s p = true) : unX s p ≤ s.size ∧ p + 8 ≤ unX s p := by
  obtain ⟨h1, _⟩ := (okU_iff s p).1 h
  obtain ⟨e1, e2, _⟩ := Wi.un_eq s p hp h1
  have hr := Wi.un_room s p
  have hR : (Wi.unR s p).size = s.size - p := by unfold Wi.unR; rw [ByteArray.size_extract]; omega
  have h4 : ¬ (Wi.unS s p).size < 4 := fun hlt => by
    unfold Wi.unF Wi.takeE at h1
    rw [if_pos hlt] at h1
    exact failE_ne _ _ (by decide) h1
  unfold unX
  rw [if_pos h]
  omega
/-- One frame is taken: the place behind it, and the log. -/
def stepG (s : ByteArray) (p : Nat) (g : Lg) : Option (Nat × Lg) :=
  match (unV s p).data.toList with
  | [] => none
  | c :: r => if c = 100 then some (unX s p, { g with recs := g.recs ++ [(p, ⟨r.toArray⟩)] })
    else if c = 109 then some (unX s p, { g with com := g.recs.length, len := unX s p, wait := ⟨#[]⟩, root := ⟨r.toArray⟩, marked := true })
    else none
theorem unV_ok {s : ByteArray} {p : Nat} {c : UInt8} {r : List UInt8} (h : (unV s p).data.toList = c :: r) : okU s p = true := by
  cases hk : okU s p with
  | true => rfl
  | false =>
    unfold unV at h
    rw [hk] at h
    cases h
theorem unV_eq {s : ByteArray} {p : Nat} {c : UInt8} {r : List UInt8} (h : (unV s p).data.toList = c :: r) : unV s p = ⟨#[c]⟩ ++ ⟨r.toArray⟩ := bytes_ext (by rw [h, ByteArray.data_append]; simp)
theorem stepG_lt {s : ByteArray} {p x : Nat} {g g' : Lg} (hp : p ≤ s.size) (h : stepG s p g = some (x, g')) : p + 8 ≤ x ∧ x ≤ s.size ∧ g'.recs.length ≤ g.recs.length + 1 ∧ g'.d = g.d := by
  unfold stepG at h
  split at h
  · cases h
  · rename_i c r hv
    have hk := unX_le s p hp (unV_ok hv)
    split at h
    · simp only [Option.some.injEq, Prod.mk.injEq] at h
      obtain ⟨rfl, rfl⟩ := h
      exact ⟨hk.2, hk.1, by simp, rfl⟩
    · split at h
      · simp only [Option.some.injEq, Prod.mk.injEq] at h
        obtain ⟨rfl, rfl⟩ := h
        exact ⟨hk.2, hk.1, by simp, rfl⟩
      · cases h
set_option maxRecDepth 100000 in
set_option maxHeartbeats 1000000 in
theorem take_none (q : Value) (s : ByteArray) (p x : Nat) (w : World) (hU : Un s p ⟨#[]⟩ x 0) :
    Calls Try.prog 61 #[q, .string s, .int .i64 p] w fun e w' => e = .returned (.tuple #[.int .i64 0, .bool false]) ∧ w.grownBy w' none := by
  have CU : Hid (∀ W, Calls Try.prog 76 #[.string s, .int .i64 p] W fun e w' => e = .returned (.tuple #[.string ⟨#[]⟩, .int .i64 x, .int .i64 0]) ∧ W.grownBy w' none) := hU
  clear hU
  go_enter Try.func61, Try.ntmps61
  go_wp2_with (go_at_call 76; refine (CU.out _).mono ?_; clear CU; rintro e w1 ⟨rfl, hg⟩; have G1 : Hid (w.grownBy w1 none) := hg; clear hg)
  go_ret2
  exact ⟨rfl, G1.out⟩
set_option maxRecDepth 100000 in
set_option maxHeartbeats 1000000 in
theorem take_odd (q : Value) (s r : ByteArray) (c : UInt8) (p x : Nat) (w : World) (hU : Un s p (⟨#[c]⟩ ++ r) x 0) (h1 : c ≠ 100) (h2 : c ≠ 109) (hr : r.size ≤ 1000000) :
    Calls Try.prog 61 #[q, .string s, .int .i64 p] w fun e w' => e = .returned (.tuple #[.int .i64 0, .bool false]) ∧ w.grownBy w' none := by
  have CU : Hid (∀ W, Calls Try.prog 76 #[.string s, .int .i64 p] W fun e w' => e = .returned (.tuple #[.string (⟨#[c]⟩ ++ r), .int .i64 x, .int .i64 0]) ∧ W.grownBy w' none) := hU
  have e1 : (⟨#[c]⟩ ++ r : ByteArray).extract 0 1 = ⟨#[c]⟩ := head_of c r
  have e3 : (⟨#[c]⟩ ++ r : ByteArray).size = r.size + 1 := by rw [ByteArray.size_append]; show 1 + _ = _; omega
  have t0 : (⟨#[c]⟩ ++ r : ByteArray).toList = c :: r.data.toList := by rw [ByteArray.toList_eq]; simp
  generalize hV : (⟨#[c]⟩ ++ r : ByteArray) = V at *
  have i1 : (V.size : Int) = (r.size : Int) + 1 := by omega
  have i2 : (r.size : Int) ≤ 1000000 := by omega
  have t1 : (V.toList == []) = false := by rw [t0]; rfl
  have u0 : (⟨#[c]⟩ : ByteArray).toList = [c] := by rw [ByteArray.toList_eq]
  generalize hC : (⟨#[c]⟩ : ByteArray) = C at *
  have u1 : (C.toList == [100]) = false := by rw [u0]; simp; exact h1
  have u2 : (C.toList == [109]) = false := by rw [u0]; simp; exact h2
  clear hU hV hr hC u0 h1 h2 t0
  go_enter Try.func61, Try.ntmps61
  go_wp2_with (go_at_call 76; refine (CU.out _).mono ?_; clear CU; rintro e w1 ⟨rfl, hg⟩; have G1 : Hid (w.grownBy w1 none) := hg; clear hg)
  go_ret2
  exact ⟨rfl, G1.out⟩
/-- take, whatever the bytes. -/
def TakePost (base b : Nat) (w : World) (o : Option (Nat × Lg)) (g : Lg) (e : Ending) (w' : World) : Prop :=
  LT base b w w' ∧ match o with
    | none => e = .returned (.tuple #[.int .i64 0, .bool false]) ∧ IsLog w' base b g
    | some (x, g') => e = .returned (.tuple #[.int .i64 x, .bool true]) ∧ IsLog w' base b g'
theorem take_all (base b : Nat) (g : Lg) (s : ByteArray) (p : Nat) (w : World) (h : IsLog w base b g) (hl : g.recs.length ≤ 1000000) (hs : s.size ≤ 4500) (hp : p ≤ s.size) :
    Calls Try.prog 61 #[.pointer (some ⟨b, 0, none⟩), .string s, .int .i64 p] w (TakePost base b w (stepG s p g) g) := by
  have hU := un_any s p hs hp
  have hT : (unV s p).size ≤ 4500 := by
    unfold unV
    split
    · have := Wi.unT_size s p
      omega
    · decide
  have none_post : ∀ e w', (e = .returned (.tuple #[.int .i64 0, .bool false]) ∧ w.grownBy w' none) → TakePost base b w none g e w' := fun e w' hq => ⟨LT.of_none hq.2, hq.1, h.kept hq.2⟩
  unfold stepG
  match hv : (unV s p).data.toList with
  | [] =>
    have ev : unV s p = ⟨#[]⟩ := bytes_ext hv
    cases hk : okU s p with
    | true =>
      rw [ev, unY_ok hk] at hU
      exact (take_none _ s p _ w hU).mono none_post
    | false => exact (take_bad _ s _ p _ _ w hU (unY_bad hk)).mono none_post
  | c :: r =>
    have hk := unV_ok hv
    have ev := unV_eq hv
    rw [ev, unY_ok hk] at hU
    have hrz : (⟨r.toArray⟩ : ByteArray).size ≤ 1000000 := by
      rw [ev, ByteArray.size_append] at hT
      omega
    by_cases h1 : c = 100
    · subst h1
      simp only [if_true]
      exact (take_rec base b g s _ p _ w h hl hU hrz).mono (fun e w' hq => ⟨hq.2.2, hq.1, hq.2.1⟩)
    · by_cases h2 : c = 109
      · subst h2
        simp only [if_neg h1, if_true]
        exact (take_mark base b g s _ p _ w h hl hU hrz).mono (fun e w' hq => ⟨hq.2.2, hq.1, hq.2.1⟩)
      · simp only [if_neg h1, if_neg h2]
        exact (take_odd _ s _ c p _ w hU h1 h2 hrz).mono none_post
end Go.Proofs.Ytddnjlnnkeiplaa
namespace Go.Proofs.Ytddnjlnnkeiplaa
open Go.RowKit Go.Maps
def runG (s : ByteArray) : Nat → Nat → Lg → Lg
  | 0, _, g => g
  | f + 1, p, g => match stepG s p g with
    | none => g
    | some (x, g') => runG s f x g'
theorem runG_stable (s : ByteArray) : ∀ (f f' p : Nat) (g : Lg), p ≤ s.size → s.size + 1 - p ≤ f → s.size + 1 - p ≤ f' → runG s f p g = runG s f' p g
  | 0, _, p, g, hp, h1, _ => by omega
  | f + 1, 0, p, g, hp, _, h2 => by omega
  | f + 1, f' + 1, p, g, hp, h1, h2 => by
    unfold runG
    cases hq : stepG s p g with
    | none => rfl
    | some y =>
      obtain ⟨x, g'⟩ := y
      have hx := stepG_lt hp hq
      exact runG_stable s f f' x g' hx.2.1 (by omega) (by omega)
/-- What holds of a log that is being read. -/
structure Inv (s : ByteArray) (p : Nat) (g : Lg) : Prop where
  com : g.com ≤ g.recs.length
  few : g.recs.length ≤ p
  wait : g.wait = ⟨#[]⟩
  len : g.len ≤ s.size
  asc : Asc g.recs
  low : ∀ r ∈ g.recs, r.1 < p
theorem asc_snoc {l : List (Nat × ByteArray)} {q : Nat × ByteArray} (h : Asc l) (hq : ∀ r ∈ l, r.1 < q.1) : Asc (l ++ [q]) := by
  intro i j hj hi
  rw [List.length_append, List.length_singleton] at hj
  by_cases e : j < l.length
  · rw [List.getElem_append_left (by omega), List.getElem_append_left e]
    exact h i j e hi
  · obtain rfl : j = l.length := by omega
    rw [List.getElem_append_left hi, List.getElem_concat_length rfl]
    exact hq _ (List.getElem_mem _)
theorem Inv.step {s : ByteArray} {p x : Nat} {g g' : Lg} (h : Inv s p g) (hp : p ≤ s.size) (hq : stepG s p g = some (x, g')) : Inv s x g' := by
  have hx := stepG_lt hp hq
  unfold stepG at hq
  split at hq
  · cases hq
  · rename_i c r hv
    have hk := unX_le s p hp (unV_ok hv)
    split at hq
    · simp only [Option.some.injEq, Prod.mk.injEq] at hq
      obtain ⟨rfl, rfl⟩ := hq
      have a1 := h.com
      have a2 := h.few
      refine ⟨?_, ?_, h.wait, h.len, asc_snoc h.asc h.low, ?_⟩
      · show g.com ≤ (g.recs ++ [_]).length
        rw [List.length_append]
        omega
      · show (g.recs ++ [_]).length ≤ unX s p
        rw [List.length_append, List.length_singleton]
        omega
      · intro r' hr'
        rcases List.mem_append.1 hr' with h1 | h1
        · have := h.low r' h1
          omega
        · rw [List.mem_singleton.1 h1]
          show p < unX s p
          omega
    · split at hq
      · simp only [Option.some.injEq, Prod.mk.injEq] at hq
        obtain ⟨rfl, rfl⟩ := hq
        have a2 := h.few
        have a3 : g.recs.length ≤ unX s p := by omega
        have a4 : p < unX s p := by omega
        have a5 := hk.1
        have a6 := h.asc
        have a7 := h.low
        clear hk h hx hv
        generalize unX s p = X at *
        exact ⟨Nat.le_refl g.recs.length, a3, rfl, a5, a6, fun r' hr' => Nat.lt_trans (a7 r' hr') a4⟩
      · cases hq
theorem Inv.run {s : ByteArray} : ∀ (f : Nat) {p : Nat} {g : Lg}, Inv s p g → p ≤ s.size → ∃ p', p' ≤ s.size ∧ Inv s p' (runG s f p g) ∧ (runG s f p g).d = g.d
  | 0, p, g, h, hp => ⟨p, hp, h, rfl⟩
  | f + 1, p, g, h, hp => by
    unfold runG
    cases hq : stepG s p g with
    | none => exact ⟨p, hp, h, rfl⟩
    | some y =>
      obtain ⟨x, g'⟩ := y
      have hx := stepG_lt hp hq
      obtain ⟨p', h1, h2, h3⟩ := Inv.run f (h.step hp hq) hx.2.1
      exact ⟨p', h1, h2, h3.trans hx.2.2.2⟩
theorem inv_new (s : ByteArray) (d : Nat) : Inv s 0 (newL d) := ⟨Nat.le_refl _, Nat.le_refl _, rfl, Nat.zero_le _, fun i j hj => absurd hj (Nat.not_lt_zero _), fun r hr => by cases hr⟩
theorem take_cases {base b : Nat} {w w' : World} {o : Option (Nat × Lg)} {g : Lg} {e : Ending} (h : TakePost base b w o g e w') : LT base b w w' ∧ ((o = none ∧ e = .returned (.tuple #[.int .i64 0, .bool false]) ∧ IsLog w' base b g) ∨ ∃ x g', o = some (x, g') ∧ e = .returned (.tuple #[.int .i64 x, .bool true]) ∧ IsLog w' base b g') := by
  cases o with
  | none => exact ⟨h.1, Or.inl ⟨rfl, h.2⟩⟩
  | some y => exact ⟨h.1, Or.inr ⟨y.1, y.2, rfl, h.2⟩⟩
/-- The log that a file's bytes give. -/
def parseG (s : ByteArray) (d : Nat) : Lg := runG s (s.size + 1) 0 (newL d)
def loadG (s : ByteArray) (d : Nat) : Lg := dropG (parseG s d)
set_option maxRecDepth 100000 in
set_option maxHeartbeats 1000000 in
theorem load_any (base b d : Nat) (s : ByteArray) (w : World) (h : IsLog w base b (newL d)) (hs : s.size ≤ 4500) :
    Calls Try.prog 40 #[.pointer (some ⟨b, 0, none⟩), .string s] w fun e w' => e = .returned (.tuple #[]) ∧ IsLog w' base b (loadG s d) ∧ LT base b w w' := by
  obtain ⟨pF, hpF, hIF, _⟩ := Inv.run (s.size + 1) (inv_new s d) (Nat.zero_le _)
  have HD : Hid (∀ W, IsLog W base b (parseG s d) → Calls Try.prog 12 #[.pointer (some ⟨b, 0, none⟩)] W fun e w' => (∃ m : Nat, e = .returned (.int .i64 m)) ∧ IsLog w' base b (loadG s d) ∧ LT base b W w') := fun W hW => by
    refine (drop_any base b (parseG s d) W hW hIF.com ?_ ?_).mono ?_
    · have := hIF.few
      show (runG s (s.size + 1) 0 (newL d)).recs.length ≤ _
      omega
    · have e : (parseG s d).wait = ⟨#[]⟩ := hIF.wait
      rw [e]
      decide
    · rintro e w' ⟨he, hi, ht⟩
      exact ⟨⟨_, he⟩, hi, ht⟩
  have HS : Hid (∀ p g W, IsLog W base b g → Inv s p g → p ≤ s.size → Calls Try.prog 61 #[.pointer (some ⟨b, 0, none⟩), .string s, .int .i64 p] W (TakePost base b W (stepG s p g) g)) := fun p g W hW hI hp => take_all base b g s p W hW (by have := hI.few; omega) hs hp
  have HL := hid h
  have HI := hid (inv_new s d)
  have H0 : Hid (runG s (s.size + 1 - 0) 0 (newL d) = parseG s d) := rfl
  clear h hs hIF hpF
  generalize loadG s d = gF at *
  generalize parseG s d = gP at *
  go_enter Try.func40, Try.ntmps40
  go_wp2
  go_loopw [4, 5] (fun a r wr => LT base b w wr ∧ ((∃ (p : Nat) (g : Lg), a = .int .i64 p ∧ r = .bool true ∧ p ≤ s.size ∧ Inv s p g ∧ IsLog wr base b g ∧ runG s (s.size + 1 - p) p g = gP) ∨ (a = .int .i64 0 ∧ r = .bool false ∧ IsLog wr base b gP))) (fun a r _ => left s.size a r)
  case atStart => exact ⟨LT.refl _ _ _, Or.inl ⟨0, _, rfl, rfl, Nat.zero_le _, HI.out, HL.out, H0.out⟩⟩
  case round =>
    obtain ⟨hlt, hcase⟩ := hrel
    have T0 := hid hlt
    rcases hcase with ⟨p, g, rfl, rfl, hp, hI, hlog, hrun⟩ | ⟨rfl, rfl, hlog⟩
    · have CE := hid (HS.out p g _ hlog hI hp)
      have RUN := hid hrun
      have INV := hid hI
      clear HS HD HL HI H0 hlt hlog hrun hI
      go_wp2_with (go_at_call 61; refine CE.out.mono ?_; intro e w2 hpost; obtain ⟨ht2, hst2⟩ := take_cases hpost; have T2 := hid (LT.trans T0.out ht2); clear ht2 CE hpost; rcases hst2 with ⟨hst, rfl, hl2⟩ | ⟨x, g', hst, rfl, hl2⟩ <;> have L2 := hid hl2 <;> have ST := hid hst <;> clear hl2 hst)
      · refine ⟨⟨T2.out, Or.inr ⟨rfl, rfl, ?_⟩⟩, ?_⟩
        · have e := RUN.out
          have e2 : s.size + 1 - p = (s.size - p) + 1 := by omega
          rw [e2] at e
          unfold runG at e
          rw [ST.out] at e
          rw [← e]
          exact L2.out
        · show 0 < s.size + 1 - (intOf (.int .i64 p)).toNat
          simp [intOf]
          omega
      · have hx := stepG_lt hp ST.out
        refine ⟨⟨T2.out, Or.inl ⟨x, g', rfl, rfl, hx.2.1, INV.out.step hp ST.out, L2.out, ?_⟩⟩, ?_⟩
        · have e := RUN.out
          have e2 : s.size + 1 - p = (s.size - p) + 1 := by omega
          rw [e2] at e
          unfold runG at e
          rw [ST.out] at e
          rw [← e]
          exact runG_stable s _ _ x g' hx.2.1 (Nat.le_refl _) (by omega)
        · show s.size + 1 - (intOf (.int .i64 x)).toNat < s.size + 1 - (intOf (.int .i64 p)).toNat
          simp [intOf]
          omega
    · have CE := hid (HD.out _ hlog)
      clear HS HD HL HI H0 hlt hlog
      go_wp2_with (go_at_call 12; refine CE.out.mono ?_; rintro e w2 ⟨⟨m, rfl⟩, hl2, ht2⟩; have L2 := hid hl2; have T2 := hid (LT.trans T0.out ht2); clear hl2 ht2 CE)
      first
      | exact bodyPost_end (results_none rfl _ _ _) rfl ⟨rfl, L2.out, T2.out⟩
      | exact bodyPost_ret (results_none rfl _ _ _) rfl ⟨rfl, L2.out, T2.out⟩
end Go.Proofs.Ytddnjlnnkeiplaa
namespace Go.Proofs.Ytddnjlnnkeiplaa
open Go.RowKit Go.Maps
theorem ext_ext (s : ByteArray) (p n : Nat) : (((s.extract p s.size).extract 4 (s.extract p s.size).size).extract n ((s.extract p s.size).extract 4 (s.extract p s.size).size).size) = s.extract (p + (4 + n)) s.size := by
  apply bytes_ext
  simp only [Wi.ext_list]
  have e1 : ∀ t : ByteArray, t.data.toList.take t.size = t.data.toList := fun t => List.take_of_length_le (by rw [Wi.bytes_len]; exact Nat.le_refl _)
  have e2 : ∀ (l : List UInt8) (n m : Nat), l.length ≤ m → (l.take m).drop n = l.drop n := fun l n m h => by rw [List.take_of_length_le h]
  rw [e1]
  rw [e2 (List.drop p s.data.toList) 4 _ (by rw [List.length_drop, Wi.bytes_len, ByteArray.size_extract]; omega)]
  rw [e2 _ n _ (by simp only [List.length_drop, Wi.bytes_len, ByteArray.size_extract]; omega)]
  rw [List.drop_drop, List.drop_drop]
theorem un_eq2 (s : ByteArray) (p : Nat) (hF : Wi.unF s p = 0) : Wi.unS s p = s.extract (p + Wi.unA s p) s.size ∧ 4 ≤ (Wi.unS s p).size := by
  obtain ⟨f1, f2⟩ := Wi.takeE_zero _ _ _ hF
  obtain ⟨f3, f4⟩ := Wi.takeE_zero _ _ _ f2
  obtain ⟨f5, f6⟩ := Wi.failE_zero _ _ f4
  obtain ⟨f7, -⟩ := Wi.takeE_zero _ _ _ f5
  have g2 : Wi.cntS (Wi.unR s p) 0 2147483647 = (Wi.unR s p).extract 4 (Wi.unR s p).size := by
    unfold Wi.cntS
    rw [f5, f6]
    unfold Wi.failS Wi.takeS
    rw [if_pos (Or.inl rfl), if_neg (by omega)]
  have g7 : Wi.unA s p = 4 + Wi.cntN (Wi.unR s p) 0 2147483647 := by
    unfold Wi.unA Wi.txtA Wi.takeA
    rw [if_neg (by omega), if_neg (by omega)]
  refine ⟨?_, f1⟩
  have g8 : Wi.unS s p = (Wi.cntS (Wi.unR s p) 0 2147483647).extract (Wi.cntN (Wi.unR s p) 0 2147483647) (Wi.cntS (Wi.unR s p) 0 2147483647).size := by
    unfold Wi.unS Wi.txtS Wi.takeS
    rw [if_neg (by omega)]
  rw [g8, g2, g7]
  generalize Wi.cntN (Wi.unR s p) 0 2147483647 = n
  unfold Wi.unR
  exact ext_ext s p n
theorem un_split (s : ByteArray) (p : Nat) (hp : p ≤ s.size) (h : okU s p = true) : ∃ Q, s = s.extract 0 p ++ (Wi.frmS (Wi.unT s p) ++ Q) := by
  obtain ⟨h1, h2⟩ := (okU_iff s p).1 h
  obtain ⟨e1, e2, e3⟩ := Wi.un_eq s p hp h1
  obtain ⟨e4, f1⟩ := un_eq2 s p h1
  have n0 : Wi.takeV (Wi.unS s p) 4 = (Wi.unS s p).extract 0 4 := by unfold Wi.takeV; rw [if_neg (by omega)]
  have n1 : ((Wi.unS s p).extract 0 4).size = 4 := by rw [ByteArray.size_extract]; omega
  have n4 : Wi.numS (Wi.unN s p) 4 = (Wi.unS s p).extract 0 4 := by
    unfold Wi.unN
    rw [n0, n1]
    exact Wi.numS_le _ 4 n1
  refine ⟨(Wi.unS s p).extract 4 (Wi.unS s p).size, ?_⟩
  unfold Wi.frmS
  rw [← h2, n4, ← e3]
  generalize hA : p + Wi.unA s p = A at *
  have hpA : p ≤ A := by omega
  clear h1 h2 e1 e2 e3 n0 n4 h
  have e6 : p + (A - p) = A := by omega
  clear hA
  rw [e4] at f1 n1 ⊢
  clear e4
  apply bytes_ext
  simp only [Wi.append_list, Wi.ext_list, List.drop_zero]
  have e1 : ∀ t : ByteArray, t.data.toList.take t.size = t.data.toList := fun t => List.take_of_length_le (by rw [Wi.bytes_len]; exact Nat.le_refl _)
  have e5 : ((s.data.toList.take s.size).drop A).take (s.extract A s.size).size = (s.data.toList.take s.size).drop A := List.take_of_length_le (by rw [e1, List.length_drop, Wi.bytes_len, ByteArray.size_extract]; omega)
  rw [e5, e1]
  generalize s.data.toList = S
  rw [List.append_assoc, List.take_append_drop]
  have : (S.take A).drop p ++ S.drop A = S.drop p := by
    rw [List.drop_take]
    have : S.drop A = (S.drop p).drop (A - p) := by rw [List.drop_drop, e6]
    rw [this, List.take_append_drop]
  rw [this, List.take_append_drop]
/-- A whole frame is whole in what is cut behind it. -/
theorem un_pre (s : ByteArray) (p m : Nat) (hs : s.size ≤ 4500) (hp : p ≤ s.size) (h : okU s p = true) (hm : unX s p ≤ m) : okU (s.extract 0 m) p = true ∧ Wi.unT (s.extract 0 m) p = Wi.unT s p := by
  obtain ⟨Q, hQ⟩ := un_split s p hp h
  have hT := Wi.unT_size s p
  have hx : unX s p = p + (Wi.unT s p).size + 8 := by unfold unX; rw [if_pos h]
  have hP : (s.extract 0 p).size = p := by rw [ByteArray.size_extract]; omega
  have hF := Wi.frmS_size (Wi.unT s p)
  rw [hx] at hm
  clear hx
  have ht : s.extract 0 m = s.extract 0 p ++ (Wi.frmS (Wi.unT s p) ++ Q.extract 0 (m - p - ((Wi.unT s p).size + 8))) := by
    clear h hT
    generalize Wi.unT s p = T at *
    generalize hP0 : s.extract 0 p = P at *
    have l1 : P.data.toList.length = p := by rw [Wi.bytes_len]; exact hP
    have l2 : (Wi.frmS T).data.toList.length = T.size + 8 := by rw [Wi.bytes_len]; exact hF
    have hS : s.data.toList = P.data.toList ++ ((Wi.frmS T).data.toList ++ Q.data.toList) := by
      have := congrArg (fun t : ByteArray => t.data.toList) hQ
      simpa only [Wi.append_list] using this
    clear hQ hP0
    apply bytes_ext
    simp only [Wi.append_list, Wi.ext_list, List.drop_zero]
    rw [hS, List.take_append, List.take_append, List.take_of_length_le (l := P.data.toList) (by omega), List.take_of_length_le (l := (Wi.frmS T).data.toList) (by omega), l1, l2]
  obtain ⟨a1, a2, a3⟩ := Wi.un_frame (s.extract 0 p) (Wi.unT s p) (Q.extract 0 (m - p - ((Wi.unT s p).size + 8))) (s.extract 0 m) p (by omega) ht hP.symm
  refine ⟨(okU_iff _ _).2 ⟨a2, ?_⟩, a1⟩
  rw [a1]
  exact a3
theorem step_pre (s : ByteArray) (p m : Nat) (g : Lg) (hs : s.size ≤ 4500) (hp : p ≤ s.size) (h : okU s p = true) (hm : unX s p ≤ m) : stepG (s.extract 0 m) p g = stepG s p g := by
  obtain ⟨h1, h2⟩ := un_pre s p m hs hp h hm
  have e1 : unV (s.extract 0 m) p = unV s p := by unfold unV; rw [if_pos h, if_pos h1, h2]
  have e2 : unX (s.extract 0 m) p = unX s p := by unfold unX; rw [if_pos h, if_pos h1, h2]
  unfold stepG
  rw [e1, e2]
theorem step_end (s : ByteArray) (g : Lg) : stepG s s.size g = none := by
  unfold stepG
  split
  · rfl
  · rename_i c r hv
    have := unX_le s s.size (Nat.le_refl _) (unV_ok hv)
    omega
theorem step_ok {s : ByteArray} {p x : Nat} {g g' : Lg} (h : stepG s p g = some (x, g')) : okU s p = true ∧ unX s p = x := by
  unfold stepG at h
  split at h
  · cases h
  · rename_i c r hv
    refine ⟨unV_ok hv, ?_⟩
    split at h
    · simp only [Option.some.injEq, Prod.mk.injEq] at h
      exact h.1
    · split at h
      · simp only [Option.some.injEq, Prod.mk.injEq] at h
        exact h.1
      · cases h
/-- A step is a record or a marker. -/
theorem step_two {s : ByteArray} {p x : Nat} {g g' : Lg} (h : stepG s p g = some (x, g')) : (∃ r, g' = { g with recs := g.recs ++ [(p, r)] }) ∨ ∃ r, g' = { g with com := g.recs.length, len := x, wait := ⟨#[]⟩, root := r, marked := true } := by
  have hx := (step_ok h).2
  unfold stepG at h
  split at h
  · cases h
  · rename_i c r hv
    rw [hx] at h
    split at h
    · simp only [Option.some.injEq, Prod.mk.injEq] at h
      exact Or.inl ⟨_, h.2.symm⟩
    · split at h
      · simp only [Option.some.injEq, Prod.mk.injEq] at h
        exact Or.inr ⟨_, h.2.symm⟩
      · cases h
theorem run_end (t : ByteArray) (f : Nat) (g : Lg) : runG t f t.size g = g := by
  cases f with
  | zero => rfl
  | succ f =>
    unfold runG
    rw [step_end]
/-- Either no marker follows, or what is cut behind the last one says the same. -/
def Cut (s : ByteArray) (p : Nat) (g F : Lg) : Prop :=
  (F.len = g.len ∧ F.com = g.com ∧ F.root = g.root ∧ F.marked = g.marked ∧ F.recs.take g.com = g.recs.take g.com ∧ F.d = g.d) ∨
  (p < F.len ∧ F.len ≤ s.size ∧ ∀ f', F.len + 1 - p ≤ f' → dropG (runG (s.extract 0 F.len) f' p g) = dropG F)
theorem ext_size (s : ByteArray) (m : Nat) (h : m ≤ s.size) : (s.extract 0 m).size = m := by rw [ByteArray.size_extract]; omega
theorem run_cut (s : ByteArray) (hs : s.size ≤ 4500) : ∀ (f p : Nat) (g : Lg), p ≤ s.size → g.com ≤ g.recs.length → Cut s p g (runG s f p g)
  | 0, p, g, hp, hc => Or.inl ⟨rfl, rfl, rfl, rfl, rfl, rfl⟩
  | f + 1, p, g, hp, hc => by
    unfold runG
    cases hq : stepG s p g with
    | none => exact Or.inl ⟨rfl, rfl, rfl, rfl, rfl, rfl⟩
    | some y =>
      obtain ⟨x, g'⟩ := y
      have hx := stepG_lt hp hq
      have hk := step_ok hq
      have h2 := step_two hq
      have hc' : g'.com ≤ g'.recs.length := by
        rcases h2 with ⟨r, rfl⟩ | ⟨r, rfl⟩
        · show g.com ≤ (g.recs ++ [_]).length
          rw [List.length_append]
          omega
        · exact Nat.le_refl g.recs.length
      have ih := run_cut s hs f x g' hx.2.1 hc'
      show Cut s p g (runG s f x g')
      generalize runG s f x g' = F at *
      rcases ih with ⟨i1, i2, i3, i4, i5, i6⟩ | ⟨i1, i2, i3⟩
      · rcases h2 with ⟨r, rfl⟩ | ⟨r, rfl⟩
        · refine Or.inl ⟨i1, i2, i3, i4, ?_, i6⟩
          rw [show ({ g with recs := g.recs ++ [(p, r)] } : Lg).com = g.com from rfl] at i5
          rw [i5]
          show (g.recs ++ [(p, r)]).take g.com = _
          rw [List.take_append_of_le_length hc]
        · have i1' : F.len = x := i1
          refine Or.inr ⟨by omega, by omega, fun f' hf' => ?_⟩
          obtain ⟨f'', rfl⟩ : ∃ f'', f' = f'' + 1 := ⟨f' - 1, by omega⟩
          unfold runG
          rw [step_pre s p F.len g hs hp hk.1 (by omega), hq]
          show dropG (runG (s.extract 0 F.len) f'' x _) = dropG F
          have hz := ext_size s F.len (by omega)
          have ez : x = (s.extract 0 F.len).size := by omega
          have er : ∀ G, runG (s.extract 0 F.len) f'' x G = G := fun G => by
            have := run_end (s.extract 0 F.len) f'' G
            rw [← ez] at this
            exact this
          rw [er]
          unfold dropG
          obtain ⟨a1, a2, a3, a4, a5, a6, a7⟩ := F
          simp only at i1 i2 i3 i4 i5 i6 ⊢
          subst i1 i2 i3 i4 i6
          rw [i5]
      · refine Or.inr ⟨by omega, i2, fun f' hf' => ?_⟩
        obtain ⟨f'', rfl⟩ : ∃ f'', f' = f'' + 1 := ⟨f' - 1, by omega⟩
        unfold runG
        rw [step_pre s p F.len g hs hp hk.1 (by omega), hq]
        exact i3 f'' (by omega)
/-- What is left behind an opening says the same again. -/
theorem load_again (s : ByteArray) (d : Nat) (hs : s.size ≤ 4500) : (loadG s d).len ≤ s.size ∧ loadG (s.extract 0 (loadG s d).len) d = loadG s d := by
  have h := run_cut s hs (s.size + 1) 0 (newL d) (Nat.zero_le _) (Nat.le_refl _)
  obtain ⟨F, hF⟩ : ∃ F, F = runG s (s.size + 1) 0 (newL d) := ⟨_, rfl⟩
  have eL : loadG s d = dropG F := by unfold loadG parseG; rw [hF]
  rw [← hF] at h
  rw [eL]
  clear hF eL
  show F.len ≤ s.size ∧ loadG (s.extract 0 F.len) d = dropG F
  rcases h with ⟨i1, i2, i3, i4, i5, i6⟩ | ⟨i1, i2, i3⟩
  · have hl : F.len = 0 := i1
    have hg : dropG F = newL d := by
      unfold dropG
      obtain ⟨a1, a2, a3, a4, a5, a6, a7⟩ := F
      simp only at i1 i2 i3 i4 i5 i6 ⊢
      subst i1 i2 i3 i4 i6
      rfl
    refine ⟨by omega, ?_⟩
    rw [hl, hg]
    have hz := ext_size s 0 (Nat.zero_le _)
    unfold loadG parseG
    have := run_end (s.extract 0 0) ((s.extract 0 0).size + 1) (newL d)
    rw [hz] at this ⊢
    rw [this]
    rfl
  · refine ⟨i2, ?_⟩
    have hz := ext_size s _ i2
    unfold loadG parseG
    exact i3 ((s.extract 0 F.len).size + 1) (by omega)
end Go.Proofs.Ytddnjlnnkeiplaa
