/-
  Unframe in long texts, where the frame itself is short. A file that is frames of records and of markers, one behind the other: what load makes of it.
-/
import Derived.Test.YtddnjlnnkeiplaaKLcom
import Derived.Test.YtddnjlnnkeiplaaKLopen
import Derived.Test.YtddnjlnnkeiplaaKXDel
import Derived.Test.YtddnjlnnkeiplaaKLrepl
namespace Go.Proofs.Ytddnjlnnkeiplaa.Wi
open Go.RowKit
set_option maxRecDepth 100000 in
set_option maxHeartbeats 400000 in
theorem unframe_bad2 (s : ByteArray) (p : Nat) (w : World) (hs : s.size ≤ 1000000) (hp : p ≤ s.size) (hF : unF s p ≠ 0) : Calls Try.prog 76 #[.string s, .int .i64 p] w fun e w' => e = .returned (.tuple #[.string ⟨#[]⟩, .int .i64 0, .int .i64 (unF s p : Nat)]) ∧ w.grownBy w' none := by
  have hR : (unR s p).size ≤ 1000000 := by unfold unR; rw [ByteArray.size_extract]; omega
  have hrm := un_room s p
  have hRs : (unR s p).size = s.size - p := by unfold unR; rw [ByteArray.size_extract]; omega
  have CT : Hid (∀ w b, Blk w b 134 (rd (unR s p) 0 0) → Calls Try.prog 83 #[.pointer (some ⟨b, 0, none⟩), .int .i64 2147483647] w fun r w' => r = .returned (.string (unT s p)) ∧ Blk w' b 134 (rd (unS s p) (unA s p) (unE s p)) ∧ w.grownBy w' (some b)) := fun w b h => text_any b _ 0 0 2147483647 w h (by omega) (by omega)
  have CN : Hid (∀ w b, Blk w b 134 (rd (unS s p) (unA s p) (unE s p)) → Calls Try.prog 85 #[.pointer (some ⟨b, 0, none⟩), .int .i64 4] w fun r w' => r = .returned (.int .u64 (unN s p : Nat)) ∧ Blk w' b 134 (rd (takeS (unS s p) (unE s p) 4) (unB s p) (unF s p)) ∧ w.grownBy w' (some b)) := fun w b h => rnumber_any b _ _ _ 4 w h (by omega) (by omega)
  have CW : Hid (∀ w, Calls Try.prog 82 #[.string (s.extract p s.size)] w fun e w' => e = .returned (.pointer (some ⟨w.heap.size, 0, none⟩)) ∧ Blk w' w.heap.size 134 (rd (unR s p) 0 0) ∧ w.grownBy w' none) := fun w => newReader_any _ w
  generalize unF s p = F at *
  generalize unB s p = B at *
  generalize unN s p = N at *
  generalize unT s p = T at *
  generalize takeS (unS s p) (unE s p) 4 = Z at *
  generalize unS s p = S at *
  generalize unA s p = A at *
  generalize unE s p = E at *
  generalize unR s p = R at *
  have s0 : (s.size : Int) ≤ 1000000 := by omega
  have p0 : (0 : Int) ≤ (p : Int) := by omega
  have p1 : (p : Int) ≤ (s.size : Int) := by omega
  have p2 : (p : Int) + (A : Int) ≤ (s.size : Int) := by omega
  have p3 : (0 : Int) ≤ (A : Int) := by omega
  have hF' : ((F : Int) != 0) = true := by rw [bne_iff_ne]; omega
  clear hs hp hR hrm hRs hF
  go_enter Try.func76, Try.ntmps76
  go_wp2_with (first | (go_at_call 82; refine (CW.out _).mono ?_; rintro e w1 ⟨rfl, hb1, hg1⟩; have B1 : Hid (Blk w1 w.heap.size 134 (rd R 0 0)) := hb1; have G1 : Hid (w.grownBy w1 none) := hg1; clear hb1 hg1) | (go_at_call 83; refine (CT.out _ _ B1.out).mono ?_; rintro e w2 ⟨rfl, hb2, hg2⟩; have B2 : Hid (Blk w2 w.heap.size 134 (rd S A E)) := hb2; have G2 : Hid (w.grownBy w2 none) := grown_through G1.out hg2 (Nat.le_refl _); clear hb2 hg2) | (go_at_call 84; refine (at_any w.heap.size S A E _ B2.out).mono ?_; rintro e w' ⟨rfl, hw⟩; have hw2 := hw.symm; clear hw; subst hw2) | (go_at_call 85; refine (CN.out _ _ B2.out).mono ?_; rintro e w3 ⟨rfl, hb3, hg3⟩; have B3 : Hid (Blk w3 w.heap.size 134 (rd Z B F)) := hb3; have G3 : Hid (w.grownBy w3 none) := grown_through G2.out hg3 (Nat.le_refl _); clear hb3 hg3) | (go_at_call 86; refine (err_any w.heap.size Z B F _ B3.out).mono ?_; rintro e w' ⟨rfl, hw⟩; have hw2 := hw.symm; clear hw; subst hw2))
  exact bodyPost_ret (results_tri Try.results76 _ _ _) rfl ⟨rfl, G3.out⟩
set_option maxRecDepth 100000 in
set_option maxHeartbeats 400000 in
theorem unframe_in2 (s : ByteArray) (p : Nat) (w : World) (hs : s.size ≤ 1000000) (hA : unA s p ≤ 4900) (hp : p ≤ s.size) (hF : unF s p = 0) (V : ByteArray) (x y : Nat) (hV : (unN s p = adl (s.extract p (p + unA s p)) ∧ V = unT s p ∧ x = p + unB s p ∧ y = 0) ∨ (unN s p ≠ adl (s.extract p (p + unA s p)) ∧ V = ⟨#[]⟩ ∧ x = 0 ∧ y = 6)) : Calls Try.prog 76 #[.string s, .int .i64 p] w fun e w' => e = .returned (.tuple #[.string V, .int .i64 x, .int .i64 y]) ∧ w.grownBy w' none := by
  have hR : (unR s p).size ≤ 1000000 := by unfold unR; rw [ByteArray.size_extract]; omega
  have hrm := un_room s p
  have hRs : (unR s p).size = s.size - p := by unfold unR; rw [ByteArray.size_extract]; omega
  have CT : Hid (∀ w b, Blk w b 134 (rd (unR s p) 0 0) → Calls Try.prog 83 #[.pointer (some ⟨b, 0, none⟩), .int .i64 2147483647] w fun r w' => r = .returned (.string (unT s p)) ∧ Blk w' b 134 (rd (unS s p) (unA s p) (unE s p)) ∧ w.grownBy w' (some b)) := fun w b h => text_any b _ 0 0 2147483647 w h (by omega) (by omega)
  have CN : Hid (∀ w b, Blk w b 134 (rd (unS s p) (unA s p) (unE s p)) → Calls Try.prog 85 #[.pointer (some ⟨b, 0, none⟩), .int .i64 4] w fun r w' => r = .returned (.int .u64 (unN s p : Nat)) ∧ Blk w' b 134 (rd (takeS (unS s p) (unE s p) 4) (unB s p) (unF s p)) ∧ w.grownBy w' (some b)) := fun w b h => rnumber_any b _ _ _ 4 w h (by omega) (by omega)
  have CW : Hid (∀ w, Calls Try.prog 82 #[.string (s.extract p s.size)] w fun e w' => e = .returned (.pointer (some ⟨w.heap.size, 0, none⟩)) ∧ Blk w' w.heap.size 134 (rd (unR s p) 0 0) ∧ w.grownBy w' none) := fun w => newReader_any _ w
  have hNl := unN_lt s p
  have hB : unB s p ≤ unA s p + 4 := by unfold unB takeA; split <;> omega
  have CA : Hid (∀ w, Calls Try.prog 68 #[.string (s.extract p (p + unA s p))] w fun e w' => e = .returned (.int .u32 (adl (s.extract p (p + unA s p)) : Nat)) ∧ w' = w) := fun w => adler_any _ w (by rw [ByteArray.size_extract]; omega)
  have hcl := adl_lt (s.extract p (p + unA s p))
  obtain ⟨c, ec⟩ : ∃ c, adl (s.extract p (p + unA s p)) = c := ⟨_, rfl⟩
  rw [ec] at CA hcl hV
  clear ec
  rw [hF] at CN
  clear hF
  generalize unB s p = B at *
  generalize unN s p = N at *
  generalize unT s p = T at *
  generalize takeS (unS s p) (unE s p) 4 = Z at *
  generalize unS s p = S at *
  generalize unA s p = A at *
  generalize unE s p = E at *
  generalize unR s p = R at *
  have s0 : (s.size : Int) ≤ 1000000 := by omega
  have p0 : (0 : Int) ≤ (p : Int) := by omega
  have p1 : (p : Int) ≤ (s.size : Int) := by omega
  have p2 : (p : Int) + (A : Int) ≤ (s.size : Int) := by omega
  have p3 : (0 : Int) ≤ (A : Int) := by omega
  have b1 : (B : Int) ≤ 1000100 := by omega
  have b0 : (0 : Int) ≤ (B : Int) := by omega
  have i3 : IntKind.u64.wrap (c : Int) = (c : Int) := by rw [IntKind.wrap_u64]; omega
  clear hs hp hR hrm hRs hNl hB hcl hA
  rcases hV with ⟨e1, rfl, rfl, rfl⟩ | ⟨e1, rfl, rfl, rfl⟩
  · have e2 : ((N : Int) == (c : Int)) = true := by rw [e1]; simp
    have e3 : ((N : Int) != (c : Int)) = false := by rw [bne, e2]; rfl
    clear e1 e2
    go_enter Try.func76, Try.ntmps76
    go_wp2_with (first | (go_at_call 68; refine (CA.out _).mono ?_; rintro e w' ⟨rfl, hw⟩; have hw2 := hw.symm; clear hw; subst hw2) | (go_at_call 82; refine (CW.out _).mono ?_; rintro e w1 ⟨rfl, hb1, hg1⟩; have B1 : Hid (Blk w1 w.heap.size 134 (rd R 0 0)) := hb1; have G1 : Hid (w.grownBy w1 none) := hg1; clear hb1 hg1) | (go_at_call 83; refine (CT.out _ _ B1.out).mono ?_; rintro e w2 ⟨rfl, hb2, hg2⟩; have B2 : Hid (Blk w2 w.heap.size 134 (rd S A E)) := hb2; have G2 : Hid (w.grownBy w2 none) := grown_through G1.out hg2 (Nat.le_refl _); clear hb2 hg2) | (go_at_call 84; refine (at_any w.heap.size Z B 0 _ B3.out).mono ?_; rintro e w' ⟨rfl, hw⟩; have hw2 := hw.symm; clear hw; subst hw2) | (go_at_call 84; refine (at_any w.heap.size S A E _ B2.out).mono ?_; rintro e w' ⟨rfl, hw⟩; have hw2 := hw.symm; clear hw; subst hw2) | (go_at_call 85; refine (CN.out _ _ B2.out).mono ?_; rintro e w3 ⟨rfl, hb3, hg3⟩; have B3 : Hid (Blk w3 w.heap.size 134 (rd Z B 0)) := hb3; have G3 : Hid (w.grownBy w3 none) := grown_through G2.out hg3 (Nat.le_refl _); clear hb3 hg3) | (go_at_call 86; refine (err_any w.heap.size Z B 0 _ B3.out).mono ?_; rintro e w' ⟨rfl, hw⟩; have hw2 := hw.symm; clear hw; subst hw2))
    exact bodyPost_ret (results_tri Try.results76 _ _ _) rfl ⟨rfl, G3.out⟩
  · have e2 : ((N : Int) == (c : Int)) = false := by simp; omega
    have e3 : ((N : Int) != (c : Int)) = true := by rw [bne, e2]; rfl
    clear e1 e2
    go_enter Try.func76, Try.ntmps76
    go_wp2_with (first | (go_at_call 68; refine (CA.out _).mono ?_; rintro e w' ⟨rfl, hw⟩; have hw2 := hw.symm; clear hw; subst hw2) | (go_at_call 82; refine (CW.out _).mono ?_; rintro e w1 ⟨rfl, hb1, hg1⟩; have B1 : Hid (Blk w1 w.heap.size 134 (rd R 0 0)) := hb1; have G1 : Hid (w.grownBy w1 none) := hg1; clear hb1 hg1) | (go_at_call 83; refine (CT.out _ _ B1.out).mono ?_; rintro e w2 ⟨rfl, hb2, hg2⟩; have B2 : Hid (Blk w2 w.heap.size 134 (rd S A E)) := hb2; have G2 : Hid (w.grownBy w2 none) := grown_through G1.out hg2 (Nat.le_refl _); clear hb2 hg2) | (go_at_call 84; refine (at_any w.heap.size Z B 0 _ B3.out).mono ?_; rintro e w' ⟨rfl, hw⟩; have hw2 := hw.symm; clear hw; subst hw2) | (go_at_call 84; refine (at_any w.heap.size S A E _ B2.out).mono ?_; rintro e w' ⟨rfl, hw⟩; have hw2 := hw.symm; clear hw; subst hw2) | (go_at_call 85; refine (CN.out _ _ B2.out).mono ?_; rintro e w3 ⟨rfl, hb3, hg3⟩; have B3 : Hid (Blk w3 w.heap.size 134 (rd Z B 0)) := hb3; have G3 : Hid (w.grownBy w3 none) := grown_through G2.out hg3 (Nat.le_refl _); clear hb3 hg3) | (go_at_call 86; refine (err_any w.heap.size Z B 0 _ B3.out).mono ?_; rintro e w' ⟨rfl, hw⟩; have hw2 := hw.symm; clear hw; subst hw2))
    exact bodyPost_ret (results_tri Try.results76 _ _ _) rfl ⟨rfl, G3.out⟩
theorem unframe_at (P t Q s : ByteArray) (p : Nat) (w : World) (ht : t.size ≤ 1000) (hs : s = P ++ (frmS t ++ Q)) (hp : p = P.size) (hz : s.size ≤ 1000000) : Calls Try.prog 76 #[.string s, .int .i64 p] w fun e w' => e = .returned (.tuple #[.string t, .int .i64 ((p + (t.size + 8) : Nat) : Int), .int .i64 0]) ∧ w.grownBy w' none := by
  obtain ⟨h1, h2, h3⟩ := un_frame P t Q s p (by omega) hs hp
  have hn : p ≤ s.size := by rw [hs, hp, ByteArray.size_append]; omega
  obtain ⟨e1, e2, e3⟩ := un_eq s p hn h2
  exact unframe_in2 s p w hz (by rw [e1, h1]; omega) hn h2 _ _ _ (Or.inl ⟨by rw [e3, h1]; exact h3, h1.symm, by rw [e2, h1]; omega, rfl⟩)
end Go.Proofs.Ytddnjlnnkeiplaa.Wi
namespace Go.Proofs.Ytddnjlnnkeiplaa
open Go.RowKit Go.Maps
/-- A frame: of a record, or of a marker. -/
abbrev Fr := Bool × ByteArray
def frT (x : Fr) : ByteArray := (if x.1 then ⟨#[100]⟩ else ⟨#[109]⟩) ++ x.2
def bytL : List Fr → ByteArray
  | [] => ⟨#[]⟩
  | x :: r => Wi.frmS (frT x) ++ bytL r
theorem frT_size (x : Fr) : (frT x).size = x.2.size + 1 := by
  unfold frT
  split
  · exact one_size 100 x.2
  · exact one_size 109 x.2
theorem nil_app (s : ByteArray) : (⟨#[]⟩ ++ s : ByteArray) = s := bytes_ext (by rw [Wi.append_list]; rfl)
theorem app_nil (s : ByteArray) : (s ++ ⟨#[]⟩ : ByteArray) = s := bytes_ext (by rw [Wi.append_list]; simp)
theorem bytL_app : ∀ a b : List Fr, bytL (a ++ b) = bytL a ++ bytL b
  | [], b => (nil_app _).symm
  | x :: a, b => by
    show Wi.frmS (frT x) ++ bytL (a ++ b) = Wi.frmS (frT x) ++ bytL a ++ bytL b
    rw [bytL_app a b, app_assoc]
theorem bytL_one (x : Fr) : bytL [x] = Wi.frmS (frT x) := app_nil _
theorem one_len (x : Fr) : (Wi.frmS (frT x)).size = x.2.size + 9 := by rw [Wi.frmS_size, frT_size]
/-- A log behind one frame more. -/
def stepF (g : Lg) (p x : Nat) (f : Fr) : Lg := if f.1 then { g with recs := g.recs ++ [(p, f.2)] } else { g with com := g.recs.length, len := x, wait := ⟨#[]⟩, root := f.2, marked := true }
def stF : Lg → Nat → List Fr → Lg
  | g, _, [] => g
  | g, p, f :: r => stF (stepF g p (p + (f.2.size + 9)) f) (p + (f.2.size + 9)) r
theorem stF_app : ∀ (a b : List Fr) (g : Lg) (p : Nat), stF g p (a ++ b) = stF (stF g p a) (p + (bytL a).size) b
  | [], b, g, p => rfl
  | x :: a, b, g, p => by
    show stF (stepF g p (p + (x.2.size + 9)) x) (p + (x.2.size + 9)) (a ++ b) = _
    rw [stF_app a b]
    have e : p + (x.2.size + 9) + (bytL a).size = p + (bytL (x :: a)).size := by
      show _ = p + (Wi.frmS (frT x) ++ bytL a).size
      rw [ByteArray.size_append, one_len]
      omega
    rw [e]
    rfl
/-- The log that frames give. -/
def frG (d : Nat) (l : List Fr) : Lg := stF (newL d) 0 l
theorem frG_snoc (d : Nat) (l : List Fr) (x : Fr) : frG d (l ++ [x]) = stepF (frG d l) (bytL l).size ((bytL l).size + (x.2.size + 9)) x := by
  unfold frG
  rw [stF_app, Nat.zero_add]
  rfl
structure Fok (d : Nat) (l : List Fr) : Prop where
  com : (frG d l).com ≤ (frG d l).recs.length
  few : (frG d l).recs.length ≤ l.length
  wait : (frG d l).wait = ⟨#[]⟩
  asc : Asc (frG d l).recs
  low : ∀ r ∈ (frG d l).recs, r.1 < (bytL l).size
  d : (frG d l).d = d
theorem fok_snoc {d : Nat} {l : List Fr} (h : Fok d l) (x : Fr) : Fok d (l ++ [x]) := by
  obtain ⟨h1, h2, h3, h4, h5, h6⟩ := h
  have e := frG_snoc d l x
  have ez : (bytL (l ++ [x])).size = (bytL l).size + (x.2.size + 9) := by rw [bytL_app, bytL_one, ByteArray.size_append, one_len]
  unfold stepF at e
  by_cases hx : x.1 = true
  · rw [if_pos hx] at e
    refine ⟨?_, ?_, ?_, ?_, ?_, ?_⟩
    · rw [e]; show (frG d l).com ≤ ((frG d l).recs ++ [_]).length; rw [List.length_append]; omega
    · rw [e]; show ((frG d l).recs ++ [_]).length ≤ _; rw [List.length_append, List.length_append]; show _ + 1 ≤ _ + 1; omega
    · rw [e]; exact h3
    · rw [e]; exact asc_snoc h4 h5
    · rw [e, ez]
      intro r hr
      rcases List.mem_append.1 hr with h | h
      · have := h5 r h
        omega
      · rw [List.mem_singleton.1 h]
        show (bytL l).size < _
        omega
    · rw [e]; exact h6
  · rw [if_neg hx] at e
    refine ⟨?_, ?_, ?_, ?_, ?_, ?_⟩
    · rw [e]; exact Nat.le_refl (frG d l).recs.length
    · rw [e]; show (frG d l).recs.length ≤ _; rw [List.length_append]; omega
    · rw [e]
    · rw [e]; exact h4
    · rw [e, ez]
      intro r hr
      have := h5 r hr
      omega
    · rw [e]; exact h6
theorem fok_all (d : Nat) (l : List Fr) : Fok d l := by
  have key : ∀ n, ∀ l : List Fr, l.length = n → Fok d l := by
    intro n
    induction n with
    | zero =>
      intro l hl
      obtain rfl := List.eq_nil_of_length_eq_zero hl
      exact ⟨Nat.le_refl _, Nat.le_refl _, rfl, fun i j hj => absurd hj (Nat.not_lt_zero _), (fun r hr => by cases hr), rfl⟩
    | succ n ih =>
      intro l hl
      rw [← List.dropLast_concat_getLast (l := l) (by intro e; rw [e] at hl; cases hl)]
      exact fok_snoc (ih _ (by rw [List.length_dropLast]; omega)) _
  exact key _ l rfl
theorem un_last (s : ByteArray) : Wi.unF s s.size ≠ 0 := fun h => by
  obtain ⟨e1, _, _⟩ := Wi.un_eq s s.size (Nat.le_refl _) h
  have hr := Wi.un_room s s.size
  have hz : (Wi.unR s s.size).size = 0 := by unfold Wi.unR; rw [ByteArray.size_extract]; omega
  omega
theorem load_fr (base b d : Nat) (l : List Fr) (w : World) (h : IsLog w base b (newL d)) (hl : l.length ≤ 1000) (hs : ∀ x ∈ l, x.2.size ≤ 900) (hz : (bytL l).size ≤ 1000000) :
    Calls Try.prog 40 #[.pointer (some ⟨b, 0, none⟩), .string (bytL l)] w fun e w' => e = .returned (.tuple #[]) ∧ IsLog w' base b (dropG (frG d l)) ∧ LT base b w w' := by
  have hk : ∀ k, (bytL (l.take k)).size ≤ (bytL l).size := fun k => by
    have : bytL l = bytL (l.take k) ++ bytL (l.drop k) := by rw [← bytL_app, List.take_append_drop]
    rw [this, ByteArray.size_append]
    omega
  have hstep : ∀ k, (hk : k < l.length) → bytL (l.take (k + 1)) = bytL (l.take k) ++ Wi.frmS (frT l[k]) ∧ bytL l = bytL (l.take k) ++ (Wi.frmS (frT l[k]) ++ bytL (l.drop (k + 1))) ∧ frG d (l.take (k + 1)) = stepF (frG d (l.take k)) (bytL (l.take k)).size ((bytL (l.take k)).size + (l[k].2.size + 9)) l[k] := fun k hk => by
    have e : l.take (k + 1) = l.take k ++ [l[k]] := (List.take_append_getElem hk).symm
    have e1 : bytL (l.take (k + 1)) = bytL (l.take k) ++ Wi.frmS (frT l[k]) := by rw [e, bytL_app, bytL_one]
    refine ⟨e1, ?_, by rw [e, frG_snoc]⟩
    have : bytL l = bytL (l.take (k + 1)) ++ bytL (l.drop (k + 1)) := by rw [← bytL_app, List.take_append_drop]
    rw [this, e1, app_assoc]
  refine load_seq base b (bytL l) (l.length + 1) (fun k => if k ≤ l.length then (bytL (l.take k)).size else 0) (fun k => decide (k ≤ l.length)) (fun k => frG d (l.take k)) (dropG (frG d l)) w h rfl (fun k hk => decide_eq_true (by omega)) (decide_eq_true (Nat.zero_le _)) (decide_eq_false (by omega)) (fun k => ?_) (fun k hk hr => ?_) (fun k hk W hW => ?_) (fun W hW => ?_)
  · show (if _ then _ else _) ≤ _
    split
    · exact hk k
    · exact Nat.zero_le _
  · have hk1 : k + 1 ≤ l.length := of_decide_eq_true hr
    show (if k ≤ l.length then _ else _) < (if k + 1 ≤ l.length then _ else _)
    rw [if_pos (by omega), if_pos hk1, (hstep k (by omega)).1, ByteArray.size_append, one_len]
    omega
  · show Calls Try.prog 61 #[_, _, .int .i64 ((if k ≤ l.length then (bytL (l.take k)).size else 0 : Nat) : Int)] W fun e w' => e = .returned (.tuple #[.int .i64 ((if k + 1 ≤ l.length then (bytL (l.take (k + 1))).size else 0 : Nat) : Int), .bool (decide (k + 1 ≤ l.length))]) ∧ _
    rw [if_pos (by omega)]
    by_cases hlt : k < l.length
    · obtain ⟨s1, s2, s3⟩ := hstep k hlt
      have hx := hs l[k] (List.getElem_mem hlt)
      have hfew := (fok_all d (l.take k)).few
      rw [List.length_take] at hfew
      have hU : ∀ W, Calls Try.prog 76 #[.string (bytL l), .int .i64 ((bytL (l.take k)).size : Nat)] W fun e w' => e = .returned (.tuple #[.string (frT l[k]), .int .i64 (((bytL (l.take k)).size + (l[k].2.size + 9) : Nat) : Int), .int .i64 0]) ∧ W.grownBy w' none := fun W => by
        have := Wi.unframe_at (bytL (l.take k)) (frT l[k]) (bytL (l.drop (k + 1))) (bytL l) (bytL (l.take k)).size W (by rw [frT_size]; omega) s2 rfl hz
        rw [frT_size] at this
        have e : (bytL (l.take k)).size + (l[k].2.size + 1 + 8) = (bytL (l.take k)).size + (l[k].2.size + 9) := by omega
        rw [e] at this
        exact this
      rw [if_pos (by omega : k + 1 ≤ l.length), decide_eq_true (by omega : k + 1 ≤ l.length), s1, ByteArray.size_append, one_len, s3]
      unfold stepF
      unfold frT at hU
      by_cases hb : l[k].1 = true
      · rw [if_pos hb]
        simp only [if_pos hb] at hU
        exact take_rec base b (frG d (l.take k)) (bytL l) l[k].2 _ _ W hW (by omega) hU (by omega)
      · rw [if_neg hb]
        simp only [if_neg hb] at hU
        exact take_mark base b (frG d (l.take k)) (bytL l) l[k].2 _ _ W hW (by omega) hU (by omega)
    · obtain rfl : k = l.length := by omega
      rw [if_neg (by omega : ¬ l.length + 1 ≤ l.length), decide_eq_false (by omega : ¬ l.length + 1 ≤ l.length)]
      have e1 : l.take l.length = l := List.take_length
      have e2 : l.take (l.length + 1) = l := List.take_of_length_le (by omega)
      rw [e1, e2]
      rw [e1] at hW
      refine (take_bad _ (bytL l) ⟨#[]⟩ (bytL l).size 0 _ W (fun W => Wi.unframe_bad2 (bytL l) (bytL l).size W hz (Nat.le_refl _) (un_last _)) (un_last _)).mono ?_
      rintro e w' ⟨he, hg⟩
      exact ⟨he, hW.kept hg, LT.of_none hg⟩
  · have e2 : l.take (l.length + 1) = l := List.take_of_length_le (by omega)
    have hF := fok_all d l
    have hfew := hF.few
    have hW' : IsLog W base b (frG d (l.take (l.length + 1))) := hW
    rw [e2] at hW'
    refine (drop_any base b (frG d l) W hW' hF.com (by omega) (by rw [hF.wait]; decide)).mono ?_
    rintro e w' ⟨he, hi, ht⟩
    exact ⟨⟨_, he⟩, hi, ht⟩
end Go.Proofs.Ytddnjlnnkeiplaa
