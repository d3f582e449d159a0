/-
  A file that is frames of records and of markers, one behind the other: what load makes of it. What an opening finds in an empty file, and in a file with one record and a marker.
-/
import Derived.Test.YtddnjlnnkeiplaaKLopen
import Derived.Test.YtddnjlnnkeiplaaKLdrop2
import Derived.Test.YtddnjlnnkeiplaaWUnBig
import Derived.Test.YtddnjlnnkeiplaaPtext
import Derived.Test.YtddnjlnnkeiplaaLsrch
namespace Go.Proofs.Ytddnjlnnkeiplaa
open Go.RowKit Go.Maps
/-- A frame: of a record, or of a marker. -/
abbrev Fr := Bool × ByteArray
def frT (x : Fr) : ByteArray := (if x.1 then ⟨#[100]⟩ else ⟨#[109]⟩) ++ x.2
def bytL : List Fr → ByteArray
  | [] => ⟨#[]⟩
  | x :: r => Wi.frmS (frT x) ++ bytL r
theorem frT_size (x : Fr) : (frT x).size = x.2.size + 1 := by
  unfold frT
  split
  · exact one_size 100 x.2
  · exact one_size 109 x.2
theorem nil_app (s : ByteArray) : (⟨#[]⟩ ++ s : ByteArray) = s := bytes_ext (by rw [Wi.append_list]; rfl)
theorem app_nil (s : ByteArray) : (s ++ ⟨#[]⟩ : ByteArray) = s := bytes_ext (by rw [Wi.append_list]; simp)
theorem bytL_app : ∀ a b : List Fr, bytL (a ++ b) = bytL a ++ bytL b
  | [], b => (nil_app _).symm
  | x :: a, b => by
    show Wi.frmS (frT x) ++ bytL (a ++ b) = Wi.frmS (frT x) ++ bytL a ++ bytL b
    rw [bytL_app a b, app_assoc]
theorem bytL_one (x : Fr) : bytL [x] = Wi.frmS (frT x) := app_nil _
theorem one_len (x : Fr) : (Wi.frmS (frT x)).size = x.2.size + 9 := by rw [Wi.frmS_size, frT_size]
/-- A log behind one frame more. -/
def stepF (g : Lg) (p x : Nat) (f : Fr) : Lg := if f.1 then { g with recs := g.recs ++ [(p, f.2)] } else { g with com := g.recs.length, len := x, wait := ⟨#[]⟩, root := f.2, marked := true }
def stF : Lg → Nat → List Fr → Lg
  | g, _, [] => g
  | g, p, f :: r => stF (stepF g p (p + (f.2.size + 9)) f) (p + (f.2.size + 9)) r
theorem stF_app : ∀ (a b : List Fr) (g : Lg) (p : Nat), stF g p (a ++ b) = stF (stF g p a) (p + (bytL a).size) b
  | [], b, g, p => rfl
  | x :: a, b, g, p => by
    show stF (stepF g p (p + (x.2.size + 9)) x) (p + (x.2.size + 9)) (a ++ b) = _
    rw [stF_app a b]
    have e : p + (x.2.size + 9) + (bytL a).size = p + (bytL (x :: a)).size := by
      show _ = p + (Wi.frmS (frT x) ++ bytL a).size
      rw [ByteArray.size_append, one_len]
      omega
    rw [e]
    rfl
/-- The log that frames give. -/
def frG (d : Nat) (l : List Fr) : Lg := stF (newL d) 0 l
theorem frG_snoc (d : Nat) (l : List Fr) (x : Fr) : frG d (l ++ [x]) = stepF (frG d l) (bytL l).size ((bytL l).size + (x.2.size + 9)) x := by
  unfold frG
  rw [stF_app, Nat.zero_add]
  rfl
structure Fok (d : Nat) (l : List Fr) : Prop where
  com : (frG d l).com ≤ (frG d l).recs.length
  few : (frG d l).recs.length ≤ l.length
  wait : (frG d l).wait = ⟨#[]⟩
  asc : Asc (frG d l).recs
  low : ∀ r ∈ (frG d l).recs, r.1 < (bytL l).size
  d : (frG d l).d = d
theorem fok_snoc {d : Nat} {l : List Fr} (h : Fok d l) (x : Fr) : Fok d (l ++ [x]) := by
  obtain ⟨h1, h2, h3, h4, h5, h6⟩ := h
  have e := frG_snoc d l x
  have ez : (bytL (l ++ [x])).size = (bytL l).size + (x.2.size + 9) := by rw [bytL_app, bytL_one, ByteArray.size_append, one_len]
  unfold stepF at e
  by_cases hx : x.1 = true
  · rw [if_pos hx] at e
    refine ⟨?_, ?_, ?_, ?_, ?_, ?_⟩
    · rw [e]; show (frG d l).com ≤ ((frG d l).recs ++ [_]).length; rw [List.length_append]; omega
    · rw [e]; show ((frG d l).recs ++ [_]).length ≤ _; rw [List.length_append, List.length_append]; show _ + 1 ≤ _ + 1; omega
    · rw [e]; exact h3
    · rw [e]; exact asc_snoc h4 h5
    · rw [e, ez]
      intro r hr
      rcases List.mem_append.1 hr with h | h
      · have := h5 r h
        omega
      · rw [List.mem_singleton.1 h]
        show (bytL l).size < _
        omega
    · rw [e]; exact h6
  · rw [if_neg hx] at e
    refine ⟨?_, ?_, ?_, ?_, ?_, ?_⟩
    · rw [e]; exact Nat.le_refl (frG d l).recs.length
    · rw [e]; show (frG d l).recs.length ≤ _; rw [List.length_append]; omega
    · rw [e]
    · rw [e]; exact h4
    · rw [e, ez]
      intro r hr
      have := h5 r hr
      omega
    · rw [e]; exact h6
theorem fok_all (d : Nat) (l : List Fr) : Fok d l := by
  have key : ∀ n, ∀ l : List Fr, l.length = n → Fok d l := by
    intro n
    induction n with
    | zero =>
      intro l hl
      obtain rfl := List.eq_nil_of_length_eq_zero hl
      exact ⟨Nat.le_refl _, Nat.le_refl _, rfl, fun i j hj => absurd hj (Nat.not_lt_zero _), (fun r hr => by cases hr), rfl⟩
    | succ n ih =>
      intro l hl
      rw [← List.dropLast_concat_getLast (l := l) (by intro e; rw [e] at hl; cases hl)]
      exact fok_snoc (ih _ (by rw [List.length_dropLast]; omega)) _
  exact key _ l rfl
theorem un_last (s : ByteArray) : Wi.unF s s.size ≠ 0 := fun h => by
  obtain ⟨e1, _, _⟩ := Wi.un_eq s s.size (Nat.le_refl _) h
  have hr := Wi.un_room s s.size
  have hz : (Wi.unR s s.size).size = 0 := by unfold Wi.unR; rw [ByteArray.size_extract]; omega
  omega
theorem load_fr (base b d : Nat) (l : List Fr) (w : World) (h : IsLog w base b (newL d)) (hl : l.length ≤ 1000) (hs : ∀ x ∈ l, x.2.size ≤ 900) (hz : (bytL l).size ≤ 1000000) :
    Calls Try.prog 40 #[.pointer (some ⟨b, 0, none⟩), .string (bytL l)] w fun e w' => e = .returned (.tuple #[]) ∧ IsLog w' base b (dropG (frG d l)) ∧ LT base b w w' := by
  have hk : ∀ k, (bytL (l.take k)).size ≤ (bytL l).size := fun k => by
    have : bytL l = bytL (l.take k) ++ bytL (l.drop k) := by rw [← bytL_app, List.take_append_drop]
    rw [this, ByteArray.size_append]
    omega
  have hstep : ∀ k, (hk : k < l.length) → bytL (l.take (k + 1)) = bytL (l.take k) ++ Wi.frmS (frT l[k]) ∧ bytL l = bytL (l.take k) ++ (Wi.frmS (frT l[k]) ++ bytL (l.drop (k + 1))) ∧ frG d (l.take (k + 1)) = stepF (frG d (l.take k)) (bytL (l.take k)).size ((bytL (l.take k)).size + (l[k].2.size + 9)) l[k] := fun k hk => by
    have e : l.take (k + 1) = l.take k ++ [l[k]] := (List.take_append_getElem hk).symm
    have e1 : bytL (l.take (k + 1)) = bytL (l.take k) ++ Wi.frmS (frT l[k]) := by rw [e, bytL_app, bytL_one]
    refine ⟨e1, ?_, by rw [e, frG_snoc]⟩
    have : bytL l = bytL (l.take (k + 1)) ++ bytL (l.drop (k + 1)) := by rw [← bytL_app, List.take_append_drop]
    rw [this, e1, app_assoc]
  refine load_seq base b (bytL l) (l.length + 1) (fun k => if k ≤ l.length then (bytL (l.take k)).size else 0) (fun k => decide (k ≤ l.length)) (fun k => frG d (l.take k)) (dropG (frG d l)) w h rfl (fun k hk => decide_eq_true (by omega)) (decide_eq_true (Nat.zero_le _)) (decide_eq_false (by omega)) (fun k => ?_) (fun k hk hr => ?_) (fun k hk W hW => ?_) (fun W hW => ?_)
  · show (if _ then _ else _) ≤ _
    split
    · exact hk k
    · exact Nat.zero_le _
  · have hk1 : k + 1 ≤ l.length := of_decide_eq_true hr
    show (if k ≤ l.length then _ else _) < (if k + 1 ≤ l.length then _ else _)
    rw [if_pos (by omega), if_pos hk1, (hstep k (by omega)).1, ByteArray.size_append, one_len]
    omega
  · show Calls Try.prog 61 #[_, _, .int .i64 ((if k ≤ l.length then (bytL (l.take k)).size else 0 : Nat) : Int)] W fun e w' => e = .returned (.tuple #[.int .i64 ((if k + 1 ≤ l.length then (bytL (l.take (k + 1))).size else 0 : Nat) : Int), .bool (decide (k + 1 ≤ l.length))]) ∧ _
    rw [if_pos (by omega)]
    by_cases hlt : k < l.length
    · obtain ⟨s1, s2, s3⟩ := hstep k hlt
      have hx := hs l[k] (List.getElem_mem hlt)
      have hfew := (fok_all d (l.take k)).few
      rw [List.length_take] at hfew
      have hU : ∀ W, Calls Try.prog 76 #[.string (bytL l), .int .i64 ((bytL (l.take k)).size : Nat)] W fun e w' => e = .returned (.tuple #[.string (frT l[k]), .int .i64 (((bytL (l.take k)).size + (l[k].2.size + 9) : Nat) : Int), .int .i64 0]) ∧ W.grownBy w' none := fun W => by
        have := Wi.unframe_at (bytL (l.take k)) (frT l[k]) (bytL (l.drop (k + 1))) (bytL l) (bytL (l.take k)).size W (by rw [frT_size]; omega) s2 rfl hz
        rw [frT_size] at this
        have e : (bytL (l.take k)).size + (l[k].2.size + 1 + 8) = (bytL (l.take k)).size + (l[k].2.size + 9) := by omega
        rw [e] at this
        exact this
      rw [if_pos (by omega : k + 1 ≤ l.length), decide_eq_true (by omega : k + 1 ≤ l.length), s1, ByteArray.size_append, one_len, s3]
      unfold stepF
      unfold frT at hU
      by_cases hb : l[k].1 = true
      · rw [if_pos hb]
        simp only [if_pos hb] at hU
        exact take_rec base b (frG d (l.take k)) (bytL l) l[k].2 _ _ W hW (by omega) hU (by omega)
      · rw [if_neg hb]
        simp only [if_neg hb] at hU
        exact take_mark base b (frG d (l.take k)) (bytL l) l[k].2 _ _ W hW (by omega) hU (by omega)
    · obtain rfl : k = l.length := by omega
      rw [if_neg (by omega : ¬ l.length + 1 ≤ l.length), decide_eq_false (by omega : ¬ l.length + 1 ≤ l.length)]
      have e1 : l.take l.length = l := List.take_length
      have e2 : l.take (l.length + 1) = l := List.take_of_length_le (by omega)
      rw [e1, e2]
      rw [e1] at hW
      refine (take_bad _ (bytL l) ⟨#[]⟩ (bytL l).size 0 _ W (fun W => Wi.unframe_bad2 (bytL l) (bytL l).size W hz (Nat.le_refl _) (un_last _)) (un_last _)).mono ?_
      rintro e w' ⟨he, hg⟩
      exact ⟨he, hW.kept hg, LT.of_none hg⟩
  · have e2 : l.take (l.length + 1) = l := List.take_of_length_le (by omega)
    have hF := fok_all d l
    have hfew := hF.few
    have hW' : IsLog W base b (frG d (l.take (l.length + 1))) := hW
    rw [e2] at hW'
    refine (drop_any base b (frG d l) W hW' hF.com (by omega) (by rw [hF.wait]; decide)).mono ?_
    rintro e w' ⟨he, hi, ht⟩
    exact ⟨⟨_, he⟩, hi, ht⟩
end Go.Proofs.Ytddnjlnnkeiplaa
namespace Go.Proofs.Ytddnjlnnkeiplaa
open Go.RowKit Go.Maps
theorem un_empty : Un ⟨#[]⟩ 0 ⟨#[]⟩ 0 (Wi.unF ⟨#[]⟩ 0) := fun W => Wi.unframe_bad ⟨#[]⟩ 0 W (by decide) (by decide) (by decide +kernel)
theorem drop_new {base b : Nat} {g : Lg} (hc : g.com = g.recs.length) (hl : g.recs.length ≤ 1000000) (hw : g.wait = ⟨#[]⟩) (W : World) (h : IsLog W base b g) : Calls Try.prog 12 #[.pointer (some ⟨b, 0, none⟩)] W fun e w' => (∃ m : Nat, e = .returned (.int .i64 m)) ∧ IsLog w' base b g ∧ LT base b W w' := by
  refine (drop_full base b g W h hc hl (by rw [hw]; decide)).mono ?_
  rintro e w' ⟨he, hi, hg⟩
  refine ⟨⟨_, he⟩, ?_, LT.of_self hg h.1⟩
  obtain ⟨a1, a2, a3, a4, a5, a6, a7⟩ := g
  simp only at hw
  subst hw
  exact hi
theorem load_empty (base b d : Nat) (w : World) (h : IsLog w base b (newL d)) : Calls Try.prog 40 #[.pointer (some ⟨b, 0, none⟩), .string ⟨#[]⟩] w fun e w' => e = .returned (.tuple #[]) ∧ IsLog w' base b (newL d) ∧ LT base b w w' := by
  refine load_seq base b ⟨#[]⟩ 1 (fun _ => 0) (fun k => decide (k < 1)) (fun _ => newL d) (newL d) w h rfl (fun k hk => decide_eq_true hk) rfl rfl (fun _ => Nat.zero_le _) (fun k hk hr => ?_) (fun k hk W hW => ?_) (fun W hW => drop_new rfl (by show 0 ≤ 1000000; decide) rfl W hW)
  · have := of_decide_eq_true hr
    omega
  · obtain rfl : k = 0 := by omega
    refine (take_bad _ ⟨#[]⟩ ⟨#[]⟩ 0 0 _ W un_empty (by decide +kernel)).mono ?_
    rintro e w' ⟨he, hg⟩
    exact ⟨he, hW.kept hg, LT.of_none hg⟩
def waitA : ByteArray := ⟨#[]⟩ ++ Wi.frmS (⟨#[100]⟩ ++ ⟨#[97]⟩)
def rootA : ByteArray := ⟨#[114, 111, 111, 116]⟩
def fileA : ByteArray := waitA ++ Wi.frmS (⟨#[109]⟩ ++ ⟨#[114, 111, 111, 116]⟩)
theorem fileA_size : fileA.size = 23 := by decide +kernel
theorem un_a : Un fileA 0 (⟨#[100]⟩ ++ ⟨#[97]⟩) 10 0 := fun W => Wi.unframe_in fileA 0 W (by rw [fileA_size]; decide) (by decide) (by decide +kernel) _ 10 0 (Or.inl ⟨by decide +kernel, bytes_ext (by decide +kernel), by decide +kernel, rfl⟩)
theorem un_m : Un fileA 10 (⟨#[109]⟩ ++ ⟨#[114, 111, 111, 116]⟩) 23 0 := fun W => Wi.unframe_in fileA 10 W (by rw [fileA_size]; decide) (by rw [fileA_size]; decide) (by decide +kernel) _ 23 0 (Or.inl ⟨by decide +kernel, bytes_ext (by decide +kernel), by decide +kernel, rfl⟩)
theorem un_e : Un fileA 23 ⟨#[]⟩ 0 (Wi.unF fileA 23) := fun W => Wi.unframe_bad fileA 23 W (by rw [fileA_size]; decide) (by rw [fileA_size]; decide) (by decide +kernel)
def seqA : Nat → Nat
  | 0 => 0
  | 1 => 10
  | 2 => 23
  | _ => 0
/-- The log of that file. -/
def logA (d : Nat) : Lg := ⟨d, [(0, ⟨#[97]⟩)], 1, 23, ⟨#[]⟩, ⟨#[114, 111, 111, 116]⟩, true⟩
def seqG (d : Nat) : Nat → Lg
  | 0 => newL d
  | 1 => { newL d with recs := [] ++ [(0, ⟨#[97]⟩)] }
  | _ => logA d
theorem load_file (base b d : Nat) (w : World) (h : IsLog w base b (newL d)) : Calls Try.prog 40 #[.pointer (some ⟨b, 0, none⟩), .string fileA] w fun e w' => e = .returned (.tuple #[]) ∧ IsLog w' base b (logA d) ∧ LT base b w w' := by
  refine load_seq base b fileA 3 seqA (fun k => decide (k < 3)) (seqG d) (logA d) w h rfl (fun k hk => decide_eq_true hk) rfl rfl (fun k => ?_) (fun k hk hr => ?_) (fun k hk W hW => ?_) (fun W hW => drop_new rfl (by show 1 ≤ 1000000; decide) rfl W hW)
  · rw [fileA_size]
    match k with
    | 0 => decide
    | 1 => decide
    | 2 => decide
    | _ + 3 => exact Nat.zero_le _
  · have := of_decide_eq_true hr
    match k, hk with
    | 0, _ => decide
    | 1, _ => decide
    | 2, _ => omega
  · match k, hk with
    | 0, _ => exact take_rec base b (newL d) fileA ⟨#[97]⟩ 0 10 W hW (by show 0 ≤ 1000000; decide) un_a (by decide)
    | 1, _ => exact take_mark base b (seqG d 1) fileA ⟨#[114, 111, 111, 116]⟩ 10 23 W hW (by show 1 ≤ _; decide) un_m (by decide)
    | 2, _ =>
      refine (take_bad _ fileA ⟨#[]⟩ 23 0 _ W un_e (by decide +kernel)).mono ?_
      rintro e w' ⟨he, hg⟩
      exact ⟨he, hW.kept hg, LT.of_none hg⟩
end Go.Proofs.Ytddnjlnnkeiplaa
