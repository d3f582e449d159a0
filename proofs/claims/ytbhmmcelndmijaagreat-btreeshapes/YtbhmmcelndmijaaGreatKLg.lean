/-
  The contracts of Unframe: the program's and the document's. A log of the program, in memory; mark, Root, Len, Waits, and Drop where nothing waits among the records.
-/
import Derived.Test.YtbhmmcelndmijaaGreatKWFrame
import Derived.Test.YtbhmmcelndmijaaGreatKWNum
import Derived.Deep.QuietTactic
import Derived.BigQuiet
namespace Go.Proofs.YtbhmmcelndmijaaGreat.Wi
open Go.RowKit
theorem results_tri {fn : Func} {a b c : Tmp} (h : fn.results = #[.tmp a, .tmp b, .tmp c]) (tmps : Array Value) (P : Program) (w : World) :
    (results fn tmps).run P w = .ok (.tuple #[tmps.getD a undef, tmps.getD b undef, tmps.getD c undef]) w := by
  simp only [results, h]
  simp
set_option maxRecDepth 100000 in
set_option maxHeartbeats 400000 in
theorem unframe_out (s : ByteArray) (p : Int) (w : World) (h : p < 0 ∨ (s.size : Int) < p) : Calls Tryz.prog 87 #[.string s, .int .i64 p] w fun e w' => e = .returned (.tuple #[.string ⟨#[]⟩, .int .i64 0, .int .i64 1]) ∧ w' = w := by
  by_cases h0 : p < 0
  · clear h
    go_enter Tryz.func87, Tryz.ntmps87
    go_wp2
    exact bodyPost_ret (results_tri Tryz.results87 _ _ _) rfl ⟨rfl, rfl⟩
  · have h1 : (s.size : Int) < p := by omega
    clear h
    go_enter Tryz.func87, Tryz.ntmps87
    go_wp2
    exact bodyPost_ret (results_tri Tryz.results87 _ _ _) rfl ⟨rfl, rfl⟩
/-- What is left of a text at a place; what Unframe takes there; where it stands; the check that lies there; the error. -/
def unR (s : ByteArray) (p : Nat) : ByteArray := s.extract p s.size
def unT (s : ByteArray) (p : Nat) : ByteArray := txtV (unR s p) 0 2147483647
def unS (s : ByteArray) (p : Nat) : ByteArray := txtS (unR s p) 0 2147483647
def unA (s : ByteArray) (p : Nat) : Nat := txtA (unR s p) 0 0 2147483647
def unE (s : ByteArray) (p : Nat) : Nat := txtE (unR s p) 0 2147483647
def unN (s : ByteArray) (p : Nat) : Nat := leT (takeV (unS s p) 4) (takeV (unS s p) 4).size
def unB (s : ByteArray) (p : Nat) : Nat := takeA (unS s p) (unA s p) 4
def unF (s : ByteArray) (p : Nat) : Nat := takeE (unS s p) (unE s p) 4
theorem un_room (s : ByteArray) (p : Nat) : unA s p + (unS s p).size ≤ (unR s p).size := by
  have h1 := take_room (cntS (unR s p) 0 2147483647) (takeA (unR s p) 0 4) (cntE (unR s p) 0 2147483647) (cntN (unR s p) 0 2147483647)
  have h2 := cnt_room (unR s p) 0 0 2147483647
  unfold unA unS txtA txtS
  omega
theorem unN_lt (s : ByteArray) (p : Nat) : unN s p < 4294967296 := by
  have h1 := leT_lt (takeV (unS s p) 4) (takeV (unS s p) 4).size
  have h2 := takeV_le (unS s p) 4
  have h3 : 2 ^ (8 * (takeV (unS s p) 4).size) ≤ 2 ^ 32 := Nat.pow_le_pow_right (by omega) (by omega)
  unfold unN
  omega
set_option maxRecDepth 100000 in
set_option maxHeartbeats 400000 in
theorem unframe_bad (s : ByteArray) (p : Nat) (w : World) (hs : s.size ≤ 4500) (hp : p ≤ s.size) (hF : unF s p ≠ 0) : Calls Tryz.prog 87 #[.string s, .int .i64 p] w fun e w' => e = .returned (.tuple #[.string ⟨#[]⟩, .int .i64 0, .int .i64 (unF s p : Nat)]) ∧ w.grownBy w' none := by
  have hR : (unR s p).size ≤ 4500 := by unfold unR; rw [ByteArray.size_extract]; omega
  have hrm := un_room s p
  have hRs : (unR s p).size = s.size - p := by unfold unR; rw [ByteArray.size_extract]; omega
  have CT : Hid (∀ w b, Blk w b 141 (rd (unR s p) 0 0) → Calls Tryz.prog 104 #[.pointer (some ⟨b, 0, none⟩), .int .i64 2147483647] w fun r w' => r = .returned (.string (unT s p)) ∧ Blk w' b 141 (rd (unS s p) (unA s p) (unE s p)) ∧ w.grownBy w' (some b)) := fun w b h => text_any b _ 0 0 2147483647 w h (by omega) (by omega)
  have CN : Hid (∀ w b, Blk w b 141 (rd (unS s p) (unA s p) (unE s p)) → Calls Tryz.prog 76 #[.pointer (some ⟨b, 0, none⟩), .int .i64 4] w fun r w' => r = .returned (.int .u64 (unN s p : Nat)) ∧ Blk w' b 141 (rd (takeS (unS s p) (unE s p) 4) (unB s p) (unF s p)) ∧ w.grownBy w' (some b)) := fun w b h => rnumber_any b _ _ _ 4 w h (by omega) (by omega)
  have CW : Hid (∀ w, Calls Tryz.prog 55 #[.string (s.extract p s.size)] w fun e w' => e = .returned (.pointer (some ⟨w.heap.size, 0, none⟩)) ∧ Blk w' w.heap.size 141 (rd (unR s p) 0 0) ∧ w.grownBy w' none) := fun w => newReader_any _ w
  generalize unF s p = F at *
  generalize unB s p = B at *
  generalize unN s p = N at *
  generalize unT s p = T at *
  generalize takeS (unS s p) (unE s p) 4 = Z at *
  generalize unS s p = S at *
  generalize unA s p = A at *
  generalize unE s p = E at *
  generalize unR s p = R at *
  have s0 : (s.size : Int) ≤ 4500 := by omega
  have p0 : (0 : Int) ≤ (p : Int) := by omega
  have p1 : (p : Int) ≤ (s.size : Int) := by omega
  have p2 : (p : Int) + (A : Int) ≤ (s.size : Int) := by omega
  have p3 : (0 : Int) ≤ (A : Int) := by omega
  have hF' : ((F : Int) != 0) = true := by rw [bne_iff_ne]; omega
  clear hs hp hR hrm hRs hF
  go_enter Tryz.func87, Tryz.ntmps87
  go_wp2_with (first | (go_at_call 55; refine (CW.out _).mono ?_; rintro e w1 ⟨rfl, hb1, hg1⟩; have B1 : Hid (Blk w1 w.heap.size 141 (rd R 0 0)) := hb1; have G1 : Hid (w.grownBy w1 none) := hg1; clear hb1 hg1) | (go_at_call 104; refine (CT.out _ _ B1.out).mono ?_; rintro e w2 ⟨rfl, hb2, hg2⟩; have B2 : Hid (Blk w2 w.heap.size 141 (rd S A E)) := hb2; have G2 : Hid (w.grownBy w2 none) := grown_through G1.out hg2 (Nat.le_refl _); clear hb2 hg2) | (go_at_call 110; refine (at_any w.heap.size S A E _ B2.out).mono ?_; rintro e w' ⟨rfl, hw⟩; have hw2 := hw.symm; clear hw; subst hw2) | (go_at_call 76; refine (CN.out _ _ B2.out).mono ?_; rintro e w3 ⟨rfl, hb3, hg3⟩; have B3 : Hid (Blk w3 w.heap.size 141 (rd Z B F)) := hb3; have G3 : Hid (w.grownBy w3 none) := grown_through G2.out hg3 (Nat.le_refl _); clear hb3 hg3) | (go_at_call 81; refine (err_any w.heap.size Z B F _ B3.out).mono ?_; rintro e w' ⟨rfl, hw⟩; have hw2 := hw.symm; clear hw; subst hw2))
  exact bodyPost_ret (results_tri Tryz.results87 _ _ _) rfl ⟨rfl, G3.out⟩
set_option maxRecDepth 100000 in
set_option maxHeartbeats 400000 in
theorem unframe_in (s : ByteArray) (p : Nat) (w : World) (hs : s.size ≤ 4500) (hp : p ≤ s.size) (hF : unF s p = 0) (V : ByteArray) (x y : Nat) (hV : (unN s p = adl (s.extract p (p + unA s p)) ∧ V = unT s p ∧ x = p + unB s p ∧ y = 0) ∨ (unN s p ≠ adl (s.extract p (p + unA s p)) ∧ V = ⟨#[]⟩ ∧ x = 0 ∧ y = 6)) : Calls Tryz.prog 87 #[.string s, .int .i64 p] w fun e w' => e = .returned (.tuple #[.string V, .int .i64 x, .int .i64 y]) ∧ w.grownBy w' none := by
  have hR : (unR s p).size ≤ 4500 := by unfold unR; rw [ByteArray.size_extract]; omega
  have hrm := un_room s p
  have hRs : (unR s p).size = s.size - p := by unfold unR; rw [ByteArray.size_extract]; omega
  have CT : Hid (∀ w b, Blk w b 141 (rd (unR s p) 0 0) → Calls Tryz.prog 104 #[.pointer (some ⟨b, 0, none⟩), .int .i64 2147483647] w fun r w' => r = .returned (.string (unT s p)) ∧ Blk w' b 141 (rd (unS s p) (unA s p) (unE s p)) ∧ w.grownBy w' (some b)) := fun w b h => text_any b _ 0 0 2147483647 w h (by omega) (by omega)
  have CN : Hid (∀ w b, Blk w b 141 (rd (unS s p) (unA s p) (unE s p)) → Calls Tryz.prog 76 #[.pointer (some ⟨b, 0, none⟩), .int .i64 4] w fun r w' => r = .returned (.int .u64 (unN s p : Nat)) ∧ Blk w' b 141 (rd (takeS (unS s p) (unE s p) 4) (unB s p) (unF s p)) ∧ w.grownBy w' (some b)) := fun w b h => rnumber_any b _ _ _ 4 w h (by omega) (by omega)
  have CW : Hid (∀ w, Calls Tryz.prog 55 #[.string (s.extract p s.size)] w fun e w' => e = .returned (.pointer (some ⟨w.heap.size, 0, none⟩)) ∧ Blk w' w.heap.size 141 (rd (unR s p) 0 0) ∧ w.grownBy w' none) := fun w => newReader_any _ w
  have hNl := unN_lt s p
  have hB : unB s p ≤ unA s p + 4 := by unfold unB takeA; split <;> omega
  have CA : Hid (∀ w, Calls Tryz.prog 111 #[.string (s.extract p (p + unA s p))] w fun e w' => e = .returned (.int .u32 (adl (s.extract p (p + unA s p)) : Nat)) ∧ w' = w) := fun w => adler_any _ w (by rw [ByteArray.size_extract]; omega)
  have hcl := adl_lt (s.extract p (p + unA s p))
  obtain ⟨c, ec⟩ : ∃ c, adl (s.extract p (p + unA s p)) = c := ⟨_, rfl⟩
  rw [ec] at CA hcl hV
  clear ec
  rw [hF] at CN
  clear hF
  generalize unB s p = B at *
  generalize unN s p = N at *
  generalize unT s p = T at *
  generalize takeS (unS s p) (unE s p) 4 = Z at *
  generalize unS s p = S at *
  generalize unA s p = A at *
  generalize unE s p = E at *
  generalize unR s p = R at *
  have s0 : (s.size : Int) ≤ 4500 := by omega
  have p0 : (0 : Int) ≤ (p : Int) := by omega
  have p1 : (p : Int) ≤ (s.size : Int) := by omega
  have p2 : (p : Int) + (A : Int) ≤ (s.size : Int) := by omega
  have p3 : (0 : Int) ≤ (A : Int) := by omega
  have b1 : (B : Int) ≤ 4600 := by omega
  have b0 : (0 : Int) ≤ (B : Int) := by omega
  have i3 : IntKind.u64.wrap (c : Int) = (c : Int) := by rw [IntKind.wrap_u64]; omega
  clear hs hp hR hrm hRs hNl hB hcl
  rcases hV with ⟨e1, rfl, rfl, rfl⟩ | ⟨e1, rfl, rfl, rfl⟩
  · have e2 : ((N : Int) == (c : Int)) = true := by rw [e1]; simp
    have e3 : ((N : Int) != (c : Int)) = false := by rw [bne, e2]; rfl
    clear e1 e2
    go_enter Tryz.func87, Tryz.ntmps87
    go_wp2_with (first | (go_at_call 111; refine (CA.out _).mono ?_; rintro e w' ⟨rfl, hw⟩; have hw2 := hw.symm; clear hw; subst hw2) | (go_at_call 55; refine (CW.out _).mono ?_; rintro e w1 ⟨rfl, hb1, hg1⟩; have B1 : Hid (Blk w1 w.heap.size 141 (rd R 0 0)) := hb1; have G1 : Hid (w.grownBy w1 none) := hg1; clear hb1 hg1) | (go_at_call 104; refine (CT.out _ _ B1.out).mono ?_; rintro e w2 ⟨rfl, hb2, hg2⟩; have B2 : Hid (Blk w2 w.heap.size 141 (rd S A E)) := hb2; have G2 : Hid (w.grownBy w2 none) := grown_through G1.out hg2 (Nat.le_refl _); clear hb2 hg2) | (go_at_call 110; refine (at_any w.heap.size Z B 0 _ B3.out).mono ?_; rintro e w' ⟨rfl, hw⟩; have hw2 := hw.symm; clear hw; subst hw2) | (go_at_call 110; refine (at_any w.heap.size S A E _ B2.out).mono ?_; rintro e w' ⟨rfl, hw⟩; have hw2 := hw.symm; clear hw; subst hw2) | (go_at_call 76; refine (CN.out _ _ B2.out).mono ?_; rintro e w3 ⟨rfl, hb3, hg3⟩; have B3 : Hid (Blk w3 w.heap.size 141 (rd Z B 0)) := hb3; have G3 : Hid (w.grownBy w3 none) := grown_through G2.out hg3 (Nat.le_refl _); clear hb3 hg3) | (go_at_call 81; refine (err_any w.heap.size Z B 0 _ B3.out).mono ?_; rintro e w' ⟨rfl, hw⟩; have hw2 := hw.symm; clear hw; subst hw2))
    exact bodyPost_ret (results_tri Tryz.results87 _ _ _) rfl ⟨rfl, G3.out⟩
  · have e2 : ((N : Int) == (c : Int)) = false := by simp; omega
    have e3 : ((N : Int) != (c : Int)) = true := by rw [bne, e2]; rfl
    clear e1 e2
    go_enter Tryz.func87, Tryz.ntmps87
    go_wp2_with (first | (go_at_call 111; refine (CA.out _).mono ?_; rintro e w' ⟨rfl, hw⟩; have hw2 := hw.symm; clear hw; subst hw2) | (go_at_call 55; refine (CW.out _).mono ?_; rintro e w1 ⟨rfl, hb1, hg1⟩; have B1 : Hid (Blk w1 w.heap.size 141 (rd R 0 0)) := hb1; have G1 : Hid (w.grownBy w1 none) := hg1; clear hb1 hg1) | (go_at_call 104; refine (CT.out _ _ B1.out).mono ?_; rintro e w2 ⟨rfl, hb2, hg2⟩; have B2 : Hid (Blk w2 w.heap.size 141 (rd S A E)) := hb2; have G2 : Hid (w.grownBy w2 none) := grown_through G1.out hg2 (Nat.le_refl _); clear hb2 hg2) | (go_at_call 110; refine (at_any w.heap.size Z B 0 _ B3.out).mono ?_; rintro e w' ⟨rfl, hw⟩; have hw2 := hw.symm; clear hw; subst hw2) | (go_at_call 110; refine (at_any w.heap.size S A E _ B2.out).mono ?_; rintro e w' ⟨rfl, hw⟩; have hw2 := hw.symm; clear hw; subst hw2) | (go_at_call 76; refine (CN.out _ _ B2.out).mono ?_; rintro e w3 ⟨rfl, hb3, hg3⟩; have B3 : Hid (Blk w3 w.heap.size 141 (rd Z B 0)) := hb3; have G3 : Hid (w.grownBy w3 none) := grown_through G2.out hg3 (Nat.le_refl _); clear hb3 hg3) | (go_at_call 81; refine (err_any w.heap.size Z B 0 _ B3.out).mono ?_; rintro e w' ⟨rfl, hw⟩; have hw2 := hw.symm; clear hw; subst hw2))
    exact bodyPost_ret (results_tri Tryz.results87 _ _ _) rfl ⟨rfl, G3.out⟩
end Go.Proofs.YtbhmmcelndmijaaGreat.Wi
namespace Go.Proofs.YtbhmmcelndmijaaGreat
open Go.RowKit Go.Maps
theorem hid {p : Prop} (h : p) : Hid p := h
structure Lg where
  d : Nat
  recs : List (Nat × ByteArray)
  com : Nat
  len : Nat
  wait : ByteArray
  root : ByteArray
  marked : Bool
def recL (p : Nat × ByteArray) : List Value := [.int .i64 p.1, .string p.2]
def recsL (l : List (Nat × ByteArray)) : List Value := l.flatMap recL
theorem recsL_len (l : List (Nat × ByteArray)) : (recsL l).length = l.length * 2 := by
  induction l with
  | nil => rfl
  | cons p r ih =>
    unfold recsL at ih ⊢
    rw [List.flatMap_cons, List.length_append, ih, List.length_cons]
    show 2 + _ = _
    omega
theorem recsL_snoc (l : List (Nat × ByteArray)) (p : Nat × ByteArray) : recsL l ++ recL p = recsL (l ++ [p]) := by
  unfold recsL
  rw [List.flatMap_append, List.flatMap_cons, List.flatMap_nil, List.append_nil]
def rowG (d : Nat) (vr vw : Value) (com len : Nat) (root : ByteArray) (marked : Bool) : Array Value := #[.pointer (some ⟨d, 0, none⟩), vr, .int .i64 com, .int .i64 len, vw, .string root, .bool marked]
/-- Block b is a log of this state; its rows lie from base on. -/
def IsLog (w : World) (base b : Nat) (g : Lg) : Prop :=
  base ≤ b ∧ ∃ vr vw, Blk w b 87 (rowG g.d vr vw g.com g.len g.root g.marked) ∧ w.ownsRow base 111 2 vr g.recs.length (recsL g.recs) ∧ w.ownsRow base 5 1 vw g.wait.size (Lib.strCells g.wait)
/-- What a log's calls may turn: its block, its rows. -/
structure LT (base b : Nat) (w w' : World) : Prop where
  os : w'.os = w.os
  tape : w'.tape = w.tape
  output : w'.output = w.output
  size : w.heap.size ≤ w'.heap.size
  keep : ∀ i, i < w.heap.size → (i < base ∨ (i ≠ b ∧ ∀ cs t fz, w.heap[i]? = some (.cells cs t fz) → t ≠ 111 ∧ t ≠ 5)) → w'.heap[i]? = w.heap[i]?
theorem LT.of_grown {base b : Nat} {w w' : World} {row : Option Nat} (h : w.grownBy w' row) (hr : ∀ i, i < w.heap.size → (i < base ∨ (i ≠ b ∧ ∀ cs t fz, w.heap[i]? = some (.cells cs t fz) → t ≠ 111 ∧ t ≠ 5)) → some i ≠ row) : LT base b w w' :=
  ⟨h.os, h.tape, h.output, h.size, fun i hi hs => h.block i hi (hr i hi hs)⟩
theorem LT.of_none {base b : Nat} {w w' : World} (h : w.grownBy w' none) : LT base b w w' := LT.of_grown h (fun _ _ _ => by simp)
theorem LT.of_self {base b : Nat} {w w' : World} (h : w.grownBy w' (some b)) (hb : base ≤ b) : LT base b w w' := LT.of_grown h (fun i _ hs e => by
  have e' := Option.some.inj e
  rcases hs with hs | ⟨hn, _⟩
  · omega
  · exact hn e')
theorem LT.refl (base b : Nat) (w : World) : LT base b w w := LT.of_none (grown_refl _ _)
theorem LT.trans {base b : Nat} {w w' w'' : World} (h : LT base b w w') (k : LT base b w' w'') : LT base b w w'' :=
  ⟨k.os.trans h.os, k.tape.trans h.tape, k.output.trans h.output, Nat.le_trans h.size k.size, fun i hi hs => by
    have e := h.keep i hi hs
    refine (k.keep i (Nat.lt_of_lt_of_le hi h.size) ?_).trans e
    rcases hs with hs | ⟨hn, hc⟩
    · exact Or.inl hs
    · exact Or.inr ⟨hn, fun cs t fz hq => hc cs t fz (by rw [← e]; exact hq)⟩⟩
theorem LT.grown {b : Nat} {w w' w'' : World} (h0 : w.grownBy w' none) (h : LT w.heap.size b w' w'') : w.grownBy w'' none :=
  ⟨h.os.trans h0.os, h.tape.trans h0.tape, h.output.trans h0.output, Nat.le_trans h0.size h.size, fun i hi _ => (h.keep i (Nat.lt_of_lt_of_le hi h0.size) (Or.inl hi)).trans (h0.block i hi (by simp))⟩
theorem rowG_kept {w w' : World} {base e size n b : Nat} {v : Value} {xs : List Value} {t : TypeId} {cs : Array Value} (h : w.ownsRow base e size v n xs) (hb : Blk w b t cs) (ht : t ≠ e) (hg : w.grownBy w' (some b)) : w'.ownsRow base e size v n xs := by
  refine h.kept hg ?_
  cases hq : v.ownBlock with
  | none => exact Or.inl rfl
  | some g =>
    refine Or.inr (fun e1 => ?_)
    have e' : g = b := Option.some.inj e1
    subst e'
    rcases h.2 with ⟨rfl, _⟩ | ⟨g', cap, cur, rfl, _, hh, _⟩
    · cases hq
    · have : g' = g := Option.some.inj hq
      subst this
      have hB' : w.heap[g']? = some (.cells cs t (0, 0)) := hb
      rw [hh] at hB'
      injection hB' with q
      injection q with q1 q2 q3
      exact ht q2.symm
theorem IsLog.kept {w w' : World} {base b : Nat} {g : Lg} (h : IsLog w base b g) (hg : w.grownBy w' none) : IsLog w' base b g := by
  obtain ⟨h0, vr, vw, hb, hr, hw⟩ := h
  refine ⟨h0, vr, vw, hb.kept hg (by simp), hr.kept hg ?_, hw.kept hg ?_⟩
  · cases vr.ownBlock with
    | none => exact Or.inl rfl
    | some x => exact Or.inr (by simp)
  · cases vw.ownBlock with
    | none => exact Or.inl rfl
    | some x => exact Or.inr (by simp)
theorem IsLog.drew {w : World} {base b : Nat} {g : Lg} (h : IsLog w base b g) : IsLog w.drew base b g := h
theorem Blk.g7 {w : World} {b d com len : Nat} {vr vw : Value} {root : ByteArray} {mk : Bool} (h : Blk w b 87 (rowG d vr vw com len root mk)) : (w.cell? ⟨b, 0, none⟩ = some (.pointer (some ⟨d, 0, none⟩)) ∧ w.cell? ⟨b, 1, none⟩ = some vr ∧ w.cell? ⟨b, 2, none⟩ = some (.int .i64 com) ∧ w.cell? ⟨b, 3, none⟩ = some (.int .i64 len) ∧ w.cell? ⟨b, 4, none⟩ = some vw ∧ w.cell? ⟨b, 5, none⟩ = some (.string root) ∧ w.cell? ⟨b, 6, none⟩ = some (.bool mk)) ∧ w.frozen? ⟨b, 1, none⟩ = false ∧ w.frozen? ⟨b, 2, none⟩ = false ∧ w.frozen? ⟨b, 3, none⟩ = false ∧ w.frozen? ⟨b, 4, none⟩ = false ∧ w.frozen? ⟨b, 5, none⟩ = false ∧ w.frozen? ⟨b, 6, none⟩ = false :=
  ⟨⟨h.cell 0, h.cell 1, h.cell 2, h.cell 3, h.cell 4, h.cell 5, h.cell 6⟩, h.frozen 1, h.frozen 2, h.frozen 3, h.frozen 4, h.frozen 5, h.frozen 6⟩
theorem row_form {w : World} {base e size n : Nat} {v : Value} {xs : List Value} (h : w.ownsRow base e size v n xs) : ∃ pa cap, v = .slice pa n cap ∧ n ≤ cap ∧ cap ≤ maxLen ∧ (pa = none → cap = 0) := by
  rcases h.2 with ⟨rfl, rfl⟩ | ⟨g, cap, cur, rfl, _, _, hc, hm, _⟩
  · exact ⟨none, 0, rfl, Nat.le_refl _, Nat.zero_le _, fun _ => rfl⟩
  · exact ⟨_, cap, rfl, hc, hm, fun e => by cases e⟩
set_option maxRecDepth 100000 in
set_option maxHeartbeats 1000000 in
theorem mark_any (base b : Nat) (g : Lg) (n : Nat) (r : ByteArray) (w : World) (h : IsLog w base b g) (hl : g.recs.length ≤ 1000000) :
    Calls Tryz.prog 88 #[.pointer (some ⟨b, 0, none⟩), .int .i64 n, .string r] w fun e w' => e = .returned (.tuple #[]) ∧ IsLog w' base b { g with com := g.recs.length, len := n, wait := ⟨#[]⟩, root := r, marked := true } ∧ w.grownBy w' (some b) := by
  obtain ⟨h0, vr, vw, hb, hr, hw⟩ := h
  obtain ⟨pr, cr, rfl, _⟩ := row_form hr
  obtain ⟨pw, cw, rfl, _⟩ := row_form hw
  have R1 : Hid (IsLog (((((w.setCell ⟨b, 2, none⟩ (.int .i64 g.recs.length)).setCell ⟨b, 3, none⟩ (.int .i64 n)).setCell ⟨b, 4, none⟩ (.slice none 0 0)).setCell ⟨b, 5, none⟩ (.string r)).setCell ⟨b, 6, none⟩ (.bool true)) base b { g with com := g.recs.length, len := n, wait := ⟨#[]⟩, root := r, marked := true } ∧ w.grownBy (((((w.setCell ⟨b, 2, none⟩ (.int .i64 g.recs.length)).setCell ⟨b, 3, none⟩ (.int .i64 n)).setCell ⟨b, 4, none⟩ (.slice none 0 0)).setCell ⟨b, 5, none⟩ (.string r)).setCell ⟨b, 6, none⟩ (.bool true)) (some b)) := by
    have GF := grown_set (grown_set (grown_set (grown_set (grown_set (grown_refl w (some b)) 2 (.int .i64 g.recs.length)) 3 (.int .i64 n)) 4 (.slice none 0 0)) 5 (.string r)) 6 (.bool true)
    refine ⟨⟨h0, .slice pr g.recs.length cr, .slice none 0 0, ?_, rowG_kept hr hb (by decide) GF, ⟨rfl, Or.inl ⟨rfl, rfl⟩⟩⟩, GF⟩
    exact ((((hb.set 2 (.int .i64 g.recs.length)).set 3 (.int .i64 n)).set 4 (.slice none 0 0)).set 5 (.string r)).set 6 (.bool true)
  have hll : (g.recs.length : Int) ≤ 1000000 := by omega
  obtain ⟨⟨c0, c1, c2, c3, c4, c5, c6⟩, f1, f2, f3, f4, f5, f6⟩ := hb.g7
  clear hb hr hw
  generalize g.recs.length = L at *
  go_enter Tryz.func88, Tryz.ntmps88
  go_wp2
  first
  | exact bodyPost_end (results_none rfl _ _ _) rfl ⟨rfl, R1.out.1, R1.out.2⟩
  | exact bodyPost_ret (results_none rfl _ _ _) rfl ⟨rfl, R1.out.1, R1.out.2⟩
end Go.Proofs.YtbhmmcelndmijaaGreat
