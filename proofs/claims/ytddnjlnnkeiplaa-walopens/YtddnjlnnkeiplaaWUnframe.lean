/-
  The contracts of Unframe: the program's and the document's.
-/
import Derived.Test.YtddnjlnnkeiplaaKWFrame
namespace Go.Proofs.Ytddnjlnnkeiplaa.Wi
open Go.RowKit
theorem results_tri {fn : Func} {a b c : Tmp} (h : fn.results = #[.tmp a, .tmp b, .tmp c]) (tmps : Array Value) (P : Program) (w : World) :
    (results fn tmps).run P w = .ok (.tuple #[tmps.getD a undef, tmps.getD b undef, tmps.getD c undef]) w := by
  simp only [results, h]
  simp
set_option maxRecDepth 100000 in
set_option maxHeartbeats 400000 in
theorem unframe_out (s : ByteArray) (p : Int) (w : World) (h : p < 0 ∨ (s.size : Int) < p) : Calls Try.prog 76 #[.string s, .int .i64 p] w fun e w' => e = .returned (.tuple #[.string ⟨#[]⟩, .int .i64 0, .int .i64 1]) ∧ w' = w := by
  by_cases h0 : p < 0
  · clear h
    go_enter Try.func76, Try.ntmps76
    go_wp2
    exact bodyPost_ret (results_tri Try.results76 _ _ _) rfl ⟨rfl, rfl⟩
  · have h1 : (s.size : Int) < p := by omega
    clear h
    go_enter Try.func76, Try.ntmps76
    go_wp2
    exact bodyPost_ret (results_tri Try.results76 _ _ _) rfl ⟨rfl, rfl⟩
set_option maxRecDepth 100000 in
set_option maxHeartbeats 400000 in
theorem refUnframe_out (s : ByteArray) (p : Int) (w : World) (h : p < 0 ∨ (s.size : Int) < p) : Calls Try.prog 29 #[.string s, .int .i64 p] w fun e w' => e = .returned (.tuple #[.string ⟨#[]⟩, .int .i64 0, .int .i64 1]) ∧ w' = w := by
  by_cases h0 : p < 0
  · clear h
    go_enter Try.func29, Try.ntmps29
    go_wp2
    exact bodyPost_ret (results_tri Try.results29 _ _ _) rfl ⟨rfl, rfl⟩
  · have h1 : (s.size : Int) < p := by omega
    clear h
    go_enter Try.func29, Try.ntmps29
    go_wp2
    exact bodyPost_ret (results_tri Try.results29 _ _ _) rfl ⟨rfl, rfl⟩
/-- What is left of a text at a place; what Unframe takes there; where it stands; the check that lies there; the error. -/
def unR (s : ByteArray) (p : Nat) : ByteArray := s.extract p s.size
def unT (s : ByteArray) (p : Nat) : ByteArray := txtV (unR s p) 0 2147483647
def unS (s : ByteArray) (p : Nat) : ByteArray := txtS (unR s p) 0 2147483647
def unA (s : ByteArray) (p : Nat) : Nat := txtA (unR s p) 0 0 2147483647
def unE (s : ByteArray) (p : Nat) : Nat := txtE (unR s p) 0 2147483647
def unN (s : ByteArray) (p : Nat) : Nat := leT (takeV (unS s p) 4) (takeV (unS s p) 4).size
def unB (s : ByteArray) (p : Nat) : Nat := takeA (unS s p) (unA s p) 4
def unF (s : ByteArray) (p : Nat) : Nat := takeE (unS s p) (unE s p) 4
theorem un_room (s : ByteArray) (p : Nat) : unA s p + (unS s p).size ≤ (unR s p).size := by
  have h1 := take_room (cntS (unR s p) 0 2147483647) (takeA (unR s p) 0 4) (cntE (unR s p) 0 2147483647) (cntN (unR s p) 0 2147483647)
  have h2 := cnt_room (unR s p) 0 0 2147483647
  unfold unA unS txtA txtS
  omega
theorem unN_lt (s : ByteArray) (p : Nat) : unN s p < 4294967296 := by
  have h1 := leT_lt (takeV (unS s p) 4) (takeV (unS s p) 4).size
  have h2 := takeV_le (unS s p) 4
  have h3 : 2 ^ (8 * (takeV (unS s p) 4).size) ≤ 2 ^ 32 := Nat.pow_le_pow_right (by omega) (by omega)
  unfold unN
  omega
set_option maxRecDepth 100000 in
set_option maxHeartbeats 400000 in
theorem unframe_bad (s : ByteArray) (p : Nat) (w : World) (hs : s.size ≤ 4500) (hp : p ≤ s.size) (hF : unF s p ≠ 0) : Calls Try.prog 76 #[.string s, .int .i64 p] w fun e w' => e = .returned (.tuple #[.string ⟨#[]⟩, .int .i64 0, .int .i64 (unF s p : Nat)]) ∧ w.grownBy w' none := by
  have hR : (unR s p).size ≤ 4500 := by unfold unR; rw [ByteArray.size_extract]; omega
  have hrm := un_room s p
  have hRs : (unR s p).size = s.size - p := by unfold unR; rw [ByteArray.size_extract]; omega
  have CT : Hid (∀ w b, Blk w b 134 (rd (unR s p) 0 0) → Calls Try.prog 83 #[.pointer (some ⟨b, 0, none⟩), .int .i64 2147483647] w fun r w' => r = .returned (.string (unT s p)) ∧ Blk w' b 134 (rd (unS s p) (unA s p) (unE s p)) ∧ w.grownBy w' (some b)) := fun w b h => text_any b _ 0 0 2147483647 w h (by omega) (by omega)
  have CN : Hid (∀ w b, Blk w b 134 (rd (unS s p) (unA s p) (unE s p)) → Calls Try.prog 85 #[.pointer (some ⟨b, 0, none⟩), .int .i64 4] w fun r w' => r = .returned (.int .u64 (unN s p : Nat)) ∧ Blk w' b 134 (rd (takeS (unS s p) (unE s p) 4) (unB s p) (unF s p)) ∧ w.grownBy w' (some b)) := fun w b h => rnumber_any b _ _ _ 4 w h (by omega) (by omega)
  have CW : Hid (∀ w, Calls Try.prog 82 #[.string (s.extract p s.size)] w fun e w' => e = .returned (.pointer (some ⟨w.heap.size, 0, none⟩)) ∧ Blk w' w.heap.size 134 (rd (unR s p) 0 0) ∧ w.grownBy w' none) := fun w => newReader_any _ w
  generalize unF s p = F at *
  generalize unB s p = B at *
  generalize unN s p = N at *
  generalize unT s p = T at *
  generalize takeS (unS s p) (unE s p) 4 = Z at *
  generalize unS s p = S at *
  generalize unA s p = A at *
  generalize unE s p = E at *
  generalize unR s p = R at *
  have s0 : (s.size : Int) ≤ 4500 := by omega
  have p0 : (0 : Int) ≤ (p : Int) := by omega
  have p1 : (p : Int) ≤ (s.size : Int) := by omega
  have p2 : (p : Int) + (A : Int) ≤ (s.size : Int) := by omega
  have p3 : (0 : Int) ≤ (A : Int) := by omega
  have hF' : ((F : Int) != 0) = true := by rw [bne_iff_ne]; omega
  clear hs hp hR hrm hRs hF
  go_enter Try.func76, Try.ntmps76
  go_wp2_with (first | (go_at_call 82; refine (CW.out _).mono ?_; rintro e w1 ⟨rfl, hb1, hg1⟩; have B1 : Hid (Blk w1 w.heap.size 134 (rd R 0 0)) := hb1; have G1 : Hid (w.grownBy w1 none) := hg1; clear hb1 hg1) | (go_at_call 83; refine (CT.out _ _ B1.out).mono ?_; rintro e w2 ⟨rfl, hb2, hg2⟩; have B2 : Hid (Blk w2 w.heap.size 134 (rd S A E)) := hb2; have G2 : Hid (w.grownBy w2 none) := grown_through G1.out hg2 (Nat.le_refl _); clear hb2 hg2) | (go_at_call 84; refine (at_any w.heap.size S A E _ B2.out).mono ?_; rintro e w' ⟨rfl, hw⟩; have hw2 := hw.symm; clear hw; subst hw2) | (go_at_call 85; refine (CN.out _ _ B2.out).mono ?_; rintro e w3 ⟨rfl, hb3, hg3⟩; have B3 : Hid (Blk w3 w.heap.size 134 (rd Z B F)) := hb3; have G3 : Hid (w.grownBy w3 none) := grown_through G2.out hg3 (Nat.le_refl _); clear hb3 hg3) | (go_at_call 86; refine (err_any w.heap.size Z B F _ B3.out).mono ?_; rintro e w' ⟨rfl, hw⟩; have hw2 := hw.symm; clear hw; subst hw2))
  exact bodyPost_ret (results_tri Try.results76 _ _ _) rfl ⟨rfl, G3.out⟩
set_option maxRecDepth 100000 in
set_option maxHeartbeats 400000 in
theorem unframe_in (s : ByteArray) (p : Nat) (w : World) (hs : s.size ≤ 4500) (hp : p ≤ s.size) (hF : unF s p = 0) (V : ByteArray) (x y : Nat) (hV : (unN s p = adl (s.extract p (p + unA s p)) ∧ V = unT s p ∧ x = p + unB s p ∧ y = 0) ∨ (unN s p ≠ adl (s.extract p (p + unA s p)) ∧ V = ⟨#[]⟩ ∧ x = 0 ∧ y = 6)) : Calls Try.prog 76 #[.string s, .int .i64 p] w fun e w' => e = .returned (.tuple #[.string V, .int .i64 x, .int .i64 y]) ∧ w.grownBy w' none := by
  have hR : (unR s p).size ≤ 4500 := by unfold unR; rw [ByteArray.size_extract]; omega
  have hrm := un_room s p
  have hRs : (unR s p).size = s.size - p := by unfold unR; rw [ByteArray.size_extract]; omega
  have CT : Hid (∀ w b, Blk w b 134 (rd (unR s p) 0 0) → Calls Try.prog 83 #[.pointer (some ⟨b, 0, none⟩), .int .i64 2147483647] w fun r w' => r = .returned (.string (unT s p)) ∧ Blk w' b 134 (rd (unS s p) (unA s p) (unE s p)) ∧ w.grownBy w' (some b)) := fun w b h => text_any b _ 0 0 2147483647 w h (by omega) (by omega)
  have CN : Hid (∀ w b, Blk w b 134 (rd (unS s p) (unA s p) (unE s p)) → Calls Try.prog 85 #[.pointer (some ⟨b, 0, none⟩), .int .i64 4] w fun r w' => r = .returned (.int .u64 (unN s p : Nat)) ∧ Blk w' b 134 (rd (takeS (unS s p) (unE s p) 4) (unB s p) (unF s p)) ∧ w.grownBy w' (some b)) := fun w b h => rnumber_any b _ _ _ 4 w h (by omega) (by omega)
  have CW : Hid (∀ w, Calls Try.prog 82 #[.string (s.extract p s.size)] w fun e w' => e = .returned (.pointer (some ⟨w.heap.size, 0, none⟩)) ∧ Blk w' w.heap.size 134 (rd (unR s p) 0 0) ∧ w.grownBy w' none) := fun w => newReader_any _ w
  have hNl := unN_lt s p
  have hB : unB s p ≤ unA s p + 4 := by unfold unB takeA; split <;> omega
  have CA : Hid (∀ w, Calls Try.prog 68 #[.string (s.extract p (p + unA s p))] w fun e w' => e = .returned (.int .u32 (adl (s.extract p (p + unA s p)) : Nat)) ∧ w' = w) := fun w => adler_any _ w (by rw [ByteArray.size_extract]; omega)
  have hcl := adl_lt (s.extract p (p + unA s p))
  obtain ⟨c, ec⟩ : ∃ c, adl (s.extract p (p + unA s p)) = c := ⟨_, rfl⟩
  rw [ec] at CA hcl hV
  clear ec
  rw [hF] at CN
  clear hF
  generalize unB s p = B at *
  generalize unN s p = N at *
  generalize unT s p = T at *
  generalize takeS (unS s p) (unE s p) 4 = Z at *
  generalize unS s p = S at *
  generalize unA s p = A at *
  generalize unE s p = E at *
  generalize unR s p = R at *
  have s0 : (s.size : Int) ≤ 4500 := by omega
  have p0 : (0 : Int) ≤ (p : Int) := by omega
  have p1 : (p : Int) ≤ (s.size : Int) := by omega
  have p2 : (p : Int) + (A : Int) ≤ (s.size : Int) := by omega
  have p3 : (0 : Int) ≤ (A : Int) := by omega
  have b1 : (B : Int) ≤ 4600 := by omega
  have b0 : (0 : Int) ≤ (B : Int) := by omega
  have i3 : IntKind.u64.wrap (c : Int) = (c : Int) := by rw [IntKind.wrap_u64]; omega
  clear hs hp hR hrm hRs hNl hB hcl
  rcases hV with ⟨e1, rfl, rfl, rfl⟩ | ⟨e1, rfl, rfl, rfl⟩
  · have e2 : ((N : Int) == (c : Int)) = true := by rw [e1]; simp
    have e3 : ((N : Int) != (c : Int)) = false := by rw [bne, e2]; rfl
    clear e1 e2
    go_enter Try.func76, Try.ntmps76
    go_wp2_with (first | (go_at_call 68; refine (CA.out _).mono ?_; rintro e w' ⟨rfl, hw⟩; have hw2 := hw.symm; clear hw; subst hw2) | (go_at_call 82; refine (CW.out _).mono ?_; rintro e w1 ⟨rfl, hb1, hg1⟩; have B1 : Hid (Blk w1 w.heap.size 134 (rd R 0 0)) := hb1; have G1 : Hid (w.grownBy w1 none) := hg1; clear hb1 hg1) | (go_at_call 83; refine (CT.out _ _ B1.out).mono ?_; rintro e w2 ⟨rfl, hb2, hg2⟩; have B2 : Hid (Blk w2 w.heap.size 134 (rd S A E)) := hb2; have G2 : Hid (w.grownBy w2 none) := grown_through G1.out hg2 (Nat.le_refl _); clear hb2 hg2) | (go_at_call 84; refine (at_any w.heap.size Z B 0 _ B3.out).mono ?_; rintro e w' ⟨rfl, hw⟩; have hw2 := hw.symm; clear hw; subst hw2) | (go_at_call 84; refine (at_any w.heap.size S A E _ B2.out).mono ?_; rintro e w' ⟨rfl, hw⟩; have hw2 := hw.symm; clear hw; subst hw2) | (go_at_call 85; refine (CN.out _ _ B2.out).mono ?_; rintro e w3 ⟨rfl, hb3, hg3⟩; have B3 : Hid (Blk w3 w.heap.size 134 (rd Z B 0)) := hb3; have G3 : Hid (w.grownBy w3 none) := grown_through G2.out hg3 (Nat.le_refl _); clear hb3 hg3) | (go_at_call 86; refine (err_any w.heap.size Z B 0 _ B3.out).mono ?_; rintro e w' ⟨rfl, hw⟩; have hw2 := hw.symm; clear hw; subst hw2))
    exact bodyPost_ret (results_tri Try.results76 _ _ _) rfl ⟨rfl, G3.out⟩
  · have e2 : ((N : Int) == (c : Int)) = false := by simp; omega
    have e3 : ((N : Int) != (c : Int)) = true := by rw [bne, e2]; rfl
    clear e1 e2
    go_enter Try.func76, Try.ntmps76
    go_wp2_with (first | (go_at_call 68; refine (CA.out _).mono ?_; rintro e w' ⟨rfl, hw⟩; have hw2 := hw.symm; clear hw; subst hw2) | (go_at_call 82; refine (CW.out _).mono ?_; rintro e w1 ⟨rfl, hb1, hg1⟩; have B1 : Hid (Blk w1 w.heap.size 134 (rd R 0 0)) := hb1; have G1 : Hid (w.grownBy w1 none) := hg1; clear hb1 hg1) | (go_at_call 83; refine (CT.out _ _ B1.out).mono ?_; rintro e w2 ⟨rfl, hb2, hg2⟩; have B2 : Hid (Blk w2 w.heap.size 134 (rd S A E)) := hb2; have G2 : Hid (w.grownBy w2 none) := grown_through G1.out hg2 (Nat.le_refl _); clear hb2 hg2) | (go_at_call 84; refine (at_any w.heap.size Z B 0 _ B3.out).mono ?_; rintro e w' ⟨rfl, hw⟩; have hw2 := hw.symm; clear hw; subst hw2) | (go_at_call 84; refine (at_any w.heap.size S A E _ B2.out).mono ?_; rintro e w' ⟨rfl, hw⟩; have hw2 := hw.symm; clear hw; subst hw2) | (go_at_call 85; refine (CN.out _ _ B2.out).mono ?_; rintro e w3 ⟨rfl, hb3, hg3⟩; have B3 : Hid (Blk w3 w.heap.size 134 (rd Z B 0)) := hb3; have G3 : Hid (w.grownBy w3 none) := grown_through G2.out hg3 (Nat.le_refl _); clear hb3 hg3) | (go_at_call 86; refine (err_any w.heap.size Z B 0 _ B3.out).mono ?_; rintro e w' ⟨rfl, hw⟩; have hw2 := hw.symm; clear hw; subst hw2))
    exact bodyPost_ret (results_tri Try.results76 _ _ _) rfl ⟨rfl, G3.out⟩
end Go.Proofs.Ytddnjlnnkeiplaa.Wi
