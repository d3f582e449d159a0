/-
  Digits in their one form, their bits, and their node. The document's Parts; a digit's text; the node of digits.
-/
import Derived.Test.YtajoncmmdeahnaaGreatDoorDHv
import Derived.Test.YtajoncmmdeahnaaGreatDoorKDFl
namespace Go.Proofs.YtajoncmmdeahnaaGreatDoor.Dg
open Go.RowKit
def dA (A : List UInt8) : List UInt8 := orN (trimL A)
def dB (B : List UInt8) : List UInt8 := orN (trimR B)
theorem app_mk (a b : List UInt8) : mkS a ++ mkS b = mkS (a ++ b) := by
  apply bytes_ext
  rw [mkS_data]
  simp [mkS]
theorem orN_len (l : List UInt8) : 1 ≤ (orN l).length := by
  unfold orN
  by_cases h : l = []
  · rw [if_pos h]; exact Nat.le_refl _
  · rw [if_neg h]; exact List.length_pos_iff.2 h
theorem orN_max (l : List UInt8) : (orN l).length ≤ l.length + 1 := by
  unfold orN
  by_cases h : l = []
  · rw [if_pos h]; simp
  · rw [if_neg h]; omega
theorem orN_le (l : List UInt8) (n : Nat) (h1 : 1 ≤ n) (h : l.length ≤ n) : (orN l).length ≤ n := by
  unfold orN
  by_cases h : l = []
  · rw [if_pos h]; exact h1
  · rw [if_neg h]; assumption
theorem trimL_len (l : List UInt8) : (trimL l).length ≤ l.length := by
  unfold trimL
  have := List.takeWhile_append_dropWhile (p := z0) (l := l)
  have h2 := congrArg List.length this
  rw [List.length_append] at h2
  omega
theorem trimR_len (l : List UInt8) : (trimR l).length ≤ l.length := by
  have := trimL_len l.reverse
  unfold trimL at this
  unfold trimR
  rw [List.length_reverse] at this ⊢
  exact this
theorem trimL_mem {l : List UInt8} {c : UInt8} (h : c ∈ trimL l) : c ∈ l := (List.dropWhile_sublist _).mem h
theorem trimR_mem {l : List UInt8} {c : UInt8} (h : c ∈ trimR l) : c ∈ l := by
  unfold trimR at h
  rw [List.mem_reverse] at h
  have := (List.dropWhile_sublist _).mem h
  exact List.mem_reverse.1 this
theorem orN_dig {l : List UInt8} (h : ∀ c ∈ l, isD c) : ∀ c ∈ orN l, isD c := by
  unfold orN
  by_cases h0 : l = []
  · rw [if_pos h0]
    intro c hc
    rw [List.mem_singleton] at hc
    subst hc
    exact ⟨by decide, by decide⟩
  · rw [if_neg h0]; exact h
theorem dA_dig {A : List UInt8} (h : ∀ c ∈ A, isD c) : ∀ c ∈ dA A, isD c := orN_dig (fun c hc => h c (trimL_mem hc))
theorem dB_dig {B : List UInt8} (h : ∀ c ∈ B, isD c) : ∀ c ∈ dB B, isD c := orN_dig (fun c hc => h c (trimR_mem hc))
theorem calls_at {P : Program} {f : Nat} {args args' : Array Value} {w : World} {Q : Ending → World → Prop} (h : args' = args) (c : Calls P f args w Q) : Calls P f args' w Q := h ▸ c
def GrP (v : Value) (w : World) (e : Ending) (w' : World) : Prop := e = .returned v ∧ w.grownBy w' none
set_option maxRecDepth 100000 in
set_option maxHeartbeats 2000000 in
theorem digits_any (A B : List UInt8) (w : World) (hA : ∀ c ∈ A, isD c) (hB : ∀ c ∈ B, isD c) (hl : A.length + B.length ≤ 40) : Calls Tryz.prog 129 #[.string (mkS (A ++ 46 :: B))] w (GrP (.string (mkS (dA A ++ 46 :: dB B))) w) := by
  have CH := hid (halves_any A B w hA hB (by omega))
  have C1 : Hid (∀ W, Calls Tryz.prog 171 #[.string (mkS A), .string ⟨#[48]⟩] W (StP (trimL A) W)) := fun W => trimLeft_any A W
  have C2 : Hid (∀ W, Calls Tryz.prog 172 #[.string (mkS B), .string ⟨#[48]⟩] W (StP (trimR B) W)) := fun W => trimRight_any B W (by omega)
  have C3 : Hid (∀ W, Calls Tryz.prog 170 #[.string (mkS (trimL A))] W (StP (dA A) W)) := fun W => orN_any _ W
  have C4 : Hid (∀ W, Calls Tryz.prog 170 #[.string (mkS (trimR B))] W (StP (dB B) W)) := fun W => orN_any _ W
  have e1 : mkS (dA A) ++ ⟨#[46]⟩ = mkS (dA A ++ [46]) := app_mk (dA A) [46]
  have e2 : mkS (dA A ++ [46]) ++ mkS (dB B) = mkS (dA A ++ 46 :: dB B) := by rw [app_mk]; simp
  have l1 : (dA A).length ≤ 41 := Nat.le_trans (orN_max _) (by have := trimL_len A; omega)
  have l2 : (dB B).length ≤ 41 := Nat.le_trans (orN_max _) (by have := trimR_len B; omega)
  have f1 : ¬ 9223372036854775807 < (mkS (dA A)).size + 1 := by rw [mkS_size]; omega
  have f2 : ¬ 9223372036854775807 < (mkS (dA A ++ [46])).size + (mkS (dB B)).size := by rw [mkS_size, mkS_size, List.length_append, List.length_singleton]; omega
  clear l1 l2 hl hA hB
  generalize mkS (A ++ 46 :: B) = S at *
  generalize mkS (dA A ++ 46 :: dB B) = R at *
  generalize mkS (dA A ++ [46]) = R1 at *
  obtain ⟨SA, hSA⟩ : ∃ SA, mkS (dA A) = SA := ⟨_, rfl⟩
  obtain ⟨SB, hSB⟩ : ∃ SB, mkS (dB B) = SB := ⟨_, rfl⟩
  unfold StP at C3 C4
  rw [hSA] at e1 f1 C3
  rw [hSB] at e2 f2 C4
  go_enter Tryz.func129, Tryz.ntmps129
  go_wp2_with (first
    | (go_at_call 169; refine CH.out.mono ?_; clear CH; rintro e w1 ⟨rfl, hg⟩; have G1 := hid hg; clear hg)
    | (go_at_call 171; refine (C1.out _).mono ?_; clear C1; rintro e w2 ⟨rfl, hw⟩; have hw2 := hw.symm; clear hw; subst hw2)
    | (go_at_call 170; refine calls_at (args := #[.string (mkS (trimL A))]) rfl ?_; refine (C3.out _).mono ?_; clear C3; rintro e w2 ⟨rfl, hw⟩; have hw2 := hw.symm; clear hw; subst hw2)
    | (go_at_call 172; refine (C2.out _).mono ?_; clear C2; rintro e w2 ⟨rfl, hw⟩; have hw2 := hw.symm; clear hw; subst hw2)
    | (go_at_call 170; refine calls_at (args := #[.string (mkS (trimR B))]) rfl ?_; refine (C4.out _).mono ?_; clear C4; rintro e w2 ⟨rfl, hw⟩; have hw2 := hw.symm; clear hw; subst hw2))
  go_ret
  exact ⟨rfl, G1.out⟩
theorem Gl.kept {w w' : World} (h : Gl w) (hg : w.grownBy w' none) : Gl w' := by
  have k : ∀ b o v, w.cell? ⟨b, o, none⟩ = some v → w'.cell? ⟨b, o, none⟩ = some v := fun b o v hv => by
    have hlt : b < w.heap.size := by
      by_cases hlt : b < w.heap.size
      · exact hlt
      · simp [World.cell?, Array.getElem?_eq_none (Nat.le_of_not_lt hlt)] at hv
    exact (World.cell?_of_block (hg.block b hlt (by simp))).trans hv
  obtain ⟨g, o, n, c, p1, p2, p5⟩ := h.pow
  exact ⟨k _ _ _ h.opt, k _ _ _ h.man, g, o, n, c, k _ _ _ p1, p2, fun j v hv => k _ _ _ (p5 j v hv)⟩
set_option maxRecDepth 100000 in
theorem isNaN_no (q : Nat) (w : World) (h : FloatKind.f64.format.order q q = some .eq) : Calls Tryz.prog 131 #[.float .f64 q] w fun e w' => e = .returned (.bool false) ∧ w' = w := by
  go_enter Tryz.func131, Tryz.ntmps131
  go_wp2
  go_ret
  exact ⟨rfl, rfl⟩
theorem bits_run (q : Nat) (w : World) : (callFunc 133 #[.float .f64 q]).run Tryz.prog w = .ok (.value (.int .u64 q)) w := by kernel_rfl
theorem dig_at {l : List UInt8} (h : ∀ c ∈ l, isD c) : ∀ k (hk : k < (mkS l).size), isD ((mkS l)[k]'hk) := fun k hk => by
  rw [mkS_get]
  exact h _ (List.getElem_mem _)
def dM (A B : List UInt8) : Nat := val (dA A ++ dB B)
set_option maxRecDepth 100000 in
set_option maxHeartbeats 4000000 in
theorem bits_any (A B : List UInt8) (w : World) (hG : Gl w) (hA : ∀ c ∈ A, isD c) (hB : ∀ c ∈ B, isD c) (hl : A.length ≤ 7) (hl2 : B.length ≤ 8) : Calls Tryz.prog 96 #[.string (mkS (A ++ 46 :: B))] w (GrP (.int .i64 (quo (dM A B) (dB B).length : Nat)) w) := by
  have x0 : 1 ≤ (dB B).length := orN_len _
  have x1 : (dB B).length ≤ 8 := orN_le _ 8 (by decide) (by have := trimR_len B; omega)
  have y1 : (dA A).length ≤ 7 := orN_le _ 7 (by decide) (by have := trimL_len A; omega)
  have dd : ∀ c ∈ dA A ++ dB B, isD c := fun c hc => (List.mem_append.1 hc).elim (dA_dig hA c) (dB_dig hB c)
  have C5 := hid (digits_any A B w hA hB (by omega))
  have C16 : Hid (∀ W, Calls Tryz.prog 118 #[.string (mkS (dA A ++ 46 :: dB B)), .string ⟨#[46]⟩] W fun e w' => e = .returned (.tuple #[.string (mkS (dA A)), .string (mkS (dB B)), .bool true]) ∧ W.grownBy w' none) := fun W => cut_any _ _ W (dA_dig hA) (by omega)
  have C17 : Hid (∀ W, w.grownBy W none → Calls Tryz.prog 130 #[.string (mkS (dA A ++ dB B))] W (NrP (floatOfInt .f64 (dM A B)) W)) := fun W hW => by
    have := nearest_digits (mkS (dA A ++ dB B)) W (by rw [mkS_size, List.length_append]; omega) (by rw [mkS_size, List.length_append]; omega) (dig_at dd) (hG.kept hW)
    rw [mkS_data] at this
    exact this
  have C18 : Hid (∀ W, Calls Tryz.prog 16 #[.int .i64 (dB B).length] W fun e w' => e = .returned (.string ⟨#[UInt8.ofNat (48 + (dB B).length)]⟩) ∧ w' = W) := fun W => small_any _ W x0 x1
  have C17b : Hid (∀ W, w.grownBy W none → Calls Tryz.prog 130 #[.string ⟨#[49, 101, UInt8.ofNat (48 + (dB B).length)]⟩] W (NrP (floatOfInt .f64 ((10 ^ (dB B).length : Nat) : Int)) W)) := fun W hW => nearest_exp _ _ W rfl x0 x1 (hG.kept hW)
  have QR : ∀ W, (binOp BinOp.quo 167 (.float .f64 (floatOfInt .f64 (dM A B))) (.float .f64 (floatOfInt .f64 ((10 ^ (dB B).length : Nat) : Int)))).run Tryz.prog W = .ok (.float .f64 (quo (dM A B) (dB B).length)) W := fun W => quo_run _ _ W x0 x1
  obtain ⟨_, Q2, Q3⟩ := quo_is (dM A B) (dB B).length x0 x1
  have C19 : Hid (∀ W, Calls Tryz.prog 131 #[.float .f64 (quo (dM A B) (dB B).length)] W fun e w' => e = .returned (.bool false) ∧ w' = W) := fun W => isNaN_no _ W Q2
  have BR : ∀ W, (callFunc 133 #[.float .f64 (quo (dM A B) (dB B).length)]).run Tryz.prog W = .ok (.value (.int .u64 (quo (dM A B) (dB B).length : Nat))) W := fun W => bits_run _ W
  have e1 : mkS (dA A) ++ mkS (dB B) = mkS (dA A ++ dB B) := app_mk _ _
  have e2 : (⟨#[49, 101]⟩ : ByteArray) ++ ⟨#[UInt8.ofNat (48 + (dB B).length)]⟩ = ⟨#[49, 101, UInt8.ofNat (48 + (dB B).length)]⟩ := app_mk [49, 101] [UInt8.ofNat (48 + (dB B).length)]
  have f1 : ¬ 9223372036854775807 < (mkS (dA A)).size + (mkS (dB B)).size := by rw [mkS_size, mkS_size]; omega
  have sb : (mkS (dB B)).size = (dB B).length := mkS_size _
  generalize quo (dM A B) (dB B).length = q at *
  have q1 : IntKind.i64.wrap (q : Int) = (q : Int) := by rw [IntKind.wrap_i64]; omega
  clear hG hA hB hl hl2 dd Q2 Q3 y1
  generalize mkS (A ++ 46 :: B) = S at *
  generalize mkS (dA A ++ 46 :: dB B) = R at *
  generalize mkS (dA A ++ dB B) = R1 at *
  generalize mkS (dA A) = SA at *
  generalize hSB : mkS (dB B) = SB at *
  clear hSB
  generalize UInt8.ofNat (48 + (dB B).length) = c at *
  generalize floatOfInt .f64 ((10 ^ (dB B).length : Nat) : Int) = F2 at *
  generalize floatOfInt .f64 (dM A B : Nat) = F1 at *
  generalize (dB B).length = n at *
  subst sb
  go_enter Tryz.func96, Tryz.ntmps96
  go_wp2_with (first
    | (go_at_call 129; refine C5.out.mono ?_; clear C5; rintro e w1 ⟨rfl, hg⟩; have G1 := hid hg; clear hg)
    | (go_at_call 118; refine (C16.out _).mono ?_; clear C16; rintro e w2 ⟨rfl, hg⟩; have G2 := hid (grown_pre G1.out hg); clear hg)
    | (go_at_call 130; refine calls_at (args := #[.string R1]) rfl ?_; refine (C17.out _ G2.out).mono ?_; clear C17; rintro e w3 ⟨rfl, hw⟩; have hw2 := hw.symm; clear hw; subst hw2)
    | (go_at_call 16; refine (C18.out _).mono ?_; clear C18; rintro e w3 ⟨rfl, hw⟩; have hw2 := hw.symm; clear hw; subst hw2)
    | (go_at_call 130; refine calls_at (args := #[.string ⟨#[49, 101, c]⟩]) rfl ?_; refine (C17b.out _ G2.out).mono ?_; clear C17b; rintro e w3 ⟨rfl, hw⟩; have hw2 := hw.symm; clear hw; subst hw2)
    | (go_at_call 131; refine (C19.out _).mono ?_; clear C19; rintro e w3 ⟨rfl, hw⟩; have hw2 := hw.symm; clear hw; subst hw2))
  go_ret
  exact ⟨rfl, G2.out⟩
end Go.Proofs.YtajoncmmdeahnaaGreatDoor.Dg
namespace Go.Proofs.YtajoncmmdeahnaaGreatDoor.Dg
open Go.RowKit
def FlP (A B : List UInt8) (w : World) (e : Ending) (w' : World) : Prop := e = .returned (.agg #[.int .i64 21, .int .i64 0, .string (mkS (dA A ++ 46 :: dB B)), .int .i64 (quo (dM A B) (dB B).length : Nat), .slice none 0 0]) ∧ w.grownBy w' none
set_option maxRecDepth 100000 in
set_option maxHeartbeats 2000000 in
theorem float_any (A B : List UInt8) (w : World) (hG : Gl w) (hA : ∀ c ∈ A, isD c) (hB : ∀ c ∈ B, isD c) (hl : A.length ≤ 7) (hl2 : B.length ≤ 8) : Calls Tryz.prog 196 #[.string (mkS (A ++ 46 :: B))] w (FlP A B w) := by
  have C5 : Hid (∀ W, Calls Tryz.prog 129 #[.string (mkS (A ++ 46 :: B))] W (GrP (.string (mkS (dA A ++ 46 :: dB B))) W)) := fun W => digits_any A B W hA hB (by omega)
  have C8 : Hid (∀ W, w.grownBy W none → Calls Tryz.prog 96 #[.string (mkS (A ++ 46 :: B))] W (GrP (.int .i64 (quo (dM A B) (dB B).length : Nat)) W)) := fun W hW => bits_any A B W (hG.kept hW) hA hB hl hl2
  unfold FlP
  generalize quo (dM A B) (dB B).length = q at *
  generalize mkS (A ++ 46 :: B) = S at *
  generalize mkS (dA A ++ 46 :: dB B) = R at *
  clear hG hA hB hl hl2
  go_enter Tryz.func196, Tryz.ntmps196
  go_wp2_with (first
    | (go_at_call 129; refine (C5.out _).mono ?_; clear C5; rintro e w1 ⟨rfl, hg⟩; have G1 := hid (grown_pre (grown_alloc (grown_refl w none) _) hg); have z0 := (Blk.new w 27 #[.int .i64 0, .int .i64 0, .string ⟨#[]⟩, .int .i64 0, .slice none 0 0]).kept hg (by simp); have Z0 := hid z0; clear hg z0)
    | (go_at_call 96; refine (C8.out _ G1.out).mono ?_; clear C8; rintro e w2 ⟨rfl, hg⟩; have G2 := hid (grown_pre G1.out hg); have z := Z0.out.kept hg (by simp); have b0 := z.cell 0; have b1 := z.cell 1; have b2 := z.cell 2; have b3 := z.cell 3; have b4 := z.cell 4; have f0 := z.frozen 0; have f1 := z.frozen 1; have f2 := z.frozen 2; have f3 := z.frozen 3; have f4 := z.frozen 4; have ZZ := hid z; simp at b0 b1 b2 b3 b4; clear hg z))
  exact bodyPost_ret (v := .agg #[.int .i64 21, .int .i64 0, .string R, .int .i64 (q : Nat), .slice none 0 0]) (by simp [results, Tryz.results196, go_sem, b0, b1, b2, b3, b4]) rfl ⟨rfl, grown_set_new (grown_set_new (grown_set_new (grown_set_new (grown_set_new G2.out _ (Nat.le_refl _)) _ (Nat.le_refl _)) _ (Nat.le_refl _)) _ (Nat.le_refl _)) _ (Nat.le_refl _)⟩
end Go.Proofs.YtajoncmmdeahnaaGreatDoor.Dg
