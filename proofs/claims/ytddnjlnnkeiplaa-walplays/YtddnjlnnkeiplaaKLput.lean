/-
  Unframe in long texts, where the frame itself is short. put: bytes are appended to the file, and made sure. What a disk's calls leave of a log, and a log's of a disk.
-/
import Derived.Test.YtddnjlnnkeiplaaKWUnBoth
import Derived.Test.YtddnjlnnkeiplaaLapp
namespace Go.Proofs.Ytddnjlnnkeiplaa.Wi
open Go.RowKit
set_option maxRecDepth 100000 in
set_option maxHeartbeats 400000 in
theorem unframe_bad2 (s : ByteArray) (p : Nat) (w : World) (hs : s.size ≤ 1000000) (hp : p ≤ s.size) (hF : unF s p ≠ 0) : Calls Try.prog 76 #[.string s, .int .i64 p] w fun e w' => e = .returned (.tuple #[.string ⟨#[]⟩, .int .i64 0, .int .i64 (unF s p : Nat)]) ∧ w.grownBy w' none := by
  have hR : (unR s p).size ≤ 1000000 := by unfold unR; rw [ByteArray.size_extract]; omega
  have hrm := un_room s p
  have hRs : (unR s p).size = s.size - p := by unfold unR; rw [ByteArray.size_extract]; omega
  have CT : Hid (∀ w b, Blk w b 134 (rd (unR s p) 0 0) → Calls Try.prog 83 #[.pointer (some ⟨b, 0, none⟩), .int .i64 2147483647] w fun r w' => r = .returned (.string (unT s p)) ∧ Blk w' b 134 (rd (unS s p) (unA s p) (unE s p)) ∧ w.grownBy w' (some b)) := fun w b h => text_any b _ 0 0 2147483647 w h (by omega) (by omega)
  have CN : Hid (∀ w b, Blk w b 134 (rd (unS s p) (unA s p) (unE s p)) → Calls Try.prog 85 #[.pointer (some ⟨b, 0, none⟩), .int .i64 4] w fun r w' => r = .returned (.int .u64 (unN s p : Nat)) ∧ Blk w' b 134 (rd (takeS (unS s p) (unE s p) 4) (unB s p) (unF s p)) ∧ w.grownBy w' (some b)) := fun w b h => rnumber_any b _ _ _ 4 w h (by omega) (by omega)
  have CW : Hid (∀ w, Calls Try.prog 82 #[.string (s.extract p s.size)] w fun e w' => e = .returned (.pointer (some ⟨w.heap.size, 0, none⟩)) ∧ Blk w' w.heap.size 134 (rd (unR s p) 0 0) ∧ w.grownBy w' none) := fun w => newReader_any _ w
  generalize unF s p = F at *
  generalize unB s p = B at *
  generalize unN s p = N at *
  generalize unT s p = T at *
  generalize takeS (unS s p) (unE s p) 4 = Z at *
  generalize unS s p = S at *
  generalize unA s p = A at *
  generalize unE s p = E at *
  generalize unR s p = R at *
  have s0 : (s.size : Int) ≤ 1000000 := by omega
  have p0 : (0 : Int) ≤ (p : Int) := by omega
  have p1 : (p : Int) ≤ (s.size : Int) := by omega
  have p2 : (p : Int) + (A : Int) ≤ (s.size : Int) := by omega
  have p3 : (0 : Int) ≤ (A : Int) := by omega
  have hF' : ((F : Int) != 0) = true := by rw [bne_iff_ne]; omega
  clear hs hp hR hrm hRs hF
  go_enter Try.func76, Try.ntmps76
  go_wp2_with (first | (go_at_call 82; refine (CW.out _).mono ?_; rintro e w1 ⟨rfl, hb1, hg1⟩; have B1 : Hid (Blk w1 w.heap.size 134 (rd R 0 0)) := hb1; have G1 : Hid (w.grownBy w1 none) := hg1; clear hb1 hg1) | (go_at_call 83; refine (CT.out _ _ B1.out).mono ?_; rintro e w2 ⟨rfl, hb2, hg2⟩; have B2 : Hid (Blk w2 w.heap.size 134 (rd S A E)) := hb2; have G2 : Hid (w.grownBy w2 none) := grown_through G1.out hg2 (Nat.le_refl _); clear hb2 hg2) | (go_at_call 84; refine (at_any w.heap.size S A E _ B2.out).mono ?_; rintro e w' ⟨rfl, hw⟩; have hw2 := hw.symm; clear hw; subst hw2) | (go_at_call 85; refine (CN.out _ _ B2.out).mono ?_; rintro e w3 ⟨rfl, hb3, hg3⟩; have B3 : Hid (Blk w3 w.heap.size 134 (rd Z B F)) := hb3; have G3 : Hid (w.grownBy w3 none) := grown_through G2.out hg3 (Nat.le_refl _); clear hb3 hg3) | (go_at_call 86; refine (err_any w.heap.size Z B F _ B3.out).mono ?_; rintro e w' ⟨rfl, hw⟩; have hw2 := hw.symm; clear hw; subst hw2))
  exact bodyPost_ret (results_tri Try.results76 _ _ _) rfl ⟨rfl, G3.out⟩
set_option maxRecDepth 100000 in
set_option maxHeartbeats 400000 in
theorem unframe_in2 (s : ByteArray) (p : Nat) (w : World) (hs : s.size ≤ 1000000) (hA : unA s p ≤ 4900) (hp : p ≤ s.size) (hF : unF s p = 0) (V : ByteArray) (x y : Nat) (hV : (unN s p = adl (s.extract p (p + unA s p)) ∧ V = unT s p ∧ x = p + unB s p ∧ y = 0) ∨ (unN s p ≠ adl (s.extract p (p + unA s p)) ∧ V = ⟨#[]⟩ ∧ x = 0 ∧ y = 6)) : Calls Try.prog 76 #[.string s, .int .i64 p] w fun e w' => e = .returned (.tuple #[.string V, .int .i64 x, .int .i64 y]) ∧ w.grownBy w' none := by
  have hR : (unR s p).size ≤ 1000000 := by unfold unR; rw [ByteArray.size_extract]; omega
  have hrm := un_room s p
  have hRs : (unR s p).size = s.size - p := by unfold unR; rw [ByteArray.size_extract]; omega
  have CT : Hid (∀ w b, Blk w b 134 (rd (unR s p) 0 0) → Calls Try.prog 83 #[.pointer (some ⟨b, 0, none⟩), .int .i64 2147483647] w fun r w' => r = .returned (.string (unT s p)) ∧ Blk w' b 134 (rd (unS s p) (unA s p) (unE s p)) ∧ w.grownBy w' (some b)) := fun w b h => text_any b _ 0 0 2147483647 w h (by omega) (by omega)
  have CN : Hid (∀ w b, Blk w b 134 (rd (unS s p) (unA s p) (unE s p)) → Calls Try.prog 85 #[.pointer (some ⟨b, 0, none⟩), .int .i64 4] w fun r w' => r = .returned (.int .u64 (unN s p : Nat)) ∧ Blk w' b 134 (rd (takeS (unS s p) (unE s p) 4) (unB s p) (unF s p)) ∧ w.grownBy w' (some b)) := fun w b h => rnumber_any b _ _ _ 4 w h (by omega) (by omega)
  have CW : Hid (∀ w, Calls Try.prog 82 #[.string (s.extract p s.size)] w fun e w' => e = .returned (.pointer (some ⟨w.heap.size, 0, none⟩)) ∧ Blk w' w.heap.size 134 (rd (unR s p) 0 0) ∧ w.grownBy w' none) := fun w => newReader_any _ w
  have hNl := unN_lt s p
  have hB : unB s p ≤ unA s p + 4 := by unfold unB takeA; split <;> omega
  have CA : Hid (∀ w, Calls Try.prog 68 #[.string (s.extract p (p + unA s p))] w fun e w' => e = .returned (.int .u32 (adl (s.extract p (p + unA s p)) : Nat)) ∧ w' = w) := fun w => adler_any _ w (by rw [ByteArray.size_extract]; omega)
  have hcl := adl_lt (s.extract p (p + unA s p))
  obtain ⟨c, ec⟩ : ∃ c, adl (s.extract p (p + unA s p)) = c := ⟨_, rfl⟩
  rw [ec] at CA hcl hV
  clear ec
  rw [hF] at CN
  clear hF
  generalize unB s p = B at *
  generalize unN s p = N at *
  generalize unT s p = T at *
  generalize takeS (unS s p) (unE s p) 4 = Z at *
  generalize unS s p = S at *
  generalize unA s p = A at *
  generalize unE s p = E at *
  generalize unR s p = R at *
  have s0 : (s.size : Int) ≤ 1000000 := by omega
  have p0 : (0 : Int) ≤ (p : Int) := by omega
  have p1 : (p : Int) ≤ (s.size : Int) := by omega
  have p2 : (p : Int) + (A : Int) ≤ (s.size : Int) := by omega
  have p3 : (0 : Int) ≤ (A : Int) := by omega
  have b1 : (B : Int) ≤ 1000100 := by omega
  have b0 : (0 : Int) ≤ (B : Int) := by omega
  have i3 : IntKind.u64.wrap (c : Int) = (c : Int) := by rw [IntKind.wrap_u64]; omega
  clear hs hp hR hrm hRs hNl hB hcl hA
  rcases hV with ⟨e1, rfl, rfl, rfl⟩ | ⟨e1, rfl, rfl, rfl⟩
  · have e2 : ((N : Int) == (c : Int)) = true := by rw [e1]; simp
    have e3 : ((N : Int) != (c : Int)) = false := by rw [bne, e2]; rfl
    clear e1 e2
    go_enter Try.func76, Try.ntmps76
    go_wp2_with (first | (go_at_call 68; refine (CA.out _).mono ?_; rintro e w' ⟨rfl, hw⟩; have hw2 := hw.symm; clear hw; subst hw2) | (go_at_call 82; refine (CW.out _).mono ?_; rintro e w1 ⟨rfl, hb1, hg1⟩; have B1 : Hid (Blk w1 w.heap.size 134 (rd R 0 0)) := hb1; have G1 : Hid (w.grownBy w1 none) := hg1; clear hb1 hg1) | (go_at_call 83; refine (CT.out _ _ B1.out).mono ?_; rintro e w2 ⟨rfl, hb2, hg2⟩; have B2 : Hid (Blk w2 w.heap.size 134 (rd S A E)) := hb2; have G2 : Hid (w.grownBy w2 none) := grown_through G1.out hg2 (Nat.le_refl _); clear hb2 hg2) | (go_at_call 84; refine (at_any w.heap.size Z B 0 _ B3.out).mono ?_; rintro e w' ⟨rfl, hw⟩; have hw2 := hw.symm; clear hw; subst hw2) | (go_at_call 84; refine (at_any w.heap.size S A E _ B2.out).mono ?_; rintro e w' ⟨rfl, hw⟩; have hw2 := hw.symm; clear hw; subst hw2) | (go_at_call 85; refine (CN.out _ _ B2.out).mono ?_; rintro e w3 ⟨rfl, hb3, hg3⟩; have B3 : Hid (Blk w3 w.heap.size 134 (rd Z B 0)) := hb3; have G3 : Hid (w.grownBy w3 none) := grown_through G2.out hg3 (Nat.le_refl _); clear hb3 hg3) | (go_at_call 86; refine (err_any w.heap.size Z B 0 _ B3.out).mono ?_; rintro e w' ⟨rfl, hw⟩; have hw2 := hw.symm; clear hw; subst hw2))
    exact bodyPost_ret (results_tri Try.results76 _ _ _) rfl ⟨rfl, G3.out⟩
  · have e2 : ((N : Int) == (c : Int)) = false := by simp; omega
    have e3 : ((N : Int) != (c : Int)) = true := by rw [bne, e2]; rfl
    clear e1 e2
    go_enter Try.func76, Try.ntmps76
    go_wp2_with (first | (go_at_call 68; refine (CA.out _).mono ?_; rintro e w' ⟨rfl, hw⟩; have hw2 := hw.symm; clear hw; subst hw2) | (go_at_call 82; refine (CW.out _).mono ?_; rintro e w1 ⟨rfl, hb1, hg1⟩; have B1 : Hid (Blk w1 w.heap.size 134 (rd R 0 0)) := hb1; have G1 : Hid (w.grownBy w1 none) := hg1; clear hb1 hg1) | (go_at_call 83; refine (CT.out _ _ B1.out).mono ?_; rintro e w2 ⟨rfl, hb2, hg2⟩; have B2 : Hid (Blk w2 w.heap.size 134 (rd S A E)) := hb2; have G2 : Hid (w.grownBy w2 none) := grown_through G1.out hg2 (Nat.le_refl _); clear hb2 hg2) | (go_at_call 84; refine (at_any w.heap.size Z B 0 _ B3.out).mono ?_; rintro e w' ⟨rfl, hw⟩; have hw2 := hw.symm; clear hw; subst hw2) | (go_at_call 84; refine (at_any w.heap.size S A E _ B2.out).mono ?_; rintro e w' ⟨rfl, hw⟩; have hw2 := hw.symm; clear hw; subst hw2) | (go_at_call 85; refine (CN.out _ _ B2.out).mono ?_; rintro e w3 ⟨rfl, hb3, hg3⟩; have B3 : Hid (Blk w3 w.heap.size 134 (rd Z B 0)) := hb3; have G3 : Hid (w.grownBy w3 none) := grown_through G2.out hg3 (Nat.le_refl _); clear hb3 hg3) | (go_at_call 86; refine (err_any w.heap.size Z B 0 _ B3.out).mono ?_; rintro e w' ⟨rfl, hw⟩; have hw2 := hw.symm; clear hw; subst hw2))
    exact bodyPost_ret (results_tri Try.results76 _ _ _) rfl ⟨rfl, G3.out⟩
theorem unframe_at (P t Q s : ByteArray) (p : Nat) (w : World) (ht : t.size ≤ 1000) (hs : s = P ++ (frmS t ++ Q)) (hp : p = P.size) (hz : s.size ≤ 1000000) : Calls Try.prog 76 #[.string s, .int .i64 p] w fun e w' => e = .returned (.tuple #[.string t, .int .i64 ((p + (t.size + 8) : Nat) : Int), .int .i64 0]) ∧ w.grownBy w' none := by
  obtain ⟨h1, h2, h3⟩ := un_frame P t Q s p (by omega) hs hp
  have hn : p ≤ s.size := by rw [hs, hp, ByteArray.size_append]; omega
  obtain ⟨e1, e2, e3⟩ := un_eq s p hn h2
  exact unframe_in2 s p w hz (by rw [e1, h1]; omega) hn h2 _ _ _ (Or.inl ⟨by rw [e3, h1]; exact h3, h1.symm, by rw [e2, h1]; omega, rfl⟩)
end Go.Proofs.Ytddnjlnnkeiplaa.Wi
namespace Go.Proofs.Ytddnjlnnkeiplaa
open Go.RowKit Go.Maps
theorem heap_lt {w : World} {g : Nat} {o : Obj} (h : w.heap[g]? = some o) : g < w.heap.size := by
  by_cases hx : g < w.heap.size
  · exact hx
  · rw [Array.getElem?_eq_none (by omega)] at h; cases h
theorem row_same {w w' : World} {base e size n : Nat} {v : Value} {xs : List Value} (h : w.ownsRow base e size v n xs) (hk : ∀ (g : Nat) (cur : Array Value), w.heap[g]? = some (Obj.cells cur e (0, 0)) → w'.heap[g]? = w.heap[g]?) : w'.ownsRow base e size v n xs := by
  obtain ⟨h1, h2⟩ := h
  refine ⟨h1, ?_⟩
  rcases h2 with h2 | ⟨g, cap, cur, e1, hb, hh, r⟩
  · exact Or.inl h2
  · exact Or.inr ⟨g, cap, cur, e1, hb, (hk g cur hh).trans hh, r⟩
/-- A disk's call leaves a log as it was. -/
theorem IsLog.keptD {w w' : World} {base b d bd : Nat} {g : Lg} {cs : Array Value} (h : IsLog w base b g) (hd : Blk w d 73 cs) (hT : Tend bd d w w') : IsLog w' base b g := by
  obtain ⟨h0, vr, vw, hb, hr, hw⟩ := h
  have keep : ∀ (i : Nat) (t : TypeId) (cur : Array Value) (fz : Nat × Nat), w.heap[i]? = some (Obj.cells cur t fz) → t ≠ 73 → t ≠ 101 → w'.heap[i]? = w.heap[i]? := fun i t cur fz hi h1 h2 => hT.keep i (heap_lt hi) (Or.inr ⟨fun e => by
    subst e
    have hd' : w.heap[i]? = some (.cells cs 73 (0, 0)) := hd
    rw [hi] at hd'
    injection hd' with q
    injection q with q1 q2 q3
    exact h1 q2, cur, t, fz, hi, h2⟩)
  refine ⟨h0, vr, vw, (keep b 77 _ _ hb (by decide) (by decide)).trans hb, row_same hr (fun g cur hg => keep g 84 cur _ hg (by decide) (by decide)), row_same hw (fun g cur hg => keep g 5 cur _ hg (by decide) (by decide))⟩
/-- A log's call leaves a disk as it was. -/
theorem IsDisk.keptL {w w' : World} {base b bd d : Nat} {k : Dk} {cs : Array Value} (h : IsDisk w bd d k) (hb : Blk w b 77 cs) (hT : LT base b w w') : IsDisk w' bd d k := by
  obtain ⟨h0, vn, vs, vl, hB, hn, hs, hne, hl⟩ := h
  have keepC : ∀ (i : Nat) (t : TypeId) (cur : Array Value) (fz : Nat × Nat), w.heap[i]? = some (Obj.cells cur t fz) → t ≠ 77 → t ≠ 84 → t ≠ 5 → w'.heap[i]? = w.heap[i]? := fun i t cur fz hi h1 h2 h3 => hT.keep i (heap_lt hi) (Or.inr ⟨fun e => by
    subst e
    have hb' : w.heap[i]? = some (.cells cs 77 (0, 0)) := hb
    rw [hi] at hb'
    injection hb' with q
    injection q with q1 q2 q3
    exact h1 q2, fun cs' t' fz' hq => by
      rw [hi] at hq
      injection hq with q
      injection q with q1 q2 q3
      subst q2
      exact ⟨h2, h3⟩⟩)
  have keepM : ∀ i l, OwnsF w i l → OwnsF w' i l := fun i l ho => by
    obtain ⟨es, clock, hm⟩ := ho.isMap
    refine ho.of_heap (hT.keep i ho.lt (Or.inr ⟨fun e => ?_, fun cs' t' fz' hq => ?_⟩))
    · subst e
      exact hb.ne_map ho rfl
    · rw [hm] at hq
      cases hq
  have keepV : ∀ v l, MapV w bd v l → MapV w' bd v l := fun v l hv => by
    rcases hv with hv | ⟨g, rfl, hg, ho⟩
    · exact Or.inl hv
    · exact Or.inr ⟨g, rfl, hg, keepM g l ho⟩
  exact ⟨h0, vn, vs, vl, (keepC d 73 _ _ hB (by decide) (by decide) (by decide)).trans hB, keepV _ _ hn, keepV _ _ hs, hne, row_same hl (fun g cur hg => keepC g 101 cur _ hg (by decide) (by decide) (by decide))⟩
theorem IsLog.blk {w : World} {base b : Nat} {g : Lg} (h : IsLog w base b g) : ∃ cs, Blk w b 77 cs := by
  obtain ⟨_, vr, vw, hb, _⟩ := h
  exact ⟨_, hb⟩
theorem IsDisk.blk {w : World} {base b : Nat} {k : Dk} (h : IsDisk w base b k) : ∃ cs, Blk w b 73 cs := by
  obtain ⟨_, vn, vs, vl, hb, _⟩ := h
  exact ⟨_, hb⟩
end Go.Proofs.Ytddnjlnnkeiplaa
