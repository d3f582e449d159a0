/-
  Unframe: both answer the same at every place; at a frame's place the text that was framed. put: bytes are appended to the file, and made sure. What a disk's calls leave of a log, and a log's of a disk. sealed, put, Commit: what waits is made sure, with a marker behind it.
-/
import Derived.Test.YtddnjlnnkeiplaaKWUnEq
import Derived.Test.YtddnjlnnkeiplaaKLapp
namespace Go.Proofs.Ytddnjlnnkeiplaa.Wi
open Go.RowKit
theorem extract_left (a b : ByteArray) (n : Nat) (h : a.size = n) : (a ++ b).extract 0 n = a := by
  apply bytes_ext
  rw [ByteArray.data_extract, Array.toList_extract]
  show (a ++ b).data.toList.extract 0 n = _
  rw [append_list, List.extract_eq_take_drop, List.drop_zero, Nat.sub_zero, ← h, ← bytes_len, List.take_left]
theorem extract_right (a b : ByteArray) (n m : Nat) (h : a.size = n) (hm : (a ++ b).size = m) : (a ++ b).extract n m = b := by
  apply bytes_ext
  rw [ByteArray.data_extract, Array.toList_extract]
  show (a ++ b).data.toList.extract n m = _
  rw [ByteArray.size_append] at hm
  rw [append_list, List.extract_eq_take_drop, ← h, ← bytes_len, List.drop_left, ← hm, bytes_len, Nat.add_sub_cancel_left, ← bytes_len, List.take_length]
/-- What a reader of a text with its count ahead, and something behind it, answers. -/
theorem bounds_facts (T M : ByteArray) (hT : T.size ≤ 100000) : takeV (numS T.size 4 ++ T ++ M) 4 = numS T.size 4 ∧ takeS (numS T.size 4 ++ T ++ M) 0 4 = T ++ M ∧ takeE (numS T.size 4 ++ T ++ M) 0 4 = 0 ∧ takeA (numS T.size 4 ++ T ++ M) 0 4 = 4 ∧ cntR (numS T.size 4 ++ T ++ M) = T.size := by
  have hz := numS_size T.size 4
  have e : numS T.size 4 ++ T ++ M = numS T.size 4 ++ (T ++ M) := by
    apply bytes_ext
    rw [append_list, append_list, append_list, append_list, List.append_assoc]
  have hs : (numS T.size 4 ++ (T ++ M)).size = 4 + (T.size + M.size) := by rw [ByteArray.size_append, ByteArray.size_append, hz]
  rw [e]
  have hn : ¬ (numS T.size 4 ++ (T ++ M)).size < 4 := by omega
  have hv : takeV (numS T.size 4 ++ (T ++ M)) 4 = numS T.size 4 := by
    unfold takeV
    rw [if_neg hn]
    exact extract_left _ _ 4 hz
  refine ⟨hv, ?_, ?_, ?_, ?_⟩
  · unfold takeS
    rw [if_neg hn]
    exact extract_right _ _ 4 _ hz rfl
  · unfold takeE
    rw [if_neg hn]
  · unfold takeA
    rw [if_neg hn]
  · unfold cntR
    rw [hv, hz, le_num T.size 4 4 (Nat.le_refl _)]
    exact Nat.mod_eq_of_lt (by omega)
theorem bounds_in (T M : ByteArray) (most : Int) (hT : T.size ≤ 100000) (h : (T.size : Int) ≤ most) : txtV (numS T.size 4 ++ T ++ M) 0 most = T ∧ txtS (numS T.size 4 ++ T ++ M) 0 most = M ∧ txtE (numS T.size 4 ++ T ++ M) 0 most = 0 := by
  obtain ⟨_, h2, h3, _, h5⟩ := bounds_facts T M hT
  generalize numS T.size 4 ++ T ++ M = Z at *
  have f0 : cntF Z 0 most = 0 := by
    unfold cntF
    rw [h3, if_neg (by omega), h5, if_neg (by omega)]
  have n0 : cntN Z 0 most = T.size := by
    unfold cntN
    rw [h3, if_neg (by omega), h5, if_neg (by omega)]
  have s0 : cntS Z 0 most = T ++ M := by
    unfold cntS
    rw [f0, h2]
    unfold failS
    rw [if_pos (Or.inl rfl)]
  have e0 : cntE Z 0 most = 0 := by
    unfold cntE
    rw [f0, h3]
    rfl
  have hn : ¬ (T ++ M).size < T.size := by rw [ByteArray.size_append]; omega
  unfold txtV txtS txtE
  rw [n0, s0, e0]
  refine ⟨?_, ?_, ?_⟩
  · unfold takeV
    rw [if_neg hn]
    exact extract_left _ _ _ rfl
  · unfold takeS
    rw [if_neg hn, extract_right _ _ _ _ rfl rfl]
  · unfold takeE
    rw [if_neg hn]
theorem un_frame (P t Q s : ByteArray) (p : Nat) (ht : t.size ≤ 100000) (hs : s = P ++ (frmS t ++ Q)) (hp : p = P.size) : unT s p = t ∧ unF s p = 0 ∧ unN s p = adl (numS t.size 4 ++ t) := by
  have hR : unR s p = numS t.size 4 ++ t ++ (numS (adl (numS t.size 4 ++ t)) 4 ++ Q) := by
    unfold unR
    rw [hs, hp, extract_right P (frmS t ++ Q) _ _ rfl rfl]
    unfold frmS
    apply bytes_ext
    simp only [append_list, List.append_assoc]
  obtain ⟨h1, h2, h3⟩ := bounds_in t (numS (adl (numS t.size 4 ++ t)) 4 ++ Q) 2147483647 (by omega) (by omega)
  have hz := numS_size (adl (numS t.size 4 ++ t)) 4
  have hlt := adl_lt (numS t.size 4 ++ t)
  have hS : unS s p = numS (adl (numS t.size 4 ++ t)) 4 ++ Q := by unfold unS; rw [hR]; exact h2
  have hn : ¬ (numS (adl (numS t.size 4 ++ t)) 4 ++ Q).size < 4 := by rw [ByteArray.size_append]; omega
  refine ⟨?_, ?_, ?_⟩
  · unfold unT; rw [hR]; exact h1
  · unfold unF unE takeE
    rw [hS, if_neg hn, hR]
    exact h3
  · have hv : takeV (unS s p) 4 = numS (adl (numS t.size 4 ++ t)) 4 := by
      rw [hS]
      unfold takeV
      rw [if_neg hn]
      exact extract_left _ _ 4 hz
    unfold unN
    rw [hv, hz, le_num _ 4 4 (Nat.le_refl _)]
    exact Nat.mod_eq_of_lt (by omega)
theorem unT_size (s : ByteArray) (p : Nat) : (unT s p).size ≤ s.size := by
  unfold unT txtV
  have h1 := takeV_size (cntS (unR s p) 0 2147483647) (cntN (unR s p) 0 2147483647)
  have h2 := cnt_room (unR s p) 0 0 2147483647
  have h3 : (unR s p).size ≤ s.size := by unfold unR; rw [ByteArray.size_extract]; omega
  omega
/-- The program's Unframe and the document's answer the same, at every place. -/
theorem both_unframe (s : ByteArray) (p : Int) (hs : s.size ≤ 4500) : ∃ (V : ByteArray) (x y : Nat),
    (∀ w, Calls Try.prog 76 #[.string s, .int .i64 p] w fun e w' => e = .returned (.tuple #[.string V, .int .i64 x, .int .i64 y]) ∧ w.grownBy w' none)
    ∧ (∀ w, Calls Try.prog 29 #[.string s, .int .i64 p] w fun e w' => e = .returned (.tuple #[.string V, .int .i64 x, .int .i64 y]) ∧ w.grownBy w' none) := by
  by_cases h : p < 0 ∨ (s.size : Int) < p
  · refine ⟨⟨#[]⟩, 0, 1, fun w => (unframe_out s p w h).mono ?_, fun w => (refUnframe_out s p w h).mono ?_⟩
    · rintro e w' ⟨rfl, rfl⟩
      exact ⟨rfl, grown_refl _ _⟩
    · rintro e w' ⟨rfl, rfl⟩
      exact ⟨rfl, grown_refl _ _⟩
  · obtain ⟨n, rfl⟩ : ∃ n : Nat, p = n := ⟨p.toNat, by omega⟩
    have hn : n ≤ s.size := by omega
    by_cases hF : unF s n = 0
    · obtain ⟨e1, e2, e3⟩ := un_eq s n hn hF
      have hT := unT_size s n
      by_cases hN : unN s n = adl (numS (unT s n).size 4 ++ unT s n)
      · exact ⟨unT s n, n + (unT s n).size + 8, 0, fun w => unframe_in s n w hs hn hF _ _ _ (Or.inl ⟨by rw [e3]; exact hN, rfl, by omega, rfl⟩), fun w => refUnframe_in s n w hs hn hF (by omega) _ _ _ (Or.inl ⟨hN, rfl, rfl, rfl⟩)⟩
      · exact ⟨⟨#[]⟩, 0, 6, fun w => unframe_in s n w hs hn hF _ _ _ (Or.inr ⟨by rw [e3]; exact hN, rfl, rfl, rfl⟩), fun w => refUnframe_in s n w hs hn hF (by omega) _ _ _ (Or.inr ⟨hN, rfl, rfl, rfl⟩)⟩
    · exact ⟨⟨#[]⟩, 0, unF s n, fun w => unframe_bad s n w hs hn hF, fun w => refUnframe_bad s n w hs hn hF⟩
/-- .. and at a frame's place it gives the text that was framed, and the place behind it. -/
theorem unframe_frame (P t Q s : ByteArray) (p : Nat) (w : World) (ht : t.size ≤ 1000) (hs : s = P ++ (frmS t ++ Q)) (hp : p = P.size) (hz : s.size ≤ 4500) : Calls Try.prog 76 #[.string s, .int .i64 p] w fun e w' => e = .returned (.tuple #[.string t, .int .i64 ((p + (t.size + 8) : Nat) : Int), .int .i64 0]) ∧ w.grownBy w' none := by
  obtain ⟨h1, h2, h3⟩ := un_frame P t Q s p (by omega) hs hp
  have hn : p ≤ s.size := by rw [hs, hp, ByteArray.size_append]; omega
  obtain ⟨e1, e2, e3⟩ := un_eq s p hn h2
  exact unframe_in s p w hz hn h2 _ _ _ (Or.inl ⟨by rw [e3, h1]; exact h3, h1.symm, by rw [e2, h1]; omega, rfl⟩)
end Go.Proofs.Ytddnjlnnkeiplaa.Wi
namespace Go.Proofs.Ytddnjlnnkeiplaa
open Go.RowKit Go.Maps
theorem heap_lt {w : World} {g : Nat} {o : Obj} (h : w.heap[g]? = some o) : g < w.heap.size := by
  by_cases hx : g < w.heap.size
  · exact hx
  · rw [Array.getElem?_eq_none (by omega)] at h; cases h
theorem row_same {w w' : World} {base e size n : Nat} {v : Value} {xs : List Value} (h : w.ownsRow base e size v n xs) (hk : ∀ (g : Nat) (cur : Array Value), w.heap[g]? = some (Obj.cells cur e (0, 0)) → w'.heap[g]? = w.heap[g]?) : w'.ownsRow base e size v n xs := by
  obtain ⟨h1, h2⟩ := h
  refine ⟨h1, ?_⟩
  rcases h2 with h2 | ⟨g, cap, cur, e1, hb, hh, r⟩
  · exact Or.inl h2
  · exact Or.inr ⟨g, cap, cur, e1, hb, (hk g cur hh).trans hh, r⟩
/-- A disk's call leaves a log as it was. -/
theorem IsLog.keptD {w w' : World} {base b d bd : Nat} {g : Lg} {cs : Array Value} (h : IsLog w base b g) (hd : Blk w d 73 cs) (hT : Tend bd d w w') : IsLog w' base b g := by
  obtain ⟨h0, vr, vw, hb, hr, hw⟩ := h
  have keep : ∀ (i : Nat) (t : TypeId) (cur : Array Value) (fz : Nat × Nat), w.heap[i]? = some (Obj.cells cur t fz) → t ≠ 73 → t ≠ 101 → w'.heap[i]? = w.heap[i]? := fun i t cur fz hi h1 h2 => hT.keep i (heap_lt hi) (Or.inr ⟨fun e => by
    subst e
    have hd' : w.heap[i]? = some (.cells cs 73 (0, 0)) := hd
    rw [hi] at hd'
    injection hd' with q
    injection q with q1 q2 q3
    exact h1 q2, cur, t, fz, hi, h2⟩)
  refine ⟨h0, vr, vw, (keep b 77 _ _ hb (by decide) (by decide)).trans hb, row_same hr (fun g cur hg => keep g 84 cur _ hg (by decide) (by decide)), row_same hw (fun g cur hg => keep g 5 cur _ hg (by decide) (by decide))⟩
/-- A log's call leaves a disk as it was. -/
theorem IsDisk.keptL {w w' : World} {base b bd d : Nat} {k : Dk} {cs : Array Value} (h : IsDisk w bd d k) (hb : Blk w b 77 cs) (hT : LT base b w w') : IsDisk w' bd d k := by
  obtain ⟨h0, vn, vs, vl, hB, hn, hs, hne, hl⟩ := h
  have keepC : ∀ (i : Nat) (t : TypeId) (cur : Array Value) (fz : Nat × Nat), w.heap[i]? = some (Obj.cells cur t fz) → t ≠ 77 → t ≠ 84 → t ≠ 5 → w'.heap[i]? = w.heap[i]? := fun i t cur fz hi h1 h2 h3 => hT.keep i (heap_lt hi) (Or.inr ⟨fun e => by
    subst e
    have hb' : w.heap[i]? = some (.cells cs 77 (0, 0)) := hb
    rw [hi] at hb'
    injection hb' with q
    injection q with q1 q2 q3
    exact h1 q2, fun cs' t' fz' hq => by
      rw [hi] at hq
      injection hq with q
      injection q with q1 q2 q3
      subst q2
      exact ⟨h2, h3⟩⟩)
  have keepM : ∀ i l, OwnsF w i l → OwnsF w' i l := fun i l ho => by
    obtain ⟨es, clock, hm⟩ := ho.isMap
    refine ho.of_heap (hT.keep i ho.lt (Or.inr ⟨fun e => ?_, fun cs' t' fz' hq => ?_⟩))
    · subst e
      exact hb.ne_map ho rfl
    · rw [hm] at hq
      cases hq
  have keepV : ∀ v l, MapV w bd v l → MapV w' bd v l := fun v l hv => by
    rcases hv with hv | ⟨g, rfl, hg, ho⟩
    · exact Or.inl hv
    · exact Or.inr ⟨g, rfl, hg, keepM g l ho⟩
  exact ⟨h0, vn, vs, vl, (keepC d 73 _ _ hB (by decide) (by decide) (by decide)).trans hB, keepV _ _ hn, keepV _ _ hs, hne, row_same hl (fun g cur hg => keepC g 101 cur _ hg (by decide) (by decide) (by decide))⟩
theorem IsLog.blk {w : World} {base b : Nat} {g : Lg} (h : IsLog w base b g) : ∃ cs, Blk w b 77 cs := by
  obtain ⟨_, vr, vw, hb, _⟩ := h
  exact ⟨_, hb⟩
theorem IsDisk.blk {w : World} {base b : Nat} {k : Dk} (h : IsDisk w base b k) : ∃ cs, Blk w b 73 cs := by
  obtain ⟨_, vn, vs, vl, hb, _⟩ := h
  exact ⟨_, hb⟩
end Go.Proofs.Ytddnjlnnkeiplaa
namespace Go.Proofs.Ytddnjlnnkeiplaa
open Go.RowKit Go.Maps
/-- Types of cells that are neither a disk's nor a log's. -/
def FarT (t : TypeId) : Prop := t ≠ 73 ∧ t ≠ 77 ∧ t ≠ 84 ∧ t ≠ 5 ∧ t ≠ 101
/-- What a call may turn: nothing below base, and no cells of other types than a disk's and a log's. -/
structure Low (base : Nat) (w w' : World) : Prop where
  os : w'.os = w.os
  tape : w'.tape = w.tape
  output : w'.output = w.output
  size : w.heap.size ≤ w'.heap.size
  keep : ∀ i, i < w.heap.size → (i < base ∨ ∃ cs t fz, w.heap[i]? = some (.cells cs t fz) ∧ FarT t) → w'.heap[i]? = w.heap[i]?
theorem Low.of_none {base : Nat} {w w' : World} (h : w.grownBy w' none) : Low base w w' := ⟨h.os, h.tape, h.output, h.size, fun i hi _ => h.block i hi (by simp)⟩
theorem far_ne {w : World} {i b : Nat} {t T : TypeId} {cs cs' : Array Value} {fz : Nat × Nat} (hi : w.heap[i]? = some (.cells cs t fz)) (hb : Blk w b T cs') (ht : t ≠ T) : i ≠ b := fun e => by
  subst e
  have hb' : w.heap[i]? = some (.cells cs' T (0, 0)) := hb
  rw [hi] at hb'
  injection hb' with q
  injection q with q1 q2 q3
  exact ht q2
theorem Low.of_lt {base b : Nat} {w w' : World} (h : LT base b w w') (hb : ∃ cs, Blk w b 77 cs) : Low base w w' := ⟨h.os, h.tape, h.output, h.size, fun i hi hs => h.keep i hi (by
  rcases hs with hs | ⟨cs, t, fz, hc, f1, f2, f3, f4, f5⟩
  · exact Or.inl hs
  · obtain ⟨cs', hb⟩ := hb
    exact Or.inr ⟨far_ne hc hb f2, fun cs2 t2 fz2 h2 => by
      rw [hc] at h2
      injection h2 with q
      injection q with q1 q2 q3
      subst q2
      exact ⟨f3, f4⟩⟩)⟩
theorem Low.of_tend {base b : Nat} {w w' : World} (h : Tend base b w w') (hb : ∃ cs, Blk w b 73 cs) : Low base w w' := ⟨h.os, h.tape, h.output, h.size, fun i hi hs => h.keep i hi (by
  rcases hs with hs | ⟨cs, t, fz, hc, f1, f2, f3, f4, f5⟩
  · exact Or.inl hs
  · obtain ⟨cs', hb⟩ := hb
    exact Or.inr ⟨far_ne hc hb f1, cs, t, fz, hc, f5⟩)⟩
theorem Low.refl (base : Nat) (w : World) : Low base w w := Low.of_none (grown_refl _ _)
theorem Low.trans {base : Nat} {w w' w'' : World} (h : Low base w w') (k : Low base w' w'') : Low base w w'' :=
  ⟨k.os.trans h.os, k.tape.trans h.tape, k.output.trans h.output, Nat.le_trans h.size k.size, fun i hi hb => by
    have e := h.keep i hi hb
    refine (k.keep i (Nat.lt_of_lt_of_le hi h.size) ?_).trans e
    rw [e]
    exact hb⟩
theorem Low.grown {w w' w'' : World} (h0 : w.grownBy w' none) (h : Low w.heap.size w' w'') : w.grownBy w'' none :=
  ⟨h.os.trans h0.os, h.tape.trans h0.tape, h.output.trans h0.output, Nat.le_trans h0.size h.size, fun i hi _ => (h.keep i (Nat.lt_of_lt_of_le hi h0.size) (Or.inl hi)).trans (h0.block i hi (by simp))⟩
theorem Low.down {base base' : Nat} {w w' : World} (h : Low base w w') (hb : base' ≤ base) : Low base' w w' := ⟨h.os, h.tape, h.output, h.size, fun i hi hs => h.keep i hi (hs.imp (fun x => by omega) id)⟩
theorem strCells_by (t : ByteArray) : Lib.strCells t = Wi.byL t.data.toList := by
  rfl
theorem conv_row {w : World} {base : Nat} {v : Value} {t : ByteArray} (h : w.ownsRow base 5 1 v t.size (Lib.strCells t)) : (convert 75 9 v).run Try.prog w = .ok (.string t) w := by
  have e : t.data.toList.length = t.size := Array.length_toList
  rw [strCells_by, ← e] at h
  have := Wi.owned_str _ w base v h
  rw [this]
set_option maxRecDepth 100000 in
set_option maxHeartbeats 1000000 in
theorem sealed_any (base b : Nat) (g : Lg) (r : ByteArray) (w : World) (h : IsLog w base b g) (hw : g.wait.size ≤ 10000000) (hs : r.size ≤ 3900) :
    Calls Try.prog 42 #[.pointer (some ⟨b, 0, none⟩), .string r] w fun e w' => e = .returned (.tuple #[.string (g.wait ++ Wi.frmS (⟨#[109]⟩ ++ r)), .int .i64 0]) ∧ w.grownBy w' none := by
  have hsz : (⟨#[109]⟩ ++ r : ByteArray).size ≤ 4000 := by rw [ByteArray.size_append]; show 1 + _ ≤ _; omega
  have CF : Hid (∀ W, Calls Try.prog 50 #[.string (⟨#[109]⟩ ++ r)] W fun e w' => e = .returned (.string (Wi.frmS (⟨#[109]⟩ ++ r))) ∧ W.grownBy w' none) := fun W => Wi.frame_any _ W hsz
  have hfs : (Wi.frmS (⟨#[109]⟩ ++ r)).size ≤ 5000 := by rw [Wi.frmS_size]; omega
  obtain ⟨h0, vr, vw, hb, hr, hww⟩ := h
  obtain ⟨⟨c0, c1, c2, c3, c4, c5, c6⟩, f1, f2, f3, f4, f5, f6⟩ := hb.g7
  obtain ⟨pw, cw, rfl, _⟩ := row_form hww
  have HW := hid hww
  have HB := hid hb
  have i4 : ¬ (1048576 : Int) < r.size := by omega
  have i5 : ¬ 9223372036854775807 < 1 + r.size := by omega
  have i6 : ¬ 9223372036854775807 < g.wait.size + (Wi.frmS (⟨#[109]⟩ ++ r)).size := by omega
  clear hb hr hww hw hs hsz hfs c0 c1 c2 c3 c5 c6 f1 f2 f3 f4 f5 f6
  generalize Wi.frmS (⟨#[109]⟩ ++ r) = F at *
  go_enter Try.func42, Try.ntmps42
  go_wp2_with fail
  have CV : (convert 75 9 (.slice pw g.wait.size cw)).run Try.prog w.drew = .ok (.string g.wait) w.drew := conv_row HW.out
  go_region_law (go_simp; go_at_call 50; refine (CF.out _).mono ?_; rintro e w4 ⟨rfl, hg4⟩; have G4 : Hid (w.grownBy w4 none) := grown_trans (grown_drew (grown_refl _ _)) hg4; have CV4 := conv_row (row_none HW.out G4.out); have e4 := (HB.out.kept G4.out (by simp)).g7.1.2.2.2.2.1; clear hg4 CF)
  all_goals (
    go_wp2
    go_ret2
    exact ⟨rfl, G4.out⟩)
def putC (s : ByteArray) : Chg := ⟨0, ⟨#[108, 111, 103]⟩, s, ⟨#[]⟩, 0⟩
theorem log_name : nameB ⟨#[108, 111, 103]⟩ = true := by decide
theorem low_blk {base i : Nat} {w w' : World} {t : TypeId} {cs : Array Value} (h : Low base w w') (hb : Blk w i t cs) (hi : FarT t) : Blk w' i t cs := (h.keep i hb.lt (Or.inr ⟨cs, t, (0, 0), hb, hi⟩)).trans hb
set_option maxRecDepth 100000 in
set_option maxHeartbeats 1000000 in
theorem put_any (base b : Nat) (g : Lg) (k : Dk) (s : ByteArray) (w : World) (h : IsLog w base b g) (hd : IsDisk w base g.d k) (hdd : k.dead = false) (hS : Small k) (hs : s.size ≤ 1000000) (hf : Fits (doF k.now (putC s)) 1000000) :
    Calls Try.prog 43 #[.pointer (some ⟨b, 0, none⟩), .string s] w fun e w' => e = .returned (.int .i64 0) ∧ IsLog w' base b g ∧ IsDisk w' base g.d (syncD (stepD k (putC s))) ∧ Low base w w' := by
  have CA := hid (append_any base g.d k ⟨#[108, 111, 103]⟩ s w hd hdd hS log_name (by decide) hs)
  have CS : Hid (∀ W, IsDisk W base g.d (stepD k (putC s)) → Calls Try.prog 31 #[.pointer (some ⟨g.d, 0, none⟩)] W fun e w' => e = .returned (.int .i64 0) ∧ IsDisk w' base g.d (syncD (stepD k (putC s))) ∧ W.grownBy w' (some g.d)) := fun W hW => sync_any base g.d _ W hW hdd hf
  have HL := hid h
  have HD := hid hd
  obtain ⟨cd, hcd⟩ := hd.blk
  have BD := hid hcd
  have hbd : base ≤ g.d := hd.1
  obtain ⟨_, vr, vw, hb, _, _⟩ := h
  have c0 := hb.g7.1.1
  clear hb hcd hd hs hf hS hdd
  change Hid (Calls Try.prog 62 _ w fun e w' => e = .returned (.int .i64 0) ∧ IsDisk w' base g.d (stepD k (putC s)) ∧ Tend base g.d w w') at CA
  generalize stepD k (putC s) = k1 at *
  generalize syncD k1 = k2 at *
  go_enter Try.func43, Try.ntmps43
  go_wp2_with (first
    | (go_at_call 62; refine CA.out.mono ?_; rintro e w1 ⟨rfl, h1, t1⟩; have D1 := hid h1; have L1 := hid (HL.out.keptD BD.out t1); have T1 := hid (Low.of_tend t1 ⟨_, BD.out⟩); obtain ⟨_, vr1, vw1, hb1, _, _⟩ := L1.out; have e0 := hb1.g7.1.1; clear hb1 h1 t1 CA)
    | (go_at_call 31; refine (CS.out _ D1.out).mono ?_; rintro e w2 ⟨rfl, h2, g2⟩; have D2 := hid h2; obtain ⟨cd1, hcd1⟩ := D1.out.blk; have L2 := hid (L1.out.keptD hcd1 (Tend.of_self (base := base) g2 hbd)); have T2 := hid (Low.trans T1.out (Low.of_tend (Tend.of_self (base := base) g2 hbd) ⟨_, hcd1⟩)); clear h2 g2 CS hcd1))
  go_ret
  exact ⟨rfl, L2.out, D2.out, T2.out⟩
theorem calls_at {P : Program} {f : Nat} {args args' : Array Value} {w : World} {Q : Ending → World → Prop} (h : args' = args) (c : Calls P f args w Q) : Calls P f args' w Q := h ▸ c
/-- A log behind a Commit. -/
def comL (g : Lg) (r : ByteArray) : Lg := { g with com := g.recs.length, len := g.len + (g.wait ++ Wi.frmS (⟨#[109]⟩ ++ r)).size, wait := ⟨#[]⟩, root := r, marked := true }
set_option maxRecDepth 100000 in
set_option maxHeartbeats 1000000 in
theorem commit_any (base b : Nat) (g : Lg) (k : Dk) (r : ByteArray) (w : World) (h : IsLog w base b g) (hd : IsDisk w base g.d k) (hdd : k.dead = false) (hS : Small k) (hr : r.size ≤ 3900) (hw : g.wait.size ≤ 900000) (hl : g.recs.length ≤ 1000000) (hn : g.len ≤ 1000000000)
    (hf : Fits (doF k.now (putC (g.wait ++ Wi.frmS (⟨#[109]⟩ ++ r)))) 1000000) :
    Calls Try.prog 13 #[.pointer (some ⟨b, 0, none⟩), .string r] w fun e w' => e = .returned (.int .i64 0) ∧ IsLog w' base b (comL g r) ∧ IsDisk w' base g.d (syncD (stepD k (putC (g.wait ++ Wi.frmS (⟨#[109]⟩ ++ r))))) ∧ Low base w w' := by
  have hfs : (Wi.frmS (⟨#[109]⟩ ++ r)).size ≤ 5000 := by rw [Wi.frmS_size, ByteArray.size_append]; show 1 + r.size + 8 ≤ _; omega
  have hsz : (g.wait ++ Wi.frmS (⟨#[109]⟩ ++ r)).size ≤ 1000000 := by rw [ByteArray.size_append]; omega
  have C1 := hid (sealed_any base b g r w h (by omega) hr)
  have C2 : Hid (∀ W, w.grownBy W none → Calls Try.prog 43 #[.pointer (some ⟨b, 0, none⟩), .string (g.wait ++ Wi.frmS (⟨#[109]⟩ ++ r))] W fun e w' => e = .returned (.int .i64 0) ∧ IsLog w' base b g ∧ IsDisk w' base g.d (syncD (stepD k (putC (g.wait ++ Wi.frmS (⟨#[109]⟩ ++ r))))) ∧ Low base W w') := fun W hW => put_any base b g k _ W (h.kept hW) (hd.kept hW) hdd hS hsz hf
  have C3 : Hid (∀ W, IsLog W base b g → Calls Try.prog 44 #[.pointer (some ⟨b, 0, none⟩), .int .i64 (g.len + (g.wait ++ Wi.frmS (⟨#[109]⟩ ++ r)).size : Nat), .string r] W fun e w' => e = .returned (.tuple #[]) ∧ IsLog w' base b (comL g r) ∧ W.grownBy w' (some b)) := fun W hW => mark_any base b g _ r W hW hl
  have hb0 : base ≤ b := h.1
  have z1 : ((g.wait ++ Wi.frmS (⟨#[109]⟩ ++ r)).size : Int) ≤ 1000000 := by omega
  have z2 : (g.len : Int) ≤ 1000000000 := by omega
  clear h hd hdd hS hr hw hl hf hfs
  generalize comL g r = g2 at *
  generalize stepD k (putC (g.wait ++ Wi.frmS (⟨#[109]⟩ ++ r))) = k1 at *
  generalize g.wait ++ Wi.frmS (⟨#[109]⟩ ++ r) = S at *
  generalize syncD k1 = k2 at *
  have iw : IntKind.i64.wrap ((g.len : Int) + (S.size : Int)) = ((g.len + S.size : Nat) : Int) := by rw [IntKind.wrap_i64]; omega
  have iw2 : (g.len : Int) + (S.size : Int) = ((g.len + S.size : Nat) : Int) := by omega
  have IW2 := hid iw2
  clear iw2 hsz hn
  go_enter Try.func13, Try.ntmps13
  go_wp2_with (first
    | (go_at_call 42; refine C1.out.mono ?_; rintro e w1 ⟨rfl, g1⟩; have G1 := hid g1; clear g1 C1)
    | (go_at_call 43; refine (C2.out _ G1.out).mono ?_; rintro e w2 ⟨rfl, h2, d2, t2⟩; have L2 := hid h2; have D2 := hid d2; have T2 := hid (Low.trans (Low.of_none G1.out) t2); obtain ⟨_, vr1, vw1, hb1, _, _⟩ := L2.out; have e3 := hb1.g7.1.2.2.2.1; clear hb1 h2 d2 t2 C2)
    | (go_at_call 44; (refine calls_at (args := #[.pointer (some ⟨b, 0, none⟩), .int .i64 (g.len + S.size : Nat), .string r]) (by rw [← IW2.out]) ?_; refine (C3.out _ L2.out).mono ?_; rintro e w3 ⟨rfl, h3, g3⟩; have L3 := hid h3; obtain ⟨cs2, hb2⟩ := L2.out.blk; have D3 := hid (IsDisk.keptL D2.out hb2 (LT.of_self (base := base) g3 hb0)); have T3 := hid (Low.trans T2.out (Low.of_lt (LT.of_self (base := base) g3 hb0) ⟨_, hb2⟩)); clear h3 g3 hb2 C3)))
  go_ret
  exact ⟨rfl, L3.out, D3.out, T3.out⟩
end Go.Proofs.Ytddnjlnnkeiplaa
