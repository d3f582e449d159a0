/-
  The law of what is kept: its Sync, and what it does behind its acts.
-/
import Derived.Test.YtoenddcdafnmiaaKLawKit
import Derived.Test.YtoenddcdafnmiaaSame
import Derived.Test.YtoenddcdafnmiaaAwake
namespace Go.Proofs.Ytoenddcdafnmiaa
open Go.RowKit Go.Maps
theorem Lp.kept {w wr w' : World} {c : Nat} {k : Dk} {m : Md} {a0 a1 : Option Addr} {n0 k0 n1 k1 : Nat} (h : Lp w wr c k m a0 n0 k0 a1 n1 k1) (hg : wr.grownBy w' none) : Lp w w' c k m a0 n0 k0 a1 n1 k1 :=
  ⟨h.disk.kept hg, h.box.kept hg (by simp), h.files.kept hg, h.chgs.kept hg, h.rel, h.inv, grown_trans h.grown hg⟩
theorem lp_sync1 {w wr : World} {c : Nat} {k : Dk} {m : Md} {a0 a1 : Option Addr} {n0 k0 n1 k1 : Nat} (h : Lp w wr c k m a0 n0 k0 a1 n1 k1) :
    Calls Try.prog 11 #[.pointer (some ⟨w.heap.size, 0, none⟩)] wr fun e w' => e = .returned (.int .i64 0) ∧ IsDisk w' w.heap.size w.heap.size (syncD k) ∧ Blk w' c 31 (bothA w.heap.size a0 n0 k0 a1 n1 k1 m.ch) ∧ FilesT w' (.slice a0 n0 k0) m.sure ∧ ChgsT w' (.slice a1 n1 k1) m.cs ∧ w.grownBy w' none := by
  refine (sync_any w.heap.size w.heap.size k wr h.disk h.rel.dead (by rw [h.rel.now]; exact h.inv.good.fits.mono (by decide))).mono ?_
  rintro e w' ⟨rfl, hd, hg⟩
  obtain ⟨cs, hb⟩ := h.disk.blk
  have hF := Far.of_self hb hg
  exact ⟨rfl, hd, h.box.far hF (by decide) (by decide), h.files.far hF, h.chgs.far hF, grown_through h.grown hg (Nat.le_refl _)⟩
theorem lp_sync2 {w : World} {k : Dk} {m : Md} {a0 a1 : Option Addr} {n0 k0 n1 k1 : Nat} (hR : Rel k m) (hI : Inv m) (W : World) (hs : FilesT W (.slice a0 n0 k0) m.sure) (hc : ChgsT W (.slice a1 n1 k1) m.cs) (hg0 : w.grownBy W none) :
    Calls Try.prog 12 #[.agg #[.slice a0 n0 k0, .slice a1 n1 k1, .int .i64 (-1), .slice none 0 0, .int .i64 m.ch, .bool false]] W fun e w' => ∃ a2 n2 k2, e = .returned (.tuple #[.agg #[.slice a2 n2 k2, .slice none 0 0, .int .i64 (-1), .slice none 0 0, .int .i64 m.ch, .bool false], .int .i64 0]) ∧ FilesT w' (.slice a2 n2 k2) (syncM m).sure ∧ W.grownBy w' none ∧ w.grownBy w' none ∧ Rel (syncD k) (syncM m) ∧ Inv (syncM m) := by
  refine (rsync_any _ _ (-1) m.ch m.sure m.cs W hs hc.1 hI.rising hI.good.ok (by have := hI.good.len; omega) hI.good.fit).mono ?_
  rintro e w' ⟨v', rfl, h1, h2⟩
  obtain ⟨pa, n, c, rfl⟩ := h1.1.shape
  exact ⟨pa, n, c, rfl, h1, h2, grown_trans hg0 h2, (rel_sync hR hI).1, (rel_sync hR hI).2⟩
theorem lp_sync3 {w w2 : World} {c : Nat} {q : Dk} {m2 : Md} {a0 a1 a2 : Option Addr} {n0 k0 n1 k1 n2 k2 ch : Nat} (hc : w.heap.size ≤ c) (hB : Blk w2 c 31 (bothA w.heap.size a0 n0 k0 a1 n1 k1 ch))
    (hD : IsDisk w2 w.heap.size w.heap.size q) (hF : FilesT w2 (.slice a2 n2 k2) m2.sure) (hcs : m2.cs = []) (hR : Rel q m2) (hI : Inv m2) (hg : w.grownBy w2 none) :
    Lp w (set6 w2 c (.slice a2 n2 k2) (.slice none 0 0) (.int .i64 (-1)) (.slice none 0 0) (.int .i64 m2.ch) (.bool false)) c q m2 a2 n2 k2 none 0 0 := by
  have oF := hF.2.off hB (by decide)
  refine ⟨?_, ?_, ?_, ?_, hR, hI, ?_⟩
  · exact hD.sx hB (by decide) (by decide) _ _ _ _ _ _
  · exact hB.sx (.slice a2 n2 k2) (.slice none 0 0) (.int .i64 (-1)) (.slice none 0 0) (.int .i64 m2.ch) (.bool false)
  · exact hF.sx oF _ _ _ _ _ _
  · rw [hcs]
    exact ⟨Or.inl ⟨rfl, rfl⟩, fun _ _ _ _ e => by cases e⟩
  · exact grown_sx hg hc _ _ _ _ _ _
theorem lp_now {w wr : World} {c : Nat} {k : Dk} {m : Md} {a0 a1 : Option Addr} {n0 k0 n1 k1 : Nat} (h : Lp w wr c k m a0 n0 k0 a1 n1 k1) :
    Calls Try.prog 13 #[.agg #[.slice a0 n0 k0, .slice a1 n1 k1, .int .i64 (-1), .slice none 0 0, .int .i64 m.ch, .bool false]] wr fun e w' => ∃ a2 n2 k2, e = .returned (.slice a2 n2 k2) ∧ FilesT w' (.slice a2 n2 k2) m.now ∧ Lp w w' c k m a0 n0 k0 a1 n1 k1 := by
  refine (now_any _ _ _ _ _ _ m.sure m.cs wr h.files h.chgs.1 h.inv.rising h.inv.good.ok (by have := h.inv.good.len; omega) h.inv.good.fit).mono ?_
  rintro e w' ⟨v', rfl, h1, h2⟩
  obtain ⟨pa, n, c, rfl⟩ := h1.1.shape
  exact ⟨pa, n, c, rfl, h1, h.kept h2⟩
/-- A disk is as it was where another one turns. -/
theorem IsDisk.apart {w w' : World} {base b z : Nat} {k : Dk} {cs : Array Value} (h : IsDisk w base b k) (hz : Blk w z 64 cs) (hn : z ≠ b) (hg : w.grownBy w' (some z)) : IsDisk w' base b k := by
  obtain ⟨h0, vn, vs, vl, hb, hm, hs, hne, hl⟩ := h
  refine ⟨h0, vn, vs, vl, hb.kept hg (fun e => hn (Option.some.inj e).symm), hm.kept hg (fun g e => ?_), hs.kept hg (fun g e => ?_), hne, hl.kept hg ?_⟩
  · rintro e2
    have e3 : g = z := Option.some.inj e2
    subst e3
    rcases hm with ⟨e', _⟩ | ⟨g', e', _, ho⟩
    · rw [e] at e'; cases e'
    · rw [e] at e'
      cases e'
      exact hz.ne_map ho rfl
  · rintro e2
    have e3 : g = z := Option.some.inj e2
    subst e3
    rcases hs with ⟨e', _⟩ | ⟨g', e', _, ho⟩
    · rw [e] at e'; cases e'
    · rw [e] at e'
      cases e'
      exact hz.ne_map ho rfl
  · cases hq : vl.ownBlock with
    | none => exact Or.inl rfl
    | some g =>
      refine Or.inr (fun e => ?_)
      have e' : g = z := Option.some.inj e
      subst e'
      rcases hl.2 with ⟨rfl, _⟩ | ⟨g', cap, cur, rfl, _, hh, _⟩
      · cases hq
      · have : g' = g := Option.some.inj hq
        subst this
        have hB' : w.heap[g']? = some (.cells cs 64 (0, 0)) := hz
        rw [hh] at hB'
        injection hB' with q
        injection q with q1 q2 q3
        exact absurd q2 (by decide)
structure Fin (w wr : World) (c z : Nat) (p q : Dk) (m : Md) (a0 : Option Addr) (n0 k0 : Nat) (a1 : Option Addr) (n1 k1 : Nat) (v9 : Value) : Prop where
  one : IsDisk wr w.heap.size w.heap.size p
  two : IsDisk wr z z q
  ne : w.heap.size < z
  box : Blk wr c 31 (bothA w.heap.size a0 n0 k0 a1 n1 k1 m.ch)
  files : FilesT wr (.slice a0 n0 k0) m.sure
  chgs : ChgsT wr (.slice a1 n1 k1) m.cs
  side : FilesT wr v9 m.sure
  grown : w.grownBy wr none
section
variable {w wr w' : World} {c z : Nat} {p q k : Dk} {m : Md} {a0 a1 : Option Addr} {n0 k0 n1 k1 : Nat} {v9 : Value}
theorem Fin.turn1 {p' : Dk} (h : Fin w wr c z p q m a0 n0 k0 a1 n1 k1 v9) (hg : wr.grownBy w' (some w.heap.size)) (hd : IsDisk w' w.heap.size w.heap.size p') : Fin w w' c z p' q m a0 n0 k0 a1 n1 k1 v9 := by
  obtain ⟨cs, hb⟩ := h.one.blk
  have hF := Far.of_self hb hg
  have hne := h.ne
  exact ⟨hd, h.two.apart hb (by omega) hg, h.ne, h.box.far hF (by decide) (by decide), h.files.far hF, h.chgs.far hF, h.side.far hF, grown_through h.grown hg (Nat.le_refl _)⟩
theorem Fin.turn2 {q' : Dk} (h : Fin w wr c z p q m a0 n0 k0 a1 n1 k1 v9) (hg : wr.grownBy w' (some z)) (hd : IsDisk w' z z q') : Fin w w' c z p q' m a0 n0 k0 a1 n1 k1 v9 := by
  obtain ⟨cs, hb⟩ := h.two.blk
  have hF := Far.of_self hb hg
  have hne := h.ne
  exact ⟨h.one.apart hb (by omega) hg, hd, h.ne, h.box.far hF (by decide) (by decide), h.files.far hF, h.chgs.far hF, h.side.far hF, grown_through h.grown hg (by omega)⟩
theorem fin_clone (h : Lp w wr c k m a0 n0 k0 a1 n1 k1) (hs : FilesT wr v9 m.sure) :
    Calls Try.prog 14 #[.pointer (some ⟨w.heap.size, 0, none⟩)] wr fun e w' => e = .returned (.pointer (some ⟨wr.heap.size, 0, none⟩)) ∧ Fin w w' c wr.heap.size k k m a0 n0 k0 a1 n1 k1 v9 := by
  have hsm := h.rel.small h.inv
  refine (clone_any w.heap.size w.heap.size k wr h.disk hsm.now (by rw [h.rel.sure]; exact (h.inv.good.fit 0 (Nat.zero_le _)).mono (by decide)) (by have := hsm.loose; omega)).mono ?_
  rintro e w' ⟨rfl, hd, hg⟩
  exact ⟨rfl, h.disk.kept hg, hd, h.disk.lt, h.box.kept hg (by simp), h.files.kept hg, h.chgs.kept hg, hs.kept hg, grown_trans h.grown hg⟩
theorem fin_crash2 (h : Fin w wr c z p q m a0 n0 k0 a1 n1 k1 v9) (hR : Rel q m) (hI : Inv m) :
    Calls Try.prog 15 #[.pointer (some ⟨z, 0, none⟩), .int .i64 0, .int .i64 0] wr fun e w' => e = .returned (.tuple #[]) ∧ Fin w w' c z p ⟨m.sure, m.sure, [], 0, m.ch, true⟩ m a0 n0 k0 a1 n1 k1 v9 := by
  obtain ⟨L, hL, hl⟩ := lost_eq hR hI
  have hsm := hR.small hI
  refine (crash_any z z q 0 0 L wr h.two hR.dead hL hsm.loose (by decide) (by rw [hR.sure]; exact (hI.good.fit 0 (Nat.zero_le _)).mono (by decide))).mono ?_
  rintro e w' ⟨rfl, hd, hg⟩
  rw [hl, lost_zero, hR.changes] at hd
  exact ⟨rfl, h.turn2 hg hd⟩
theorem fin_crash1 (keep : Int) (h : Fin w wr c z p q m a0 n0 k0 a1 n1 k1 v9) (hR : Rel p m) (hI : Inv m) :
    Calls Try.prog 15 #[.pointer (some ⟨w.heap.size, 0, none⟩), .int .i64 keep, .int .i64 0] wr fun e w' => e = .returned (.tuple #[]) ∧ Fin w w' c z ⟨lostM m keep, lostM m keep, [], 0, m.ch, true⟩ q m a0 n0 k0 a1 n1 k1 v9 := by
  obtain ⟨L, hL, hl⟩ := lost_eq hR hI
  have hsm := hR.small hI
  refine (crash_any w.heap.size w.heap.size p keep 0 L wr h.one hR.dead hL hsm.loose (by decide) (by rw [hR.sure]; exact (hI.good.fit 0 (Nat.zero_le _)).mono (by decide))).mono ?_
  rintro e w' ⟨rfl, hd, hg⟩
  rw [hl, hR.changes] at hd
  exact ⟨rfl, h.turn1 hg hd⟩
theorem fin_up1 {l : FS} {ch : Nat} (h : Fin w wr c z ⟨l, l, [], 0, ch, true⟩ q m a0 n0 k0 a1 n1 k1 v9) :
    Calls Try.prog 16 #[.pointer (some ⟨w.heap.size, 0, none⟩)] wr fun e w' => e = .returned (.bool true) ∧ Fin w w' c z (upD l ch) q m a0 n0 k0 a1 n1 k1 v9 := by
  refine (up_any w.heap.size w.heap.size _ wr h.one rfl).mono ?_
  rintro e w' ⟨rfl, hd, hg⟩
  exact ⟨rfl, h.turn1 hg hd⟩
theorem fin_up2 {l : FS} {ch : Nat} (h : Fin w wr c z p ⟨l, l, [], 0, ch, true⟩ m a0 n0 k0 a1 n1 k1 v9) :
    Calls Try.prog 16 #[.pointer (some ⟨z, 0, none⟩)] wr fun e w' => e = .returned (.bool true) ∧ Fin w w' c z p (upD l ch) m a0 n0 k0 a1 n1 k1 v9 := by
  refine (up_any z z _ wr h.two rfl).mono ?_
  rintro e w' ⟨rfl, hd, hg⟩
  exact ⟨rfl, h.turn2 hg hd⟩
theorem fin_rcrash (keep : Int) (h : Fin w wr c z p q m a0 n0 k0 a1 n1 k1 v9) (hI : Inv m) (hk0 : -9223372036854775808 ≤ keep) (hk1 : keep ≤ 9223372036854775807) :
    Calls Try.prog 17 #[.agg #[.slice a0 n0 k0, .slice a1 n1 k1, .int .i64 (-1), .slice none 0 0, .int .i64 m.ch, .bool false], .int .i64 keep, .int .i64 0] wr fun e w' => ∃ a2 n2 k2, e = .returned (.agg #[.slice a2 n2 k2, .slice none 0 0, .int .i64 (-1), .slice none 0 0, .int .i64 m.ch, .bool true]) ∧ FilesT w' (.slice a2 n2 k2) (lostM m keep) ∧ wr.grownBy w' none := by
  refine (rcrash_any _ _ (-1) m.ch keep m.sure m.cs (docL m) wr h.files h.chgs.1 hI.rising (fun k q => docL_at m q) (fun k q => by rw [← docL_at m q]; exact (hI.tiny _ (List.getElem_mem q)).okR) (by have := hI.good.len; omega) (fun k q => (kept_fits hI keep q).mono (by decide)) hk0 hk1).mono ?_
  rintro e w' ⟨v', rfl, h1, h2⟩
  obtain ⟨pa, n, c, rfl⟩ := h1.1.shape
  exact ⟨pa, n, c, rfl, h1, h2⟩
/-- What holds ahead of the last calls. -/
structure Las (w wr : World) (z : Nat) (p q : Dk) (c : Nat) (a2 : Option Addr) (n2 k2 ch : Nat) (v9 : Value) : Prop where
  one : IsDisk wr w.heap.size w.heap.size p
  two : IsDisk wr z z q
  box : Blk wr c 31 (bothA w.heap.size a2 n2 k2 none 0 0 ch)
  files : FilesT wr (.slice a2 n2 k2) p.now
  side : FilesT wr v9 q.now
  grown : w.grownBy wr none
theorem Las.kept {ch n2 k2 : Nat} {a2 : Option Addr} (h : Las w wr z p q c a2 n2 k2 ch v9) (hg : wr.grownBy w' none) : Las w w' z p q c a2 n2 k2 ch v9 :=
  ⟨h.one.kept hg, h.two.kept hg, h.box.kept hg (by simp), h.files.kept hg, h.side.kept hg, grown_trans h.grown hg⟩
theorem las_store {a2 : Option Addr} {n2 k2 ch' : Nat} {l : FS} (h : Fin w wr c z (upD l ch') (upD m.sure ch') m a0 n0 k0 a1 n1 k1 v9) (hc : w.heap.size ≤ c) (hF : FilesT wr (.slice a2 n2 k2) l) :
    Las w ((set6 wr c (.slice a2 n2 k2) (.slice none 0 0) (.int .i64 (-1)) (.slice none 0 0) (.int .i64 m.ch) (.bool true)).setCell ⟨c, 6, none⟩ (.bool false)) z (upD l ch') (upD m.sure ch') c a2 n2 k2 m.ch v9 := by
  have B := h.box.sx (.slice a2 n2 k2) (.slice none 0 0) (.int .i64 (-1)) (.slice none 0 0) (.int .i64 m.ch) (.bool true)
  have o1 := hF.2.off h.box (by decide)
  have o2 := h.side.2.off h.box (by decide)
  refine ⟨?_, ?_, ?_, ?_, ?_, ?_⟩
  · exact (h.one.sx h.box (by decide) (by decide) _ _ _ _ _ _).set B (by decide) (by decide) 6 _
  · exact (h.two.sx h.box (by decide) (by decide) _ _ _ _ _ _).set B (by decide) (by decide) 6 _
  · exact B.set 6 (.bool false)
  · exact (hF.sx o1 _ _ _ _ _ _).set o1 6 _
  · exact (h.side.sx o2 _ _ _ _ _ _).set o2 6 _
  · exact grown_set_new (grown_sx h.grown hc _ _ _ _ _ _) _ hc
theorem las_same1 {a2 : Option Addr} {n2 k2 : Nat} {keep : Int} (hI : Inv m) (h : Las w wr z (upD (lostM m keep) m.ch) q c a2 n2 k2 m.ch v9) :
    Calls Try.prog 9 #[.agg #[.pointer (some ⟨w.heap.size, 0, none⟩), .slice a2 n2 k2, .slice none 0 0, .int .i64 (-1), .slice none 0 0, .int .i64 m.ch, .bool false]] wr fun e w' => e = .returned (.bool true) ∧ wr.grownBy w' none :=
  same_any w.heap.size w.heap.size (upD (lostM m keep) m.ch) a2 n2 k2 wr h.one rfl rfl h.files (rising_fold hI.rising _) (kept_fits hI keep (Nat.le_refl _)) (names_fold hI.names _ (kept_tiny hI keep (Nat.le_refl _)))
theorem las_same2 {a2 a9 : Option Addr} {n2 k2 n9 k9 : Nat} (hI : Inv m) (h : Las w wr z p (upD m.sure m.ch) c a2 n2 k2 m.ch (.slice a9 n9 k9)) :
    Calls Try.prog 9 #[.agg #[.pointer (some ⟨z, 0, none⟩), .slice a9 n9 k9, .slice none 0 0, .int .i64 (-1), .slice none 0 0, .int .i64 m.ch, .bool false]] wr fun e w' => e = .returned (.bool true) ∧ wr.grownBy w' none :=
  same_any z z (upD m.sure m.ch) a9 n9 k9 wr h.two rfl rfl h.side hI.rising (hI.fit.mono (by have := hI.ch; omega)) hI.names
end
end Go.Proofs.Ytoenddcdafnmiaa
