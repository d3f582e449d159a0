/-
  The interpreter: a new machine, as it grows. The interpreter: a new machine.
-/
import Derived.Test.YtajoncmmdeahnaaGreatDoorKIx
import Derived.Test.YtajoncmmdeahnaaGreatDoorIs
namespace Go.Proofs.YtajoncmmdeahnaaGreatDoor
open Go.RowKit
namespace Ip
def BodN (w : World) (lo mb n : Nat) (F : ByteArray → Option (List ByteArray × Pd)) : Prop := ∃ f, Mp.MapR w mb n f ∧ ∀ s, match F s with
  | none => f s = none
  | some (ps, b) => ∃ pa cap q, f s = some (bodyV pa ps.length cap b q) ∧ ps.length ≤ cap ∧ cap ≤ maxLen ∧ (ps = [] ∨ ∃ g cs, pa = some ⟨g, 0, none⟩ ∧ lo ≤ g ∧ Blk w g 9 cs ∧ ∀ (i : Nat) (x : ByteArray), ps[i]? = some x → cs[i]? = some (Value.string x)) ∧ KsP w (fun g => lo ≤ g) q b.kids
theorem BodN.kept {w w' : World} {lo mb n : Nat} {F : ByteArray → Option (List ByteArray × Pd)} (h : BodN w lo mb n F) (hm : w'.heap[mb]? = w.heap[mb]?) (hk : Kp w w' (fun g => lo ≤ g)) : BodN w' lo mb n F := by
  obtain ⟨f, h1, h2⟩ := h
  refine ⟨f, h1.heap hm, fun s => ?_⟩
  have h3 := h2 s
  cases hF : F s with
  | none => rw [hF] at h3; exact h3
  | some x =>
    obtain ⟨ps, b⟩ := x
    rw [hF] at h3
    obtain ⟨pa, cap, q, e1, e2, e3, e4, e5⟩ := h3
    refine ⟨pa, cap, q, e1, e2, e3, e4.imp id (fun ⟨g, cs, k1, k2, k3, k4⟩ => ⟨g, cs, k1, k2, (hk g k2 k3.lt).trans k3, k4⟩), e5.keptP hk (fun _ hh _ => hh)⟩
theorem BodN.lt {w : World} {lo mb n : Nat} {F : ByteArray → Option (List ByteArray × Pd)} (h : BodN w lo mb n F) : mb < w.heap.size := by
  obtain ⟨f, h1, _⟩ := h
  exact h1.lt
theorem str_row {w : World} {b lo : Nat} {pa : Option Addr} {cap : Nat} {ps : List ByteArray} (h : w.ownsRow b 9 1 (.slice pa ps.length cap) ps.length (ps.map Value.string)) (hb : lo ≤ b) : ps = [] ∨ ∃ g cs, pa = some ⟨g, 0, none⟩ ∧ lo ≤ g ∧ Blk w g 9 cs ∧ ∀ (i : Nat) (x : ByteArray), ps[i]? = some x → cs[i]? = some (Value.string x) := by
  rcases h.2 with ⟨_, h3⟩ | ⟨g, cap2, cur, e, h3, h4, _, _, _, h5⟩
  · exact Or.inl (List.length_eq_zero_iff.1 h3)
  · injection e with e1 e2 e3
    refine Or.inr ⟨g, cur, e1, Nat.le_trans hb h3, h4, fun i x hx => ?_⟩
    have h6 : (cur.toList.take (ps.length * 1))[i]? = some (Value.string x) := by
      rw [h5, List.getElem?_map, hx]
      rfl
    rw [List.getElem?_take] at h6
    split at h6
    · rw [Array.getElem?_toList] at h6
      exact h6
    · cases h6
theorem BodN.store {w : World} {lo mb n : Nat} {F : ByteArray → Option (List ByteArray × Pd)} (h : BodN w lo mb n F) (hml : mb < lo) (hn : n < maxLen) (s : ByteArray) (hs : s.size ≤ maxLen) (ps : List ByteArray) (b : Pd) (pa : Option Addr) (cap : Nat) (q : Value) (hc1 : ps.length ≤ cap) (hc2 : cap ≤ maxLen) (hr : ps = [] ∨ ∃ g cs, pa = some ⟨g, 0, none⟩ ∧ lo ≤ g ∧ Blk w g 9 cs ∧ ∀ (i : Nat) (x : ByteArray), ps[i]? = some x → cs[i]? = some (Value.string x)) (hq : KsP w (fun g => lo ≤ g) q b.kids) :
    ∃ w', (Instr.mapUpdate 77 (.map (some mb)) (.string s) (bodyV pa ps.length cap b q)).run Tryz.prog w = .ok () w' ∧ BodN w' lo mb (n + 1) (updB F s (ps, b)) ∧ w.grownBy w' (some mb) := by
  obtain ⟨f, h1, h2⟩ := h
  obtain ⟨w', k1, k2, k3⟩ := h1.store Tryz.underlying77 hn s hs (bodyV pa ps.length cap b q)
  have hk : Kp w w' (fun g => lo ≤ g) := Kp.of_grown k3 (fun b hb e => by injection e with e; have hb : lo ≤ b := hb; omega)
  refine ⟨w', k1, ⟨_, k2, fun x => ?_⟩, k3⟩
  have h3 := h2 x
  show match (if same x s = true then some (ps, b) else F x) with
    | none => (if same x s = true then some (bodyV pa ps.length cap b q) else f x) = none
    | some (ps', b') => ∃ pa' cap' q', (if same x s = true then some (bodyV pa ps.length cap b q) else f x) = some (bodyV pa' ps'.length cap' b' q') ∧ _ ∧ _ ∧ _ ∧ _
  cases same x s with
  | true => exact ⟨pa, cap, q, rfl, hc1, hc2, hr.imp id (fun ⟨g, cs, k1, k2, k3, k4⟩ => ⟨g, cs, k1, k2, (hk g k2 k3.lt).trans k3, k4⟩), hq.keptP hk (fun _ hh _ => hh)⟩
  | false =>
    simp only [Bool.false_eq_true, if_false]
    cases hF : F x with
    | none => rw [hF] at h3; exact h3
    | some z =>
      obtain ⟨ps', b'⟩ := z
      rw [hF] at h3
      obtain ⟨pa', cap', q', e1, e2, e3, e4, e5⟩ := h3
      exact ⟨pa', cap', q', e1, e2, e3, e4.imp id (fun ⟨g, cs, k1, k2, k3, k4⟩ => ⟨g, cs, k1, k2, (hk g k2 k3.lt).trans k3, k4⟩), e5.keptP hk (fun _ hh _ => hh)⟩
def nmX (w : World) (hi : Nat) : Xm := ⟨w.heap.size + 5, hi, w.heap.size + 4, w.heap.size + 1, w.heap.size + 2, w.heap.size + 3⟩
structure NmI (w : World) (k t : Int) (s : ByteArray) (n : Int) (q : Value) (fuel j : Nat) (F : ByteArray → Option (List ByteArray × Pd)) (G : Vm) (wr : World) : Prop where
  g : w.grownBy wr none
  b0 : Blk wr w.heap.size 27 #[.int .i64 k, .int .i64 t, .string s, .int .i64 n, q]
  bod : BodN wr (w.heap.size + 5) (w.heap.size + 1) j F
  glo : Mp.MapR wr (w.heap.size + 2) j (vM G)
  vis : SmR wr (w.heap.size + 3) 0 (fun _ _ => none)
  m : Blk wr (w.heap.size + 4) 81 #[.map (some (w.heap.size + 1)), .map (some (w.heap.size + 2)), .int .i64 fuel, .int .i64 0, .map (some (w.heap.size + 3))]
section
variable {w wr w' : World} {k t : Int} {s : ByteArray} {n : Int} {q : Value} {fuel j : Nat} {F : ByteArray → Option (List ByteArray × Pd)} {G : Vm}
theorem NmI.kept (h : NmI w k t s n q fuel j F G wr) (hg : wr.grownBy w' none) : NmI w k t s n q fuel j F G w' :=
  ⟨grown_none h.g hg, h.b0.kept hg (by simp), h.bod.kept (hg.block _ h.bod.lt (by simp)) (Kp.of_none _ hg), h.glo.kept hg (by simp), h.vis.kept hg (by simp), h.m.kept hg (by simp)⟩
theorem NmI.setG (h : NmI w k t s n q fuel j F G wr) (hj : j < maxLen) (x : ByteArray) (hx : x.size ≤ maxLen) (v : V) : ∃ w', (Instr.mapUpdate 78 (.map (some (w.heap.size + 2))) (.string x) (.agg #[.int .i64 v.1, .int .i64 v.2])).run Tryz.prog wr = .ok () w' ∧ NmI w k t s n q fuel (j + 1) F (updV G x v) w' := by
  obtain ⟨w', h1, h2, h3⟩ := h.glo.store Tryz.underlying78 hj x hx (vV v)
  have K : Kp wr w' (fun g => w.heap.size + 5 ≤ g) := Kp.of_grown h3 (fun b hb e => by injection e with e; have hb : w.heap.size + 5 ≤ b := hb; omega)
  obtain ⟨f, q1, q2⟩ := h.bod.kept (h3.block _ h.bod.lt (fun e => by injection e with e; omega)) K
  exact ⟨w', h1, grown_ob' h.g h3 (fun x e => by injection e with e; omega), h.b0.kept h3 (fun e => by injection e with e; omega), ⟨f, q1.more (Nat.le_succ _), q2⟩, h2.congr (fun y => (vM_upd _ _ _ _).symm), h.vis.kept h3 (fun e => by injection e with e; omega), h.m.kept h3 (fun e => by injection e with e; omega)⟩
theorem NmI.setF (h : NmI w k t s n q fuel j F G wr) (hj : j < maxLen) (x : ByteArray) (hx : x.size ≤ maxLen) (ps : List ByteArray) (b : Pd) (pa : Option Addr) (cap : Nat) (qb : Value) (hc1 : ps.length ≤ cap) (hc2 : cap ≤ maxLen) (hr : ps = [] ∨ ∃ g cs, pa = some ⟨g, 0, none⟩ ∧ w.heap.size + 5 ≤ g ∧ Blk wr g 9 cs ∧ ∀ (i : Nat) (x : ByteArray), ps[i]? = some x → cs[i]? = some (Value.string x)) (hq : KsP wr (fun g => w.heap.size + 5 ≤ g) qb b.kids) : ∃ w', (Instr.mapUpdate 77 (.map (some (w.heap.size + 1))) (.string x) (bodyV pa ps.length cap b qb)).run Tryz.prog wr = .ok () w' ∧ NmI w k t s n q fuel (j + 1) (updB F x (ps, b)) G w' := by
  obtain ⟨w', h1, h2, h3⟩ := h.bod.store (by omega) hj x hx ps b pa cap qb hc1 hc2 hr hq
  exact ⟨w', h1, grown_ob' h.g h3 (fun x e => by injection e with e; omega), h.b0.kept h3 (fun e => by injection e with e; omega), h2, (h.glo.kept h3 (fun e => by injection e with e; omega)).more (Nat.le_succ _), h.vis.kept h3 (fun e => by injection e with e; omega), h.m.kept h3 (fun e => by injection e with e; omega)⟩
theorem NmI.machine (h : NmI w k t s n q fuel j F G wr) (hj : j ≤ 1000) (hf : fuel ≤ 1000000) : MaR wr (nmX w wr.heap.size) ⟨fuel, F⟩ (start G) := by
  have hm := h.m.lt
  refine ⟨⟨by show w.heap.size + 4 < w.heap.size + 5; omega, by show w.heap.size + 1 < w.heap.size + 5; omega, by show w.heap.size + 2 < w.heap.size + 5; omega, by show w.heap.size + 3 < w.heap.size + 5; omega, by show w.heap.size + 1 ≠ w.heap.size + 2; omega, by show w.heap.size + 1 ≠ w.heap.size + 3; omega, by show w.heap.size + 2 ≠ w.heap.size + 3; omega, by show w.heap.size + 5 ≤ wr.heap.size; omega⟩, Nat.le_refl _, h.m, ?_, h.glo.more (by show j ≤ 1000 + 0; omega), h.vis, Nat.zero_le _, hf⟩
  obtain ⟨f, h1, h2⟩ := h.bod
  refine ⟨j, f, h1, fun s => ?_⟩
  have h3 := h2 s
  show match F s with
    | none => f s = none
    | some (ps, b) => ∃ pa cap q, f s = some (bodyV pa ps.length cap b q) ∧ ps.length ≤ cap ∧ cap ≤ maxLen ∧ StrR wr (nmX w wr.heap.size) pa ps ∧ KsP wr (PX (nmX w wr.heap.size)) q b.kids
  cases hF : F s with
  | none => rw [hF] at h3; exact h3
  | some z =>
    obtain ⟨ps, b⟩ := z
    rw [hF] at h3
    obtain ⟨pa, cap, q', e1, e2, e3, e4, e5⟩ := h3
    exact ⟨pa, cap, q', e1, e2, e3, e4.imp id (fun ⟨g, cs, k1, k2, k3, k4⟩ => ⟨g, cs, k1, ⟨k2, k3.lt⟩, k3, k4⟩), e5.mono (fun b hb hl => ⟨hb, hl⟩)⟩
end
end Ip
end Go.Proofs.YtajoncmmdeahnaaGreatDoor
namespace Go.Proofs.YtajoncmmdeahnaaGreatDoor
open Go.RowKit
namespace Ip
theorem bods_glo (x : Nd) (r : List Nd) (F : ByteArray → Option (List ByteArray × Pd)) (h : x.kind = 2) : bodsOf (x :: r) F = bodsOf r F := by
  rw [bodsOf, if_pos h]
theorem bods_fn (x : Nd) (r : List Nd) (F : ByteArray → Option (List ByteArray × Pd)) (h : x.kind ≠ 2) : bodsOf (x :: r) F = bodsOf r (updB F x.txt (bodyM x)) := by
  rw [bodsOf, if_neg h]
theorem globs_fn (x : Nd) (r : List Nd) (G : Vm) (h : x.kind ≠ 2) : globsOf (x :: r) G = globsOf r G := by
  rw [globsOf, if_neg h]
theorem globs_glo (x : Nd) (r : List Nd) (G : Vm) {H : Vm} (h : x.kind = 2) (hG : globsOf (x :: r) G = some H) : ∃ y l, x.kids = y :: l ∧ globsOf (x :: r) G = globsOf r (updV G x.txt (y.ty, y.num)) := by
  rw [globsOf, if_pos h] at hG ⊢
  cases hk : x.kids with
  | nil => rw [hk] at hG; cases hG
  | cons y l => exact ⟨y, l, rfl, rfl⟩
set_option maxRecDepth 100000 in
set_option maxHeartbeats 8000000 in
theorem newMachine_any (P : Nat → Prop) (k t : Int) (s : ByteArray) (n : Int) (ks : List Nd) (q : Value) (w : World) (fuel : Nat) (hok : (Nd.mk k t s n ks).ok) (hk : KsV w P q ks) (hf : fuel ≤ 1000000) {G : Vm} (hG : globsOf ks (fun _ => none) = some G) :
    Calls Tryz.prog 32 #[.agg #[.int .i64 k, .int .i64 t, .string s, .int .i64 n, q], .int .i64 fuel] w fun e w' => e = .returned (.pointer (some ⟨w.heap.size + 4, 0, none⟩)) ∧ MaR w' (nmX w w'.heap.size) ⟨fuel, bodsOf ks (fun _ => none)⟩ (start G) ∧ w.grownBy w' none := by
  obtain ⟨p, c, rfl, _, _, _⟩ := hk.form
  have HK := hid hk
  obtain ⟨L, hL⟩ : ∃ L, ks.length = L := ⟨_, rfl⟩
  have HL : Hid (ks.length = L) := hL
  have hl := hok.2.1
  rw [hL] at hl
  have HK' : Hid (KsV w P (.slice p L c) ks) := by rw [← hL]; exact HK.out
  rw [hL]
  have HOK := hid hok.2.2
  have HF := hid hf
  have HG := hid hG
  clear HK hL hk hok hf hG
  have i1 : (L : Int) ≤ 255 := by omega
  have MK7 : ∀ W : World, (Instr.makeMap 77 none).run Tryz.prog W = .ok (.map (some W.heap.size)) (W.alloc (.map #[] 0)) := fun W => by kernel_rfl
  have MK8 : ∀ W : World, (Instr.makeMap 78 none).run Tryz.prog W = .ok (.map (some W.heap.size)) (W.alloc (.map #[] 0)) := fun W => by kernel_rfl
  have MK9 : ∀ W : World, (Instr.makeMap 79 none).run Tryz.prog W = .ok (.map (some W.heap.size)) (W.alloc (.map #[] 0)) := fun W => by kernel_rfl
  go_enter Tryz.func32, Tryz.ntmps32
  go_wp2
  clear MK7 MK8 MK9
  go_loopw [17] (fun i wr => ∃ (j : Nat) (F : ByteArray → Option (List ByteArray × Pd)) (G' : Vm), j ≤ L ∧ i = .int .i64 j ∧ NmI w k t s n (.slice p L c) fuel j F G' wr ∧ bodsOf ks (fun _ => none) = bodsOf (ks.drop j) F ∧ globsOf ks (fun _ => none) = globsOf (ks.drop j) G') (fun i _ => L - (intOf i).toNat)
  case atStart =>
    have G5 := grown_alloc (grown_alloc (grown_alloc (grown_alloc (grown_alloc (grown_refl w none) (.cells #[.int .i64 k, .int .i64 t, .string s, .int .i64 n, .slice p L c] 27)) (.map #[] 0)) (.map #[] 0)) (.map #[] 0)) (.cells #[.map (some (w.heap.size + 1)), .map (some (w.heap.size + 2)), .int .i64 fuel, .int .i64 0, .map (some (w.heap.size + 3))] 81)
    refine ⟨0, fun _ => none, fun _ => none, Nat.zero_le _, rfl, ⟨G5, ((((Blk.new w 27 _).alloc _).alloc _).alloc _).alloc _, ⟨fun _ => none, ?_, fun _ => rfl⟩, ?_, ?_, ?_⟩, rfl, rfl⟩
    · have h := ((((Mp.MapR.made (w.alloc (.cells #[.int .i64 k, .int .i64 t, .string s, .int .i64 n, .slice p L c] 27))).kept (grown_alloc (grown_refl _ none) (.map #[] 0)) (by simp)).kept (grown_alloc (grown_refl _ none) (.map #[] 0)) (by simp)).kept (grown_alloc (grown_refl _ none) (.cells #[.map (some (w.heap.size + 1)), .map (some (w.heap.size + 2)), .int .i64 fuel, .int .i64 0, .map (some (w.heap.size + 3))] 81)) (by simp))
      rw [World.size_alloc] at h
      exact h
    · have h := (((Mp.MapR.made ((w.alloc (.cells #[.int .i64 k, .int .i64 t, .string s, .int .i64 n, .slice p L c] 27)).alloc (.map #[] 0))).kept (grown_alloc (grown_refl _ none) (.map #[] 0)) (by simp)).kept (grown_alloc (grown_refl _ none) (.cells #[.map (some (w.heap.size + 1)), .map (some (w.heap.size + 2)), .int .i64 fuel, .int .i64 0, .map (some (w.heap.size + 3))] 81)) (by simp))
      rw [World.size_alloc, World.size_alloc] at h
      exact h.congr (fun _ => rfl)
    · have h := (SmR.made (((w.alloc (.cells #[.int .i64 k, .int .i64 t, .string s, .int .i64 n, .slice p L c] 27)).alloc (.map #[] 0)).alloc (.map #[] 0))).kept (grown_alloc (grown_refl _ none) (.cells #[.map (some (w.heap.size + 1)), .map (some (w.heap.size + 2)), .int .i64 fuel, .int .i64 0, .map (some (w.heap.size + 3))] 81)) (by simp)
      rw [World.size_alloc, World.size_alloc, World.size_alloc] at h
      exact h
    · have h := Blk.new ((((w.alloc (.cells #[.int .i64 k, .int .i64 t, .string s, .int .i64 n, .slice p L c] 27)).alloc (.map #[] 0)).alloc (.map #[] 0)).alloc (.map #[] 0)) 81 #[.map (some (w.heap.size + 1)), .map (some (w.heap.size + 2)), .int .i64 fuel, .int .i64 0, .map (some (w.heap.size + 3))]
      rw [World.size_alloc, World.size_alloc, World.size_alloc, World.size_alloc] at h
      exact h
  case round =>
    obtain ⟨j, F, G', hj, rfl, hI, hE1, hE2⟩ := hrel
    have j0 : (0 : Int) ≤ j := by omega
    by_cases hlt : j < L
    · have j1 : (j : Int) < L := by omega
      have hjk : j < ks.length := by rw [HL.out]; exact hlt
      obtain ⟨g', hp, _, hat⟩ := (HK'.out.kept hI.g).at j hjk
      subst hp
      rw [List.drop_eq_getElem_cons hjk] at hE1 hE2
      have hokx := Nd.oks_mem HOK.out _ (List.getElem_mem hjk)
      obtain ⟨qx, c0, c1, c2, c3, c4, hkx⟩ := hat.cells
      rw [Nat.mul_comm 5 j] at c0 c1 c2 c3 c4
      obtain ⟨px, cx, hq, _⟩ := hkx.form
      subst hq
      clear hat
      generalize ks[j] = x at *
      obtain ⟨kd, ty, tx, nm, kk⟩ := x
      simp only [Nd.kind, Nd.ty, Nd.txt, Nd.num, Nd.kids] at c0 c1 c2 c3 c4 hkx
      have WS0 : Hid (w.heap.size + 5 ≤ wr.heap.size) := hid hI.m.lt
      have SZ : Hid (tx.size ≤ maxLen ∧ j < maxLen) := hid ⟨Nat.le_trans hokx.1.s1 (by unfold maxLen; omega), by unfold maxLen; omega⟩
      have HOX := hid hokx
      have GA := grown_alloc (grown_refl wr none) (.cells #[.int .i64 kd, .int .i64 ty, .string tx, .int .i64 nm, .slice px kk.length cx] 27)
      have NA := hid (hI.kept GA)
      have ND := hid (hI.kept (grown_drew GA))
      have BX := hid (Blk.new wr 27 #[.int .i64 kd, .int .i64 ty, .string tx, .int .i64 nm, .slice px kk.length cx])
      have KX := hid (hkx.kept (grown_drew GA))
      have HJ := hid hlt
      have HE1 := hid hE1
      have HE2 := hid hE2
      clear hE1 hE2 hkx hI GA hokx hlt hj hjk
      have x0 := BX.out.cell 0
      have x1 := BX.out.cell 1
      have x2 := BX.out.cell 2
      have x3 := BX.out.cell 3
      have x4 := BX.out.cell 4
      simp at x0 x1 x2 x3 x4
      by_cases h2 : kd = 2
      · subst h2
        have HG2 : globsOf (.mk 2 ty tx nm kk :: ks.drop (j + 1)) G' = some G := by rw [← HE2.out]; exact HG.out
        obtain ⟨y, l, hkk, hgl⟩ := globs_glo (.mk 2 ty tx nm kk) _ _ rfl HG2
        have hkk : kk = y :: l := hkk
        subst hkk
        have HGL := hid hgl
        clear HG2 hgl
        obtain ⟨gk, hp, _, hat⟩ := KX.out.at 0 (by simp)
        subst hp
        obtain ⟨qy, k0, k1, k2, k3, k4, hky⟩ := hat.cells
        simp at k0 k1 k2 k3 k4
        obtain ⟨py, cy, rfl, _, _, _⟩ := hky.form
        clear hat hky
        have hlen : (0 : Int) < ((l.length + 1 : Nat) : Int) := by omega
        have y1 : (wr.alloc (.cells #[.int .i64 2, .int .i64 ty, .string tx, .int .i64 nm, .slice (some ⟨gk, 0, none⟩) (y :: l).length cx] 27)).cell? ⟨w.heap.size + 1 + 1 + 1 + 1, 1, none⟩ = some (.map (some (w.heap.size + 1 + 1))) := NA.out.m.cell 1
        simp only [List.length_cons] at x0 x1 x2 x3 x4 y1
        go_wp2_with fail
        go_region_law (go_simp; go_at_call 58; refine (lit_any y.kind y.ty y.txt y.num (.slice py y.kids.length cy) _).mono ?_; rintro e w3 ⟨rfl, hg⟩; have N3 := ND.out.kept hg; obtain ⟨w4, hr, hN⟩ := N3.setG SZ.out.2 tx SZ.out.1 (y.ty, y.num); have hrun : (Instr.mapUpdate 78 (.map (some (w.heap.size + 1 + 1))) (.string tx) (.agg #[.int .i64 y.ty, .int .i64 y.num])).run Tryz.prog w3 = .ok () w4 := hr; have N4 := hid hN; clear x0 x1 x2 x3 x4 y1 k0 k1 k2 k3 k4; have y1 : w3.cell? ⟨w.heap.size + 1 + 1 + 1 + 1, 1, none⟩ = some (.map (some (w.heap.size + 1 + 1))) := N3.m.cell 1; have x2 : w3.cell? ⟨wr.heap.size, 2, none⟩ = some (.string tx) := (by have h := (BX.out.drew.kept hg (by simp)).cell 2; simpa using h); unfold vV; clear hg hN N3 hr)
        all_goals
          (try go_wp2_with fail)
          go_roundw
          case rel => exact ⟨j + 1, F, _, HJ.out, by go_num, N4.out, by rw [HE1.out, bods_glo _ _ _ rfl], by rw [HE2.out, HGL.out]; rfl⟩
          case measure => have := HJ.out; simp [intOf]; omega
      · have e2 : (kd == 2) = false := by rw [beq_eq_false_iff_ne]; exact h2
        have H2 := hid h2
        clear h2
        have y0 : (wr.alloc (.cells #[.int .i64 kd, .int .i64 ty, .string tx, .int .i64 nm, .slice px kk.length cx] 27)).cell? ⟨w.heap.size + 1 + 1 + 1 + 1, 0, none⟩ = some (.map (some (w.heap.size + 1))) := NA.out.m.cell 0
        have CC := hid (bodyOf_any P kd ty tx nm kk _ _ HOX.out KX.out)
        have WS : Hid (w.heap.size + 5 ≤ wr.heap.size) := WS0
        go_wp2_with fail
        go_region_law (go_simp; go_at_call 59; refine CC.out.mono ?_; rintro e w3 ⟨pa, cap, qb, rfl, h1, h2, hrow, hkb, hg⟩; have N3 := ND.out.kept hg; obtain ⟨w4, hrun, hN⟩ := N3.setF SZ.out.2 tx SZ.out.1 (bodyM (.mk kd ty tx nm kk)).1 (bodyM (.mk kd ty tx nm kk)).2 pa cap qb h1 h2 (str_row hrow (by show w.heap.size + 5 ≤ (wr.alloc (.cells #[.int .i64 kd, .int .i64 ty, .string tx, .int .i64 nm, .slice px kk.length cx] 27)).heap.size + 3; rw [World.size_alloc]; have := WS.out; omega)) (hkb.mono (fun b hb _ => by have := WS.out; have hb : (wr.alloc (.cells #[.int .i64 kd, .int .i64 ty, .string tx, .int .i64 nm, .slice px kk.length cx] 27)).heap.size + 3 ≤ b := hb; rw [World.size_alloc] at hb; show w.heap.size + 5 ≤ b; omega)); have N4 := hid hN; clear x0 x1 x2 x3 x4 y0; have y0 : w3.cell? ⟨w.heap.size + 1 + 1 + 1 + 1, 0, none⟩ = some (.map (some (w.heap.size + 1))) := N3.m.cell 0; have x2 : w3.cell? ⟨wr.heap.size, 2, none⟩ = some (.string tx) := (by have h := (BX.out.drew.kept hg (by simp)).cell 2; simpa using h); unfold bodyV at hrun; clear h1 h2 hrow hkb hg hN N3 CC)
        all_goals
          (try go_wp2_with fail)
          go_roundw
          case rel => exact ⟨j + 1, _, _, HJ.out, by go_num, N4.out, by rw [HE1.out, bods_fn (.mk kd ty tx nm kk) _ _ (show (Nd.mk kd ty tx nm kk).kind ≠ 2 from H2.out)]; rfl, by rw [HE2.out, globs_fn (.mk kd ty tx nm kk) _ _ (show (Nd.mk kd ty tx nm kk).kind ≠ 2 from H2.out)]⟩
          case measure => have := HJ.out; simp [intOf]; omega
    · have j1 : ¬ (j : Int) < L := by omega
      rw [List.drop_eq_nil_of_le (show ks.length ≤ j by rw [HL.out]; omega)] at hE1 hE2
      rw [bodsOf] at hE1
      rw [globsOf, HG.out] at hE2
      obtain rfl := Option.some.inj hE2
      have II := hid hI
      have HE1 := hid hE1
      clear hE1 hE2 hI
      go_wp2
      go_ret
      rw [HE1.out]
      exact ⟨rfl, II.out.machine (by omega) HF.out, II.out.g⟩
end Ip
end Go.Proofs.YtajoncmmdeahnaaGreatDoor
