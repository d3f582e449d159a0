/-
  A page that is cut becomes the root: plant. A page without keys that is no leaf: its one kid becomes the root. A tree's top page becomes the root: plant. Whether a page may have a key and its value: mayBe. Put: a key's value is laid in a tree.
-/
import Derived.Test.YtbhmmcelndmijaaGreatKAp
import Derived.Test.YtbhmmcelndmijaaGreatKJo
import Derived.Test.YtbhmmcelndmijaaGreatKTr3
namespace Go.Proofs.YtbhmmcelndmijaaGreat
open Go.RowKit Go.Maps
set_option maxRecDepth 100000 in
set_option maxHeartbeats 2000000 in
theorem plant_by (base b lb : Nat) (g2 g3 : Lg) (root : Int) (k : ByteArray) (a1 a2 : Nat) (at_ : Nat) (v : Value) (p : Pa.Pg) (w : World) (hT : IsTree w b lb root) (g : Lg) (hL : IsLog w base lb g) (hv : PgT w v p) (h0 : 0 < p.keys.length)
    (h1 : ∀ W, w.grownBy W none → Calls Tryz.prog 49 #[.pointer (some ⟨b, 0, none⟩), v] W (LayPost W base lb g2 [k] [a1, a2]))
    (h2 : ∀ W u, IsTree W b lb root → IsLog W base lb g2 → PgT W u ⟨false, [k], [], [a1, a2]⟩ → Calls Tryz.prog 49 #[.pointer (some ⟨b, 0, none⟩), u] W (LayPost W base lb g3 [] [at_])) :
    Calls Tryz.prog 29 #[.pointer (some ⟨b, 0, none⟩), v] w fun e w' => e = .returned (.int .i64 0) ∧ IsTree w' b lb at_ ∧ IsLog w' base lb g3 ∧ TT base lb b w w' := by
  have C1 := hid h1
  have C2 := hid h2
  obtain ⟨va, vb, vc, rfl, ⟨p1, k1, _, _, rfl, -⟩, ⟨p2, k2, _, _, rfl, -⟩, ⟨p3, k3, _, _, rfl, -⟩⟩ := hv
  have i0 : (0 : Int) < p.keys.length := by omega
  have G0 : Hid (w.grownBy (w.alloc (.cells #[.bool p.leaf, .slice p1 p.keys.length k1, .slice p2 p.vals.length k2, .slice p3 p.kids.length k3] 70)) none) := grown_alloc (grown_refl w none) _
  have X0 := hid (Blk.new w 70 #[.bool p.leaf, .slice p1 p.keys.length k1, .slice p2 p.vals.length k2, .slice p3 p.kids.length k3])
  have HT := hid (hT.kept G0.out)
  have HL := hid (hL.kept G0.out)
  have hb := Blk.lt hT
  have n1 : ¬ w.heap.size = b := by omega
  have n2 : ¬ b = w.heap.size := by omega
  clear hT hL h0 h1 h2
  go_enter Tryz.func29, Tryz.ntmps29
  go_wp2_with fail
  refine wp_loop_rounds 3 ?_
  rw [rounds_succ]
  generalize hK : Code.rounds Tryz.prog _ _ 2 = K2
  have HK := hid hK
  clear hK
  go_wp2_with (first
    | (go_at_call 49; refine (C1.out _ G0.out).mono ?_; rintro e w2 ⟨vk, vi, rfl, ok, oi, l2, t2⟩; have OK := hid ok; have OI := hid oi; have LI := hid l2; have TI := hid (TT.trans (TT.of_lt (b := b) (LT.of_none G0.out)) (TT.of_lt t2)); have X2 := hid (t2.blk X0.out (by decide) (HL.out.ne X0.out (by decide))); have H2 := hid (HT.out.lt HL.out t2); obtain ⟨pk, ck, rfl⟩ := Pa.owns_slice ok; obtain ⟨pi, ci, rfl⟩ := Pa.owns_slice oi; clear ok oi l2 t2 C1)
    | (refine Pa.q_is_store 70 (.tmp 3) (.tmp 24) rfl ?_; refine Pa.store_pg 70 Pa.size25 w.heap.size X2.out _ _ rfl rfl rfl rfl ?_; intro w3 hb3 hg3; have X3 := hid hb3; have G3 := hid hg3; clear hb3 hg3))
  have H3 : Hid (IsTree w3 b lb root) := hid (Blk.kept H2.out G3.out (fun e => n2 (Option.some.inj e)))
  have K3 := hid (rowG_kept OK.out X2.out (by decide) G3.out)
  have I3 := hid (rowG_kept OI.out X2.out (by decide) G3.out)
  have L3 := hid (LI.out.keptB X2.out (by decide) G3.out)
  have T3 := hid (TI.out.of_new G3.out (Or.inl (Nat.le_refl _)))
  have PT3 : Hid (PgT w3 (.agg #[.bool false, .slice pk 1 ck, .slice none 0 0, .slice pi 2 ci]) ⟨false, [k], [], [a1, a2]⟩) := ⟨_, _, _, rfl, rowT_owns K3.out, rowT_nil, rowT_owns I3.out⟩
  have C3 := hid (C2.out w3 _ H3.out L3.out PT3.out)
  clear HT HL X0 G0 LI TI H2 OK OI C2 G3 X2 K3 I3 i0
  rw [← HK.out, rounds_succ]
  clear HK
  generalize hK : Code.rounds Tryz.prog _ _ 1 = K1
  have HK := hid hK
  clear hK
  have x0 := X3.out.cell 0
  have x1 := X3.out.cell 1
  have x2 := X3.out.cell 2
  have x3 := X3.out.cell 3
  simp at x0 x1 x2 x3
  have hx3 := Blk.lt X3.out
  go_wp2_with (first
    | (go_at_call 49; refine C3.out.mono ?_; rintro e w4 ⟨vk, vi, rfl, ok, oi, l2, t2⟩; have L4 := hid l2; have T4 := hid (TT.trans T3.out (TT.of_lt t2)); have X4 := hid (t2.blk X3.out (by decide) (L3.out.ne X3.out (by decide))); have H4 := hid (H3.out.lt L3.out t2); obtain ⟨pk', ck', rfl⟩ := Pa.owns_slice ok; obtain ⟨gi, ci', cur, rfl, jb, hB, hx⟩ := int_row_one oi; have BI := hid hB; have XI := hid hx; have JB := hid jb; clear jb hB hx ok oi l2 t2 C3)
    | (refine Pa.q_is_store 70 (.tmp 3) (.tmp 24) rfl ?_; refine Pa.store_pg 70 Pa.size25 w.heap.size X4.out _ _ rfl rfl rfl rfl ?_; intro w5 hb5 hg5; have X5 := hid hb5; have G5 := hid hg5; clear hb5 hg5))
  rw [← HK.out, rounds_succ]
  have jb := JB.out
  have H5 : Hid (IsTree w5 b lb root) := hid (Blk.kept H4.out G5.out (fun e => n2 (Option.some.inj e)))
  have I5 := hid (BI.out.kept G5.out (fun e => by have := Option.some.inj e; omega))
  have L5 := hid (L4.out.keptB X4.out (by decide) G5.out)
  clear x0 x1 x2 x3
  have t0 := H5.out.cell 0
  have t1 := H5.out.cell 1
  have z1 := H5.out.frozen 1
  have x0 := X5.out.cell 0
  have x1 := X5.out.cell 1
  have x3 := X5.out.cell 3
  simp at t0 t1 x0 x1 x3
  have y0 : w5.cell? ⟨gi, 0, none⟩ = some (.int .i64 at_) := (I5.out.cell 0).trans XI.out
  have n3 : ¬ gi = b := by have := T3.out.size; omega
  clear HK
  go_wp2_with fail
  go_ret
  have q := (H5.out.set 1 (.int .i64 (-1))).set 1 (.int .i64 at_)
  simp at q
  have gg : w5.grownBy ((w5.setCell ⟨b, 1, none⟩ (.int .i64 (-1))).setCell ⟨b, 1, none⟩ (.int .i64 at_)) (some b) := grown_set (grown_set (grown_refl _ _) 1 _) 1 _
  exact ⟨rfl, q, L5.out.keptB H5.out (by decide) gg, ((T4.out.of_new G5.out (Or.inl (Nat.le_refl _))).of_new gg (Or.inr rfl))⟩
end Go.Proofs.YtbhmmcelndmijaaGreat
namespace Go.Proofs.YtbhmmcelndmijaaGreat
open Go.RowKit Go.Maps
set_option maxRecDepth 100000 in
set_option maxHeartbeats 2000000 in
theorem plant_kid (b lb : Nat) (root a : Int) (v : Value) (w : World) (hT : IsTree w b lb root) (hv : PgT w v ⟨false, [], [], [a]⟩) :
    Calls Tryz.prog 29 #[.pointer (some ⟨b, 0, none⟩), v] w fun e w' => e = .returned (.int .i64 0) ∧ IsTree w' b lb a ∧ w.grownBy w' (some b) := by
  obtain ⟨va, vb, vc, rfl, ⟨p1, k1, _, _, rfl, -⟩, ⟨p2, k2, _, _, rfl, -⟩, ⟨p3, k3, gi, o, rfl, hk⟩⟩ := hv
  obtain ⟨rfl, cur, hB, hc⟩ := hk (by simp)
  have y : cur[o]? = some (.int .i64 a) := hc 0 (by simp)
  have hg := Blk.lt hB
  have n3 : ¬ gi = b := by
    rintro rfl
    have e1 : w.heap[gi]? = some (.cells cur 3 (0, 0)) := hB
    have e2 : w.heap[gi]? = some (.cells #[.pointer (some ⟨lb, 0, none⟩), .int .i64 root] 68 (0, 0)) := hT
    rw [e1] at e2
    injection e2 with e2
    injection e2 with _ e3 _
    exact absurd e3 (by decide)
  have hb := Blk.lt hT
  have n1 : ¬ w.heap.size = b := by omega
  have n2 : ¬ b = w.heap.size := by omega
  have n4 : ¬ gi = w.heap.size := by omega
  have G0 : Hid (w.grownBy (w.alloc (.cells #[.bool false, .slice p1 0 k1, .slice p2 0 k2, .slice (some ⟨gi, o, none⟩) 1 k3] 70)) none) := grown_alloc (grown_refl _ _) _
  have X0 := hid (Blk.new w 70 #[.bool false, .slice p1 0 k1, .slice p2 0 k2, .slice (some ⟨gi, o, none⟩) 1 k3])
  have HT := hid (hT.kept G0.out)
  have y0 := ((hB.kept G0.out (by simp)).cell o).trans y
  clear hT hk hc y hB
  go_enter Tryz.func29, Tryz.ntmps29
  go_wp2_with fail
  generalize (w.alloc (.cells #[.bool false, .slice p1 0 k1, .slice p2 0 k2, .slice (some ⟨gi, o, none⟩) 1 k3] 70)) = w1 at *
  have t0 := Blk.cell HT.out 0
  have t1 := Blk.cell HT.out 1
  have z1 := Blk.frozen HT.out 1
  have x0 := X0.out.cell 0
  have x1 := X0.out.cell 1
  have x3 := X0.out.cell 3
  simp at t0 t1 x0 x1 x3
  refine wp_loop_rounds 1 ?_
  rw [rounds_succ]
  go_wp2_with fail
  go_ret
  have q := (HT.out.set 1 (.int .i64 (-1))).set 1 (.int .i64 a)
  simp at q
  exact ⟨rfl, q, grown_set (grown_set (grown_none (grown_refl w (some b)) G0.out) 1 _) 1 _⟩
end Go.Proofs.YtbhmmcelndmijaaGreat
namespace Go.Proofs.YtbhmmcelndmijaaGreat
open Go.RowKit Go.Maps
abbrev Rt := Bt.Root ByteArray ByteArray
/-- A whole tree is laid at a place. -/
def LaidR (r : List (Nat × ByteArray)) : Rt → Int → Prop
  | none, a => a = -1
  | some ⟨d, t⟩, a => (0 ≤ a ∧ a ≤ 2147483647) ∧ ∃ p, PageAt r a p ∧ Is r d t p
theorem LaidR.ext {l m : List (Nat × ByteArray)} (e : Ext l m) : ∀ {r : Rt} {a : Int}, LaidR l r a → LaidR m r a
  | none, _, h => h
  | some ⟨d, _⟩, _, ⟨h1, p, h2, h3⟩ => ⟨h1, p, h2.ext e, Is.ext e d h3⟩
def PlPost (w : World) (base lb b : Nat) (g : Lg) (a : Int) (e : Ending) (w' : World) : Prop := e = .returned (.int .i64 0) ∧ IsTree w' b lb a ∧ IsLog w' base lb g ∧ TT base lb b w w'
theorem TT.of_b {base lb b : Nat} {w w' : World} (g : w.grownBy w' (some b)) : TT base lb b w w' := ⟨g.os, g.tape, g.output, g.size, fun i hi hn _ => g.block i hi (fun e => hn (Option.some.inj e))⟩
theorem plant_tree (base b lb : Nat) (g : Lg) (root : Int) (d : Nat) (t : Tr d) (p : Pa.Pg) (ok : LgOk g) (rm : LgRoom 3 g) (hG : Bt.Good kl d none none t) (hA : Bt.AllK KeyOk ValOk d t) (hp : Is g.recs d t p) (h16 : Bt.nk d t ≤ 16) :
    ∃ g2 a2, LgStep 3 g g2 ∧ LaidR g2.recs (Bt.plant d t) a2 ∧ ∀ W v bp, IsTree W b lb root → IsLog W base lb g → Pa.PgO W bp v p → Calls Tryz.prog 29 #[.pointer (some ⟨b, 0, none⟩), v] W (PlPost W base lb b g2 a2) := by
  have r1 := rm.cnt
  have r2 := rm.siz
  have r3 := ok.len
  have hnk := is_nk _ d hp
  by_cases h0 : Bt.nk d t = 0
  · have e0 : Bt.plant d t = Bt.down d t := if_pos h0
    rw [e0]
    match d, t, hG, hp, h0, hnk with
    | 0, l, hG, hp, h0, hnk =>
      refine ⟨g, -1, (LgStep.refl ok).mono (by omega), rfl, fun W v bp hT hL hv => ?_⟩
      have hk : p.keys = [] := List.eq_nil_of_length_eq_zero (by rw [hnk, h0])
      refine (plant_none b lb root p v W hT (pgT_owns hv) hk (is_leaf _ 0 hp)).mono ?_
      rintro e w' ⟨rfl, q1, q2⟩
      exact ⟨rfl, q1, hL.keptB hT (by decide) q2, TT.of_b q2⟩
    | d + 1, (ks, ts), hG, hp, h0, hnk =>
      have hks : ks = [] := List.eq_nil_of_length_eq_zero h0
      subst hks
      obtain ⟨is, rfl, hP⟩ := node_is hp
      have hlen := Bt.GL.len kl hG
      match ts, hlen, hP with
      | [u], _, hP =>
        match is, hP.1, hP with
        | [a], _, hP =>
          obtain ⟨q1, q, q2, q3⟩ := hP.2 0 a u rfl rfl
          refine ⟨g, a, (LgStep.refl ok).mono (by omega), ⟨q1, q, q2, q3⟩, fun W v bp hT hL hv => ?_⟩
          refine (plant_kid b lb root a v W hT (pgT_owns hv)).mono ?_
          rintro e w' ⟨rfl, q1, q2⟩
          exact ⟨rfl, q1, hL.keptB hT (by decide) q2, TT.of_b q2⟩
  · by_cases h8 : Bt.nk d t ≤ 8
    · have e0 : Bt.plant d t = some ⟨d, t⟩ := by unfold Bt.plant; rw [if_neg h0, if_pos h8]
      rw [e0]
      have hm := may_good _ d hG hA h8 (Or.inr (by omega)) hp
      obtain ⟨s1, s2⟩ := add_step ok hm
      refine ⟨addG g p, ((g.len + g.wait.size : Nat) : Int), s1.mono (by omega), ⟨⟨by omega, by omega⟩, p, s2, Is.ext s1.ext d hp⟩, fun W v bp hT hL hv => ?_⟩
      exact plant_one base b lb g root p v W hT hL (by omega) (by omega) (by omega) (pgT_owns hv) (may_fits hm) hm (by have := enc_len hm; omega) (by omega) (by omega)
    · obtain ⟨a, m, c, hc, ⟨a1, a2, a3⟩, b1, b2, b3⟩ := cut_good d t hG h8 h16
      obtain ⟨c1, c2, c3⟩ := cut_is g.recs d hc hp
      obtain ⟨e1, e2, e3⟩ := Bt.cut_all d hA hc
      have e0 : Bt.plant d t = some ⟨d + 1, Bt.mk1 d a m c⟩ := by unfold Bt.plant Bt.over; rw [if_neg h0, if_neg h8, hc]
      rw [e0]
      have hmA := may_good _ d a1 e1 a3 (Or.inr (by omega)) c1
      obtain ⟨s1, s2⟩ := add_step ok hmA
      have hmB := may_good _ d b1 e3 b3 (Or.inr (by omega)) c3
      obtain ⟨s3, s4⟩ := add_step s1.ok hmB
      have hs1 := s1.siz
      have hs2 := s1.len
      have hs3 := s3.siz
      have hs4 := s3.len
      have hc1 := s1.cnt
      have hc3 := s3.cnt
      have hP : Pls (addG (addG g (cutA p)) (cutB p)).recs d ([((g.len + g.wait.size : Nat) : Int)] ++ [((g.len + (addG g (cutA p)).wait.size : Nat) : Int)]) ([a] ++ [c]) := Pls.append (Pls.one (by omega) (by omega) (s2.ext s3.ext) (Is.ext (s1.ext.trans s3.ext) d c1)) (Pls.one (by omega) (by omega) (by have := s4; rw [hs2] at this; exact this) (Is.ext (s1.ext.trans s3.ext) d c3))
      have hI : Is (addG (addG g (cutA p)) (cutB p)).recs (d + 1) (Bt.mk1 d a m c) ⟨false, [m], [], [((g.len + g.wait.size : Nat) : Int), ((g.len + (addG g (cutA p)).wait.size : Nat) : Int)]⟩ := is_node hP
      have hGr : Bt.Good kl (d + 1) none none (Bt.mk1 d a m c) := ⟨trivial, trivial, ⟨a1, a2, a3⟩, b1, b2, b3⟩
      have hAr : Bt.AllK KeyOk ValOk (d + 1) (Bt.mk1 d a m c) := ⟨fun k hk => by rw [List.mem_singleton.1 hk]; exact e2, fun u hu => by
        rcases List.mem_cons.1 hu with rfl | hu
        · exact e1
        · rw [List.mem_singleton.1 hu]; exact e3⟩
      have hmR := may_good _ (d + 1) hGr hAr (by show 1 ≤ 8; omega) (Or.inr (by show 1 ≤ 1; omega)) hI
      obtain ⟨s5, s6⟩ := add_step s3.ok hmR
      have hsz : (addG (addG g (cutA p)) (cutB p)).len = g.len := rfl
      refine ⟨addG (addG (addG g (cutA p)) (cutB p)) ⟨false, [m], [], [((g.len + g.wait.size : Nat) : Int), ((g.len + (addG g (cutA p)).wait.size : Nat) : Int)]⟩, ((g.len + (addG (addG g (cutA p)) (cutB p)).wait.size : Nat) : Int), (s1.trans s3).trans s5, ⟨⟨by omega, by omega⟩, _, s6, Is.ext s5.ext (d + 1) hI⟩, fun W v bp hT hL hv => ?_⟩
      refine plant_by base b lb (addG (addG g (cutA p)) (cutB p)) _ root m (g.len + g.wait.size) (g.len + (addG g (cutA p)).wait.size) _ v p W hT g hL (pgT_owns hv) (by omega) (fun W' hW => ?_) (fun W' u hT' hL' hu => ?_)
      · have := lay_two base bp b lb g root p v W' (hT.kept hW) (hL.kept hW) (by omega) (by omega) (by omega) (by omega) (hv.keptN hW) (is_shape _ d hG hp) (by omega) (by omega) (may_fits hmA) hmA (by have := enc_len hmA; omega) (may_fits hmB) hmB (by have := enc_len hmB; omega)
        rw [c2] at this
        exact this
      · exact lay_one base b lb (addG (addG g (cutA p)) (cutB p)) root _ u W' hT' hL' (by omega) (by omega) (by omega) hu (may_fits hmR) hmR (by have := enc_len hmR; omega) (by show 1 ≤ 8; omega)
end Go.Proofs.YtbhmmcelndmijaaGreat
namespace Go.Proofs.YtbhmmcelndmijaaGreat
open Go.RowKit Go.Maps
def one (k x : ByteArray) : Pa.Pg := ⟨true, [k], [x], []⟩
theorem row_one {w : World} {g : Nat} {k : ByteArray} (h : Blk w g 9 #[.string k]) : Pa.RowV Value.string w (.slice (some ⟨g, 0, none⟩) 1 1) [k] := by
  refine ⟨some ⟨g, 0, none⟩, 1, g, 0, rfl, fun _ => rfl, fun i hi => ?_⟩
  obtain rfl : i = 0 := by simp at hi; omega
  have := h.cell 0
  simpa using this
set_option maxRecDepth 100000 in
set_option maxHeartbeats 1000000 in
theorem mayBe_any (k x : ByteArray) (w : World) : Calls Tryz.prog 30 #[.string k, .string x] w fun e w' => e = .returned (.bool (Pa.mayP (one k x))) ∧ w.grownBy w' none := by
  have G0 : Hid (w.grownBy ((w.alloc (.cells #[.string k] 9)).alloc (.cells #[.string x] 9)) none) := grown_alloc (grown_alloc (grown_refl w none) _) _
  have B2 := Blk.new (w.alloc (.cells #[.string k] 9)) 9 #[.string x]
  rw [World.size_alloc] at B2
  have CC : Hid (Calls Tryz.prog 50 #[.agg #[.bool true, .slice (some ⟨w.heap.size, 0, none⟩) 1 1, .slice (some ⟨w.heap.size + 1, 0, none⟩) 1 1, .slice none 0 0]] ((w.alloc (.cells #[.string k] 9)).alloc (.cells #[.string x] 9)) fun e w' => e = .returned (.int .i64 (Pa.chk (one k x))) ∧ ((w.alloc (.cells #[.string k] 9)).alloc (.cells #[.string x] 9)).grownBy w' none) :=
    Pa.check_any _ (one k x) _ ⟨_, _, _, rfl, row_one ((Blk.new w 9 #[.string k]).alloc _), row_one B2, ⟨none, 0, 0, 0, rfl, fun h => absurd h (by simp [one]), fun i hi => absurd hi (by simp [one])⟩⟩ ⟨by simp [one], by simp [one], by simp [one]⟩
  obtain ⟨c, hc⟩ : ∃ c, Pa.chk (one k x) = c := ⟨_, rfl⟩
  rw [hc] at CC
  unfold Pa.chk at hc
  generalize Pa.mayP (one k x) = m at *
  clear B2
  cases m
  all_goals
    simp at hc
    subst hc
    go_enter Tryz.func30, Tryz.ntmps30
    go_wp2_with (go_at_call 50; refine CC.out.mono ?_; rintro e w2 ⟨rfl, g2⟩; have G2 := hid (grown_none G0.out g2); clear g2 CC)
    go_ret
    exact ⟨rfl, G2.out⟩
end Go.Proofs.YtbhmmcelndmijaaGreat
namespace Go.Proofs.YtbhmmcelndmijaaGreat
open Go.RowKit Go.Maps
theorem TT.after {base lb b bp : Nat} {w w' w'' : World} (h : w.grownBy w' none) (k : XT base lb bp w' w'') (hb : w.heap.size ≤ bp) : TT base lb b w w'' :=
  ⟨k.os.trans h.os, k.tape.trans h.tape, k.output.trans h.output, Nat.le_trans h.size k.size, fun i hi _ hs => by
    have e : w'.heap[i]? = w.heap[i]? := h.block i hi (by simp)
    rw [← e]
    refine k.keep i (Nat.lt_of_lt_of_le hi h.size) ?_ (Or.inl (by omega))
    rcases hs with hs | ⟨h1, h2⟩
    · exact Or.inl hs
    · exact Or.inr ⟨h1, fun cs t fz q => h2 cs t fz (by rw [← e]; exact q)⟩⟩
set_option maxRecDepth 100000 in
set_option maxHeartbeats 4000000 in
theorem put_walk (base b lb : Nat) (g g1 g2 : Lg) (root a2 : Int) (p p2 : Pa.Pg) (k x : ByteArray) (w : World) (hT : IsTree w b lb root) (hL : IsLog w base lb g)
    (h30 : ∀ W, Calls Tryz.prog 30 #[.string k, .string x] W fun e w' => e = .returned (.bool true) ∧ W.grownBy w' none)
    (h27 : ∀ W, IsTree W b lb root → IsLog W base lb g → Calls Tryz.prog 27 #[.pointer (some ⟨b, 0, none⟩)] W (Pa.DecPost W p 0))
    (h31 : ∀ W u bp, IsTree W b lb root → IsLog W base lb g → Pa.PgO W bp u p → bp ≤ W.heap.size → Calls Tryz.prog 31 #[.pointer (some ⟨b, 0, none⟩), u, .agg #[.string ⟨#[]⟩, .string ⟨#[]⟩], .string k, .string x] W (SwPost W base lb bp g1 p2))
    (h29 : ∀ W u bp, IsTree W b lb root → IsLog W base lb g1 → Pa.PgO W bp u p2 → Calls Tryz.prog 29 #[.pointer (some ⟨b, 0, none⟩), u] W (PlPost W base lb b g2 a2)) :
    Calls Tryz.prog 13 #[.pointer (some ⟨b, 0, none⟩), .string k, .string x] w (PlPost w base lb b g2 a2) := by
  have C26 := hid (none_tree b lb root w hT)
  have C30 := hid h30
  have C27 := hid h27
  have C31 := hid h31
  have C29 := hid h29
  have HT := hid hT
  have HL := hid hL
  obtain ⟨P0, hP0⟩ : ∃ P, P = PlPost w base lb b g2 a2 := ⟨_, rfl⟩
  rw [← hP0]
  have HP := hid (And.intro hP0 trivial)
  have hbw := Blk.lt hT
  clear hP0 h30 h27 h31 h29 hT hL
  go_enter Tryz.func13, Tryz.ntmps13
  go_wp2_with (first
    | (go_at_call 26; refine C26.out.mono ?_; rintro e w1 ⟨rfl, hw⟩; have hw2 := hw.symm; clear hw; subst hw2; clear C26)
    | (go_at_call 30; refine (C30.out _).mono ?_; rintro e w1 ⟨rfl, g1'⟩; have G1 := hid g1'; clear g1' C30)
    | (go_at_call 27; refine (C27.out _ (HT.out.kept G1.out) (HL.out.kept G1.out)).mono ?_; rintro e w2 ⟨u, rfl, o2, g2'⟩; obtain ⟨q1, l1, q2', l2, q3, l3, rfl⟩ := PgO.form o2; have O2 := hid o2; have G2 := hid (grown_none G1.out g2'); have G12 := hid g2'; clear g2' o2 C27)
    | (go_at_call 31; refine (C31.out (w2.alloc (.cells #[.bool p.leaf, .slice q1 p.keys.length l1, .slice q2' p.vals.length l2, .slice q3 p.kids.length l3] 70)) _ w1.heap.size (HT.out.kept (grown_alloc G2.out _)) (HL.out.kept (grown_alloc G2.out _)) (O2.out.keptN (grown_alloc (grown_refl _ _) _)) (Nat.le_trans G12.out.size (grown_alloc (grown_refl w2 none) _).size)).mono ?_; rintro e w4 ⟨u4, rfl, o4, l4, t4⟩; obtain ⟨r1, m1, r2, m2, r3, m3, rfl⟩ := PgO.form o4; have O4 := hid o4; have L4 := hid l4; have T4 := hid t4; have G3 : Hid (w.grownBy (w2.alloc (.cells #[.bool p.leaf, .slice q1 p.keys.length l1, .slice q2' p.vals.length l2, .slice q3 p.kids.length l3] 70)) none) := (grown_alloc G2.out _); have K4 := hid (t4.blk (Blk.new w2 70 #[.bool p.leaf, .slice q1 p.keys.length l1, .slice q2' p.vals.length l2, .slice q3 p.kids.length l3]) (by decide) ((HL.out.kept G3.out).ne (Blk.new w2 70 #[.bool p.leaf, .slice q1 p.keys.length l1, .slice q2' p.vals.length l2, .slice q3 p.kids.length l3]) (by decide))); have TT4 : Hid (IsTree w4 b lb root) := (t4.blk (HT.out.kept G3.out) (by decide) ((HL.out.kept G3.out).ne (HT.out.kept G3.out) (by decide))); have b0 := K4.out.cell 0; have b1 := K4.out.cell 1; have b2 := K4.out.cell 2; have b3 := K4.out.cell 3; have f0 := K4.out.frozen 0; have f1 := K4.out.frozen 1; have f2 := K4.out.frozen 2; have f3 := K4.out.frozen 3; simp at b0 b1 b2 b3; clear o4 l4 t4 C31)
    | (go_at_call 29; have G6 : Hid (w4.grownBy ((((w4.setCell ⟨w2.heap.size, 0, none⟩ (.bool p2.leaf)).setCell ⟨w2.heap.size, 1, none⟩ (.slice r1 p2.keys.length m1)).setCell ⟨w2.heap.size, 2, none⟩ (.slice r2 p2.vals.length m2)).setCell ⟨w2.heap.size, 3, none⟩ (.slice r3 p2.kids.length m3)) (some w2.heap.size)) := (grown_set (grown_set (grown_set (grown_set (grown_refl w4 (some w2.heap.size)) 0 _) 1 _) 2 _) 3 _); have hK : Hid (w.heap.size ≤ w2.heap.size) := G2.out.size; refine (C29.out ((((w4.setCell ⟨w2.heap.size, 0, none⟩ (.bool p2.leaf)).setCell ⟨w2.heap.size, 1, none⟩ (.slice r1 p2.keys.length m1)).setCell ⟨w2.heap.size, 2, none⟩ (.slice r2 p2.vals.length m2)).setCell ⟨w2.heap.size, 3, none⟩ (.slice r3 p2.kids.length m3)) _ w1.heap.size (Blk.kept TT4.out G6.out (fun e => by have h1 := Option.some.inj e; have h2 := hK.out; omega)) (L4.out.keptB K4.out (by decide) G6.out) (PgO.own O4.out K4.out (by decide) G6.out)).mono ?_; rintro e w7 ⟨rfl, t7, l7, tt7⟩; have T7 := hid t7; have L7 := hid l7; have TT7 := hid tt7; clear t7 l7 tt7 C29))
  rw [HP.out.1]
  exact ⟨rfl, T7.out, L7.out, ((TT.after G3.out T4.out G1.out.size).of_new G6.out (Or.inl hK.out)).trans TT7.out⟩
/-- A root as a top page: none is a leaf without keys. -/
def topT : Rt → (d : Nat) × Tr d
  | none => ⟨0, ([] : Prs)⟩
  | some x => x
theorem putR_top (k x : ByteArray) : ∀ r : Rt, Bt.putR kl k x r = Bt.plant (topT r).1 (Bt.put kl k x (topT r).1 (topT r).2)
  | none => rfl
  | some ⟨_, _⟩ => rfl
/-- The top page of a tree is read. -/
theorem top_any (base b lb : Nat) (g : Lg) (r : Rt) (root : Int) (ok : LgOk g) (hl : g.recs.length ≤ 1000000) (hR : Bt.RootOk kl r) (hA : Bt.AllR KeyOk ValOk r) (hD : LaidR g.recs r root) :
    ∃ p, Is g.recs (topT r).1 (topT r).2 p ∧ Bt.Good kl (topT r).1 none none (topT r).2 ∧ Bt.AllK KeyOk ValOk (topT r).1 (topT r).2 ∧ Bt.nk (topT r).1 (topT r).2 ≤ 8 ∧ ∀ W, IsTree W b lb root → IsLog W base lb g → Calls Tryz.prog 27 #[.pointer (some ⟨b, 0, none⟩)] W (Pa.DecPost W p 0) := by
  match r, hR, hA, hD with
  | none, _, _, hD =>
    have hD' : root = -1 := hD
    subst hD'
    refine ⟨leafPg [], rfl, trivial, (fun _ h => by cases h), Nat.zero_le _, fun W hT _ => ?_⟩
    exact top_none b lb W hT
  | some ⟨d, t⟩, hR, hA, ⟨hD1, p, hD2, hD3⟩ =>
    refine ⟨p, hD3, hR.1, hA, hR.2.2, fun W hT hL => ?_⟩
    exact top_some base b lb g root p W hT hL ok.asc hl hD1.1 hD2 (holds_good _ d hR.1 hA hD3 (fun y hy => by cases hy))
theorem may_one {k x : ByteArray} (hk : KeyOk k) (hx : ValOk x) : Pa.mayP (one k x) = true :=
  may_good [] 0 (lo := none) (hi := none) (t := ([(k, x)] : Prs)) ⟨rfl, rfl, (fun _ h => by cases h), trivial⟩ (fun p hp => by rw [List.mem_singleton.1 hp]; exact ⟨hk, hx⟩) (by show 1 ≤ 8; omega) (Or.inl rfl) rfl
/-- Put. -/
theorem put_any (base b lb : Nat) (g : Lg) (r : Rt) (root : Int) (k x : ByteArray) (hk : KeyOk k) (hx : ValOk x) (ok : LgOk g) (rm : LgRoom (2 * (topT r).1 + 3) g) (hR : Bt.RootOk kl r) (hA : Bt.AllR KeyOk ValOk r) (hD : LaidR g.recs r root) :
    ∃ g2 a2, LgStep (2 * (topT r).1 + 3) g g2 ∧ LaidR g2.recs (Bt.putR kl k x r) a2 ∧ ∀ W, IsTree W b lb root → IsLog W base lb g → Calls Tryz.prog 13 #[.pointer (some ⟨b, 0, none⟩), .string k, .string x] W (PlPost W base lb b g2 a2) := by
  have r1 := rm.cnt
  obtain ⟨p, hp, hG, hAt, h8, hC⟩ := top_any base b lb g r root ok (by omega) hR hA hD
  obtain ⟨g1, p2, s1, i1, c1⟩ := with_any base b lb root k x hk hx (topT r).1 g none none (topT r).2 p ok (rm.mono (by omega)) hG hAt hp rfl rfl (fun y hy => by cases hy) h8
  obtain ⟨w1, w2, w3, w4⟩ := Bt.put_good ordK k x (topT r).1 none none (topT r).2 hG rfl rfl
  have wA := Bt.put_all (lt := kl) (k := k) (v := x) hk hx (topT r).1 hAt
  obtain ⟨g2, a2, s2, d2, c2⟩ := plant_tree base b lb g1 root (topT r).1 (Bt.put kl k x (topT r).1 (topT r).2) p2 s1.ok (LgRoom.step rm s1) w1 wA i1 (by omega)
  rw [putR_top]
  refine ⟨g2, a2, s1.trans s2, d2, fun W hT hL => ?_⟩
  exact put_walk base b lb g g1 g2 root a2 p p2 k x W hT hL (fun W' => by have := mayBe_any k x W'; rw [may_one hk hx] at this; exact this) hC c1 c2
end Go.Proofs.YtbhmmcelndmijaaGreat
