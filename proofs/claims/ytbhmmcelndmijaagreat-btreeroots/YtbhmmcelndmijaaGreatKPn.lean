/-
  A tree's top page becomes the root: plant. Put: a key's value is laid in a tree. without, at a leaf; two pages in one. Put of what may not be.
-/
import Derived.Test.YtbhmmcelndmijaaGreatWith
import Derived.Test.YtbhmmcelndmijaaGreatKPl3
import Derived.Test.YtbhmmcelndmijaaGreatKNw
import Derived.Test.YtbhmmcelndmijaaGreatWo0
namespace Go.Proofs.YtbhmmcelndmijaaGreat
open Go.RowKit Go.Maps
abbrev Rt := Bt.Root ByteArray ByteArray
/-- A whole tree is laid at a place. -/
def LaidR (r : List (Nat × ByteArray)) : Rt → Int → Prop
  | none, a => a = -1
  | some ⟨d, t⟩, a => (0 ≤ a ∧ a ≤ 2147483647) ∧ ∃ p, PageAt r a p ∧ Is r d t p
theorem LaidR.ext {l m : List (Nat × ByteArray)} (e : Ext l m) : ∀ {r : Rt} {a : Int}, LaidR l r a → LaidR m r a
  | none, _, h => h
  | some ⟨d, _⟩, _, ⟨h1, p, h2, h3⟩ => ⟨h1, p, h2.ext e, Is.ext e d h3⟩
def PlPost (w : World) (base lb b : Nat) (g : Lg) (a : Int) (e : Ending) (w' : World) : Prop := e = .returned (.int .i64 0) ∧ IsTree w' b lb a ∧ IsLog w' base lb g ∧ TT base lb b w w'
theorem TT.of_b {base lb b : Nat} {w w' : World} (g : w.grownBy w' (some b)) : TT base lb b w w' := ⟨g.os, g.tape, g.output, g.size, fun i hi hn _ => g.block i hi (fun e => hn (Option.some.inj e))⟩
theorem plant_tree (base b lb : Nat) (g : Lg) (root : Int) (d : Nat) (t : Tr d) (p : Pa.Pg) (ok : LgOk g) (rm : LgRoom 3 g) (hG : Bt.Good kl d none none t) (hA : Bt.AllK KeyOk ValOk d t) (hp : Is g.recs d t p) (h16 : Bt.nk d t ≤ 16) :
    ∃ g2 a2, LgStep 3 g g2 ∧ LaidR g2.recs (Bt.plant d t) a2 ∧ ∀ W v bp, IsTree W b lb root → IsLog W base lb g → Pa.PgO W bp v p → Calls Tryz.prog 29 #[.pointer (some ⟨b, 0, none⟩), v] W (PlPost W base lb b g2 a2) := by
  have r1 := rm.cnt
  have r2 := rm.siz
  have r3 := ok.len
  have hnk := is_nk _ d hp
  by_cases h0 : Bt.nk d t = 0
  · have e0 : Bt.plant d t = Bt.down d t := if_pos h0
    rw [e0]
    match d, t, hG, hp, h0, hnk with
    | 0, l, hG, hp, h0, hnk =>
      refine ⟨g, -1, (LgStep.refl ok).mono (by omega), rfl, fun W v bp hT hL hv => ?_⟩
      have hk : p.keys = [] := List.eq_nil_of_length_eq_zero (by rw [hnk, h0])
      refine (plant_none b lb root p v W hT (pgT_owns hv) hk (is_leaf _ 0 hp)).mono ?_
      rintro e w' ⟨rfl, q1, q2⟩
      exact ⟨rfl, q1, hL.keptB hT (by decide) q2, TT.of_b q2⟩
    | d + 1, (ks, ts), hG, hp, h0, hnk =>
      have hks : ks = [] := List.eq_nil_of_length_eq_zero h0
      subst hks
      obtain ⟨is, rfl, hP⟩ := node_is hp
      have hlen := Bt.GL.len kl hG
      match ts, hlen, hP with
      | [u], _, hP =>
        match is, hP.1, hP with
        | [a], _, hP =>
          obtain ⟨q1, q, q2, q3⟩ := hP.2 0 a u rfl rfl
          refine ⟨g, a, (LgStep.refl ok).mono (by omega), ⟨q1, q, q2, q3⟩, fun W v bp hT hL hv => ?_⟩
          refine (plant_kid b lb root a v W hT (pgT_owns hv)).mono ?_
          rintro e w' ⟨rfl, q1, q2⟩
          exact ⟨rfl, q1, hL.keptB hT (by decide) q2, TT.of_b q2⟩
  · by_cases h8 : Bt.nk d t ≤ 8
    · have e0 : Bt.plant d t = some ⟨d, t⟩ := by unfold Bt.plant; rw [if_neg h0, if_pos h8]
      rw [e0]
      have hm := may_good _ d hG hA h8 (Or.inr (by omega)) hp
      obtain ⟨s1, s2⟩ := add_step ok hm
      refine ⟨addG g p, ((g.len + g.wait.size : Nat) : Int), s1.mono (by omega), ⟨⟨by omega, by omega⟩, p, s2, Is.ext s1.ext d hp⟩, fun W v bp hT hL hv => ?_⟩
      exact plant_one base b lb g root p v W hT hL (by omega) (by omega) (by omega) (pgT_owns hv) (may_fits hm) hm (by have := enc_len hm; omega) (by omega) (by omega)
    · obtain ⟨a, m, c, hc, ⟨a1, a2, a3⟩, b1, b2, b3⟩ := cut_good d t hG h8 h16
      obtain ⟨c1, c2, c3⟩ := cut_is g.recs d hc hp
      obtain ⟨e1, e2, e3⟩ := Bt.cut_all d hA hc
      have e0 : Bt.plant d t = some ⟨d + 1, Bt.mk1 d a m c⟩ := by unfold Bt.plant Bt.over; rw [if_neg h0, if_neg h8, hc]
      rw [e0]
      have hmA := may_good _ d a1 e1 a3 (Or.inr (by omega)) c1
      obtain ⟨s1, s2⟩ := add_step ok hmA
      have hmB := may_good _ d b1 e3 b3 (Or.inr (by omega)) c3
      obtain ⟨s3, s4⟩ := add_step s1.ok hmB
      have hs1 := s1.siz
      have hs2 := s1.len
      have hs3 := s3.siz
      have hs4 := s3.len
      have hc1 := s1.cnt
      have hc3 := s3.cnt
      have hP : Pls (addG (addG g (cutA p)) (cutB p)).recs d ([((g.len + g.wait.size : Nat) : Int)] ++ [((g.len + (addG g (cutA p)).wait.size : Nat) : Int)]) ([a] ++ [c]) := Pls.append (Pls.one (by omega) (by omega) (s2.ext s3.ext) (Is.ext (s1.ext.trans s3.ext) d c1)) (Pls.one (by omega) (by omega) (by have := s4; rw [hs2] at this; exact this) (Is.ext (s1.ext.trans s3.ext) d c3))
      have hI : Is (addG (addG g (cutA p)) (cutB p)).recs (d + 1) (Bt.mk1 d a m c) ⟨false, [m], [], [((g.len + g.wait.size : Nat) : Int), ((g.len + (addG g (cutA p)).wait.size : Nat) : Int)]⟩ := is_node hP
      have hGr : Bt.Good kl (d + 1) none none (Bt.mk1 d a m c) := ⟨trivial, trivial, ⟨a1, a2, a3⟩, b1, b2, b3⟩
      have hAr : Bt.AllK KeyOk ValOk (d + 1) (Bt.mk1 d a m c) := ⟨fun k hk => by rw [List.mem_singleton.1 hk]; exact e2, fun u hu => by
        rcases List.mem_cons.1 hu with rfl | hu
        · exact e1
        · rw [List.mem_singleton.1 hu]; exact e3⟩
      have hmR := may_good _ (d + 1) hGr hAr (by show 1 ≤ 8; omega) (Or.inr (by show 1 ≤ 1; omega)) hI
      obtain ⟨s5, s6⟩ := add_step s3.ok hmR
      have hsz : (addG (addG g (cutA p)) (cutB p)).len = g.len := rfl
      refine ⟨addG (addG (addG g (cutA p)) (cutB p)) ⟨false, [m], [], [((g.len + g.wait.size : Nat) : Int), ((g.len + (addG g (cutA p)).wait.size : Nat) : Int)]⟩, ((g.len + (addG (addG g (cutA p)) (cutB p)).wait.size : Nat) : Int), (s1.trans s3).trans s5, ⟨⟨by omega, by omega⟩, _, s6, Is.ext s5.ext (d + 1) hI⟩, fun W v bp hT hL hv => ?_⟩
      refine plant_by base b lb (addG (addG g (cutA p)) (cutB p)) _ root m (g.len + g.wait.size) (g.len + (addG g (cutA p)).wait.size) _ v p W hT g hL (pgT_owns hv) (by omega) (fun W' hW => ?_) (fun W' u hT' hL' hu => ?_)
      · have := lay_two base bp b lb g root p v W' (hT.kept hW) (hL.kept hW) (by omega) (by omega) (by omega) (by omega) (hv.keptN hW) (is_shape _ d hG hp) (by omega) (by omega) (may_fits hmA) hmA (by have := enc_len hmA; omega) (may_fits hmB) hmB (by have := enc_len hmB; omega)
        rw [c2] at this
        exact this
      · exact lay_one base b lb (addG (addG g (cutA p)) (cutB p)) root _ u W' hT' hL' (by omega) (by omega) (by omega) hu (may_fits hmR) hmR (by have := enc_len hmR; omega) (by show 1 ≤ 8; omega)
end Go.Proofs.YtbhmmcelndmijaaGreat
namespace Go.Proofs.YtbhmmcelndmijaaGreat
open Go.RowKit Go.Maps
theorem TT.after {base lb b bp : Nat} {w w' w'' : World} (h : w.grownBy w' none) (k : XT base lb bp w' w'') (hb : w.heap.size ≤ bp) : TT base lb b w w'' :=
  ⟨k.os.trans h.os, k.tape.trans h.tape, k.output.trans h.output, Nat.le_trans h.size k.size, fun i hi _ hs => by
    have e : w'.heap[i]? = w.heap[i]? := h.block i hi (by simp)
    rw [← e]
    refine k.keep i (Nat.lt_of_lt_of_le hi h.size) ?_ (Or.inl (by omega))
    rcases hs with hs | ⟨h1, h2⟩
    · exact Or.inl hs
    · exact Or.inr ⟨h1, fun cs t fz q => h2 cs t fz (by rw [← e]; exact q)⟩⟩
set_option maxRecDepth 100000 in
set_option maxHeartbeats 4000000 in
theorem put_walk (base b lb : Nat) (g g1 g2 : Lg) (root a2 : Int) (p p2 : Pa.Pg) (k x : ByteArray) (w : World) (hT : IsTree w b lb root) (hL : IsLog w base lb g)
    (h30 : ∀ W, Calls Tryz.prog 30 #[.string k, .string x] W fun e w' => e = .returned (.bool true) ∧ W.grownBy w' none)
    (h27 : ∀ W, IsTree W b lb root → IsLog W base lb g → Calls Tryz.prog 27 #[.pointer (some ⟨b, 0, none⟩)] W (Pa.DecPost W p 0))
    (h31 : ∀ W u bp, IsTree W b lb root → IsLog W base lb g → Pa.PgO W bp u p → bp ≤ W.heap.size → Calls Tryz.prog 31 #[.pointer (some ⟨b, 0, none⟩), u, .agg #[.string ⟨#[]⟩, .string ⟨#[]⟩], .string k, .string x] W (SwPost W base lb bp g1 p2))
    (h29 : ∀ W u bp, IsTree W b lb root → IsLog W base lb g1 → Pa.PgO W bp u p2 → Calls Tryz.prog 29 #[.pointer (some ⟨b, 0, none⟩), u] W (PlPost W base lb b g2 a2)) :
    Calls Tryz.prog 13 #[.pointer (some ⟨b, 0, none⟩), .string k, .string x] w (PlPost w base lb b g2 a2) := by
  have C26 := hid (none_tree b lb root w hT)
  have C30 := hid h30
  have C27 := hid h27
  have C31 := hid h31
  have C29 := hid h29
  have HT := hid hT
  have HL := hid hL
  obtain ⟨P0, hP0⟩ : ∃ P, P = PlPost w base lb b g2 a2 := ⟨_, rfl⟩
  rw [← hP0]
  have HP := hid (And.intro hP0 trivial)
  have hbw := Blk.lt hT
  clear hP0 h30 h27 h31 h29 hT hL
  go_enter Tryz.func13, Tryz.ntmps13
  go_wp2_with (first
    | (go_at_call 26; refine C26.out.mono ?_; rintro e w1 ⟨rfl, hw⟩; have hw2 := hw.symm; clear hw; subst hw2; clear C26)
    | (go_at_call 30; refine (C30.out _).mono ?_; rintro e w1 ⟨rfl, g1'⟩; have G1 := hid g1'; clear g1' C30)
    | (go_at_call 27; refine (C27.out _ (HT.out.kept G1.out) (HL.out.kept G1.out)).mono ?_; rintro e w2 ⟨u, rfl, o2, g2'⟩; obtain ⟨q1, l1, q2', l2, q3, l3, rfl⟩ := PgO.form o2; have O2 := hid o2; have G2 := hid (grown_none G1.out g2'); have G12 := hid g2'; clear g2' o2 C27)
    | (go_at_call 31; refine (C31.out (w2.alloc (.cells #[.bool p.leaf, .slice q1 p.keys.length l1, .slice q2' p.vals.length l2, .slice q3 p.kids.length l3] 70)) _ w1.heap.size (HT.out.kept (grown_alloc G2.out _)) (HL.out.kept (grown_alloc G2.out _)) (O2.out.keptN (grown_alloc (grown_refl _ _) _)) (Nat.le_trans G12.out.size (grown_alloc (grown_refl w2 none) _).size)).mono ?_; rintro e w4 ⟨u4, rfl, o4, l4, t4⟩; obtain ⟨r1, m1, r2, m2, r3, m3, rfl⟩ := PgO.form o4; have O4 := hid o4; have L4 := hid l4; have T4 := hid t4; have G3 : Hid (w.grownBy (w2.alloc (.cells #[.bool p.leaf, .slice q1 p.keys.length l1, .slice q2' p.vals.length l2, .slice q3 p.kids.length l3] 70)) none) := (grown_alloc G2.out _); have K4 := hid (t4.blk (Blk.new w2 70 #[.bool p.leaf, .slice q1 p.keys.length l1, .slice q2' p.vals.length l2, .slice q3 p.kids.length l3]) (by decide) ((HL.out.kept G3.out).ne (Blk.new w2 70 #[.bool p.leaf, .slice q1 p.keys.length l1, .slice q2' p.vals.length l2, .slice q3 p.kids.length l3]) (by decide))); have TT4 : Hid (IsTree w4 b lb root) := (t4.blk (HT.out.kept G3.out) (by decide) ((HL.out.kept G3.out).ne (HT.out.kept G3.out) (by decide))); have b0 := K4.out.cell 0; have b1 := K4.out.cell 1; have b2 := K4.out.cell 2; have b3 := K4.out.cell 3; have f0 := K4.out.frozen 0; have f1 := K4.out.frozen 1; have f2 := K4.out.frozen 2; have f3 := K4.out.frozen 3; simp at b0 b1 b2 b3; clear o4 l4 t4 C31)
    | (go_at_call 29; have G6 : Hid (w4.grownBy ((((w4.setCell ⟨w2.heap.size, 0, none⟩ (.bool p2.leaf)).setCell ⟨w2.heap.size, 1, none⟩ (.slice r1 p2.keys.length m1)).setCell ⟨w2.heap.size, 2, none⟩ (.slice r2 p2.vals.length m2)).setCell ⟨w2.heap.size, 3, none⟩ (.slice r3 p2.kids.length m3)) (some w2.heap.size)) := (grown_set (grown_set (grown_set (grown_set (grown_refl w4 (some w2.heap.size)) 0 _) 1 _) 2 _) 3 _); have hK : Hid (w.heap.size ≤ w2.heap.size) := G2.out.size; refine (C29.out ((((w4.setCell ⟨w2.heap.size, 0, none⟩ (.bool p2.leaf)).setCell ⟨w2.heap.size, 1, none⟩ (.slice r1 p2.keys.length m1)).setCell ⟨w2.heap.size, 2, none⟩ (.slice r2 p2.vals.length m2)).setCell ⟨w2.heap.size, 3, none⟩ (.slice r3 p2.kids.length m3)) _ w1.heap.size (Blk.kept TT4.out G6.out (fun e => by have h1 := Option.some.inj e; have h2 := hK.out; omega)) (L4.out.keptB K4.out (by decide) G6.out) (PgO.own O4.out K4.out (by decide) G6.out)).mono ?_; rintro e w7 ⟨rfl, t7, l7, tt7⟩; have T7 := hid t7; have L7 := hid l7; have TT7 := hid tt7; clear t7 l7 tt7 C29))
  rw [HP.out.1]
  exact ⟨rfl, T7.out, L7.out, ((TT.after G3.out T4.out G1.out.size).of_new G6.out (Or.inl hK.out)).trans TT7.out⟩
/-- A root as a top page: none is a leaf without keys. -/
def topT : Rt → (d : Nat) × Tr d
  | none => ⟨0, ([] : Prs)⟩
  | some x => x
theorem putR_top (k x : ByteArray) : ∀ r : Rt, Bt.putR kl k x r = Bt.plant (topT r).1 (Bt.put kl k x (topT r).1 (topT r).2)
  | none => rfl
  | some ⟨_, _⟩ => rfl
/-- The top page of a tree is read. -/
theorem top_any (base b lb : Nat) (g : Lg) (r : Rt) (root : Int) (ok : LgOk g) (hl : g.recs.length ≤ 1000000) (hR : Bt.RootOk kl r) (hA : Bt.AllR KeyOk ValOk r) (hD : LaidR g.recs r root) :
    ∃ p, Is g.recs (topT r).1 (topT r).2 p ∧ Bt.Good kl (topT r).1 none none (topT r).2 ∧ Bt.AllK KeyOk ValOk (topT r).1 (topT r).2 ∧ Bt.nk (topT r).1 (topT r).2 ≤ 8 ∧ ∀ W, IsTree W b lb root → IsLog W base lb g → Calls Tryz.prog 27 #[.pointer (some ⟨b, 0, none⟩)] W (Pa.DecPost W p 0) := by
  match r, hR, hA, hD with
  | none, _, _, hD =>
    have hD' : root = -1 := hD
    subst hD'
    refine ⟨leafPg [], rfl, trivial, (fun _ h => by cases h), Nat.zero_le _, fun W hT _ => ?_⟩
    exact top_none b lb W hT
  | some ⟨d, t⟩, hR, hA, ⟨hD1, p, hD2, hD3⟩ =>
    refine ⟨p, hD3, hR.1, hA, hR.2.2, fun W hT hL => ?_⟩
    exact top_some base b lb g root p W hT hL ok.asc hl hD1.1 hD2 (holds_good _ d hR.1 hA hD3 (fun y hy => by cases hy))
theorem may_one {k x : ByteArray} (hk : KeyOk k) (hx : ValOk x) : Pa.mayP (one k x) = true :=
  may_good [] 0 (lo := none) (hi := none) (t := ([(k, x)] : Prs)) ⟨rfl, rfl, (fun _ h => by cases h), trivial⟩ (fun p hp => by rw [List.mem_singleton.1 hp]; exact ⟨hk, hx⟩) (by show 1 ≤ 8; omega) (Or.inl rfl) rfl
/-- Put. -/
theorem put_any (base b lb : Nat) (g : Lg) (r : Rt) (root : Int) (k x : ByteArray) (hk : KeyOk k) (hx : ValOk x) (ok : LgOk g) (rm : LgRoom (2 * (topT r).1 + 3) g) (hR : Bt.RootOk kl r) (hA : Bt.AllR KeyOk ValOk r) (hD : LaidR g.recs r root) :
    ∃ g2 a2, LgStep (2 * (topT r).1 + 3) g g2 ∧ LaidR g2.recs (Bt.putR kl k x r) a2 ∧ ∀ W, IsTree W b lb root → IsLog W base lb g → Calls Tryz.prog 13 #[.pointer (some ⟨b, 0, none⟩), .string k, .string x] W (PlPost W base lb b g2 a2) := by
  have r1 := rm.cnt
  obtain ⟨p, hp, hG, hAt, h8, hC⟩ := top_any base b lb g r root ok (by omega) hR hA hD
  obtain ⟨g1, p2, s1, i1, c1⟩ := with_any base b lb root k x hk hx (topT r).1 g none none (topT r).2 p ok (rm.mono (by omega)) hG hAt hp rfl rfl (fun y hy => by cases hy) h8
  obtain ⟨w1, w2, w3, w4⟩ := Bt.put_good ordK k x (topT r).1 none none (topT r).2 hG rfl rfl
  have wA := Bt.put_all (lt := kl) (k := k) (v := x) hk hx (topT r).1 hAt
  obtain ⟨g2, a2, s2, d2, c2⟩ := plant_tree base b lb g1 root (topT r).1 (Bt.put kl k x (topT r).1 (topT r).2) p2 s1.ok (LgRoom.step rm s1) w1 wA i1 (by omega)
  rw [putR_top]
  refine ⟨g2, a2, s1.trans s2, d2, fun W hT hL => ?_⟩
  exact put_walk base b lb g g1 g2 root a2 p p2 k x W hT hL (fun W' => by have := mayBe_any k x W'; rw [may_one hk hx] at this; exact this) hC c1 c2
end Go.Proofs.YtbhmmcelndmijaaGreat
namespace Go.Proofs.YtbhmmcelndmijaaGreat
open Go.RowKit Go.Maps
set_option maxRecDepth 100000 in
set_option maxHeartbeats 4000000 in
theorem wo_leaf (base bp b lb : Nat) (c : Bool) (g : Lg) (p p2 : Pa.Pg) (v : Value) (lo hi k : ByteArray) (w : World) (hL : IsLog w base lb g) (hv : Pa.PgO w bp v p) (hleaf : p.leaf = true)
    (h46 : ∀ W, w.grownBy W none → Calls Tryz.prog 46 #[v, .string k] W fun e w' => ∃ v', e = .returned (.tuple #[v', .bool c]) ∧ Pa.PgO w' bp v' p2 ∧ PT bp W w') :
    Calls Tryz.prog 28 #[.pointer (some ⟨b, 0, none⟩), v, .agg #[.string lo, .string hi], .string k] w fun e w' => ∃ v, e = .returned (.tuple #[v, .bool c, .int .i64 0]) ∧ Pa.PgO w' bp v p2 ∧ IsLog w' base lb g ∧ XT base lb bp w w' := by
  obtain ⟨p1, k1, p2', k2, p3, k3, rfl⟩ := PgO.form hv
  rw [hleaf] at *
  obtain ⟨P0, hP0⟩ : ∃ P : Ending → World → Prop, P = fun e w' => ∃ v, e = .returned (.tuple #[v, .bool c, .int .i64 0]) ∧ Pa.PgO w' bp v p2 ∧ IsLog w' base lb g ∧ XT base lb bp w w' := ⟨_, rfl⟩
  rw [← hP0]
  have HP := hid (And.intro hP0 trivial)
  have G0 : Hid (w.grownBy (((w.alloc (.cells #[.bool true, .slice p1 p.keys.length k1, .slice p2' p.vals.length k2, .slice p3 p.kids.length k3] 70)).alloc (.cells #[.string lo, .string hi] 76)).alloc (.cells #[.bool false, .slice none 0 0, .slice none 0 0, .slice none 0 0] 70)) none) := grown_alloc (grown_alloc (grown_alloc (grown_refl w none) _) _) _
  have Z0 := hid (three w #[.bool true, .slice p1 p.keys.length k1, .slice p2' p.vals.length k2, .slice p3 p.kids.length k3] #[.string lo, .string hi] #[.bool false, .slice none 0 0, .slice none 0 0, .slice none 0 0] 70 76 70).2.2
  have C := hid (h46 _ G0.out)
  have HL := hid (hL.kept G0.out)
  clear hP0 h46 hL hv
  go_enter Tryz.func28, Tryz.ntmps28
  go_wp2_with (go_at_call 46; refine C.out.mono ?_; rintro e w2 ⟨v2, rfl, o2, t2⟩; obtain ⟨s1, n1, s2, n2, s3, n3, rfl⟩ := PgO.form o2; have O2 := hid o2; have T2 := hid t2; have Z2 := hid ((t2.blk Z0.out (by decide)).alloc (.cells #[.bool p2.leaf, .slice s1 p2.keys.length n1, .slice s2 p2.vals.length n2, .slice s3 p2.kids.length n3] 70)); have z0 := Z2.out.cell 0; have z1 := Z2.out.cell 1; have z2 := Z2.out.cell 2; have z3 := Z2.out.cell 3; have f0 := Z2.out.frozen 0; have f1 := Z2.out.frozen 1; have f2 := Z2.out.frozen 2; have f3 := Z2.out.frozen 3; have hlt : ¬ w2.heap.size = w.heap.size + 1 + 1 := (by have := (t2.blk Z0.out (by decide)).lt; omega); have hlt2 : ¬ w.heap.size + 1 + 1 = w2.heap.size := (fun e => hlt e.symm); simp at z0 z1 z2 z3; clear o2 t2 C)
  have OA := O2.out.keptN (grown_alloc (grown_refl w2 none) (.cells #[.bool p2.leaf, .slice s1 p2.keys.length n1, .slice s2 p2.vals.length n2, .slice s3 p2.kids.length n3] 70))
  have LA := (log_pt HL.out T2.out).kept (grown_alloc (grown_refl w2 none) (.cells #[.bool p2.leaf, .slice s1 p2.keys.length n1, .slice s2 p2.vals.length n2, .slice s3 p2.kids.length n3] 70))
  have XA := ((XT.of_none (base := base) (lb := lb) (bp := bp) G0.out).trans (XT.of_pt T2.out)).trans (XT.of_none (grown_alloc (grown_refl w2 none) (.cells #[.bool p2.leaf, .slice s1 p2.keys.length n1, .slice s2 p2.vals.length n2, .slice s3 p2.kids.length n3] 70)))
  generalize (w2.alloc (.cells #[.bool p2.leaf, .slice s1 p2.keys.length n1, .slice s2 p2.vals.length n2, .slice s3 p2.kids.length n3] 70)) = WA at *
  have BF := blk_store4 (.bool p2.leaf) (.slice s1 p2.keys.length n1) (.slice s2 p2.vals.length n2) (.slice s3 p2.kids.length n3) Z2.out
  have GF := grown_set (grown_set (grown_set (grown_set (grown_refl WA (some (w.heap.size + 1 + 1))) 0 (.bool p2.leaf)) 1 (.slice s1 p2.keys.length n1)) 2 (.slice s2 p2.vals.length n2)) 3 (.slice s3 p2.kids.length n3)
  refine bodyPost_ret (results_pg21 Tryz.results28 _ _ (w.heap.size + 1 + 1) rfl BF) rfl ?_
  rw [HP.out.1]
  exact ⟨_, rfl, PgO.own OA Z2.out (by decide) GF, LA.keptB Z2.out (by decide) GF, XA.through GF (by omega)⟩
/-- Two pages in one: the first one lies ahead. -/
theorem joined_ahead (bk bq N : Nat) (kv u : Value) (kid q : Pa.Pg) (m : ByteArray) (W : World) (h1 : Pa.PgO W bk kv kid) (h2 : Pa.PgO W bq u q) (hN : ∀ x, (∃ a b c, kv = .agg #[.bool kid.leaf, a, b, c] ∧ (x = a ∨ x = b ∨ x = c)) → ∀ k, x.ownBlock = some k → k < N) (hq : N ≤ bq) (hb : bk ≤ W.heap.size)
    (hs : kid.keys.length ≤ 1000 ∧ kid.vals.length ≤ 1000 ∧ kid.kids.length ≤ 1001 ∧ q.keys.length ≤ 1000 ∧ q.vals.length ≤ 1000 ∧ q.kids.length ≤ 1001) :
    Calls Tryz.prog 66 #[kv, .string m, u] W (fun e w' => ∃ x, e = .returned x ∧ Pa.PgO w' bk x (joinP kid m q) ∧ PT bk W w') := by
  obtain ⟨a1, b1, c1, rfl, f0, r1, r2, r3⟩ := h1
  obtain ⟨a2, b2, c2, rfl, _, r4, r5, r6⟩ := h2
  have far : ∀ (x y : Value) (n : Nat) (xs : List Value) (t : TypeId), (x = a1 ∨ x = b1 ∨ x = c1) → W.ownsRow bq t 1 y n xs → Pa.Far x y := fun x y n xs t hx hy g e1 e2 => by
    have k1 := hN x ⟨a1, b1, c1, rfl, hx⟩ g e1
    have k2 := (World.ownsRow.lt hy g e2).1
    omega
  have f1 := far a1 a2 _ _ _ (Or.inl rfl) r4
  have f2 := far a1 b2 _ _ _ (Or.inl rfl) r5
  have f3 := far b1 b2 _ _ _ (Or.inr (Or.inl rfl)) r5
  cases hl : kid.leaf with
  | true =>
    have := joined_leaf bk bq a1 b1 c1 a2 b2 c2 kid q m W f0 f1 f2 f3 r1 r2 r3 r4 r5 r6 hb hs hl
    rw [hl] at this
    exact this
  | false =>
    have := joined_node bk bq a1 b1 c1 a2 b2 c2 kid q m W f0 f1 f2 f3 r1 r2 r3 r4 r5 r6 hb hs hl
    rw [hl] at this
    exact this
/-- .. and behind. -/
theorem joined_behind (bk bq N : Nat) (kv u : Value) (kid q : Pa.Pg) (m : ByteArray) (W : World) (h1 : Pa.PgO W bk kv kid) (h2 : Pa.PgO W bq u q) (hN : ∀ x, (∃ a b c, kv = .agg #[.bool kid.leaf, a, b, c] ∧ (x = a ∨ x = b ∨ x = c)) → ∀ k, x.ownBlock = some k → k < N) (hq : N ≤ bq) (hb : bq ≤ W.heap.size) (hbk : bk ≤ bq)
    (hs : kid.keys.length ≤ 1000 ∧ kid.vals.length ≤ 1000 ∧ kid.kids.length ≤ 1001 ∧ q.keys.length ≤ 1000 ∧ q.vals.length ≤ 1000 ∧ q.kids.length ≤ 1001) :
    Calls Tryz.prog 66 #[u, .string m, kv] W (fun e w' => ∃ x, e = .returned x ∧ Pa.PgO w' bk x (joinP q m kid) ∧ PT bk W w') := by
  obtain ⟨a1, b1, c1, rfl, _, r1, r2, r3⟩ := h1
  obtain ⟨a2, b2, c2, rfl, f0, r4, r5, r6⟩ := h2
  have far : ∀ (x y : Value) (n : Nat) (xs : List Value) (t : TypeId), (x = a1 ∨ x = b1 ∨ x = c1) → W.ownsRow bq t 1 y n xs → Pa.Far y x := fun x y n xs t hx hy g e2 e1 => by
    have k1 := hN x ⟨a1, b1, c1, rfl, hx⟩ g e1
    have k2 := (World.ownsRow.lt hy g e2).1
    omega
  have f1 := far a1 a2 _ _ _ (Or.inl rfl) r4
  have f2 := far b1 a2 _ _ _ (Or.inr (Or.inl rfl)) r4
  have f3 := far b1 b2 _ _ _ (Or.inr (Or.inl rfl)) r5
  have hs' : q.keys.length ≤ 1000 ∧ q.vals.length ≤ 1000 ∧ q.kids.length ≤ 1001 ∧ kid.keys.length ≤ 1000 ∧ kid.vals.length ≤ 1000 ∧ kid.kids.length ≤ 1001 := ⟨hs.2.2.2.1, hs.2.2.2.2.1, hs.2.2.2.2.2, hs.1, hs.2.1, hs.2.2.1⟩
  have up : ∀ (e : Ending) (w' : World), (∃ x, e = .returned x ∧ Pa.PgO w' bq x (joinP q m kid) ∧ PT bq W w') → ∃ x, e = .returned x ∧ Pa.PgO w' bk x (joinP q m kid) ∧ PT bk W w' := fun e w' ⟨x, h1, h2, h3⟩ => ⟨x, h1, PgO.base_le h2 hbk, h3.mono hbk⟩
  cases hl : q.leaf with
  | true =>
    have := joined_leaf bq bk a2 b2 c2 a1 b1 c1 q kid m W f0 f1 f2 f3 r4 r5 r6 r1 r2 r3 hb hs' hl
    rw [hl] at this
    exact this.mono up
  | false =>
    have := joined_node bq bk a2 b2 c2 a1 b1 c1 q kid m W f0 f1 f2 f3 r4 r5 r6 r1 r2 r3 hb hs' hl
    rw [hl] at this
    exact this.mono up
end Go.Proofs.YtbhmmcelndmijaaGreat
namespace Go.Proofs.YtbhmmcelndmijaaGreat
open Go.RowKit Go.Maps
theorem may_iff (k x : ByteArray) : Pa.mayP (one k x) = true ↔ KeyOk k ∧ ValOk x := by
  constructor
  · intro h
    unfold Pa.mayP at h
    rw [Bool.and_eq_true] at h
    obtain ⟨h1, h2⟩ := h
    unfold Pa.mayK at h1
    rw [Bool.and_eq_true] at h1
    have h3 : Pa.riseB ⟨#[]⟩ [k] = true := h1.2
    unfold Pa.riseB at h3
    simp only [Bool.and_eq_true, Bool.not_eq_true', decide_eq_false_iff_not] at h3
    have h4 : Pa.longB x = false := by
      have h5 : (decide (((one k x).vals.length : Int) = (one k x).keys.length) && (decide (((one k x).kids.length : Int) = 0) && !(one k x).vals.any Pa.longB)) = true := h2
      simp only [Bool.and_eq_true, Bool.not_eq_true'] at h5
      have h6 : [x].any Pa.longB = false := h5.2.2
      simpa using h6
    refine ⟨⟨by have := h3.2.1; omega, fun e => ?_⟩, ?_⟩
    · have h7 := h3.1
      rw [e] at h7
      have e0 : ByteArray.toList ⟨#[]⟩ = [] := by rw [ByteArray.toList_eq]
      rw [e0] at h7
      cases h7
    · unfold Pa.longB at h4
      show x.size ≤ 8192
      simp at h4
      omega
  · rintro ⟨h1, h2⟩
    exact may_one h1 h2
set_option maxRecDepth 100000 in
set_option maxHeartbeats 1000000 in
/-- Put of what may not be: nothing is changed. -/
theorem put_no (b lb : Nat) (root : Int) (k x : ByteArray) (w : World) (hT : IsTree w b lb root) (hm : ¬ (KeyOk k ∧ ValOk x)) :
    Calls Tryz.prog 13 #[.pointer (some ⟨b, 0, none⟩), .string k, .string x] w fun e w' => e = .returned (.int .i64 1) ∧ w.grownBy w' none := by
  have hf : Pa.mayP (one k x) = false := by
    cases h : Pa.mayP (one k x) with
    | false => rfl
    | true => exact absurd ((may_iff k x).1 h) hm
  have C26 := hid (none_tree b lb root w hT)
  have C30 := hid (mayBe_any k x w)
  rw [hf] at C30
  clear hT hm hf
  go_enter Tryz.func13, Tryz.ntmps13
  go_wp2_with (first
    | (go_at_call 26; refine C26.out.mono ?_; rintro e w1 ⟨rfl, hw⟩; have hw2 := hw.symm; clear hw; subst hw2; clear C26)
    | (go_at_call 30; refine C30.out.mono ?_; rintro e w1 ⟨rfl, g1'⟩; have G1 := hid g1'; clear g1' C30))
  go_ret
  exact ⟨rfl, G1.out⟩
end Go.Proofs.YtbhmmcelndmijaaGreat
