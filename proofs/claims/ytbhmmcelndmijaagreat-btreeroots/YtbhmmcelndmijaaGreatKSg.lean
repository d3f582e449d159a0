/-
  Delete: a key is taken out of a tree. Delete, of a tree that is laid. fresh: a tree without keys, and its log. A tree in memory with what it has, through at most 300 acts. shape, of a tree that is laid.
-/
import Derived.Test.YtbhmmcelndmijaaGreatWo0
import Derived.Test.YtbhmmcelndmijaaGreatGt
import Derived.Test.YtbhmmcelndmijaaGreatWy
import Derived.Test.YtbhmmcelndmijaaGreatKLfile
import Derived.Test.YtbhmmcelndmijaaGreatKNw
import Derived.Test.YtbhmmcelndmijaaGreatKPn
import Derived.Test.YtbhmmcelndmijaaGreatSh
namespace Go.Proofs.YtbhmmcelndmijaaGreat
open Go.RowKit Go.Maps
def DlPost (w : World) (base lb b : Nat) (c : Bool) (g : Lg) (a : Int) (e : Ending) (w' : World) : Prop := e = .returned (.tuple #[.bool c, .int .i64 0]) ∧ IsTree w' b lb a ∧ IsLog w' base lb g ∧ TT base lb b w w'
set_option maxRecDepth 100000 in
set_option maxHeartbeats 4000000 in
theorem del_is (base b lb : Nat) (g g1 g2 : Lg) (root a2 : Int) (p p2 : Pa.Pg) (k : ByteArray) (w : World) (hT : IsTree w b lb root) (hL : IsLog w base lb g)
    (h27 : ∀ W, IsTree W b lb root → IsLog W base lb g → Calls Tryz.prog 27 #[.pointer (some ⟨b, 0, none⟩)] W (Pa.DecPost W p 0))
    (h28 : ∀ W u bp, IsTree W b lb root → IsLog W base lb g → Pa.PgO W bp u p → bp ≤ W.heap.size → Calls Tryz.prog 28 #[.pointer (some ⟨b, 0, none⟩), u, .agg #[.string ⟨#[]⟩, .string ⟨#[]⟩], .string k] W (WoPost W base lb bp g1 p2))
    (h29 : ∀ W u bp, IsTree W b lb root → IsLog W base lb g1 → Pa.PgO W bp u p2 → Calls Tryz.prog 29 #[.pointer (some ⟨b, 0, none⟩), u] W (PlPost W base lb b g2 a2)) :
    Calls Tryz.prog 12 #[.pointer (some ⟨b, 0, none⟩), .string k] w (DlPost w base lb b true g2 a2) := by
  have C26 := hid (none_tree b lb root w hT)
  have C27 := hid h27
  have C28 := hid h28
  have C29 := hid h29
  have HT := hid hT
  have HL := hid hL
  obtain ⟨P0, hP0⟩ : ∃ P, P = DlPost w base lb b true g2 a2 := ⟨_, rfl⟩
  rw [← hP0]
  have HP := hid (And.intro hP0 trivial)
  have hbw := Blk.lt hT
  clear hP0 h27 h28 h29 hT hL
  go_enter Tryz.func12, Tryz.ntmps12
  go_wp2_with (first
    | (go_at_call 26; refine C26.out.mono ?_; rintro e w1 ⟨rfl, hw⟩; have hw2 := hw.symm; clear hw; subst hw2; clear C26)
    | (go_at_call 27; refine (C27.out w HT.out HL.out).mono ?_; rintro e w2 ⟨u, rfl, o2, g2'⟩; obtain ⟨q1, l1, q2', l2, q3, l3, rfl⟩ := PgO.form o2; have O2 := hid o2; have G2 := hid g2'; clear g2' o2 C27)
    | (go_at_call 28; refine (C28.out (w2.alloc (.cells #[.bool p.leaf, .slice q1 p.keys.length l1, .slice q2' p.vals.length l2, .slice q3 p.kids.length l3] 70)) _ w.heap.size (HT.out.kept (grown_alloc G2.out _)) (HL.out.kept (grown_alloc G2.out _)) (O2.out.keptN (grown_alloc (grown_refl _ _) _)) (Nat.le_trans G2.out.size (grown_alloc (grown_refl w2 none) _).size)).mono ?_; rintro e w4 ⟨u4, rfl, o4, l4, t4⟩; obtain ⟨r1, m1, r2, m2, r3, m3, rfl⟩ := PgO.form o4; have O4 := hid o4; have L4 := hid l4; have T4 := hid t4; have G3 : Hid (w.grownBy (w2.alloc (.cells #[.bool p.leaf, .slice q1 p.keys.length l1, .slice q2' p.vals.length l2, .slice q3 p.kids.length l3] 70)) none) := (grown_alloc G2.out _); have K4 := hid (t4.blk (Blk.new w2 70 #[.bool p.leaf, .slice q1 p.keys.length l1, .slice q2' p.vals.length l2, .slice q3 p.kids.length l3]) (by decide) ((HL.out.kept G3.out).ne (Blk.new w2 70 #[.bool p.leaf, .slice q1 p.keys.length l1, .slice q2' p.vals.length l2, .slice q3 p.kids.length l3]) (by decide))); have TT4 : Hid (IsTree w4 b lb root) := (t4.blk (HT.out.kept G3.out) (by decide) ((HL.out.kept G3.out).ne (HT.out.kept G3.out) (by decide))); have b0 := K4.out.cell 0; have b1 := K4.out.cell 1; have b2 := K4.out.cell 2; have b3 := K4.out.cell 3; have f0 := K4.out.frozen 0; have f1 := K4.out.frozen 1; have f2 := K4.out.frozen 2; have f3 := K4.out.frozen 3; simp at b0 b1 b2 b3; clear o4 l4 t4 C28)
    | (go_at_call 29; have G6 : Hid (w4.grownBy ((((w4.setCell ⟨w2.heap.size, 0, none⟩ (.bool p2.leaf)).setCell ⟨w2.heap.size, 1, none⟩ (.slice r1 p2.keys.length m1)).setCell ⟨w2.heap.size, 2, none⟩ (.slice r2 p2.vals.length m2)).setCell ⟨w2.heap.size, 3, none⟩ (.slice r3 p2.kids.length m3)) (some w2.heap.size)) := (grown_set (grown_set (grown_set (grown_set (grown_refl w4 (some w2.heap.size)) 0 _) 1 _) 2 _) 3 _); have hK : Hid (w.heap.size ≤ w2.heap.size) := G2.out.size; refine (C29.out ((((w4.setCell ⟨w2.heap.size, 0, none⟩ (.bool p2.leaf)).setCell ⟨w2.heap.size, 1, none⟩ (.slice r1 p2.keys.length m1)).setCell ⟨w2.heap.size, 2, none⟩ (.slice r2 p2.vals.length m2)).setCell ⟨w2.heap.size, 3, none⟩ (.slice r3 p2.kids.length m3)) _ w.heap.size (Blk.kept TT4.out G6.out (fun e => by have h1 := Option.some.inj e; have h2 := hK.out; omega)) (L4.out.keptB K4.out (by decide) G6.out) (PgO.own O4.out K4.out (by decide) G6.out)).mono ?_; rintro e w7 ⟨rfl, t7, l7, tt7⟩; have T7 := hid t7; have L7 := hid l7; have TT7 := hid tt7; clear t7 l7 tt7 C29))
  rw [HP.out.1]
  exact ⟨rfl, T7.out, L7.out, ((TT.after G3.out T4.out (Nat.le_refl _)).of_new G6.out (Or.inl hK.out)).trans TT7.out⟩
set_option maxRecDepth 100000 in
set_option maxHeartbeats 4000000 in
theorem del_no (base b lb : Nat) (g : Lg) (root : Int) (p : Pa.Pg) (k : ByteArray) (w : World) (hT : IsTree w b lb root) (hL : IsLog w base lb g)
    (h27 : ∀ W, IsTree W b lb root → IsLog W base lb g → Calls Tryz.prog 27 #[.pointer (some ⟨b, 0, none⟩)] W (Pa.DecPost W p 0))
    (h28 : ∀ W u bp, IsTree W b lb root → IsLog W base lb g → Pa.PgO W bp u p → bp ≤ W.heap.size → Calls Tryz.prog 28 #[.pointer (some ⟨b, 0, none⟩), u, .agg #[.string ⟨#[]⟩, .string ⟨#[]⟩], .string k] W (NoPost W base lb bp g)) :
    Calls Tryz.prog 12 #[.pointer (some ⟨b, 0, none⟩), .string k] w (DlPost w base lb b false g root) := by
  have C26 := hid (none_tree b lb root w hT)
  have C27 := hid h27
  have C28 := hid h28
  have HT := hid hT
  have HL := hid hL
  obtain ⟨P0, hP0⟩ : ∃ P, P = DlPost w base lb b false g root := ⟨_, rfl⟩
  rw [← hP0]
  have HP := hid (And.intro hP0 trivial)
  have hbw := Blk.lt hT
  clear hP0 h27 h28 hT hL
  go_enter Tryz.func12, Tryz.ntmps12
  go_wp2_with (first
    | (go_at_call 26; refine C26.out.mono ?_; rintro e w1 ⟨rfl, hw⟩; have hw2 := hw.symm; clear hw; subst hw2; clear C26)
    | (go_at_call 27; refine (C27.out w HT.out HL.out).mono ?_; rintro e w2 ⟨u, rfl, o2, g2'⟩; obtain ⟨q1, l1, q2', l2, q3, l3, rfl⟩ := PgO.form o2; have O2 := hid o2; have G2 := hid g2'; clear g2' o2 C27)
    | (go_at_call 28; refine (C28.out (w2.alloc (.cells #[.bool p.leaf, .slice q1 p.keys.length l1, .slice q2' p.vals.length l2, .slice q3 p.kids.length l3] 70)) _ w.heap.size (HT.out.kept (grown_alloc G2.out _)) (HL.out.kept (grown_alloc G2.out _)) (O2.out.keptN (grown_alloc (grown_refl _ _) _)) (Nat.le_trans G2.out.size (grown_alloc (grown_refl w2 none) _).size)).mono ?_; rintro e w4 ⟨u4, p2, rfl, o4, l4, t4⟩; obtain ⟨r1, m1, r2, m2, r3, m3, rfl⟩ := PgO.form o4; have L4 := hid l4; have T4 := hid t4; have G3 : Hid (w.grownBy (w2.alloc (.cells #[.bool p.leaf, .slice q1 p.keys.length l1, .slice q2' p.vals.length l2, .slice q3 p.kids.length l3] 70)) none) := (grown_alloc G2.out _); have K4 := hid (t4.blk (Blk.new w2 70 #[.bool p.leaf, .slice q1 p.keys.length l1, .slice q2' p.vals.length l2, .slice q3 p.kids.length l3]) (by decide) ((HL.out.kept G3.out).ne (Blk.new w2 70 #[.bool p.leaf, .slice q1 p.keys.length l1, .slice q2' p.vals.length l2, .slice q3 p.kids.length l3]) (by decide))); have TT4 : Hid (IsTree w4 b lb root) := (t4.blk (HT.out.kept G3.out) (by decide) ((HL.out.kept G3.out).ne (HT.out.kept G3.out) (by decide))); have b0 := K4.out.cell 0; have b1 := K4.out.cell 1; have b2 := K4.out.cell 2; have b3 := K4.out.cell 3; have f0 := K4.out.frozen 0; have f1 := K4.out.frozen 1; have f2 := K4.out.frozen 2; have f3 := K4.out.frozen 3; simp at b0 b1 b2 b3; clear o4 l4 t4 C28))
  have hK := G2.out.size
  have G6 := grown_set (grown_set (grown_set (grown_set (grown_refl w4 (some w2.heap.size)) 0 (.bool p2.leaf)) 1 (.slice r1 p2.keys.length m1)) 2 (.slice r2 p2.vals.length m2)) 3 (.slice r3 p2.kids.length m3)
  rw [HP.out.1]
  exact ⟨rfl, Blk.kept TT4.out G6 (fun e => by have h1 := Option.some.inj e; omega), L4.out.keptB K4.out (by decide) G6, (TT.after G3.out T4.out (Nat.le_refl _)).of_new G6 (Or.inl hK)⟩
end Go.Proofs.YtbhmmcelndmijaaGreat
namespace Go.Proofs.YtbhmmcelndmijaaGreat
open Go.RowKit Go.Maps
/-- Delete. -/
theorem del_any (base b lb : Nat) (g : Lg) (r : Rt) (root : Int) (k : ByteArray) (ok : LgOk g) (rm : LgRoom (2 * (topT r).1 + 3) g) (hR : Bt.RootOk kl r) (hA : Bt.AllR KeyOk ValOk r) (hD : LaidR g.recs r root) :
    (Bt.look kl k (Bt.flatR r) = none → ∀ W, IsTree W b lb root → IsLog W base lb g → Calls Tryz.prog 12 #[.pointer (some ⟨b, 0, none⟩), .string k] W (DlPost W base lb b false g root)) ∧
    ((Bt.look kl k (Bt.flatR r)).isSome = true → ∃ g2 a2, LgStep (2 * (topT r).1 + 3) g g2 ∧ LaidR g2.recs (Bt.remR kl k r) a2 ∧ ∀ W, IsTree W b lb root → IsLog W base lb g → Calls Tryz.prog 12 #[.pointer (some ⟨b, 0, none⟩), .string k] W (DlPost W base lb b true g2 a2)) := by
  have r1 := rm.cnt
  obtain ⟨p, hp, hG, hAt, h8, hC⟩ := top_any base b lb g r root ok (by omega) hR hA hD
  have hne : (topT r).1 = 0 ∨ 1 ≤ Bt.nk (topT r).1 (topT r).2 := by
    match r, hR with
    | none, _ => exact Or.inl rfl
    | some ⟨d, t⟩, hR => exact Or.inr hR.2.1
  obtain ⟨hn, hs⟩ := wo_any base b lb root k (topT r).1 g none none (topT r).2 p ok (rm.mono (by omega)) hG hAt hp rfl rfl (fun y hy => by cases hy) hne h8
  rw [flat_top] at hn hs
  refine ⟨fun h W hT hL => del_no base b lb g root p k W hT hL hC (hn h), fun h => ?_⟩
  obtain ⟨g1, p2, s1, i1, c1⟩ := hs h
  have h1 : 1 ≤ Bt.nk (topT r).1 (topT r).2 := by
    match r, hR, h with
    | none, _, h => cases h
    | some ⟨d, t⟩, hR, _ => exact hR.2.1
  obtain ⟨w1, w2, w3, w4⟩ := Bt.rem_good ordK k (topT r).1 none none (topT r).2 hG rfl rfl h1
  have wA := Bt.rem_all (lt := kl) (k := k) (topT r).1 hAt
  obtain ⟨g2, a2, s2, d2, c2⟩ := plant_tree base b lb g1 root (topT r).1 (Bt.rem kl k (topT r).1 (topT r).2) p2 s1.ok (LgRoom.step rm s1) w1 wA i1 (by omega)
  have e : Bt.remR kl k r = Bt.plant (topT r).1 (Bt.rem kl k (topT r).1 (topT r).2) := by
    match r, h with
    | none, h => cases h
    | some ⟨d, t⟩, _ => rfl
  rw [e]
  exact ⟨g2, a2, s1.trans s2, d2, fun W hT hL => del_is base b lb g g1 g2 root a2 p p2 k W hT hL hC c1 c2⟩
end Go.Proofs.YtbhmmcelndmijaaGreat
namespace Go.Proofs.YtbhmmcelndmijaaGreat
open Go.RowKit Go.Maps
def k0 : Dk := ⟨[], [], [], 0, 0, false⟩
theorem small0 : Small k0 := ⟨fits_nil _, by decide, by decide, by decide⟩
theorem rem0 : nextD k0 remC = k0 := by rw [nextD, if_neg (by decide +kernel)]
theorem open0 (base d : Nat) (W : World) (hd : IsDisk W base d k0) : Calls Tryz.prog 19 #[.pointer (some ⟨d, 0, none⟩)] W (OpenPost base d W (newL d) 0 k0) := by
  have h := open_any base d k0 (newL d) W hd rfl small0 (by rw [rem0]; exact small0) (by rw [rem0]; exact fun W b hW => load_empty base b d W hW) (by rw [rem0]; exact Nat.zero_le _) (by rw [rem0]; decide) (by rw [rem0]; exact fits_nil _)
  have e2 : openD k0 ((readS (nextD k0 remC).now ⟨#[108, 111, 103]⟩).size - (newL d).len) (newL d).len = k0 := by rw [openD, rem0]; rfl
  rw [e2, rem0] at h
  exact h
/-- What fresh leaves. -/
def FrPost (w : World) (e : Ending) (w' : World) : Prop := ∃ b lb d, e = .returned (.tuple #[.pointer (some ⟨b, 0, none⟩), .pointer (some ⟨lb, 0, none⟩), .bool true]) ∧ w.heap.size ≤ b ∧ IsTree w' b lb (-1) ∧ IsLog w' w.heap.size lb (newL d) ∧ w.grownBy w' none
set_option maxRecDepth 100000 in
set_option maxHeartbeats 1000000 in
theorem fresh_any (w : World) : Calls Tryz.prog 7 #[] w (FrPost w) := by
  have C20 := hid (new_any w)
  have C19 : Hid (∀ W, IsDisk W w.heap.size w.heap.size k0 → Calls Tryz.prog 19 #[.pointer (some ⟨w.heap.size, 0, none⟩)] W (OpenPost w.heap.size w.heap.size W (newL w.heap.size) 0 k0)) := fun W h => open0 _ _ W h
  have C15 : Hid (∀ W lb, Calls Tryz.prog 15 #[.pointer (some ⟨lb, 0, none⟩), .int .i64 (-1)] W (NewPost W lb (-1))) := fun W lb => new_none lb W
  obtain ⟨P0, hP0⟩ : ∃ P, P = FrPost w := ⟨_, rfl⟩
  rw [← hP0]
  have HP := hid (And.intro hP0 trivial)
  clear hP0
  go_enter Tryz.func7, Tryz.ntmps7
  go_wp2_with (first
    | (go_at_call 20; refine C20.out.mono ?_; rintro e w1 ⟨rfl, d1, g1⟩; have D1 := hid d1; have G1 := hid g1; clear d1 g1 C20)
    | (go_at_call 19; refine (C19.out w1 D1.out).mono ?_; rintro e w2 ⟨lb, rfl, hlb, l2, d2, lo2⟩; have L2 := hid l2; have G2 := hid (Low.grown G1.out lo2); have hlb' := hid hlb; clear l2 d2 lo2 hlb C19)
    | (go_at_call 15; refine (C15.out w2 lb).mono ?_; rintro e w3 ⟨b, rfl, hb, t3, g3⟩; have T3 := hid t3; have G3 := hid g3; have hb' := hid hb; clear t3 g3 hb C15))
  refine bodyPost_ret (results_tmp3 Tryz.results7 _ _ _) rfl ?_
  rw [HP.out.1]
  exact ⟨b, lb, w.heap.size, rfl, Nat.le_trans G2.out.size hb'.out, T3.out, L2.out.kept G3.out, grown_none G2.out G3.out⟩
end Go.Proofs.YtbhmmcelndmijaaGreat
namespace Go.Proofs.YtbhmmcelndmijaaGreat
open Go.RowKit Go.Maps
/-- What holds of a tree and its log, whatever the memory. -/
structure StG (n : Nat) (r : Rt) (g : Lg) (root : Int) : Prop where
  ok : LgOk g
  good : Bt.RootOk kl r
  all : Bt.AllR KeyOk ValOk r
  laid : LaidR g.recs r root
  cnt : g.recs.length ≤ 11 * n
  siz : g.wait.size ≤ 770000 * n
  few : (Bt.flatR r).length ≤ n
/-- .. and in memory. -/
structure StM (base b lb : Nat) (g : Lg) (root : Int) (W : World) : Prop where
  tree : IsTree W b lb root
  log : IsLog W base lb g
theorem StM.kept {base b lb : Nat} {g : Lg} {root : Int} {W W' : World} (h : StM base b lb g root W) (hg : W.grownBy W' none) : StM base b lb g root W' := ⟨h.tree.kept hg, h.log.kept hg⟩
theorem st_new (d : Nat) : StG 0 none (newL d) (-1) :=
  ⟨⟨by simp [newL, Asc], (fun _ h => by cases h), by simp [newL]⟩, trivial, trivial, rfl, Nat.zero_le _, Nat.zero_le _, Nat.zero_le _⟩
theorem StG.deep {n : Nat} {r : Rt} {g : Lg} {root : Int} (h : StG n r g root) (hn : n ≤ 300) : (topT r).1 ≤ 4 := by
  match r, h with
  | none, _ => exact Nat.zero_le _
  | some ⟨d, t⟩, h =>
    have h1 := Bt.deep_root (lt := kl) d t h.good
    have h2 : (Bt.flat d t).length ≤ n := h.few
    show d ≤ 4
    apply Nat.le_of_not_lt
    intro hd
    have : 4 ^ 5 ≤ 4 ^ d := Nat.pow_le_pow_right (by decide) (by omega)
    simp at this
    omega
theorem StG.room {n : Nat} {r : Rt} {g : Lg} {root : Int} (h : StG n r g root) (hn : n < 300) : LgRoom (2 * (topT r).1 + 3) g := by
  have h1 := h.deep (by omega)
  have h2 := h.cnt
  have h3 := h.siz
  refine LgRoom.mono (n := 11) ⟨by omega, by omega⟩ (by omega)
theorem StG.step {n : Nat} {r r2 : Rt} {g g2 : Lg} {root a2 : Int} (h : StG n r g root) (hn : n < 300) (s : LgStep (2 * (topT r).1 + 3) g g2) (hd : LaidR g2.recs r2 a2) (hg : Bt.RootOk kl r2) (ha : Bt.AllR KeyOk ValOk r2) (hf : (Bt.flatR r2).length ≤ n + 1) : StG (n + 1) r2 g2 a2 := by
  have h1 := h.deep (by omega)
  have h2 := h.cnt
  have h3 := h.siz
  have h4 := s.cnt
  have h5 := s.siz
  have h6 : (2 * (topT r).1 + 3) * 70000 ≤ 11 * 70000 := Nat.mul_le_mul_right _ (by omega)
  exact ⟨s.ok, hg, ha, hd, by omega, by omega, hf⟩
theorem StG.mono {n : Nat} {r : Rt} {g : Lg} {root : Int} (h : StG n r g root) : StG (n + 1) r g root :=
  ⟨h.ok, h.good, h.all, h.laid, by have := h.cnt; omega, by have := h.siz; omega, by have := h.few; omega⟩
theorem ins_len (k v : ByteArray) : ∀ l : List (ByteArray × ByteArray), (Bt.ins kl k v l).length ≤ l.length + 1
  | [] => by simp [Bt.ins]
  | (a, b) :: r => by
    have := ins_len k v r
    unfold Bt.ins
    split
    · simp; omega
    · split <;> simp
theorem del_len (k : ByteArray) : ∀ l : List (ByteArray × ByteArray), (Bt.del kl k l).length ≤ l.length
  | [] => by simp [Bt.del]
  | (a, b) :: r => by
    have := del_len k r
    unfold Bt.del
    split
    · simp; omega
    · split <;> simp
/-- What a change leaves: what it answers, the tree with its log. -/
def StP (v : Value) (base b lb : Nat) (g : Lg) (root : Int) (w : World) (e : Ending) (w' : World) : Prop := e = .returned v ∧ StM base b lb g root w' ∧ TT base lb b w w'
theorem StG.put {n : Nat} {r : Rt} {g : Lg} {root : Int} (h : StG n r g root) (hn : n < 300) (base b lb : Nat) (k v : ByteArray) (hk : KeyOk k) (hv : ValOk v) :
    ∃ g2 a2, StG (n + 1) (Bt.putR kl k v r) g2 a2 ∧ Ext g.recs g2.recs ∧ ∀ W, StM base b lb g root W → Calls Tryz.prog 13 #[.pointer (some ⟨b, 0, none⟩), .string k, .string v] W (StP (.int .i64 0) base b lb g2 a2 W) := by
  obtain ⟨g2, a2, s, hd, hc⟩ := put_any base b lb g r root k v hk hv h.ok (h.room hn) h.good h.all h.laid
  obtain ⟨p1, p2⟩ := Bt.putR_good ordK k v r h.good
  refine ⟨g2, a2, h.step hn s hd p1 (Bt.putR_all hk hv r h.all) (by rw [p2]; have := ins_len k v (Bt.flatR r); have := h.few; omega), s.ext, fun W hW => ?_⟩
  exact (hc W hW.tree hW.log).mono fun e w' ⟨e1, e2, e3, e4⟩ => ⟨e1, ⟨e2, e3⟩, e4⟩
theorem StG.putNo {n : Nat} {r : Rt} {g : Lg} {root : Int} (_h : StG n r g root) (base b lb : Nat) (k v : ByteArray) (hm : ¬ (KeyOk k ∧ ValOk v)) : ∀ W, StM base b lb g root W → Calls Tryz.prog 13 #[.pointer (some ⟨b, 0, none⟩), .string k, .string v] W (StP (.int .i64 1) base b lb g root W) := fun W hW =>
  (put_no b lb root k v W hW.tree hm).mono fun e w' ⟨e1, e2⟩ => ⟨e1, hW.kept e2, ⟨e2.os, e2.tape, e2.output, e2.size, fun i hi _ _ => e2.block i hi (by simp)⟩⟩
theorem StG.del {n : Nat} {r : Rt} {g : Lg} {root : Int} (h : StG n r g root) (hn : n < 300) (base b lb : Nat) (k : ByteArray) :
    ∃ r2 g2 a2, StG (n + 1) r2 g2 a2 ∧ Bt.flatR r2 = Bt.del kl k (Bt.flatR r) ∧ Ext g.recs g2.recs ∧ ∀ W, StM base b lb g root W → Calls Tryz.prog 12 #[.pointer (some ⟨b, 0, none⟩), .string k] W (StP (.tuple #[.bool (Bt.look kl k (Bt.flatR r)).isSome, .int .i64 0]) base b lb g2 a2 W) := by
  obtain ⟨hno, hyes⟩ := del_any base b lb g r root k h.ok (h.room hn) h.good h.all h.laid
  cases hx : Bt.look kl k (Bt.flatR r) with
  | none =>
    refine ⟨r, g, root, h.mono, (Bt.del_none hx).symm, Ext.refl _, fun W hW => ?_⟩
    exact (hno hx W hW.tree hW.log).mono fun e w' ⟨e1, e2, e3, e4⟩ => ⟨e1, ⟨e2, e3⟩, e4⟩
  | some v =>
    obtain ⟨g2, a2, s, hd, hc⟩ := hyes (by rw [hx]; rfl)
    obtain ⟨p1, p2⟩ := Bt.remR_good ordK k r h.good
    have hlen : (Bt.flatR (Bt.remR kl k r)).length ≤ n + 1 := by rw [p2]; have := del_len k (Bt.flatR r); have := h.few; omega
    refine ⟨Bt.remR kl k r, g2, a2, h.step hn s hd p1 (Bt.remR_all r h.all) hlen, p2, s.ext, fun W hW => ?_⟩
    exact (hc W hW.tree hW.log).mono fun e w' ⟨e1, e2, e3, e4⟩ => ⟨e1, ⟨e2, e3⟩, e4⟩
theorem StG.get {n : Nat} {r : Rt} {g : Lg} {root : Int} (h : StG n r g root) (hn : n ≤ 300) (base b lb : Nat) (k : ByteArray) (W : World) (hW : StM base b lb g root W) :
    Calls Tryz.prog 21 #[.pointer (some ⟨b, 0, none⟩), .string k] W fun e w' => e = .returned (.tuple #[.string ((Bt.look kl k (Bt.flatR r)).getD ⟨#[]⟩), .int .i64 (if (Bt.look kl k (Bt.flatR r)).isSome then 0 else 2)]) ∧ W.grownBy w' none :=
  get_any base b lb g r root k h.ok (by have := h.cnt; omega) h.good h.all h.laid W hW.tree hW.log
/-- A change of the tree turns nothing of what was there ahead of it. -/
theorem TT.grown {w W W' : World} {lb b : Nat} (hg : w.grownBy W none) (h : TT w.heap.size lb b W W') (hb : w.heap.size ≤ b) : w.grownBy W' none :=
  ⟨h.os.trans hg.os, h.tape.trans hg.tape, h.output.trans hg.output, Nat.le_trans hg.size h.size, fun i hi hn => (h.keep i (Nat.lt_of_lt_of_le hi hg.size) (by omega) (Or.inl hi)).trans (hg.block i hi hn)⟩
set_option maxRecDepth 100000 in
theorem root_any (b lb : Nat) (root : Int) (w : World) (hT : IsTree w b lb root) : Calls Tryz.prog 11 #[.pointer (some ⟨b, 0, none⟩)] w fun e w' => e = .returned (.int .i64 root) ∧ w.grownBy w' none := by
  have C26 := hid (none_tree b lb root w hT)
  have c1 := Blk.cell hT 1
  simp at c1
  clear hT
  go_enter Tryz.func11, Tryz.ntmps11
  go_wp2_with (first
    | (go_at_call 26; refine C26.out.mono ?_; rintro e w1 ⟨rfl, hw⟩; replace hw := hw.symm; subst hw))
  go_ret
  exact ⟨rfl, grown_refl _ _⟩
theorem look_one (k v : ByteArray) : Bt.look kl k (Bt.flatR (Bt.putR kl k v none)) = some v := by
  rw [(Bt.putR_good ordK k v none trivial).2]
  show Bt.look kl k [(k, v)] = some v
  unfold Bt.look
  rw [ordK.irr]
  rfl
theorem keyA : KeyOk ⟨#[97]⟩ := ⟨by decide, by rw [ByteArray.toList_eq]; decide⟩
theorem val1 : ValOk ⟨#[49]⟩ := by show ByteArray.size _ ≤ 8192; decide
set_option maxRecDepth 100000 in
set_option maxHeartbeats 1000000 in
theorem awake_any (w : World) : Calls Tryz.prog 8 #[] w fun e w' => e = .returned (.bool true) ∧ w.grownBy w' none := by
  have C7 := hid (fresh_any w)
  go_enter Tryz.func8, Tryz.ntmps8
  go_wp2_with (first
    | (go_at_call 7; refine C7.out.mono ?_; rintro e w1 ⟨b, lb, d, rfl, hb, t1, l1, g1⟩; have M1 : Hid (StM w.heap.size b lb (newL d) (-1) w1) := ⟨t1, l1⟩; have G1 := hid g1; have HB := hid hb; obtain ⟨g2, a2, sg, _, hc⟩ := StG.put (st_new d) (by decide) w.heap.size b lb ⟨#[97]⟩ ⟨#[49]⟩ keyA val1; have SG := hid sg; have C13 := hid hc; clear t1 l1 g1 hb sg hc C7)
    | (go_at_call 13; refine (C13.out w1 M1.out).mono ?_; rintro e w2 ⟨rfl, m2, tt⟩; have M2 := hid m2; have G2 := hid (TT.grown G1.out tt HB.out); have C21 : Hid (Calls Tryz.prog 21 #[.pointer (some ⟨b, 0, none⟩), .string ⟨#[97]⟩] w2 fun e w' => e = .returned (.tuple #[.string ⟨#[49]⟩, .int .i64 0]) ∧ w2.grownBy w' none) := (by have := StG.get SG.out (by decide) w.heap.size b lb ⟨#[97]⟩ w2 M2.out; rw [look_one] at this; exact this); clear m2 tt)
    | (go_at_call 21; refine C21.out.mono ?_; rintro e w3 ⟨rfl, g3⟩; have G3 := hid (grown_none G2.out g3); clear g3))
  go_ret
  exact ⟨rfl, G3.out⟩
end Go.Proofs.YtbhmmcelndmijaaGreat
namespace Go.Proofs.YtbhmmcelndmijaaGreat
open Go.RowKit Go.Maps
/-- Keys of a good tree stand where they must. -/
theorem btw_good (recs : List (Nat × ByteArray)) : ∀ (d : Nat) {lo hi : Option ByteArray} {t : Tr d} {p : Pa.Pg}, Bt.Good kl d lo hi t → Is recs d t p → Btw (opT lo) (opT hi) p.keys
  | 0, lo, hi, l, p, hg, hp => by
    have hp' : p = ⟨true, (show List (ByteArray × ByteArray) from l).map Prod.fst, (show List (ByteArray × ByteArray) from l).map Prod.snd, []⟩ := hp
    have hR := Bt.Ris.inR (lt := kl) (hi := hi) (lo := lo) (l := l) hg
    subst hp'
    intro i x hx
    have hm : x ∈ (show List (ByteArray × ByteArray) from l).map Prod.fst := List.mem_of_getElem? hx
    obtain ⟨y, hy, rfl⟩ := List.mem_map.1 hm
    obtain ⟨h1, h2⟩ := hR y hy
    constructor
    · cases lo with
      | none => exact less_none _
      | some z =>
        have : (!kl y.1 z) = true := h1
        simpa [kl, opT] using this
    · cases hi with
      | none => left; show ByteArray.toList ⟨#[]⟩ = []; rw [ByteArray.toList_eq]
      | some z => exact Or.inr h2
  | d + 1, lo, hi, (ks, ts), p, hg, ⟨is, hp, _, _⟩ => by
    obtain ⟨h1, h2, h3⟩ := gl_pw hg
    subst hp
    intro i x hx
    have hm : x ∈ ks := List.mem_of_getElem? hx
    constructor
    · cases lo with
      | none => exact less_none _
      | some z => exact (Pa.less_flip _ _ (show Op.bytesLess z.toList x.toList = true from h2 x hm)).1
    · cases hi with
      | none => left; show ByteArray.toList ⟨#[]⟩ = []; rw [ByteArray.toList_eq]
      | some z => exact Or.inr (h3 x hm)
def ShP (d : Nat) (w : World) (e : Ending) (w' : World) : Prop := e = .returned (.int .i64 (d + 1 : Nat)) ∧ w.grownBy w' none
theorem shape_read (base lb : Nat) (g : Lg) (ok : LgOk g) (hl : g.recs.length ≤ 1000000) (a : Int) (p : Pa.Pg) (hP : PageAt g.recs a p) (w : World) (hL : IsLog w base lb g) :
    ∃ s : ByteArray, (∀ W, w.grownBy W none → Calls Tryz.prog 32 #[.pointer (some ⟨lb, 0, none⟩), .int .i64 a] W fun e w' => e = .returned (.tuple #[.string s, .int .i64 0]) ∧ W.grownBy w' none) ∧ ∀ W, Calls Tryz.prog 33 #[.string s] W (Pa.DecPost W p 0) := by
  obtain ⟨⟨s, s1, s2, s3, s4⟩, s5⟩ := hP
  have e1 : readT g.recs a = s := by unfold readT; rw [s1]; rfl
  have e2 : readC g.recs a = 0 := by unfold readC; rw [s1]; rfl
  refine ⟨s, fun W hW => ?_, fun W => ?_⟩
  · have C1 := lread_any base lb g a W (hL.kept hW) ok.asc hl
    rw [e1, e2] at C1
    exact C1
  · have := Pa.decode_any s W (by omega)
    rw [s3, s4] at this
    exact this
theorem shape_any (base lb : Nat) (g : Lg) (ok : LgOk g) (hl : g.recs.length ≤ 1000000) : ∀ (d : Nat) (t : Tr d) (p : Pa.Pg) (a : Int) (lo hi : Option ByteArray) (root : Bool), d ≤ 500 → Bt.Good kl d lo hi t → Bt.AllK KeyOk ValOk d t → PageAt g.recs a p → Is g.recs d t p → (root = false → 4 ≤ Bt.nk d t) → 1 ≤ Bt.nk d t → ∀ w, IsLog w base lb g →
    Calls Tryz.prog 14 #[.pointer (some ⟨lb, 0, none⟩), .int .i64 a, .bool root, .string (opT lo), .string (opT hi)] w (ShP d w)
  | 0, l, p, a, lo, hi, root, hd, hG, hA, hP, hI, h4, h1, w, hL => by
    have hb := btw_good g.recs 0 hG hI
    have hk := is_nk g.recs 0 hI
    have hf := hP.few
    obtain ⟨s, C1, C2⟩ := shape_read base lb g ok hl a p hP w hL
    have hp' : p = ⟨true, (show List (ByteArray × ByteArray) from l).map Prod.fst, (show List (ByteArray × ByteArray) from l).map Prod.snd, []⟩ := hI
    have hlf : p.leaf = true := by rw [hp']
    cases root with
    | true =>
      by_cases he : (opT hi).toList = []
      · exact shape_leaf_re base lb g a s _ _ p w hL C1 C2 hlf (by omega) hf hb he
      · exact shape_leaf_rf base lb g a s _ _ p w hL C1 C2 hlf (by omega) hf hb he
    | false =>
      have := h4 rfl
      by_cases he : (opT hi).toList = []
      · exact shape_leaf_ke base lb g a s _ _ p w hL C1 C2 hlf (by omega) hf (by omega) hb he
      · exact shape_leaf_kf base lb g a s _ _ p w hL C1 C2 hlf (by omega) hf (by omega) hb he
  | d + 1, (ks, ts), p, a, lo, hi, root, hd, hG, hA, hP, hI, h4, h1, w, hL => by
    have hb := btw_good g.recs (d + 1) (t := ((ks, ts) : Tr (d + 1))) hG hI
    have hk := is_nk g.recs (d + 1) (t := ((ks, ts) : Tr (d + 1))) hI
    have hf := hP.few
    obtain ⟨s, C1, C2⟩ := shape_read base lb g ok hl a p hP w hL
    obtain ⟨is, hp, hil, hkids⟩ := hI
    have hlen := Bt.GL.len (lt := kl) hG
    have e1 : p.keys = ks := by rw [hp]
    have e2 : p.kids = is := by rw [hp]
    have hlf : p.leaf = false := by rw [hp]
    have hkl : p.kids.length = p.keys.length + 1 := by rw [e1, e2, hil, hlen]
    have C14 : ∀ (i : Nat) (x : Int), p.kids[i]? = some x → ∀ W, w.grownBy W none → Calls Tryz.prog 14 #[.pointer (some ⟨lb, 0, none⟩), .int .i64 x, .bool false, .string (loK (opT lo) p.keys i), .string (hiK (opT hi) p.keys i)] W fun e w' => e = .returned (.int .i64 (d + 1 : Nat)) ∧ W.grownBy w' none := fun i x hx W hW => by
      rw [e2] at hx
      have hi1 : i < is.length := (List.getElem?_eq_some_iff.1 hx).1
      have hi2 : i < ts.length := by omega
      obtain ⟨_, q, hq1, hq2⟩ := hkids i x _ hx (List.getElem?_eq_getElem hi2)
      obtain ⟨g1, g2, g3⟩ := gl_at hG i _ (List.getElem?_eq_getElem hi2)
      rw [e1, lo_span lo ks i (by omega), hi_span hi ks i]
      exact shape_any base lb g ok hl d _ q x _ _ false (by omega) g1 (hA.2 _ (List.getElem_mem hi2)) hq1 hq2 (fun _ => g2) (by omega) W (hL.kept hW)
    have ed : ((d + 1 : Nat) : Int) + 1 = ((d + 1 + 1 : Nat) : Int) := by omega
    unfold ShP
    rw [← ed]
    cases root with
    | true =>
      by_cases he : (opT hi).toList = []
      · exact shape_node_re base lb g a s _ _ p w hL C1 C2 hlf (by omega) hf hb he (d + 1) (by omega) (by omega) (by omega) hkl C14
      · exact shape_node_rf base lb g a s _ _ p w hL C1 C2 hlf (by omega) hf hb he (d + 1) (by omega) (by omega) (by omega) hkl C14
    | false =>
      have := h4 rfl
      by_cases he : (opT hi).toList = []
      · exact shape_node_ke base lb g a s _ _ p w hL C1 C2 hlf (by omega) hf (by omega) hb he (d + 1) (by omega) (by omega) (by omega) hkl C14
      · exact shape_node_kf base lb g a s _ _ p w hL C1 C2 hlf (by omega) hf (by omega) hb he (d + 1) (by omega) (by omega) (by omega) hkl C14
end Go.Proofs.YtbhmmcelndmijaaGreat
