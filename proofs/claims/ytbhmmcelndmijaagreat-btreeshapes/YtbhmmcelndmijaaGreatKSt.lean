/-
  What an opening finds in an empty file, and in a file with one record and a marker. A new tree: New. fresh: a tree without keys, and its log. A tree in memory with what it has, through at most 300 acts.
-/
import Derived.Test.YtbhmmcelndmijaaGreatKLopen
import Derived.Test.YtbhmmcelndmijaaGreatLsrch
import Derived.Test.YtbhmmcelndmijaaGreatKTr3
import Derived.Test.YtbhmmcelndmijaaGreatGt
import Derived.Test.YtbhmmcelndmijaaGreatKLcom
namespace Go.Proofs.YtbhmmcelndmijaaGreat
open Go.RowKit Go.Maps
theorem un_empty : Un ⟨#[]⟩ 0 ⟨#[]⟩ 0 (Wi.unF ⟨#[]⟩ 0) := fun W => Wi.unframe_bad ⟨#[]⟩ 0 W (by decide) (by decide) (by decide +kernel)
theorem drop_new {base b : Nat} {g : Lg} (hc : g.com = g.recs.length) (hl : g.recs.length ≤ 1000000) (hw : g.wait = ⟨#[]⟩) (W : World) (h : IsLog W base b g) : Calls Tryz.prog 62 #[.pointer (some ⟨b, 0, none⟩)] W fun e w' => (∃ m : Nat, e = .returned (.int .i64 m)) ∧ IsLog w' base b g ∧ LT base b W w' := by
  refine (drop_full base b g W h hc hl (by rw [hw]; decide)).mono ?_
  rintro e w' ⟨he, hi, hg⟩
  refine ⟨⟨_, he⟩, ?_, LT.of_self hg h.1⟩
  obtain ⟨a1, a2, a3, a4, a5, a6, a7⟩ := g
  simp only at hw
  subst hw
  exact hi
theorem load_empty (base b d : Nat) (w : World) (h : IsLog w base b (newL d)) : Calls Tryz.prog 37 #[.pointer (some ⟨b, 0, none⟩), .string ⟨#[]⟩] w fun e w' => e = .returned (.tuple #[]) ∧ IsLog w' base b (newL d) ∧ LT base b w w' := by
  refine load_seq base b ⟨#[]⟩ 1 (fun _ => 0) (fun k => decide (k < 1)) (fun _ => newL d) (newL d) w h rfl (fun k hk => decide_eq_true hk) rfl rfl (fun _ => Nat.zero_le _) (fun k hk hr => ?_) (fun k hk W hW => ?_) (fun W hW => drop_new rfl (by show 0 ≤ 1000000; decide) rfl W hW)
  · have := of_decide_eq_true hr
    omega
  · obtain rfl : k = 0 := by omega
    refine (take_bad _ ⟨#[]⟩ ⟨#[]⟩ 0 0 _ W un_empty (by decide +kernel)).mono ?_
    rintro e w' ⟨he, hg⟩
    exact ⟨he, hW.kept hg, LT.of_none hg⟩
def waitA : ByteArray := ⟨#[]⟩ ++ Wi.frmS (⟨#[100]⟩ ++ ⟨#[97]⟩)
def rootA : ByteArray := ⟨#[114, 111, 111, 116]⟩
def fileA : ByteArray := waitA ++ Wi.frmS (⟨#[109]⟩ ++ ⟨#[114, 111, 111, 116]⟩)
theorem fileA_size : fileA.size = 23 := by decide +kernel
theorem un_a : Un fileA 0 (⟨#[100]⟩ ++ ⟨#[97]⟩) 10 0 := fun W => Wi.unframe_in fileA 0 W (by rw [fileA_size]; decide) (by decide) (by decide +kernel) _ 10 0 (Or.inl ⟨by decide +kernel, bytes_ext (by decide +kernel), by decide +kernel, rfl⟩)
theorem un_m : Un fileA 10 (⟨#[109]⟩ ++ ⟨#[114, 111, 111, 116]⟩) 23 0 := fun W => Wi.unframe_in fileA 10 W (by rw [fileA_size]; decide) (by rw [fileA_size]; decide) (by decide +kernel) _ 23 0 (Or.inl ⟨by decide +kernel, bytes_ext (by decide +kernel), by decide +kernel, rfl⟩)
theorem un_e : Un fileA 23 ⟨#[]⟩ 0 (Wi.unF fileA 23) := fun W => Wi.unframe_bad fileA 23 W (by rw [fileA_size]; decide) (by rw [fileA_size]; decide) (by decide +kernel)
def seqA : Nat → Nat
  | 0 => 0
  | 1 => 10
  | 2 => 23
  | _ => 0
/-- The log of that file. -/
def logA (d : Nat) : Lg := ⟨d, [(0, ⟨#[97]⟩)], 1, 23, ⟨#[]⟩, ⟨#[114, 111, 111, 116]⟩, true⟩
def seqG (d : Nat) : Nat → Lg
  | 0 => newL d
  | 1 => { newL d with recs := [] ++ [(0, ⟨#[97]⟩)] }
  | _ => logA d
theorem load_file (base b d : Nat) (w : World) (h : IsLog w base b (newL d)) : Calls Tryz.prog 37 #[.pointer (some ⟨b, 0, none⟩), .string fileA] w fun e w' => e = .returned (.tuple #[]) ∧ IsLog w' base b (logA d) ∧ LT base b w w' := by
  refine load_seq base b fileA 3 seqA (fun k => decide (k < 3)) (seqG d) (logA d) w h rfl (fun k hk => decide_eq_true hk) rfl rfl (fun k => ?_) (fun k hk hr => ?_) (fun k hk W hW => ?_) (fun W hW => drop_new rfl (by show 1 ≤ 1000000; decide) rfl W hW)
  · rw [fileA_size]
    match k with
    | 0 => decide
    | 1 => decide
    | 2 => decide
    | _ + 3 => exact Nat.zero_le _
  · have := of_decide_eq_true hr
    match k, hk with
    | 0, _ => decide
    | 1, _ => decide
    | 2, _ => omega
  · match k, hk with
    | 0, _ => exact take_rec base b (newL d) fileA ⟨#[97]⟩ 0 10 W hW (by show 0 ≤ 1000000; decide) un_a (by decide)
    | 1, _ => exact take_mark base b (seqG d 1) fileA ⟨#[114, 111, 111, 116]⟩ 10 23 W hW (by show 1 ≤ _; decide) un_m (by decide)
    | 2, _ =>
      refine (take_bad _ fileA ⟨#[]⟩ 23 0 _ W un_e (by decide +kernel)).mono ?_
      rintro e w' ⟨he, hg⟩
      exact ⟨he, hW.kept hg, LT.of_none hg⟩
end Go.Proofs.YtbhmmcelndmijaaGreat
namespace Go.Proofs.YtbhmmcelndmijaaGreat
open Go.RowKit Go.Maps
/-- What New leaves. -/
def NewPost (w : World) (lb : Nat) (r : Int) (e : Ending) (w' : World) : Prop := ∃ b, e = .returned (.tuple #[.pointer (some ⟨b, 0, none⟩), .int .i64 0]) ∧ w.heap.size ≤ b ∧ IsTree w' b lb r ∧ w.grownBy w' none
set_option maxRecDepth 100000 in
set_option maxHeartbeats 1000000 in
theorem new_by (lb : Nat) (r R : Int) (p : Pa.Pg) (w : World) (hr : (r ≤ -1 ∧ R = -1) ∨ (-1 < r ∧ R = r)) (hC : ∀ W b, IsTree W b lb R → w.grownBy W none → Calls Tryz.prog 27 #[.pointer (some ⟨b, 0, none⟩)] W (Pa.DecPost W p 0)) :
    Calls Tryz.prog 15 #[.pointer (some ⟨lb, 0, none⟩), .int .i64 r] w (NewPost w lb R) := by
  have G0 : Hid (w.grownBy (w.alloc (.cells #[.pointer (some ⟨lb, 0, none⟩), .int .i64 R] 68)) none) := grown_alloc (grown_refl w none) _
  have T0 : Hid (IsTree (w.alloc (.cells #[.pointer (some ⟨lb, 0, none⟩), .int .i64 R] 68)) w.heap.size lb R) := Blk.new w 68 _
  have CT := hid (hC _ _ T0.out G0.out)
  clear hC
  have hm : max r (-1) = R := by omega
  rcases hr with ⟨h, rfl⟩ | ⟨h, rfl⟩
  all_goals
    go_enter Tryz.func15, Tryz.ntmps15
    go_wp2_with (go_at_call 27; refine CT.out.mono ?_; rintro e w2 ⟨v, rfl, o2, g2⟩; have G2 := hid g2; obtain ⟨va, vb, vc, rfl, _, r1, r2, r3⟩ := o2; obtain ⟨p1, k1, rfl⟩ := Pa.owns_slice r1; obtain ⟨p2, k2, rfl⟩ := Pa.owns_slice r2; obtain ⟨p3, k3, rfl⟩ := Pa.owns_slice r3; clear r1 r2 r3 g2 CT)
    go_ret2
    exact ⟨_, rfl, Nat.le_refl _, T0.out.kept (grown_alloc G2.out _), grown_alloc (grown_none G0.out G2.out) _⟩
theorem new_none (lb : Nat) (w : World) : Calls Tryz.prog 15 #[.pointer (some ⟨lb, 0, none⟩), .int .i64 (-1)] w (NewPost w lb (-1)) := new_by lb (-1) (-1) _ w (Or.inl ⟨by decide, rfl⟩) fun W b hT _ => top_none b lb W hT
theorem new_some (base lb : Nat) (g : Lg) (root : Int) (p : Pa.Pg) (w : World) (hL : IsLog w base lb g) (hs : Asc g.recs) (hl : g.recs.length ≤ 1000000) (hr : 0 ≤ root) (hP : PageAt g.recs root p) (hH : Holds ⟨#[]⟩ ⟨#[]⟩ p) :
    Calls Tryz.prog 15 #[.pointer (some ⟨lb, 0, none⟩), .int .i64 root] w (NewPost w lb root) := new_by lb root root p w (Or.inr ⟨by omega, rfl⟩) fun W b hT hg => top_some base b lb g root p W hT (hL.kept hg) hs hl hr hP hH
end Go.Proofs.YtbhmmcelndmijaaGreat
namespace Go.Proofs.YtbhmmcelndmijaaGreat
open Go.RowKit Go.Maps
def k0 : Dk := ⟨[], [], [], 0, 0, false⟩
theorem small0 : Small k0 := ⟨fits_nil _, by decide, by decide, by decide⟩
theorem rem0 : nextD k0 remC = k0 := by rw [nextD, if_neg (by decide +kernel)]
theorem open0 (base d : Nat) (W : World) (hd : IsDisk W base d k0) : Calls Tryz.prog 19 #[.pointer (some ⟨d, 0, none⟩)] W (OpenPost base d W (newL d) 0 k0) := by
  have h := open_any base d k0 (newL d) W hd rfl small0 (by rw [rem0]; exact small0) (by rw [rem0]; exact fun W b hW => load_empty base b d W hW) (by rw [rem0]; exact Nat.zero_le _) (by rw [rem0]; decide) (by rw [rem0]; exact fits_nil _)
  have e2 : openD k0 ((readS (nextD k0 remC).now ⟨#[108, 111, 103]⟩).size - (newL d).len) (newL d).len = k0 := by rw [openD, rem0]; rfl
  rw [e2, rem0] at h
  exact h
/-- What fresh leaves. -/
def FrPost (w : World) (e : Ending) (w' : World) : Prop := ∃ b lb d, e = .returned (.tuple #[.pointer (some ⟨b, 0, none⟩), .pointer (some ⟨lb, 0, none⟩), .bool true]) ∧ w.heap.size ≤ b ∧ IsTree w' b lb (-1) ∧ IsLog w' w.heap.size lb (newL d) ∧ w.grownBy w' none
set_option maxRecDepth 100000 in
set_option maxHeartbeats 1000000 in
theorem fresh_any (w : World) : Calls Tryz.prog 7 #[] w (FrPost w) := by
  have C20 := hid (new_any w)
  have C19 : Hid (∀ W, IsDisk W w.heap.size w.heap.size k0 → Calls Tryz.prog 19 #[.pointer (some ⟨w.heap.size, 0, none⟩)] W (OpenPost w.heap.size w.heap.size W (newL w.heap.size) 0 k0)) := fun W h => open0 _ _ W h
  have C15 : Hid (∀ W lb, Calls Tryz.prog 15 #[.pointer (some ⟨lb, 0, none⟩), .int .i64 (-1)] W (NewPost W lb (-1))) := fun W lb => new_none lb W
  obtain ⟨P0, hP0⟩ : ∃ P, P = FrPost w := ⟨_, rfl⟩
  rw [← hP0]
  have HP := hid (And.intro hP0 trivial)
  clear hP0
  go_enter Tryz.func7, Tryz.ntmps7
  go_wp2_with (first
    | (go_at_call 20; refine C20.out.mono ?_; rintro e w1 ⟨rfl, d1, g1⟩; have D1 := hid d1; have G1 := hid g1; clear d1 g1 C20)
    | (go_at_call 19; refine (C19.out w1 D1.out).mono ?_; rintro e w2 ⟨lb, rfl, hlb, l2, d2, lo2⟩; have L2 := hid l2; have G2 := hid (Low.grown G1.out lo2); have hlb' := hid hlb; clear l2 d2 lo2 hlb C19)
    | (go_at_call 15; refine (C15.out w2 lb).mono ?_; rintro e w3 ⟨b, rfl, hb, t3, g3⟩; have T3 := hid t3; have G3 := hid g3; have hb' := hid hb; clear t3 g3 hb C15))
  refine bodyPost_ret (results_tmp3 Tryz.results7 _ _ _) rfl ?_
  rw [HP.out.1]
  exact ⟨b, lb, w.heap.size, rfl, Nat.le_trans G2.out.size hb'.out, T3.out, L2.out.kept G3.out, grown_none G2.out G3.out⟩
end Go.Proofs.YtbhmmcelndmijaaGreat
namespace Go.Proofs.YtbhmmcelndmijaaGreat
open Go.RowKit Go.Maps
/-- What holds of a tree and its log, whatever the memory. -/
structure StG (n : Nat) (r : Rt) (g : Lg) (root : Int) : Prop where
  ok : LgOk g
  good : Bt.RootOk kl r
  all : Bt.AllR KeyOk ValOk r
  laid : LaidR g.recs r root
  cnt : g.recs.length ≤ 11 * n
  siz : g.wait.size ≤ 770000 * n
  few : (Bt.flatR r).length ≤ n
/-- .. and in memory. -/
structure StM (base b lb : Nat) (g : Lg) (root : Int) (W : World) : Prop where
  tree : IsTree W b lb root
  log : IsLog W base lb g
theorem StM.kept {base b lb : Nat} {g : Lg} {root : Int} {W W' : World} (h : StM base b lb g root W) (hg : W.grownBy W' none) : StM base b lb g root W' := ⟨h.tree.kept hg, h.log.kept hg⟩
theorem st_new (d : Nat) : StG 0 none (newL d) (-1) :=
  ⟨⟨by simp [newL, Asc], (fun _ h => by cases h), by simp [newL]⟩, trivial, trivial, rfl, Nat.zero_le _, Nat.zero_le _, Nat.zero_le _⟩
theorem StG.deep {n : Nat} {r : Rt} {g : Lg} {root : Int} (h : StG n r g root) (hn : n ≤ 300) : (topT r).1 ≤ 4 := by
  match r, h with
  | none, _ => exact Nat.zero_le _
  | some ⟨d, t⟩, h =>
    have h1 := Bt.deep_root (lt := kl) d t h.good
    have h2 : (Bt.flat d t).length ≤ n := h.few
    show d ≤ 4
    apply Nat.le_of_not_lt
    intro hd
    have : 4 ^ 5 ≤ 4 ^ d := Nat.pow_le_pow_right (by decide) (by omega)
    simp at this
    omega
theorem StG.room {n : Nat} {r : Rt} {g : Lg} {root : Int} (h : StG n r g root) (hn : n < 300) : LgRoom (2 * (topT r).1 + 3) g := by
  have h1 := h.deep (by omega)
  have h2 := h.cnt
  have h3 := h.siz
  refine LgRoom.mono (n := 11) ⟨by omega, by omega⟩ (by omega)
theorem StG.step {n : Nat} {r r2 : Rt} {g g2 : Lg} {root a2 : Int} (h : StG n r g root) (hn : n < 300) (s : LgStep (2 * (topT r).1 + 3) g g2) (hd : LaidR g2.recs r2 a2) (hg : Bt.RootOk kl r2) (ha : Bt.AllR KeyOk ValOk r2) (hf : (Bt.flatR r2).length ≤ n + 1) : StG (n + 1) r2 g2 a2 := by
  have h1 := h.deep (by omega)
  have h2 := h.cnt
  have h3 := h.siz
  have h4 := s.cnt
  have h5 := s.siz
  have h6 : (2 * (topT r).1 + 3) * 70000 ≤ 11 * 70000 := Nat.mul_le_mul_right _ (by omega)
  exact ⟨s.ok, hg, ha, hd, by omega, by omega, hf⟩
theorem StG.mono {n : Nat} {r : Rt} {g : Lg} {root : Int} (h : StG n r g root) : StG (n + 1) r g root :=
  ⟨h.ok, h.good, h.all, h.laid, by have := h.cnt; omega, by have := h.siz; omega, by have := h.few; omega⟩
theorem ins_len (k v : ByteArray) : ∀ l : List (ByteArray × ByteArray), (Bt.ins kl k v l).length ≤ l.length + 1
  | [] => by simp [Bt.ins]
  | (a, b) :: r => by
    have := ins_len k v r
    unfold Bt.ins
    split
    · simp; omega
    · split <;> simp
theorem del_len (k : ByteArray) : ∀ l : List (ByteArray × ByteArray), (Bt.del kl k l).length ≤ l.length
  | [] => by simp [Bt.del]
  | (a, b) :: r => by
    have := del_len k r
    unfold Bt.del
    split
    · simp; omega
    · split <;> simp
/-- What a change leaves: what it answers, the tree with its log. -/
def StP (v : Value) (base b lb : Nat) (g : Lg) (root : Int) (w : World) (e : Ending) (w' : World) : Prop := e = .returned v ∧ StM base b lb g root w' ∧ TT base lb b w w'
theorem StG.put {n : Nat} {r : Rt} {g : Lg} {root : Int} (h : StG n r g root) (hn : n < 300) (base b lb : Nat) (k v : ByteArray) (hk : KeyOk k) (hv : ValOk v) :
    ∃ g2 a2, StG (n + 1) (Bt.putR kl k v r) g2 a2 ∧ Ext g.recs g2.recs ∧ ∀ W, StM base b lb g root W → Calls Tryz.prog 13 #[.pointer (some ⟨b, 0, none⟩), .string k, .string v] W (StP (.int .i64 0) base b lb g2 a2 W) := by
  obtain ⟨g2, a2, s, hd, hc⟩ := put_any base b lb g r root k v hk hv h.ok (h.room hn) h.good h.all h.laid
  obtain ⟨p1, p2⟩ := Bt.putR_good ordK k v r h.good
  refine ⟨g2, a2, h.step hn s hd p1 (Bt.putR_all hk hv r h.all) (by rw [p2]; have := ins_len k v (Bt.flatR r); have := h.few; omega), s.ext, fun W hW => ?_⟩
  exact (hc W hW.tree hW.log).mono fun e w' ⟨e1, e2, e3, e4⟩ => ⟨e1, ⟨e2, e3⟩, e4⟩
theorem StG.putNo {n : Nat} {r : Rt} {g : Lg} {root : Int} (_h : StG n r g root) (base b lb : Nat) (k v : ByteArray) (hm : ¬ (KeyOk k ∧ ValOk v)) : ∀ W, StM base b lb g root W → Calls Tryz.prog 13 #[.pointer (some ⟨b, 0, none⟩), .string k, .string v] W (StP (.int .i64 1) base b lb g root W) := fun W hW =>
  (put_no b lb root k v W hW.tree hm).mono fun e w' ⟨e1, e2⟩ => ⟨e1, hW.kept e2, ⟨e2.os, e2.tape, e2.output, e2.size, fun i hi _ _ => e2.block i hi (by simp)⟩⟩
theorem StG.del {n : Nat} {r : Rt} {g : Lg} {root : Int} (h : StG n r g root) (hn : n < 300) (base b lb : Nat) (k : ByteArray) :
    ∃ r2 g2 a2, StG (n + 1) r2 g2 a2 ∧ Bt.flatR r2 = Bt.del kl k (Bt.flatR r) ∧ Ext g.recs g2.recs ∧ ∀ W, StM base b lb g root W → Calls Tryz.prog 12 #[.pointer (some ⟨b, 0, none⟩), .string k] W (StP (.tuple #[.bool (Bt.look kl k (Bt.flatR r)).isSome, .int .i64 0]) base b lb g2 a2 W) := by
  obtain ⟨hno, hyes⟩ := del_any base b lb g r root k h.ok (h.room hn) h.good h.all h.laid
  cases hx : Bt.look kl k (Bt.flatR r) with
  | none =>
    refine ⟨r, g, root, h.mono, (Bt.del_none hx).symm, Ext.refl _, fun W hW => ?_⟩
    exact (hno hx W hW.tree hW.log).mono fun e w' ⟨e1, e2, e3, e4⟩ => ⟨e1, ⟨e2, e3⟩, e4⟩
  | some v =>
    obtain ⟨g2, a2, s, hd, hc⟩ := hyes (by rw [hx]; rfl)
    obtain ⟨p1, p2⟩ := Bt.remR_good ordK k r h.good
    have hlen : (Bt.flatR (Bt.remR kl k r)).length ≤ n + 1 := by rw [p2]; have := del_len k (Bt.flatR r); have := h.few; omega
    refine ⟨Bt.remR kl k r, g2, a2, h.step hn s hd p1 (Bt.remR_all r h.all) hlen, p2, s.ext, fun W hW => ?_⟩
    exact (hc W hW.tree hW.log).mono fun e w' ⟨e1, e2, e3, e4⟩ => ⟨e1, ⟨e2, e3⟩, e4⟩
theorem StG.get {n : Nat} {r : Rt} {g : Lg} {root : Int} (h : StG n r g root) (hn : n ≤ 300) (base b lb : Nat) (k : ByteArray) (W : World) (hW : StM base b lb g root W) :
    Calls Tryz.prog 21 #[.pointer (some ⟨b, 0, none⟩), .string k] W fun e w' => e = .returned (.tuple #[.string ((Bt.look kl k (Bt.flatR r)).getD ⟨#[]⟩), .int .i64 (if (Bt.look kl k (Bt.flatR r)).isSome then 0 else 2)]) ∧ W.grownBy w' none :=
  get_any base b lb g r root k h.ok (by have := h.cnt; omega) h.good h.all h.laid W hW.tree hW.log
/-- A change of the tree turns nothing of what was there ahead of it. -/
theorem TT.grown {w W W' : World} {lb b : Nat} (hg : w.grownBy W none) (h : TT w.heap.size lb b W W') (hb : w.heap.size ≤ b) : w.grownBy W' none :=
  ⟨h.os.trans hg.os, h.tape.trans hg.tape, h.output.trans hg.output, Nat.le_trans hg.size h.size, fun i hi hn => (h.keep i (Nat.lt_of_lt_of_le hi hg.size) (by omega) (Or.inl hi)).trans (hg.block i hi hn)⟩
set_option maxRecDepth 100000 in
theorem root_any (b lb : Nat) (root : Int) (w : World) (hT : IsTree w b lb root) : Calls Tryz.prog 11 #[.pointer (some ⟨b, 0, none⟩)] w fun e w' => e = .returned (.int .i64 root) ∧ w.grownBy w' none := by
  have C26 := hid (none_tree b lb root w hT)
  have c1 := Blk.cell hT 1
  simp at c1
  clear hT
  go_enter Tryz.func11, Tryz.ntmps11
  go_wp2_with (first
    | (go_at_call 26; refine C26.out.mono ?_; rintro e w1 ⟨rfl, hw⟩; replace hw := hw.symm; subst hw))
  go_ret
  exact ⟨rfl, grown_refl _ _⟩
theorem look_one (k v : ByteArray) : Bt.look kl k (Bt.flatR (Bt.putR kl k v none)) = some v := by
  rw [(Bt.putR_good ordK k v none trivial).2]
  show Bt.look kl k [(k, v)] = some v
  unfold Bt.look
  rw [ordK.irr]
  rfl
theorem keyA : KeyOk ⟨#[97]⟩ := ⟨by decide, by rw [ByteArray.toList_eq]; decide⟩
theorem val1 : ValOk ⟨#[49]⟩ := by show ByteArray.size _ ≤ 8192; decide
set_option maxRecDepth 100000 in
set_option maxHeartbeats 1000000 in
theorem awake_any (w : World) : Calls Tryz.prog 8 #[] w fun e w' => e = .returned (.bool true) ∧ w.grownBy w' none := by
  have C7 := hid (fresh_any w)
  go_enter Tryz.func8, Tryz.ntmps8
  go_wp2_with (first
    | (go_at_call 7; refine C7.out.mono ?_; rintro e w1 ⟨b, lb, d, rfl, hb, t1, l1, g1⟩; have M1 : Hid (StM w.heap.size b lb (newL d) (-1) w1) := ⟨t1, l1⟩; have G1 := hid g1; have HB := hid hb; obtain ⟨g2, a2, sg, _, hc⟩ := StG.put (st_new d) (by decide) w.heap.size b lb ⟨#[97]⟩ ⟨#[49]⟩ keyA val1; have SG := hid sg; have C13 := hid hc; clear t1 l1 g1 hb sg hc C7)
    | (go_at_call 13; refine (C13.out w1 M1.out).mono ?_; rintro e w2 ⟨rfl, m2, tt⟩; have M2 := hid m2; have G2 := hid (TT.grown G1.out tt HB.out); have C21 : Hid (Calls Tryz.prog 21 #[.pointer (some ⟨b, 0, none⟩), .string ⟨#[97]⟩] w2 fun e w' => e = .returned (.tuple #[.string ⟨#[49]⟩, .int .i64 0]) ∧ w2.grownBy w' none) := (by have := StG.get SG.out (by decide) w.heap.size b lb ⟨#[97]⟩ w2 M2.out; rw [look_one] at this; exact this); clear m2 tt)
    | (go_at_call 21; refine C21.out.mono ?_; rintro e w3 ⟨rfl, g3⟩; have G3 := hid (grown_none G2.out g3); clear g3))
  go_ret
  exact ⟨rfl, G3.out⟩
end Go.Proofs.YtbhmmcelndmijaaGreat
