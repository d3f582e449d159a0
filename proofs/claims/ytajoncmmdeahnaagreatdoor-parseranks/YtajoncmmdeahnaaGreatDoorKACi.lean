/-
  Rows of nodes that are written in place, and rows that grow. The checker's smallest questions: bytes, kept words, names, kinds. Trees whose rows lie in blocks of their own: block by block, from lo on and below hi. Clone: a tree of its own. Clone: the rows of a copy are blocks of their own, each unlike all others.
-/
import Derived.Test.YtajoncmmdeahnaaGreatDoorKNd
import Derived.Test.YtajoncmmdeahnaaGreatDoorProg
import Derived.KernelRfl
import Derived.OwnWalk
import Derived.Laws.AppendOwnNone
import Derived.Test.YtajoncmmdeahnaaGreatDoorKLNm
namespace Go.Proofs.YtajoncmmdeahnaaGreatDoor
open Go.RowKit
theorem hid {p : Prop} (h : p) : Hid p := h
mutual
theorem Nd.indA {M : Nd → Prop} (h : ∀ k t s n ks, (∀ y ∈ ks, M y) → M (.mk k t s n ks)) : ∀ x : Nd, M x
  | .mk k t s n ks => h k t s n ks (Nd.indL h ks)
theorem Nd.indL {M : Nd → Prop} (h : ∀ k t s n ks, (∀ y ∈ ks, M y) → M (.mk k t s n ks)) : ∀ l : List Nd, ∀ y ∈ l, M y
  | [], _, hy => by cases hy
  | x :: r, y, hy => by
    have h1 := Nd.indA h x
    have h2 := Nd.indL h r
    rcases List.mem_cons.1 hy with e | hy
    · rw [e]; exact h1
    · exact h2 y hy
end
def put5 (cs : Array Value) (o : Nat) (a b c d e : Value) : Array Value := ((((cs.setIfInBounds o a).setIfInBounds (o + 1) b).setIfInBounds (o + 2) c).setIfInBounds (o + 3) d).setIfInBounds (o + 4) e
theorem put5_size (cs : Array Value) (o : Nat) (a b c d e : Value) : (put5 cs o a b c d e).size = cs.size := by simp [put5]
theorem put5_other (cs : Array Value) (o : Nat) (a b c d e : Value) (j : Nat) (h : j < o) : (put5 cs o a b c d e)[j]? = cs[j]? := by
  unfold put5
  rw [Array.getElem?_setIfInBounds_ne (by omega), Array.getElem?_setIfInBounds_ne (by omega), Array.getElem?_setIfInBounds_ne (by omega), Array.getElem?_setIfInBounds_ne (by omega), Array.getElem?_setIfInBounds_ne (by omega)]
theorem put5_0 (cs : Array Value) (o : Nat) (a b c d e : Value) (h : o + 4 < cs.size) : (put5 cs o a b c d e)[o]? = some a := by
  unfold put5
  rw [Array.getElem?_setIfInBounds_ne (by omega), Array.getElem?_setIfInBounds_ne (by omega), Array.getElem?_setIfInBounds_ne (by omega), Array.getElem?_setIfInBounds_ne (by omega), Array.getElem?_setIfInBounds_self_of_lt (by omega)]
theorem put5_1 (cs : Array Value) (o : Nat) (a b c d e : Value) (h : o + 4 < cs.size) : (put5 cs o a b c d e)[o + 1]? = some b := by
  unfold put5
  rw [Array.getElem?_setIfInBounds_ne (by omega), Array.getElem?_setIfInBounds_ne (by omega), Array.getElem?_setIfInBounds_ne (by omega), Array.getElem?_setIfInBounds_self_of_lt (by simp; omega)]
theorem put5_2 (cs : Array Value) (o : Nat) (a b c d e : Value) (h : o + 4 < cs.size) : (put5 cs o a b c d e)[o + 2]? = some c := by
  unfold put5
  rw [Array.getElem?_setIfInBounds_ne (by omega), Array.getElem?_setIfInBounds_ne (by omega), Array.getElem?_setIfInBounds_self_of_lt (by simp; omega)]
theorem put5_3 (cs : Array Value) (o : Nat) (a b c d e : Value) (h : o + 4 < cs.size) : (put5 cs o a b c d e)[o + 3]? = some d := by
  unfold put5
  rw [Array.getElem?_setIfInBounds_ne (by omega), Array.getElem?_setIfInBounds_self_of_lt (by simp; omega)]
theorem put5_4 (cs : Array Value) (o : Nat) (a b c d e : Value) (h : o + 4 < cs.size) : (put5 cs o a b c d e)[o + 4]? = some e := by
  unfold put5
  rw [Array.getElem?_setIfInBounds_self_of_lt (by simp; omega)]
def set5 (w : World) (g o : Nat) (a b c d e : Value) : World := ((((w.setCell ⟨g, o, none⟩ a).setCell ⟨g, o + 1, none⟩ b).setCell ⟨g, o + 2, none⟩ c).setCell ⟨g, o + 3, none⟩ d).setCell ⟨g, o + 4, none⟩ e
theorem Blk.set5 {w : World} {g : Nat} {t : TypeId} {cs : Array Value} (h : Blk w g t cs) (o : Nat) (a b c d e : Value) : Blk (set5 w g o a b c d e) g t (put5 cs o a b c d e) :=
  ((((h.set o a).set (o + 1) b).set (o + 2) c).set (o + 3) d).set (o + 4) e
theorem grown_set5 {w w' : World} {g : Nat} (h : w.grownBy w' (some g)) (o : Nat) (a b c d e : Value) : w.grownBy (set5 w' g o a b c d e) (some g) :=
  grown_set (grown_set (grown_set (grown_set (grown_set h o a) (o + 1) b) (o + 2) c) (o + 3) d) (o + 4) e
theorem grown_set5_new {w w' : World} {g : Nat} {row : Option Nat} (h : w.grownBy w' row) (o : Nat) (a b c d e : Value) (hg : w.heap.size ≤ g) : w.grownBy (set5 w' g o a b c d e) row :=
  grown_set_new (grown_set_new (grown_set_new (grown_set_new (grown_set_new h _ hg) _ hg) _ hg) _ hg) _ hg
theorem row_put {w : World} {g k : Nat} {t : TypeId} {cs : Array Value} {l : List Nd} {q : Value} (hk : k < l.length) (hB : Blk w g t cs) (hs : cs.size = 5 * l.length) (hr : RowN w (fun b => g + 1 ≤ b) g 0 (l.take k)) (hx : KsV w (fun b => g + 1 ≤ b) q (l[k]).kids) :
    RowN (set5 w g (k * 5) (.int .i64 (l[k]).kind) (.int .i64 (l[k]).ty) (.string (l[k]).txt) (.int .i64 (l[k]).num) q) (fun b => g + 1 ≤ b) g 0 (l.take (k + 1)) := by
  have hB' := hB.set5 (k * 5) (.int .i64 (l[k]).kind) (.int .i64 (l[k]).ty) (.string (l[k]).txt) (.int .i64 (l[k]).num) q
  have hG := grown_set5 (grown_refl w (some g)) (k * 5) (.int .i64 (l[k]).kind) (.int .i64 (l[k]).ty) (.string (l[k]).txt) (.int .i64 (l[k]).num) q
  generalize set5 w g (k * 5) (.int .i64 (l[k]).kind) (.int .i64 (l[k]).ty) (.string (l[k]).txt) (.int .i64 (l[k]).num) q = w' at *
  have hK : Kp w w' (fun b => g + 1 ≤ b) := Kp.of_grown hG (fun b hb e => by have := Option.some.inj e; omega)
  refine RowN.of (fun i hi => ?_)
  rw [List.length_take] at hi
  rw [List.getElem_take, Nat.zero_add]
  by_cases he : i = k
  · subst he
    have hz : i * 5 + 4 < cs.size := by omega
    have e := Nat.mul_comm 5 i
    rw [e]
    exact NdAt.mk (by rw [hB'.cell, put5_0 _ _ _ _ _ _ _ hz]) (by rw [hB'.cell, put5_1 _ _ _ _ _ _ _ hz]) (by rw [hB'.cell, put5_2 _ _ _ _ _ _ _ hz]) (by rw [hB'.cell, put5_3 _ _ _ _ _ _ _ hz]) (by rw [hB'.cell, put5_4 _ _ _ _ _ _ _ hz]) (hx.keptP hK (fun _ h _ => h))
  · have hlt : i < k := by omega
    have h0 := hr.at i (by rw [List.length_take]; omega)
    rw [List.getElem_take, Nat.zero_add] at h0
    obtain ⟨q', c0, c1, c2, c3, c4, c5⟩ := h0.cells
    have same : ∀ j, j < k * 5 → w'.cell? ⟨g, j, none⟩ = w.cell? ⟨g, j, none⟩ := fun j hj => by rw [hB'.cell, hB.cell, put5_other _ _ _ _ _ _ _ _ hj]
    exact NdAt.mk (by rw [same _ (by omega), c0]) (by rw [same _ (by omega), c1]) (by rw [same _ (by omega), c2]) (by rw [same _ (by omega), c3]) (by rw [same _ (by omega), c4]) (c5.keptP hK (fun _ h _ => h))
theorem info27 : (Tryz.prog.info? 27).map (fun i => (i.zero, i.size, i.bytes)) = some (some (.agg #[.int .i64 0, .int .i64 0, .string ⟨#[]⟩, .int .i64 0, .slice none 0 0]), 5, 64) := by kernel_rfl
def zeroN (n : Nat) : Array Value := madeCells (Value.agg #[.int .i64 0, .int .i64 0, .string ⟨#[]⟩, .int .i64 0, .slice none 0 0]).cells (n * 5)
theorem zeroN_size (n : Nat) : (zeroN n).size = 5 * n := by unfold zeroN; rw [size_madeCells, Nat.mul_comm]
theorem make_nodes (k : Nat) (w : World) (hk : k ≤ 10000) : (Instr.makeSlice 25 (.int .i64 k) (.int .i64 k)).run Tryz.prog w = .ok (.slice (some ⟨w.heap.size, 0, none⟩) k k) (w.alloc (.cells (zeroN k) 27)) := by
  obtain ⟨i5, hi, hz0, hz1, hz2⟩ := info_parts info27
  have h := run_make (P := Tryz.prog) w 25 27 i5 _ Tryz.underlying25 hi hz0 .i64 .i64 k k (by omega) (Int.le_refl _) (by rw [hz2]; omega) (by omega)
  rw [hz1, Int.toNat_natCast] at h
  exact h
theorem at_or {cs : Array Value} {j : Nat} (h : j < cs.size) : ∃ u, cs[j]? = some u := ⟨_, Array.getElem?_eq_getElem h⟩
end Go.Proofs.YtajoncmmdeahnaaGreatDoor
namespace Go.Proofs.YtajoncmmdeahnaaGreatDoor
open Go.RowKit
namespace Ck
end Ck
end Go.Proofs.YtajoncmmdeahnaaGreatDoor
namespace Go.Proofs.YtajoncmmdeahnaaGreatDoor
open Go.RowKit
end Go.Proofs.YtajoncmmdeahnaaGreatDoor
namespace Go.Proofs.YtajoncmmdeahnaaGreatDoor
open Go.RowKit
def KsO (w : World) (base : Nat) (q : Value) (ks : List Nd) : Prop := KsV w (fun b => base ≤ b) q ks ∧ ∀ g, q.ownBlock = some g → ∃ cs, Blk w g 27 cs ∧ cs.size = 5 * ks.length ∧ RowN w (fun b => g + 1 ≤ b) g 0 ks
def CloneP (w : World) (x : Nd) (e : Ending) (w' : World) : Prop := ∃ q, e = .returned (.agg #[.int .i64 x.kind, .int .i64 x.ty, .string x.txt, .int .i64 x.num, q]) ∧ KsO w' w.heap.size q x.kids ∧ w.grownBy w' none
def CloI (w : World) (k t : Int) (s : ByteArray) (n : Int) (q : Value) (ks : List Nd) (i : Nat) (wr : World) : Prop :=
  w.grownBy wr none ∧ Blk wr w.heap.size 27 #[.int .i64 k, .int .i64 t, .string s, .int .i64 n, q] ∧ Blk wr (w.heap.size + 1) 27 #[.int .i64 0, .int .i64 0, .string ⟨#[]⟩, .int .i64 0, .slice none 0 0]
    ∧ ∃ cs, Blk wr (w.heap.size + 2) 27 cs ∧ cs.size = 5 * ks.length ∧ RowN wr (fun b => w.heap.size + 2 + 1 ≤ b) (w.heap.size + 2) 0 (ks.take i)
set_option maxRecDepth 100000 in
theorem clone_nil (k t : Int) (s : ByteArray) (n : Int) (w : World) : Calls Tryz.prog 23 #[.agg #[.int .i64 k, .int .i64 t, .string s, .int .i64 n, .slice none 0 0]] w (CloneP w (.mk k t s n [])) := by
  go_enter Tryz.func23, Tryz.ntmps23
  go_wp2
  go_loopw [15] (fun i wr => i = .int .i64 0 ∧ wr = (w.alloc (.cells #[.int .i64 k, .int .i64 t, .string s, .int .i64 n, .slice none 0 0] 27)).alloc (.cells #[.int .i64 0, .int .i64 0, .string ⟨#[]⟩, .int .i64 0, .slice none 0 0] 27)) (fun _ _ => 0)
  case atStart => exact ⟨rfl, rfl⟩
  case round =>
    obtain ⟨rfl, rfl⟩ := hrel
    go_wp2
    refine bodyPost_ret (v := .agg #[.int .i64 k, .int .i64 t, .string s, .int .i64 n, .slice none 0 0]) (by simp [results, Tryz.results23, go_sem]) rfl ⟨.slice none 0 0, rfl, ⟨KsV.nil _ _, fun g h => by cases h⟩, ?_⟩
    repeat (first | exact grown_refl _ _ | refine grown_set_new ?_ _ (by simp) | refine grown_alloc ?_ _)
set_option maxRecDepth 100000 in
set_option maxHeartbeats 1000000 in
theorem clone_some (k t : Int) (s : ByteArray) (n : Int) (g0 cap : Nat) (ks : List Nd) (P : Nat → Prop) (w : World) (hn : ks.length ≤ 255) (h0 : 0 < ks.length) (hks : KsV w P (.slice (some ⟨g0, 0, none⟩) ks.length cap) ks)
    (ih : ∀ y ∈ ks, ∀ (v : Value) (W : World), NdV W P v y → Calls Tryz.prog 23 #[v] W (CloneP W y)) : Calls Tryz.prog 23 #[.agg #[.int .i64 k, .int .i64 t, .string s, .int .i64 n, .slice (some ⟨g0, 0, none⟩) ks.length cap]] w (CloneP w (.mk k t s n ks)) := by
  have IH : Hid (∀ y ∈ ks, ∀ (v : Value) (W : World), NdV W P v y → Calls Tryz.prog 23 #[v] W (CloneP W y)) := ih
  have HK : Hid (KsV w P (.slice (some ⟨g0, 0, none⟩) ks.length cap) ks) := hks
  clear ih hks
  obtain ⟨L, hL⟩ : ∃ L, ks.length = L := ⟨_, rfl⟩
  have HL : Hid (ks.length = L) := hL
  rw [hL] at hn h0
  have HK' : Hid (KsV w P (.slice (some ⟨g0, 0, none⟩) L cap) ks) := by rw [← hL]; exact HK.out
  rw [hL]
  clear HK hL
  have i0 : (0 : Int) < L := by omega
  have i1 : (L : Int) ≤ 255 := by omega
  have MK : ∀ W, (Instr.makeSlice 25 (.int .i64 L) (.int .i64 L)).run Tryz.prog W = .ok (.slice (some ⟨W.heap.size, 0, none⟩) L L) (W.alloc (.cells (zeroN L) 27)) := fun W => make_nodes L W (by omega)
  go_enter Tryz.func23, Tryz.ntmps23
  go_wp2
  go_loopw [15] (fun i wr => ∃ j : Nat, j ≤ L ∧ i = .int .i64 j ∧ CloI w k t s n (.slice (some ⟨g0, 0, none⟩) L cap) ks j wr) (fun i _ => L - (intOf i).toNat)
  case atStart =>
    refine ⟨0, Nat.zero_le _, rfl, grown_alloc (grown_alloc (grown_alloc (grown_refl w none) _) _) _, ((Blk.new w 27 _).alloc _).alloc _, ?_, zeroN L, ?_, ?_, ?_⟩
    · have := (Blk.new (w.alloc (.cells #[.int .i64 k, .int .i64 t, .string s, .int .i64 n, .slice (some ⟨g0, 0, none⟩) L cap] 27)) 27 #[.int .i64 0, .int .i64 0, .string ⟨#[]⟩, .int .i64 0, .slice none 0 0]).alloc (.cells (zeroN L) 27)
      rw [World.size_alloc] at this
      exact this
    · have := Blk.new ((w.alloc (.cells #[.int .i64 k, .int .i64 t, .string s, .int .i64 n, .slice (some ⟨g0, 0, none⟩) L cap] 27)).alloc (.cells #[.int .i64 0, .int .i64 0, .string ⟨#[]⟩, .int .i64 0, .slice none 0 0] 27)) 27 (zeroN L)
      rw [World.size_alloc, World.size_alloc] at this
      exact this
    · rw [zeroN_size, HL.out]
    · rw [List.take_zero, RowN]; trivial
  case round =>
    obtain ⟨j, hj, rfl, hI⟩ := hrel
    have j0 : (0 : Int) ≤ j := by omega
    obtain ⟨hg, hB0, hB1, cs, hB2, hcs, hrow⟩ := hI
    have G := hid hg
    have B0 := hid hB0
    have B1 := hid hB1
    have B2 := hid hB2
    have RW := hid hrow
    have x4 : wr.cell? ⟨w.heap.size, 4, none⟩ = some (.slice (some ⟨g0, 0, none⟩) L cap) := by rw [hB0.cell]; rfl
    by_cases hlt : j < L
    · have j1 : (j : Int) < L := by omega
      have hjk : j < ks.length := by rw [HL.out]; exact hlt
      obtain ⟨g', hg', _, hat⟩ := (HK'.out.kept hg).at j hjk
      injection hg' with hg'
      injection hg' with hg'
      subst hg'
      obtain ⟨q, c0, c1, c2, c3, c4, hkq⟩ := hat.cells
      rw [Nat.mul_comm 5 j] at c0 c1 c2 c3 c4
      have CC : Hid (Calls Tryz.prog 23 #[.agg #[.int .i64 (ks[j]).kind, .int .i64 (ks[j]).ty, .string (ks[j]).txt, .int .i64 (ks[j]).num, q]] wr (CloneP wr (ks[j]))) := IH.out _ (List.getElem_mem hjk) _ wr ⟨q, rfl, hkq⟩
      obtain ⟨p', cap', hq, _⟩ := hkq.form
      subst hq
      have hz : j * 5 + 4 < cs.size := by rw [hcs, HL.out]; omega
      have HC := hid hcs
      have hw2 : w.heap.size + 2 < wr.heap.size := hB2.lt
      clear hg hB0 hB1 hB2 hrow hkq hat hcs IH HK'
      go_wp2_with (go_at_call 23; refine CC.out.mono ?_; rintro e w2 ⟨q2, rfl, ⟨hk2, _⟩, hg2⟩; obtain ⟨p2, cap2, e2, _⟩ := hk2.form; subst e2; have K2 := hid hk2; have G2 := hid hg2; have b0 := hid (B0.out.kept hg2 (by simp)); have b1 := hid (B1.out.kept hg2 (by simp)); have b2 := hid (B2.out.kept hg2 (by simp)); obtain ⟨u0, y0⟩ := at_or (cs := cs) (j := j * 5) (by omega); obtain ⟨u1, y1⟩ := at_or (cs := cs) (j := j * 5 + 1) (by omega); obtain ⟨u2, y2⟩ := at_or (cs := cs) (j := j * 5 + 2) (by omega); obtain ⟨u3, y3⟩ := at_or (cs := cs) (j := j * 5 + 3) (by omega); obtain ⟨u4, y4⟩ := at_or (cs := cs) (j := j * 5 + 4) (by omega); rw [← b2.out.cell] at y0 y1 y2 y3 y4; have f0 := b2.out.frozen (j * 5); have f1 := b2.out.frozen (j * 5 + 1); have f2 := b2.out.frozen (j * 5 + 2); have f3 := b2.out.frozen (j * 5 + 3); have f4 := b2.out.frozen (j * 5 + 4); clear hk2 hg2 CC)
      go_roundw
      case rel =>
        have gs := grown_set5 (grown_refl w2 (some (w.heap.size + 2))) (j * 5) (.int .i64 (ks[j]).kind) (.int .i64 (ks[j]).ty) (.string (ks[j]).txt) (.int .i64 (ks[j]).num) (.slice p2 (ks[j]).kids.length cap2)
        have r2 := RowN.keptP (Kp.of_none _ G2.out) (fun _ h _ => h) (G2.out.block (w.heap.size + 2) hw2 (by simp)) RW.out
        have r3 := row_put hjk b2.out HC.out r2 (K2.out.mono (fun b hb _ => by omega))
        exact ⟨j + 1, by omega, by go_num, grown_set5_new (grown_none G.out G2.out) _ _ _ _ _ _ (by omega), b0.out.kept gs (by simp), b1.out.kept gs (by simp), _, b2.out.set5 _ _ _ _ _ _, by rw [put5_size]; exact HC.out, r3⟩
      case measure => simp [intOf]; omega
    · have hjL : j = L := by omega
      subst hjL
      have j1 : ¬ (j : Int) < j := by omega
      have x0 : wr.cell? ⟨w.heap.size, 0, none⟩ = some (.int .i64 k) := by rw [hB0.cell]; rfl
      have x1 : wr.cell? ⟨w.heap.size, 1, none⟩ = some (.int .i64 t) := by rw [hB0.cell]; rfl
      have x2 : wr.cell? ⟨w.heap.size, 2, none⟩ = some (.string s) := by rw [hB0.cell]; rfl
      have x3 : wr.cell? ⟨w.heap.size, 3, none⟩ = some (.int .i64 n) := by rw [hB0.cell]; rfl
      have fx := hB0.frozen 4
      have z0 : wr.cell? ⟨w.heap.size + 1, 0, none⟩ = some (.int .i64 0) := by rw [hB1.cell]; rfl
      have z1 : wr.cell? ⟨w.heap.size + 1, 1, none⟩ = some (.int .i64 0) := by rw [hB1.cell]; rfl
      have z2 : wr.cell? ⟨w.heap.size + 1, 2, none⟩ = some (.string ⟨#[]⟩) := by rw [hB1.cell]; rfl
      have z3 : wr.cell? ⟨w.heap.size + 1, 3, none⟩ = some (.int .i64 0) := by rw [hB1.cell]; rfl
      have z4 : wr.cell? ⟨w.heap.size + 1, 4, none⟩ = some (.slice none 0 0) := by rw [hB1.cell]; rfl
      have f0 := hB1.frozen 0
      have f1 := hB1.frozen 1
      have f2 := hB1.frozen 2
      have f3 := hB1.frozen 3
      have f4 := hB1.frozen 4
      have hw2 : w.heap.size + 2 < wr.heap.size := hB2.lt
      have HC9 := hid hcs
      clear hg hB0 hB1 hB2 hrow hcs IH HK'
      go_wp2
      obtain ⟨wA, eA⟩ : ∃ wA, wr.setCell ⟨w.heap.size, 4, none⟩ (.slice (some ⟨w.heap.size + 2, 0, none⟩) j j) = wA := ⟨_, rfl⟩
      have gA : wr.grownBy wA (some w.heap.size) := by rw [← eA]; exact grown_set (grown_refl wr _) 4 _
      have gF : wA.grownBy (set5 wA (w.heap.size + 1) 0 (.int .i64 k) (.int .i64 t) (.string s) (.int .i64 n) (.slice (some ⟨w.heap.size + 2, 0, none⟩) j j)) (some (w.heap.size + 1)) := grown_set5 (grown_refl wA _) 0 _ _ _ _ _
      have kp : ∀ b, w.heap.size + 2 ≤ b → b < wr.heap.size → (set5 wA (w.heap.size + 1) 0 (.int .i64 k) (.int .i64 t) (.string s) (.int .i64 n) (.slice (some ⟨w.heap.size + 2, 0, none⟩) j j)).heap[b]? = wr.heap[b]? := fun b h1 h2 =>
        (gF.block b (Nat.lt_of_lt_of_le h2 gA.size) (fun e => by have := Option.some.inj e; omega)).trans (gA.block b h2 (fun e => by have := Option.some.inj e; omega))
      have rF := RowN.keptP (w := wr) (w' := set5 wA (w.heap.size + 1) 0 (.int .i64 k) (.int .i64 t) (.string s) (.int .i64 n) (.slice (some ⟨w.heap.size + 2, 0, none⟩) j j)) (Q := fun b => w.heap.size ≤ b) (fun b hb hl => kp b (by omega) hl) (fun b hb _ => by omega) (kp _ (Nat.le_refl _) hw2) RW.out
      have bF : Blk (set5 wA (w.heap.size + 1) 0 (.int .i64 k) (.int .i64 t) (.string s) (.int .i64 n) (.slice (some ⟨w.heap.size + 2, 0, none⟩) j j)) (w.heap.size + 2) 27 cs := (kp _ (Nat.le_refl _) hw2).trans B2.out
      have gW : w.grownBy (set5 wA (w.heap.size + 1) 0 (.int .i64 k) (.int .i64 t) (.string s) (.int .i64 n) (.slice (some ⟨w.heap.size + 2, 0, none⟩) j j)) none := grown_set5_new (grown_through G.out gA (Nat.le_refl _)) _ _ _ _ _ _ (by omega)
      have rG := RowN.keptP (w := wr) (w' := set5 wA (w.heap.size + 1) 0 (.int .i64 k) (.int .i64 t) (.string s) (.int .i64 n) (.slice (some ⟨w.heap.size + 2, 0, none⟩) j j)) (Q := fun b => w.heap.size + 2 + 1 ≤ b) (fun b hb hl => kp b (by omega) hl) (fun b hb _ => hb) (kp _ (Nat.le_refl _) hw2) RW.out
      rw [List.take_of_length_le (by rw [HL.out]; exact Nat.le_refl _)] at rF rG
      refine bodyPost_ret (v := .agg #[.int .i64 k, .int .i64 t, .string s, .int .i64 n, .slice (some ⟨w.heap.size + 2, 0, none⟩) j j]) (by simp [results, Tryz.results23, go_sem, z0, z1, z2, z3, z4]) rfl ?_
      subst eA
      refine ⟨_, rfl, ⟨⟨w.heap.size + 2, Or.inr ⟨?_, by omega, j, ?_, ?_, ?_⟩, rF⟩, fun g hg => ?_⟩, gW⟩
      · show 0 < ks.length
        rw [HL.out]; exact h0
      · show _ = Value.slice _ ks.length _
        rw [HL.out]
      · show ks.length ≤ j
        rw [HL.out]; exact Nat.le_refl _
      · unfold maxLen; omega
      · obtain rfl : w.heap.size + 2 = g := Option.some.inj hg
        exact ⟨cs, bF, HC9.out, rG⟩
theorem cloneT_any (P : Nat → Prop) : ∀ (x : Nd), x.ok → ∀ (v : Value) (w : World), NdV w P v x → Calls Tryz.prog 23 #[v] w (CloneP w x) := by
  refine Nd.indA ?_
  intro k t s n ks ih hok v w ⟨q, hv, hk⟩
  subst hv
  have hk' := hk
  obtain ⟨g, (⟨rfl, h2⟩ | ⟨hn, hp, cap, rfl, h2, h3⟩), h4⟩ := hk
  · obtain rfl : ks = [] := List.length_eq_zero_iff.1 h2
    exact clone_nil k t s n w
  · exact clone_some k t s n g cap ks P w hok.2.1 hn hk' (fun y hy v W hv => ih y hy (Nd.oks_mem hok.2.2 y hy) v W hv)
end Go.Proofs.YtajoncmmdeahnaaGreatDoor
namespace Go.Proofs.YtajoncmmdeahnaaGreatDoor
open Go.RowKit
end Go.Proofs.YtajoncmmdeahnaaGreatDoor
